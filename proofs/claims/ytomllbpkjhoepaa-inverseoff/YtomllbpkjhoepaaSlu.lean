/-
  Conjugates of long lists.
-/
import Derived.Test.YtomllbpkjhoepaaLkc
import Derived.Test.YtomllbpkjhoepaaLkb
namespace Go.Proofs.Ytomllbpkjhoepaa
open Fl RowKit

set_option maxHeartbeats 4000000 in
theorem conjN_big (ao : Option Addr) (cap n : Nat) (f : Nat → Cw) (w : World) (hsz : n * 16 ≤ 140737488355328) (hc : Rc w ao (ro n f)) (hx : ∀ k, k < n → okz (f k)) :
    Calls Try.prog 48 #[.slice ao n cap] w fun e w' => ∃ A c, e = .returned (.slice A n c) ∧ Rw w' w.heap.size (.slice A n c) n (ro n (fun k => cjw (f k))) ∧ Below w.heap.size w w' := by
  obtain ⟨i0, hi, hz0, hz1, hz2⟩ := info_parts Try.infoC
  have HC := hid_o hc
  have HX := hid_o hx
  clear hc hx
  go_enter Try.func48, Try.ntmps48
  go_wp2
  go_loopw [3, 4] (fun v i wr => ∃ (k c : Nat) (A : Option Addr), k ≤ n ∧ i = .int .i64 k ∧ v = .slice A k c ∧ wr.ownsRow w.heap.size 43 1 (.slice A k c) k ((ro k (fun k => cjw (f k))).map cx) ∧ Below w.heap.size w wr) (fun _ i _ => n - (intOf i).toNat)
  case atStart => exact ⟨0, 0, none, Nat.zero_le _, rfl, rfl, World.ownsRow_nil _ _ _ _, Below.refl _ _⟩
  case round =>
    obtain ⟨k, c, A, hk, rfl, rfl, hown, hbel⟩ := hrel
    have hS := hbel.size
    by_cases hlt : k < n
    · obtain ⟨b, off, rfl, hb, hcx0⟩ := HC.out k (by rw [ro_len]; exact hlt)
      rw [ro_at _ hlt] at hcx0
      have ho := HX.out k hlt
      have HE : Hid (cjw (f k) = ((f k).1, ngW (f k).2)) := rfl
      obtain ⟨x, hxe⟩ : ∃ x, x = f k := ⟨_, rfl⟩
      rw [← hxe] at hcx0 ho HE
      have HXE := hid_o hxe
      unfold cx at hcx0
      have hcx := (hbel.cell (p := ⟨b, off + k, none⟩) hb).trans hcx0
      have C1 := hid_o hcx0
      have HB := hid_o hbel
      have ho2 := ho.2
      clear hxe hcx0 hbel ho
      go_wp2
      go_region_held_law (fun W => W.cell? ⟨b, off + k, none⟩ = some (.complex .f64 x.1 x.2)) (first | (with_reducible exact hcx) | (with_reducible exact (R2.cell (p := ⟨b, off + k, none⟩) hb).trans C1.out) | go_keep)
        (first | (refine step_append_lies _ (by rfl) _ _ 25 (by rfl) w.heap.size 43 i0 (.complex .f64 0 0) 1 16 Try.underlying25 hi hz0 hz1 hz2 (by rfl) (by decide) _ _ _ (by rfl) ((ownsRow_drewN hown _).alloc _) ⟨_, 0, none⟩ 1 1 [.complex .f64 x.1 (Op.negFloat .f64 x.2)] (by rfl) (by rfl) (fun j u hj => by match j, hj with | 0, hj => (simp at hj; subst hj; simp [Addr.add])) (fun u hu => by simp at hu; subst hu; rfl) (by decide) (by unfold maxLen; omega) (by omega) (by simp; omega) (wr.heap.size + 1) (by simp) ?_; intro g cap w1 hown1 hgrow hat hlt1; have R2 : Below w.heap.size w w1 := ((below_drewN HB.out _).alloc (by simpa using hS) _).grown hgrow (by simp; omega) (fun j hj => own_ge hown hj)))
      all_goals
        have R : w1.ownsRow w.heap.size 43 1 (.slice (some ⟨g, 0, none⟩) (k + 1) cap) (k + 1) ((ro (k + 1) (fun k => cjw (f k))).map cx) := by
          rw [ro_snoc]
          refine push_own ?_
          rw [← HXE.out, HE.out, ← neg_ngW ho2]
          exact hown1
        clear hown1 hgrow hat hown
        go_wp2_with fail
        exact ⟨⟨k + 1, _, _, by omega, by go_num, rfl, R, R2⟩, by simp [intOf]; omega⟩
    · have e : k = n := by omega
      subst e
      clear HC HX
      go_wp2
      go_ret
      exact ⟨A, c, rfl, ⟨ro_len _ _, hown⟩, hbel⟩

end Go.Proofs.Ytomllbpkjhoepaa
