/-
  What ConjNumbers and ConjMatrix of the given package gridworkkit hand back.
-/
import Derived.Test.YtomllbpkjhoepaaLkb
namespace Go.Proofs.Ytomllbpkjhoepaa
open Fl RowKit

theorem neg_ngW {x : Nat} (h : x < 18446744073709551616) : Op.negFloat .f64 x = ngW x := by
  unfold ngW
  split
  · exact neg_of_pos ‹_›
  · exact neg_of_neg (by omega) h
/-- the other part turned -/
def cjw (z : Cw) : Cw := (z.1, ngW z.2)
set_option maxHeartbeats 4000000 in
theorem conjN_any (ao : Option Addr) (cap n : Nat) (f : Nat → Cw) (w : World) (hsz : n ≤ 4096) (hc : Rc w ao (ro n f)) (hx : ∀ k, k < n → okz (f k)) :
    Calls Try.prog 48 #[.slice ao n cap] w fun e w' => ∃ A c, e = .returned (.slice A n c) ∧ Rw w' w.heap.size (.slice A n c) n (ro n (fun k => cjw (f k))) ∧ Below w.heap.size w w' := by
  obtain ⟨i0, hi, hz0, hz1, hz2⟩ := info_parts Try.infoC
  have HC := hid_o hc
  have HX := hid_o hx
  clear hc hx
  go_enter Try.func48, Try.ntmps48
  go_wp2
  go_loopw [3, 4] (fun v i wr => ∃ (k c : Nat) (A : Option Addr), k ≤ n ∧ i = .int .i64 k ∧ v = .slice A k c ∧ wr.ownsRow w.heap.size 43 1 (.slice A k c) k ((ro k (fun k => cjw (f k))).map cx) ∧ Below w.heap.size w wr) (fun _ i _ => n - (intOf i).toNat)
  case atStart => exact ⟨0, 0, none, Nat.zero_le _, rfl, rfl, World.ownsRow_nil _ _ _ _, Below.refl _ _⟩
  case round =>
    obtain ⟨k, c, A, hk, rfl, rfl, hown, hbel⟩ := hrel
    have hS := hbel.size
    by_cases hlt : k < n
    · obtain ⟨b, off, rfl, hb, hcx0⟩ := HC.out k (by rw [ro_len]; exact hlt)
      rw [ro_at _ hlt] at hcx0
      have ho := HX.out k hlt
      have HE : Hid (cjw (f k) = ((f k).1, ngW (f k).2)) := rfl
      obtain ⟨x, hxe⟩ : ∃ x, x = f k := ⟨_, rfl⟩
      rw [← hxe] at hcx0 ho HE
      have HXE := hid_o hxe
      unfold cx at hcx0
      have hcx := (hbel.cell (p := ⟨b, off + k, none⟩) hb).trans hcx0
      have C1 := hid_o hcx0
      have HB := hid_o hbel
      have ho2 := ho.2
      clear hxe hcx0 hbel ho
      go_wp2
      go_region_held_law (fun W => W.cell? ⟨b, off + k, none⟩ = some (.complex .f64 x.1 x.2)) (first | (with_reducible exact hcx) | (with_reducible exact (R2.cell (p := ⟨b, off + k, none⟩) hb).trans C1.out) | go_keep)
        (first | (refine step_append_lies _ (by rfl) _ _ 25 (by rfl) w.heap.size 43 i0 (.complex .f64 0 0) 1 16 Try.underlying25 hi hz0 hz1 hz2 (by rfl) (by decide) _ _ _ (by rfl) ((ownsRow_drewN hown _).alloc _) ⟨_, 0, none⟩ 1 1 [.complex .f64 x.1 (Op.negFloat .f64 x.2)] (by rfl) (by rfl) (fun j u hj => by match j, hj with | 0, hj => (simp at hj; subst hj; simp [Addr.add])) (fun u hu => by simp at hu; subst hu; rfl) (by decide) (by unfold maxLen; omega) (by omega) (by simp; omega) (wr.heap.size + 1) (by simp) ?_; intro g cap w1 hown1 hgrow hat hlt1; have R2 : Below w.heap.size w w1 := ((below_drewN HB.out _).alloc (by simpa using hS) _).grown hgrow (by simp; omega) (fun j hj => own_ge hown hj)))
      all_goals
        have R : w1.ownsRow w.heap.size 43 1 (.slice (some ⟨g, 0, none⟩) (k + 1) cap) (k + 1) ((ro (k + 1) (fun k => cjw (f k))).map cx) := by
          rw [ro_snoc]
          refine push_own ?_
          rw [← HXE.out, HE.out, ← neg_ngW ho2]
          exact hown1
        clear hown1 hgrow hat hown
        go_wp2_with fail
        exact ⟨⟨k + 1, _, _, by omega, by go_num, rfl, R, R2⟩, by simp [intOf]; omega⟩
    · have e : k = n := by omega
      subst e
      clear HC HX
      go_wp2
      go_ret
      exact ⟨A, c, rfl, ⟨ro_len _ _, hown⟩, hbel⟩
set_option maxHeartbeats 1000000 in
theorem conjM_any (R C : Int) (ao : Option Addr) (cap n : Nat) (f : Nat → Cw) (w : World) (hsz : n ≤ 4096) (hc : Rc w ao (ro n f)) (hx : ∀ k, k < n → okz (f k)) :
    Calls Try.prog 23 #[.agg #[.int .i64 R, .int .i64 C, .slice ao n cap]] w fun e w' => ∃ A c, e = .returned (.agg #[.int .i64 R, .int .i64 C, .slice A n c]) ∧ Rw w' w.heap.size (.slice A n c) n (ro n (fun k => cjw (f k))) ∧ Below w.heap.size w w' := by
  have V0 : V3 w.heap.size (.int .i64 R) (.int .i64 C) (.slice ao n cap) ((w.alloc (.cells #[.int .i64 R, .int .i64 C, .slice ao n cap] 28)).alloc (.cells #[.int .i64 0, .int .i64 0, .slice none 0 0] 28)) := (v3_new w _ _ _ _).below (bal _ _)
  have V1 : V3 (w.heap.size + 1) (.int .i64 0) (.int .i64 0) (.slice none 0 0) ((w.alloc (.cells #[.int .i64 R, .int .i64 C, .slice ao n cap] 28)).alloc (.cells #[.int .i64 0, .int .i64 0, .slice none 0 0] 28)) := by
    have := v3_new (w.alloc (.cells #[.int .i64 R, .int .i64 C, .slice ao n cap] 28)) (.int .i64 0) (.int .i64 0) (.slice none 0 0) 28
    rw [size_al] at this
    exact this
  have B0 : Below w.heap.size w ((w.alloc (.cells #[.int .i64 R, .int .i64 C, .slice ao n cap] 28)).alloc (.cells #[.int .i64 0, .int .i64 0, .slice none 0 0] 28)) := ba (bal _ _) _
  have CN := hid_o (conjN_any ao cap n f _ hsz (hc.below B0) hx)
  have c2 := V0.c2
  have HV := hid_o V0
  have HV1 := hid_o V1
  have HB := hid_o B0
  clear hc hx V0 V1 B0
  go_enter Try.func23, Try.ntmps23
  go_wp2_with (go_at_call 48; (with_reducible refine CN.out.mono ?_); rintro e w1 ⟨A, c, rfl, hrw, hb⟩; (have v := HV.out.below hb); (have u := HV1.out.below hb); (have q0 := v.c0); (have q1 := v.c1); (have q2 := v.c2); (have q3 := v.f2); (have ql := v.lt); (have r0 := u.c0); (have r1 := u.c1); (have r2 := u.c2); (have r3 := u.f0); (have r4 := u.f1); (have r5 := u.f2); (have rl := u.lt); (have HV2 := hid_o v); (have HU2 := hid_o u); (have HRW := hid_o hrw); (have HB1 := hid_o (HB.out.trans (hb.mono HB.out.size))); clear v u hrw hb CN HV HV1)
  have V3a : V3 (w.heap.size + 1) (.int .i64 0) (.int .i64 0) (.slice none 0 0) (w1.setCell ⟨w.heap.size, 2, none⟩ (.slice A n c)) := HU2.out.other (q := ⟨w.heap.size, 2, none⟩) (by show w.heap.size ≠ w.heap.size + 1; omega) _
  obtain ⟨m0, m1, m2⟩ := V3a.reads
  refine bodyPost_ret (by simp [results, Try.results23, go_sem, m0, m1, m2]; try rfl) rfl ?_
  have key : ∀ g, (Value.slice A n c).ownBlock = some g → ((((w1.setCell ⟨w.heap.size, 2, none⟩ (.slice A n c)).setCell ⟨w.heap.size + 1, 0, none⟩ (.int .i64 R)).setCell ⟨w.heap.size + 1, 1, none⟩ (.int .i64 C)).setCell ⟨w.heap.size + 1, 2, none⟩ (.slice A n c)).heap[g]? = w1.heap[g]? := by
    intro g hg
    have hge := (HRW.out.own.lt g hg).1
    simp only [size_al] at hge
    rw [Below.heap_setCell _ _ _ _ (show g ≠ w.heap.size + 1 by omega), Below.heap_setCell _ _ _ _ (show g ≠ w.heap.size + 1 by omega), Below.heap_setCell _ _ _ _ (show g ≠ w.heap.size + 1 by omega), Below.heap_setCell _ _ _ _ (show g ≠ w.heap.size by omega)]
  exact ⟨A, c, rfl, ⟨ro_len _ _, own_base (own_at HRW.out.own key) (by simp only [size_al]; omega)⟩, below_set3 (HB1.out.setCell (p := ⟨w.heap.size, 2, none⟩) (Nat.le_refl _) _) (Nat.le_succ _) _ _ _⟩

end Go.Proofs.Ytomllbpkjhoepaa
