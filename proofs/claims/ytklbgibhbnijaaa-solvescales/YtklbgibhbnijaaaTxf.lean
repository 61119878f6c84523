/-
  SolveScales: the statements' whole numbers.
-/
import Derived.Test.YtklbgibhbnijaaaTxe
import Derived.Test.YtklbgibhbnijaaaLkb
namespace Go.Proofs.Ytklbgibhbnijaaa
open Fl RowKit

/-- a whole number out of bits -/
def whI (x : Nat) : Int := ((x % 1001 : Nat) : Int) - 500
def whZ (z : Cw) : Cw := (fw (whI z.1), fw (whI z.2))
theorem whI_bd (x : Nat) : (whI x).natAbs ≤ 512 := by unfold whI; omega
theorem whZ_fx (z : Cw) : FX 1074 1083 (whZ z) := FX_fw (whI_bd _) (whI_bd _)
set_option maxRecDepth 20000 in
set_option maxHeartbeats 4000000 in
theorem whole10_any (ao : Option Addr) (cap n : Nat) (xs : List Cw) (w : World) (hn : xs.length = n) (hsz : n * 16 ≤ 140737488355328) (hc : Rz w ao xs) :
    Calls Try.prog 25 #[.slice ao n cap] w fun e w' => ∃ A c, e = .returned (.slice A n c) ∧ Rw w' w.heap.size (.slice A n c) n (ro n (fun k => whZ (zat xs k))) ∧ Below w.heap.size w w' := by
  obtain ⟨i0, hi, hz0, hz1, hz2⟩ := info_parts Try.infoC
  have HC := hid_o hc
  clear hc
  go_enter Try.func25, Try.ntmps25
  go_wp2
  go_loopw [3, 4] (fun v i wr => ∃ (k c : Nat) (A : Option Addr), k ≤ n ∧ i = .int .i64 k ∧ v = .slice A k c ∧ wr.ownsRow w.heap.size 52 1 (.slice A k c) k ((ro k (fun k => whZ (zat xs k))).map cx) ∧ Below w.heap.size w wr) (fun _ i _ => n - (intOf i).toNat)
  case atStart => exact ⟨0, 0, none, Nat.zero_le _, rfl, rfl, World.ownsRow_nil _ _ _ _, Below.refl _ _⟩
  case round =>
    obtain ⟨k, c, A, hk, rfl, rfl, hown, hbel⟩ := hrel
    have hS := hbel.size
    by_cases hlt : k < n
    · obtain ⟨b, off, rfl, hb, hc1, hc2⟩ := HC.out.below hbel k (by omega)
      obtain ⟨x, hxe⟩ : ∃ x, x = zat xs k := ⟨_, rfl⟩
      rw [← hxe] at hc1 hc2
      have HXE := hid_o hxe
      have HB := hid_o hbel
      clear hxe hbel
      have HE : Hid (whZ x = (floatOfInt .f64 ((x.1 : Int) % 1001 - 500), floatOfInt .f64 ((x.2 : Int) % 1001 - 500))) := by
        show _ = _
        unfold whZ whI fw
        rw [Int.natCast_emod, Int.natCast_emod]; rfl
      go_wp2_with (at_builtin; refine wpList_append_lies _ (by rfl) _ _ 24 (by rfl) w.heap.size 52 i0 (.complex .f64 0 0) 1 16 Try.underlying24 hi hz0 hz1 hz2 (by rfl) (by decide) (.slice A k c) k ((ro k (fun k => whZ (zat xs k))).map cx) (by rfl) (hown.alloc _) ⟨_, 0, none⟩ 1 1 [.complex .f64 (floatOfInt .f64 ((x.1 : Int) % 1001 - 500)) (floatOfInt .f64 ((x.2 : Int) % 1001 - 500))] (by rfl) (by rfl) (fun j u hj => by match j, hj with | 0, hj => (simp at hj; subst hj; simp [Addr.add])) (fun u hu => by simp at hu; subst hu; rfl) (by decide) (by unfold maxLen; omega) (by omega) (by simp; omega) _ rfl ?_; intro g cap1 w1 hown1 hgrow hat hlt1; (have R2 : Below w.heap.size w w1 := (HB.out.alloc hS _).grown hgrow (by simp; omega) (fun j hj => own_ge hown hj)))
      have R : w1.ownsRow w.heap.size 52 1 (.slice (some ⟨g, 0, none⟩) (k + 1) cap1) (k + 1) ((ro (k + 1) (fun k => whZ (zat xs k))).map cx) := by
        rw [ro_snoc]
        refine push_own ?_
        rw [← HXE.out, HE.out]
        exact hown1
      clear hown1 hgrow hat hown
      go_roundw
      case measure => simp [intOf]; omega
      case rel => exact ⟨k + 1, _, _, by omega, by go_num, rfl, R, R2⟩
    · have e : k = n := by omega
      subst e
      clear HC
      go_wp2
      go_ret
      exact ⟨A, c, rfl, ⟨ro_len _ _, hown⟩, hbel⟩

end Go.Proofs.Ytklbgibhbnijaaa
