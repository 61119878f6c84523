/-
  SolveScales' numbers: small whole numbers.
-/
import Derived.Test.YtklbgibhbnijaaaTxd
import Derived.Test.YtklbgibhbnijaaaTw4
namespace Go.Proofs.Ytklbgibhbnijaaa
open Fl RowKit

theorem fx_fw {p : Int} (h : p.natAbs ≤ 512) : Fx 1074 1083 (fw p) := by
  have e : sz (mg (fw p)) = p.natAbs * 2 ^ T74 := by
    have := congrArg Int.natAbs (fw_val (n := p) (by omega))
    rw [Int.natAbs_mul, Int.natAbs_natCast] at this
    unfold Fl.val at this
    rw [sgn_abs] at this
    exact this
  have hT : T74 = 1074 := rfl
  refine ⟨fw_fin (by omega), ?_, ?_, fw_lt _⟩
  · rw [e, ← hT]; exact Nat.dvd_mul_left _ _
  · rw [e, show 1083 = 9 + T74 from rfl, Nat.pow_add]
    exact Nat.mul_le_mul_right _ (by omega)
theorem FX_fw {p q : Int} (h : p.natAbs ≤ 512) (k : q.natAbs ≤ 512) : FX 1074 1083 (fw p, fw q) := ⟨fx_fw h, fx_fw k⟩

end Go.Proofs.Ytklbgibhbnijaaa
