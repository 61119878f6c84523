/-
  The walk of VectorMirror where the lists are too long or have not as many numbers: it hands back true and only lays new memory.
-/
import Derived.Test.YtjjpgmgnejhggaaWVMirror
namespace Go.Proofs.Ytjjpgmgnejhggaa
open Fl RowKit

theorem fin_none (w : World) : Calls Try.prog 104 #[.slice none 0 0] w fun e w' => ∃ m, e = .returned (.bool true) ∧ w' = w.drewN m := kfinL_any none 0 [] w (by simp) (Rc.nil _ _)
theorem equal_none (w : World) : Calls Try.prog 101 #[.slice none 0 0, .slice none 0 0] w fun e w' => ∃ m, e = .returned (.bool true) ∧ w' = w.drewN m := kequal_len 0 none none 0 0 [] [] w (by simp) rfl rfl (Rc.nil _ _) (Rc.nil _ _) (fun j hj => by omega)
theorem same_none (w : World) : Calls Try.prog 100 #[.complex .f64 0 0, .complex .f64 0 0] w fun e w' => e = .returned (.bool true) ∧ w' = w := by
  have := ksame_any 0 0 0 0 w
  rw [smB_self] at this
  exact this
section errs
variable {na nb : Nat} {E : Int} (ao bo : Option Addr) (ca cb : Nat) (w : World) (ha : na ≤ 1000000000000000) (hb : nb ≤ 1000000000000000) (he : ¬ E = 0) (hE : E = errV na nb)
include ha hb he hE
theorem edot : Calls Try.prog 107 #[.slice ao na ca, .slice bo nb cb] w fun e w' => e = .returned (.tuple #[.complex .f64 0 0, .int .i64 E]) ∧ w' = w := by subst hE; exact vdot_err ao bo na nb ca cb w ha hb he
end errs

end Go.Proofs.Ytjjpgmgnejhggaa
