/-
  The walk of VectorMirror where the lists are too long or have not as many numbers: it hands back true and only lays new memory.
-/
import Derived.Test.YtgpjlobclcbniabWVMirror
namespace Go.Proofs.Ytgpjlobclcbniab
open Fl RowKit

section errs
variable {na nb : Nat} {E : Int} (ao bo : Option Addr) (ca cb : Nat) (w : World) (ha : na ≤ 1000000000000000) (hb : nb ≤ 1000000000000000) (he : ¬ E = 0) (hE : E = errV na nb)
include ha hb he hE
end errs

end Go.Proofs.Ytgpjlobclcbniab
