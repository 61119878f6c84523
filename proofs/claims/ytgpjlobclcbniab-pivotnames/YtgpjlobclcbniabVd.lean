/-
  What Axpy of gridworkref06 hands back.
-/
import Derived.Test.YtgpjlobclcbniabVc
namespace Go.Proofs.Ytgpjlobclcbniab
open Fl RowKit

end Go.Proofs.Ytgpjlobclcbniab
