/-
  What Conj, Scale of gridworkref06 hand back.
-/
import Derived.Test.YtgpjlobclcbniabVc
namespace Go.Proofs.Ytgpjlobclcbniab
open Fl RowKit

end Go.Proofs.Ytgpjlobclcbniab
