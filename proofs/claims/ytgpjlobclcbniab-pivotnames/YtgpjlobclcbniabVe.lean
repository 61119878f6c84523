/-
  What Dot and Inner of gridworkref06 hand back.
-/
import Derived.Test.YtgpjlobclcbniabVc
namespace Go.Proofs.Ytgpjlobclcbniab
open Fl RowKit

def innZ (X Y : Cn) : Cn := mulZ (conZ X) Y
end Go.Proofs.Ytgpjlobclcbniab
