/-
  What Dot and Inner of gridworkref06 hand back.
-/
import Derived.Test.YtgpjlobclcbniaaVc
namespace Go.Proofs.Ytgpjlobclcbniaa
open Fl RowKit

def innZ (X Y : Cn) : Cn := mulZ (conZ X) Y
end Go.Proofs.Ytgpjlobclcbniaa
