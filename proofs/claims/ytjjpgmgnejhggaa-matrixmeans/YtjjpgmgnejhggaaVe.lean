/-
  What Dot and Inner of gridworkref06 hand back.
-/
import Derived.Test.YtjjpgmgnejhggaaVc
namespace Go.Proofs.Ytjjpgmgnejhggaa
open Fl RowKit

def innZ (X Y : Cn) : Cn := mulZ (conZ X) Y
end Go.Proofs.Ytjjpgmgnejhggaa
