/-
  What Axpy of gridworkref06 hands back.
-/
import Derived.Test.YtjjpgmgnejhggaaVc
namespace Go.Proofs.Ytjjpgmgnejhggaa
open Fl RowKit

end Go.Proofs.Ytjjpgmgnejhggaa
