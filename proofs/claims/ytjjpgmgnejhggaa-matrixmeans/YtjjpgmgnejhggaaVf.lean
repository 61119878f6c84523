/-
  What Conj, Scale of gridworkref06 hand back.
-/
import Derived.Test.YtjjpgmgnejhggaaVc
namespace Go.Proofs.Ytjjpgmgnejhggaa
open Fl RowKit

end Go.Proofs.Ytjjpgmgnejhggaa
