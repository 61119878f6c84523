/-
  What Conj, Scale of gridworkref06 hand back.
-/
import Derived.Test.YtgpjlobclcbniaaVc
namespace Go.Proofs.Ytgpjlobclcbniaa
open Fl RowKit

end Go.Proofs.Ytgpjlobclcbniaa
