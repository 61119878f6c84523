/-
  What Axpy of gridworkref06 hands back.
-/
import Derived.Test.YtgpjlobclcbniaaVc
namespace Go.Proofs.Ytgpjlobclcbniaa
open Fl RowKit

end Go.Proofs.Ytgpjlobclcbniaa
