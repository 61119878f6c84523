/-
  What Sqrt of package parts, and of gridworkref02, hands back, whatever it is called with: by one function on answers.
-/
import Derived.Test.YtcakfclfggnmbaaPf
namespace Go.Proofs.Ytcakfclfggnmbaa
open Fl

section two
variable {A B : Option Nat} {a b : Nat} (w : World) (ha : rep A a) (hb : rep B b)
include ha hb
end two

end Go.Proofs.Ytcakfclfggnmbaa
