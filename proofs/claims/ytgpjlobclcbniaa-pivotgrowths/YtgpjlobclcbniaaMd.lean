/-
  What the function says that placed of package matrix hands to made.
-/
import Derived.Test.YtgpjlobclcbniaaMc
namespace Go.Proofs.Ytgpjlobclcbniaa
open Fl RowKit

section two
variable {w : World} {R C c B R' C' c' B' : Nat} {A A' : Option Addr} {F G : Nat → Cn} {xs ys : List Cw} (h : Mx w R C A c F xs) (hV : V3 B (.int .i64 R) (.int .i64 C) (.slice A (R * C) c) w) (h' : Mx w R' C' A' c' G ys) (hV' : V3 B' (.int .i64 R') (.int .i64 C') (.slice A' (R' * C') c') w)
include h hV h' hV'
end two

end Go.Proofs.Ytgpjlobclcbniaa
