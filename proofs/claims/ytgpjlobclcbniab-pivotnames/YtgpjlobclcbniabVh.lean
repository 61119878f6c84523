/-
  What the calls of package vector hand back.
-/
import Derived.Test.YtgpjlobclcbniabVc
import Derived.Test.YtgpjlobclcbniabVd
import Derived.Test.YtgpjlobclcbniabVe
import Derived.Test.YtgpjlobclcbniabVf
import Derived.Test.YtgpjlobclcbniabVg
namespace Go.Proofs.Ytgpjlobclcbniab
open Fl RowKit

theorem size_al (w : World) (o : Obj) : (w.alloc o).heap.size = w.heap.size + 1 := by simp
section two
variable (ao bo : Option Addr) (ca cb : Nat) (xs ys : List Cw) (w : World) (hl : ys.length = xs.length) (hm : xs.length ≤ 65536) (hc : Rc w ao xs) (hd : Rc w bo ys) (hx : okl xs) (hy : okl ys)
include hl hm hc hd hx hy
end two
section err
variable (ao bo : Option Addr) (na nb ca cb : Nat) (w : World) (ha : na ≤ 1000000000000000) (hb : nb ≤ 1000000000000000) (he : ¬ errV na nb = 0)
include ha hb he
end err
section one
variable (ao : Option Addr) (cap : Nat) (xs : List Cw) (w : World) (hsz : xs.length * 16 ≤ 140737488355328) (hc : Rc w ao xs) (hx : okl xs)
include hsz hc hx
end one

end Go.Proofs.Ytgpjlobclcbniab
