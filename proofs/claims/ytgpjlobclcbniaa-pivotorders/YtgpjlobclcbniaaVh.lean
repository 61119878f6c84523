/-
  What the calls of package vector hand back.
-/
import Derived.Test.YtgpjlobclcbniaaVc
import Derived.Test.YtgpjlobclcbniaaVd
import Derived.Test.YtgpjlobclcbniaaVe
import Derived.Test.YtgpjlobclcbniaaVf
import Derived.Test.YtgpjlobclcbniaaVg
namespace Go.Proofs.Ytgpjlobclcbniaa
open Fl RowKit

theorem size_al (w : World) (o : Obj) : (w.alloc o).heap.size = w.heap.size + 1 := by simp
theorem ent_add : Ent 33 := fun _ _ => by go_simp
theorem ent_conj : Ent 37 := fun _ _ => by go_simp
theorem says_add (w : World) : Says2 w 33 #[] addZ := fun _ _ W _ hp hq => (add_any W (rep_ans hp.1) (rep_ans hp.2) (rep_ans hq.1) (rep_ans hq.2)).mono (by rintro e w' ⟨re, im, n, rfl, h1, h2, rfl⟩; exact ⟨(re, im), n, rfl, ⟨h1, h2⟩, rfl⟩)
theorem says_conj (w : World) : Says1 w 37 #[] conZ := fun p W _ hp => (conj_any W (rep_ans hp.1) (rep_ans hp.2)).mono (by rintro e w' ⟨im, rfl, h1, rfl⟩; exact ⟨(p.1, im), 0, rfl, ⟨rep_ans hp.1, h1⟩, rfl⟩)
section two
variable (ao bo : Option Addr) (ca cb : Nat) (xs ys : List Cw) (w : World) (hl : ys.length = xs.length) (hm : xs.length ≤ 65536) (hc : Rc w ao xs) (hd : Rc w bo ys) (hx : okl xs) (hy : okl ys)
include hl hm hc hd hx hy
end two
section err
variable (ao bo : Option Addr) (na nb ca cb : Nat) (w : World) (ha : na ≤ 1000000000000000) (hb : nb ≤ 1000000000000000) (he : ¬ errV na nb = 0)
include ha hb he
end err
section one
variable (ao : Option Addr) (cap : Nat) (xs : List Cw) (w : World) (hsz : xs.length * 16 ≤ 140737488355328) (hc : Rc w ao xs) (hx : okl xs)
include hsz hc hx
end one

end Go.Proofs.Ytgpjlobclcbniaa
