/-
  What the calls of package vector hand back.
-/
import Derived.Test.YtjjpgmgnejhggaaVc
import Derived.Test.YtjjpgmgnejhggaaVd
import Derived.Test.YtjjpgmgnejhggaaVe
import Derived.Test.YtjjpgmgnejhggaaVf
import Derived.Test.YtjjpgmgnejhggaaVg
namespace Go.Proofs.Ytjjpgmgnejhggaa
open Fl RowKit

theorem size_al (w : World) (o : Obj) : (w.alloc o).heap.size = w.heap.size + 1 := by simp
theorem ent_add : Ent 54 := fun _ _ => by go_simp
theorem ent_sub : Ent 62 := fun _ _ => by go_simp
theorem ent_mul : Ent 55 := fun _ _ => by go_simp
theorem ent_conj : Ent 70 := fun _ _ => by go_simp
theorem says_add (w : World) : Says2 w 54 #[] addZ := fun _ _ W _ hp hq => (add_any W (rep_ans hp.1) (rep_ans hp.2) (rep_ans hq.1) (rep_ans hq.2)).mono (by rintro e w' ⟨re, im, n, rfl, h1, h2, rfl⟩; exact ⟨(re, im), n, rfl, ⟨h1, h2⟩, rfl⟩)
theorem says_sub (w : World) : Says2 w 62 #[] subZ := fun _ _ W _ hp hq => (sub_any W (rep_ans hp.1) (rep_ans hp.2) (rep_ans hq.1) (rep_ans hq.2)).mono (by rintro e w' ⟨re, im, n, rfl, h1, h2, rfl⟩; exact ⟨(re, im), n, rfl, ⟨h1, h2⟩, rfl⟩)
theorem says_mul (w : World) : Says2 w 55 #[] mulZ := fun _ _ W _ hp hq => (mul_any W (rep_ans hp.1) (rep_ans hp.2) (rep_ans hq.1) (rep_ans hq.2)).mono (by rintro e w' ⟨re, im, n, rfl, h1, h2, rfl⟩; exact ⟨(re, im), n, rfl, ⟨h1, h2⟩, rfl⟩)
theorem says_conj (w : World) : Says1 w 70 #[] conZ := fun p W _ hp => (conj_any W (rep_ans hp.1) (rep_ans hp.2)).mono (by rintro e w' ⟨im, rfl, h1, rfl⟩; exact ⟨(p.1, im), 0, rfl, ⟨rep_ans hp.1, h1⟩, rfl⟩)
section two
variable (ao bo : Option Addr) (ca cb : Nat) (xs ys : List Cw) (w : World) (hl : ys.length = xs.length) (hm : xs.length ≤ 65536) (hc : Rc w ao xs) (hd : Rc w bo ys) (hx : okl xs) (hy : okl ys)
include hl hm hc hd hx hy
theorem vdot_ok : Calls Try.prog 107 #[.slice ao xs.length ca, .slice bo xs.length cb] w fun e w' => ∃ (s : Cw) (m : Nat), e = .returned (.tuple #[cx s, .int .i64 0]) ∧ repz (sumZ (dotF mulZ xs ys) xs.length) s ∧ w' = w.drewN m := by
  go_enter Try.func107, Try.ntmps107
  go_wp2_with (go_at_call 117; refine (summed_ok _ _ _ ao bo ca cb xs ys _ ent_mul (says_mul _) hl hm hc hd hx hy).mono ?_; rintro e w' ⟨s, m, rfl, h1, rfl⟩; unfold cx)
  go_ret2
  exact ⟨s, m, rfl, h1, rfl⟩
end two
section err
variable (ao bo : Option Addr) (na nb ca cb : Nat) (w : World) (ha : na ≤ 1000000000000000) (hb : nb ≤ 1000000000000000) (he : ¬ errV na nb = 0)
include ha hb he
theorem vdot_err : Calls Try.prog 107 #[.slice ao na ca, .slice bo nb cb] w fun e w' => e = .returned (.tuple #[.complex .f64 0 0, .int .i64 (errV na nb)]) ∧ w' = w := by
  go_enter Try.func107, Try.ntmps107
  go_wp2_with (go_at_call 117; refine (summed_err _ ao bo na nb ca cb _ ha hb he).mono ?_; rintro e w' ⟨rfl, hw'⟩; subst w')
  go_ret2
  exact ⟨rfl, rfl⟩
end err
section one
variable (ao : Option Addr) (cap : Nat) (xs : List Cw) (w : World) (hsz : xs.length * 16 ≤ 140737488355328) (hc : Rc w ao xs) (hx : okl xs)
include hsz hc hx
end one

end Go.Proofs.Ytjjpgmgnejhggaa
