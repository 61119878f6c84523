/-
  What the calls of package vector hand back.
-/
import Derived.Test.YtlpfjaldmokdfaaVc
import Derived.Test.YtlpfjaldmokdfaaVd
import Derived.Test.YtlpfjaldmokdfaaVe
import Derived.Test.YtlpfjaldmokdfaaVf
import Derived.Test.YtlpfjaldmokdfaaVg
namespace Go.Proofs.Ytlpfjaldmokdfaa
open Fl RowKit

theorem size_al (w : World) (o : Obj) : (w.alloc o).heap.size = w.heap.size + 1 := by simp
theorem ent_add : Ent 49 := fun _ _ => by go_simp
theorem ent_sub : Ent 50 := fun _ _ => by go_simp
theorem ent_mul : Ent 52 := fun _ _ => by go_simp
theorem ent_conj : Ent 54 := fun _ _ => by go_simp
theorem ent_inner : Ent 53 := fun _ _ => by go_simp
theorem ent_axpy : Ent 65 := fun _ _ => by go_simp
theorem ent_scale : Ent 66 := fun _ _ => by go_simp
theorem says_add (w : World) : Says2 w 49 #[] addZ := fun _ _ W _ hp hq => (add_any W (rep_ans hp.1) (rep_ans hp.2) (rep_ans hq.1) (rep_ans hq.2)).mono (by rintro e w' ⟨re, im, n, rfl, h1, h2, rfl⟩; exact ⟨(re, im), n, rfl, ⟨h1, h2⟩, rfl⟩)
theorem says_sub (w : World) : Says2 w 50 #[] subZ := fun _ _ W _ hp hq => (sub_any W (rep_ans hp.1) (rep_ans hp.2) (rep_ans hq.1) (rep_ans hq.2)).mono (by rintro e w' ⟨re, im, n, rfl, h1, h2, rfl⟩; exact ⟨(re, im), n, rfl, ⟨h1, h2⟩, rfl⟩)
theorem says_mul (w : World) : Says2 w 52 #[] mulZ := fun _ _ W _ hp hq => (mul_any W (rep_ans hp.1) (rep_ans hp.2) (rep_ans hq.1) (rep_ans hq.2)).mono (by rintro e w' ⟨re, im, n, rfl, h1, h2, rfl⟩; exact ⟨(re, im), n, rfl, ⟨h1, h2⟩, rfl⟩)
theorem says_conj (w : World) : Says1 w 54 #[] conZ := fun p W _ hp => (conj_any W (rep_ans hp.1) (rep_ans hp.2)).mono (by rintro e w' ⟨im, rfl, h1, rfl⟩; exact ⟨(p.1, im), 0, rfl, ⟨rep_ans hp.1, h1⟩, rfl⟩)
theorem inner1_any (p q : Cw) (w : World) (hp : okz p) (hq : okz q) : Calls Try.prog 53 #[.complex .f64 p.1 p.2, .complex .f64 q.1 q.2] w fun e w' => ∃ (r : Cw) (m : Nat), e = .returned (cx r) ∧ repz (innZ (anz p) (anz q)) r ∧ w' = w.drewN m := by
  have o1 := rep_ans hp.1
  have o2 := rep_ans hp.2
  have o3 := rep_ans hq.1
  have o4 := rep_ans hq.2
  go_enter Try.func53, Try.ntmps53
  go_wp2_with (first
    | (go_at_call 54; refine (conj_any _ o1 o2).mono ?_; rintro e w' ⟨ci, rfl, hci, hw'⟩; subst w')
    | (go_at_call 52; refine (mul_any _ o1 hci o3 o4).mono ?_; rintro e w' ⟨pr, pi, m, rfl, hpr, hpi, rfl⟩))
  go_ret
  exact ⟨(pr, pi), m, rfl, ⟨hpr, hpi⟩, rfl⟩
theorem says_inner (w : World) : Says2 w 53 #[] innZ := fun p q W _ hp hq => inner1_any p q W hp hq
theorem axpy1_any (t p q : Cw) (B : Nat) (w : World) (hc : w.cell? ⟨B, 0, none⟩ = some (.complex .f64 t.1 t.2)) (ht : okz t) (hp : okz p) (hq : okz q) : Calls Try.prog 65 #[.complex .f64 p.1 p.2, .complex .f64 q.1 q.2, .pointer (some ⟨B, 0, none⟩)] w fun e w' => ∃ (r : Cw) (m : Nat), e = .returned (cx r) ∧ repz (addZ (anz q) (mulZ (anz t) (anz p))) r ∧ w' = w.drewN m := by
  have o1 := rep_ans hp.1
  have o2 := rep_ans hp.2
  have o3 := rep_ans hq.1
  have o4 := rep_ans hq.2
  have t1 := rep_ans ht.1
  have t2 := rep_ans ht.2
  go_enter Try.func65, Try.ntmps65
  go_wp2_with (first
    | (go_at_call 52; refine (mul_any _ t1 t2 o1 o2).mono ?_; rintro e w' ⟨pr, pi, m, rfl, hpr, hpi, rfl⟩)
    | (go_at_call 49; refine (add_any _ o3 o4 hpr hpi).mono ?_; rintro e w' ⟨re, im, m2, rfl, hre, him, rfl⟩))
  go_ret
  exact ⟨(re, im), _, rfl, ⟨hre, him⟩, rfl⟩
theorem says_axpy (t : Cw) (B : Nat) (w : World) (hB : B < w.heap.size) (hc : w.cell? ⟨B, 0, none⟩ = some (.complex .f64 t.1 t.2)) (ht : okz t) : Says2 w 65 #[.pointer (some ⟨B, 0, none⟩)] (fun X Y => addZ Y (mulZ (anz t) X)) :=
  fun p q W hb hp hq => axpy1_any t p q B W ((hb.cell (p := ⟨B, 0, none⟩) hB).trans hc) ht hp hq
theorem scale1_any (t p : Cw) (B : Nat) (w : World) (hc : w.cell? ⟨B, 0, none⟩ = some (.complex .f64 t.1 t.2)) (ht : okz t) (hp : okz p) : Calls Try.prog 66 #[.complex .f64 p.1 p.2, .pointer (some ⟨B, 0, none⟩)] w fun e w' => ∃ (r : Cw) (m : Nat), e = .returned (cx r) ∧ repz (mulZ (anz t) (anz p)) r ∧ w' = w.drewN m := by
  have o1 := rep_ans hp.1
  have o2 := rep_ans hp.2
  have t1 := rep_ans ht.1
  have t2 := rep_ans ht.2
  go_enter Try.func66, Try.ntmps66
  go_wp2_with (first
    | (go_at_call 52; refine (mul_any _ t1 t2 o1 o2).mono ?_; rintro e w' ⟨pr, pi, m, rfl, hpr, hpi, rfl⟩))
  go_ret
  exact ⟨(pr, pi), _, rfl, ⟨hpr, hpi⟩, rfl⟩
theorem says_scale (t : Cw) (B : Nat) (w : World) (hB : B < w.heap.size) (hc : w.cell? ⟨B, 0, none⟩ = some (.complex .f64 t.1 t.2)) (ht : okz t) : Says1 w 66 #[.pointer (some ⟨B, 0, none⟩)] (mulZ (anz t)) :=
  fun p W hb hp => scale1_any t p B W ((hb.cell (p := ⟨B, 0, none⟩) hB).trans hc) ht hp

section two
variable (ao bo : Option Addr) (ca cb : Nat) (xs ys : List Cw) (w : World) (hl : ys.length = xs.length) (hm : xs.length ≤ 65536) (hc : Rc w ao xs) (hd : Rc w bo ys) (hx : okl xs) (hy : okl ys)
include hl hm hc hd hx hy
theorem vadd_ok : Calls Try.prog 11 #[.slice ao xs.length ca, .slice bo xs.length cb] w fun e w' => ∃ zs, e = .returned (.tuple #[.slice (some ⟨w.heap.size, 0, none⟩) xs.length xs.length, .int .i64 0]) ∧ New w.heap.size (dotF addZ xs ys) xs.length zs (.slice (some ⟨w.heap.size, 0, none⟩) xs.length xs.length) w' ∧ Below w.heap.size w w' := by
  go_enter Try.func11, Try.ntmps11
  go_wp2_with (go_at_call 48; refine (placed_ok _ _ _ ao bo ca cb xs ys _ ent_add (says_add _) hl hm hc hd hx hy).mono ?_; rintro e w' ⟨zs, rfl, h1, h2⟩)
  go_ret2
  exact ⟨zs, rfl, h1, h2⟩
theorem vsub_ok : Calls Try.prog 12 #[.slice ao xs.length ca, .slice bo xs.length cb] w fun e w' => ∃ zs, e = .returned (.tuple #[.slice (some ⟨w.heap.size, 0, none⟩) xs.length xs.length, .int .i64 0]) ∧ New w.heap.size (dotF subZ xs ys) xs.length zs (.slice (some ⟨w.heap.size, 0, none⟩) xs.length xs.length) w' ∧ Below w.heap.size w w' := by
  go_enter Try.func12, Try.ntmps12
  go_wp2_with (go_at_call 48; refine (placed_ok _ _ _ ao bo ca cb xs ys _ ent_sub (says_sub _) hl hm hc hd hx hy).mono ?_; rintro e w' ⟨zs, rfl, h1, h2⟩)
  go_ret2
  exact ⟨zs, rfl, h1, h2⟩
theorem vdot_ok : Calls Try.prog 13 #[.slice ao xs.length ca, .slice bo xs.length cb] w fun e w' => ∃ (s : Cw) (m : Nat), e = .returned (.tuple #[cx s, .int .i64 0]) ∧ repz (sumZ (dotF mulZ xs ys) xs.length) s ∧ w' = w.drewN m := by
  go_enter Try.func13, Try.ntmps13
  go_wp2_with (go_at_call 51; refine (summed_ok _ _ _ ao bo ca cb xs ys _ ent_mul (says_mul _) hl hm hc hd hx hy).mono ?_; rintro e w' ⟨s, m, rfl, h1, rfl⟩; unfold cx)
  go_ret2
  exact ⟨s, m, rfl, h1, rfl⟩
theorem vinner_ok : Calls Try.prog 14 #[.slice ao xs.length ca, .slice bo xs.length cb] w fun e w' => ∃ (s : Cw) (m : Nat), e = .returned (.tuple #[cx s, .int .i64 0]) ∧ repz (sumZ (dotF innZ xs ys) xs.length) s ∧ w' = w.drewN m := by
  go_enter Try.func14, Try.ntmps14
  go_wp2_with (go_at_call 51; refine (summed_ok _ _ _ ao bo ca cb xs ys _ ent_inner (says_inner _) hl hm hc hd hx hy).mono ?_; rintro e w' ⟨s, m, rfl, h1, rfl⟩; unfold cx)
  go_ret2
  exact ⟨s, m, rfl, h1, rfl⟩
theorem vaxpy_ok (t : Cw) (ht : okz t) : Calls Try.prog 32 #[.complex .f64 t.1 t.2, .slice ao xs.length ca, .slice bo xs.length cb] w fun e w' => ∃ zs, e = .returned (.tuple #[.slice (some ⟨w.heap.size + 1, 0, none⟩) xs.length xs.length, .int .i64 0]) ∧ New w.heap.size (dotF (fun X Y => addZ Y (mulZ (anz t) X)) xs ys) xs.length zs (.slice (some ⟨w.heap.size + 1, 0, none⟩) xs.length xs.length) w' ∧ Below w.heap.size w w' := by
  go_enter Try.func32, Try.ntmps32
  go_wp2_with (go_at_call 48; refine (placed_ok _ _ _ ao bo ca cb xs ys _ ent_axpy (says_axpy t w.heap.size _ (by simp) (by simp) ht) hl hm (hc.below ((Below.refl _ _).alloc (Nat.le_refl _) _)) (hd.below ((Below.refl _ _).alloc (Nat.le_refl _) _)) hx hy).mono ?_; rintro e w' ⟨zs, rfl, h1, h2⟩; rw [size_al] at h1 h2 ⊢)
  go_ret2
  exact ⟨zs, rfl, ⟨h1.len, h1.rep, own_base h1.own (by omega)⟩, ((Below.refl _ _).alloc (Nat.le_refl _) _).trans (h2.mono (by omega))⟩
end two
section err
variable (ao bo : Option Addr) (na nb ca cb : Nat) (w : World) (ha : na ≤ 1000000000000000) (hb : nb ≤ 1000000000000000) (he : ¬ errV na nb = 0)
include ha hb he
theorem vadd_err : Calls Try.prog 11 #[.slice ao na ca, .slice bo nb cb] w fun e w' => e = .returned (.tuple #[.slice none 0 0, .int .i64 (errV na nb)]) ∧ w' = w := by
  go_enter Try.func11, Try.ntmps11
  go_wp2_with (go_at_call 48; refine (placed_err _ ao bo na nb ca cb _ ha hb he).mono ?_; rintro e w' ⟨rfl, hw'⟩; subst w')
  go_ret2
  exact ⟨rfl, rfl⟩
theorem vsub_err : Calls Try.prog 12 #[.slice ao na ca, .slice bo nb cb] w fun e w' => e = .returned (.tuple #[.slice none 0 0, .int .i64 (errV na nb)]) ∧ w' = w := by
  go_enter Try.func12, Try.ntmps12
  go_wp2_with (go_at_call 48; refine (placed_err _ ao bo na nb ca cb _ ha hb he).mono ?_; rintro e w' ⟨rfl, hw'⟩; subst w')
  go_ret2
  exact ⟨rfl, rfl⟩
theorem vdot_err : Calls Try.prog 13 #[.slice ao na ca, .slice bo nb cb] w fun e w' => e = .returned (.tuple #[.complex .f64 0 0, .int .i64 (errV na nb)]) ∧ w' = w := by
  go_enter Try.func13, Try.ntmps13
  go_wp2_with (go_at_call 51; refine (summed_err _ ao bo na nb ca cb _ ha hb he).mono ?_; rintro e w' ⟨rfl, hw'⟩; subst w')
  go_ret2
  exact ⟨rfl, rfl⟩
theorem vinner_err : Calls Try.prog 14 #[.slice ao na ca, .slice bo nb cb] w fun e w' => e = .returned (.tuple #[.complex .f64 0 0, .int .i64 (errV na nb)]) ∧ w' = w := by
  go_enter Try.func14, Try.ntmps14
  go_wp2_with (go_at_call 51; refine (summed_err _ ao bo na nb ca cb _ ha hb he).mono ?_; rintro e w' ⟨rfl, hw'⟩; subst w')
  go_ret2
  exact ⟨rfl, rfl⟩
theorem vaxpy_err (t : Cw) : Calls Try.prog 32 #[.complex .f64 t.1 t.2, .slice ao na ca, .slice bo nb cb] w fun e w' => e = .returned (.tuple #[.slice none 0 0, .int .i64 (errV na nb)]) ∧ Below w.heap.size w w' := by
  go_enter Try.func32, Try.ntmps32
  go_wp2_with (go_at_call 48; refine (placed_err _ ao bo na nb ca cb _ ha hb he).mono ?_; rintro e w' ⟨rfl, hw'⟩; subst w')
  go_ret2
  exact ⟨rfl, (Below.refl _ _).alloc (Nat.le_refl _) _⟩
end err
section one
variable (ao : Option Addr) (cap : Nat) (xs : List Cw) (w : World) (hsz : xs.length * 16 ≤ 140737488355328) (hc : Rc w ao xs) (hx : okl xs)
include hsz hc hx
theorem vconj_any : Calls Try.prog 15 #[.slice ao xs.length cap] w fun e w' => ∃ zs, e = .returned (.slice (some ⟨w.heap.size, 0, none⟩) xs.length xs.length) ∧ New w.heap.size (fun j => conZ (anz (zat xs j))) xs.length zs (.slice (some ⟨w.heap.size, 0, none⟩) xs.length xs.length) w' ∧ Below w.heap.size w w' := by
  go_enter Try.func15, Try.ntmps15
  go_wp2_with (go_at_call 55; refine (each_any _ _ _ ao cap xs _ ent_conj (says_conj _) hsz hc hx).mono ?_; rintro e w' ⟨zs, rfl, h1, h2⟩)
  go_ret
  exact ⟨zs, rfl, h1, h2⟩
theorem vscale_any (t : Cw) (ht : okz t) : Calls Try.prog 33 #[.complex .f64 t.1 t.2, .slice ao xs.length cap] w fun e w' => ∃ zs, e = .returned (.slice (some ⟨w.heap.size + 1, 0, none⟩) xs.length xs.length) ∧ New w.heap.size (fun j => mulZ (anz t) (anz (zat xs j))) xs.length zs (.slice (some ⟨w.heap.size + 1, 0, none⟩) xs.length xs.length) w' ∧ Below w.heap.size w w' := by
  go_enter Try.func33, Try.ntmps33
  go_wp2_with (go_at_call 55; refine (each_any _ _ _ ao cap xs _ ent_scale (says_scale t w.heap.size _ (by simp) (by simp) ht) hsz (hc.below ((Below.refl _ _).alloc (Nat.le_refl _) _)) hx).mono ?_; rintro e w' ⟨zs, rfl, h1, h2⟩; rw [size_al] at h1 h2 ⊢)
  go_ret
  exact ⟨zs, rfl, ⟨h1.len, h1.rep, own_base h1.own (by omega)⟩, ((Below.refl _ _).alloc (Nat.le_refl _) _).trans (h2.mono (by omega))⟩
end one

end Go.Proofs.Ytlpfjaldmokdfaa
