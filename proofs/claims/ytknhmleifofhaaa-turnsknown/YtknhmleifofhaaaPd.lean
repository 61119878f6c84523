/-
  What Div, Inv, the sizes and the root of package parts, and the same of gridworkref02, hand back.
-/
import Derived.Test.YtknhmleifofhaaaPa
namespace Go.Proofs.Ytknhmleifofhaaa
open Fl

section two
variable {A B C D X : Option Nat} {a b c d x : Nat} (w : World) (ha : rep A a) (hb : rep B b) (hc : rep C c) (hd : rep D d) (hx : rep X x)
include ha hb hc hd
set_option maxHeartbeats 1000000 in
theorem div_any : Calls Try.prog 15 #[.complex .f64 a b, .complex .f64 c d] w fun e w' => ∃ re im n, e = .returned (.complex .f64 re im) ∧ rep (divRe A B C D) re ∧ rep (divIm A B C D) im ∧ w' = w.drewN n := by
  have lc := hc.1
  have ld := hd.1
  have ho := ordA_of (rep_sz hc) (rep_sz hd)
  have h1 := fun W => rep_div hd hc W
  have h2 := fun W => rep_div hc hd W
  cases e1 : (ordA (sizA C) (sizA D) == some Ordering.gt)
  · cases e2 : (ordA (sizA C) (sizA D) == some Ordering.eq)
    · have hg : geA (sizA C) (sizA D) = false := by unfold geA; rw [e1, e2]; rfl
      go_enter Try.func15, Try.ntmps15
      go_wp2_with (first
      | (go_at_call 48; refine (apart_any _ _ _).mono ?_; rintro e w' ⟨rfl, rfl⟩)
      | (go_at_call 52; refine (size_any _ _ (by assumption)).mono ?_; rintro e w' ⟨rfl, rfl⟩))
      go_ret
      refine ⟨_, _, _, rfl, ?_, ?_, rfl⟩
      · simp only [divRe, divRe2, hg, Bool.false_eq_true, if_false]
        exact rep_div (rep_add (rep_mul ha (h2 _) _) hb _) (rep_add (rep_mul hc (h2 _) _) hd _) _
      · simp only [divIm, divIm2, hg, Bool.false_eq_true, if_false]
        exact rep_div (rep_sub (rep_mul hb (h2 _) _) ha _) (rep_add (rep_mul hc (h2 _) _) hd _) _
    · have hg : geA (sizA C) (sizA D) = true := by unfold geA; rw [e1, e2]; rfl
      go_enter Try.func15, Try.ntmps15
      go_wp2_with (first
      | (go_at_call 48; refine (apart_any _ _ _).mono ?_; rintro e w' ⟨rfl, rfl⟩)
      | (go_at_call 52; refine (size_any _ _ (by assumption)).mono ?_; rintro e w' ⟨rfl, rfl⟩))
      go_ret
      refine ⟨_, _, _, rfl, ?_, ?_, rfl⟩
      · simp only [divRe, divRe1, hg, if_true]
        exact rep_div (rep_add ha (rep_mul hb (h1 _) _) _) (rep_add hc (rep_mul hd (h1 _) _) _) _
      · simp only [divIm, divIm1, hg, if_true]
        exact rep_div (rep_sub hb (rep_mul ha (h1 _) _) _) (rep_add hc (rep_mul hd (h1 _) _) _) _
  · have hg : geA (sizA C) (sizA D) = true := by unfold geA; rw [e1]; rfl
    go_enter Try.func15, Try.ntmps15
    go_wp2_with (first
      | (go_at_call 48; refine (apart_any _ _ _).mono ?_; rintro e w' ⟨rfl, rfl⟩)
      | (go_at_call 52; refine (size_any _ _ (by assumption)).mono ?_; rintro e w' ⟨rfl, rfl⟩))
    go_ret
    refine ⟨_, _, _, rfl, ?_, ?_, rfl⟩
    · simp only [divRe, divRe1, hg, if_true]
      exact rep_div (rep_add ha (rep_mul hb (h1 _) _) _) (rep_add hc (rep_mul hd (h1 _) _) _) _
    · simp only [divIm, divIm1, hg, if_true]
      exact rep_div (rep_sub hb (rep_mul ha (h1 _) _) _) (rep_add hc (rep_mul hd (h1 _) _) _) _
end two

end Go.Proofs.Ytknhmleifofhaaa
