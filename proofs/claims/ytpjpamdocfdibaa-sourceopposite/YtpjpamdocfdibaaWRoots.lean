/-
  The walk of TurnsRoots: it hands back true and only lays new memory.
-/
import Derived.Test.YtpjpamdocfdibaaTw0
import Derived.Test.YtpjpamdocfdibaaTk
import Derived.Deep.RegionWith
namespace Go.Proofs.Ytpjpamdocfdibaa
open Fl RowKit

theorem cK_lt (k : Int) : cK k < 9223372036854775808 := by unfold cK; repeat' split
                                                           all_goals decide
theorem cw_lt (k : Int) : cw k < 18446744073709551616 := by
  have h := cK_lt
  unfold cw
  have h1 := h k; have h2 := h (24 - k)
  have h3 := ngW_lt (x := cK (12 - k)) (by have := h (12 - k); omega)
  have h4 := ngW_lt (x := cK (k - 12)) (by have := h (k - 12); omega)
  split
  · omega
  · split
    · exact h3
    · split
      · exact h4
      · omega
theorem rep_rtR (k : Int) : rep (ans (rtR k)) (rtR k) := rep_ans (cw_lt _)
theorem rep_rtI (k : Int) : rep (ans (rtI k)) (rtI k) := rep_ans (cw_lt _)

section one
variable {X : Option Nat} {x : Nat} (k : Int) (w : World) (hx : rep X x) (h0 : -9223372036854775808 ≤ k) (h1 : k < 9223372036854775808)
include hx h0 h1
theorem phasor_any : Calls Try.prog 56 #[.float .f64 x, .int .i64 k] w fun e w' => ∃ re im, e = .returned (.complex .f64 re im) ∧ rep (mulA X (ans (rtR k))) re ∧ rep (mulA X (ans (rtI k))) im ∧ Below w.heap.size w w' := by
  go_enter Try.func56, Try.ntmps56
  go_wp2_with (first
    | (go_at_call 103; refine (root_any k _ h0 h1).mono ?_; rintro e w' ⟨rfl, rfl⟩)
    | (go_at_call 102; refine (scale_any _ (rep_rtR k) (rep_rtI k) hx).mono ?_; rintro e w' ⟨re, im, n, rfl, h1, h2, rfl⟩))
  go_ret
  exact ⟨_, _, rfl, by assumption, by assumption, below_drewN (below_self _) _⟩
theorem rphasor_any : Calls Try.prog 57 #[.float .f64 x, .int .i64 k] w fun e w' => ∃ re im, e = .returned (.complex .f64 re im) ∧ rep (mulA X (ans (rtR k))) re ∧ rep (mulA X (ans (rtI k))) im ∧ Below w.heap.size w w' := by
  go_enter Try.func57, Try.ntmps57
  go_wp2_with (first
    | (go_at_call 104; refine (rroot_any k _ h0 h1).mono ?_; rintro e w' ⟨rfl, hbel⟩))
  go_ret
  refine ⟨_, _, rfl, rep_mul hx (rep_rtR k) _, rep_mul hx (rep_rtI k) _, ?_⟩
  repeat first
    | exact hbel
    | refine below_drewN ?_ _
end one

section two
variable {A B : Option Nat} {a b : Nat} (k : Int) (w : World) (ha : rep A a) (hb : rep B b) (h0 : -9223372036854775808 ≤ k) (h1 : k < 9223372036854775808)
include ha hb h0 h1
end two

theorem ksame_true {A B : Option Nat} {a b c d : Nat} (w : World) (h1 : rep A a) (h2 : rep A c) (h3 : rep B b) (h4 : rep B d) :
    Calls Try.prog 24 #[.complex .f64 a b, .complex .f64 c d] w fun e w' => e = .returned (.bool true) ∧ w' = w := by
  have h := ksame_any a b c d w
  rw [smB_of h1 h2, smB_of h3 h4] at h
  exact h

end Go.Proofs.Ytpjpamdocfdibaa
