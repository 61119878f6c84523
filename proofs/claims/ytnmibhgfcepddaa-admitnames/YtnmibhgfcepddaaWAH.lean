/-
  The walk of AdmitHertz.
-/
import Derived.Test.YtnmibhgfcepddaaAdi
namespace Go.Proofs.Ytnmibhgfcepddaa
open Fl RowKit
set_option linter.unusedVariables false

theorem aomega_w (x : Nat) (w : World) (hx : x < 18446744073709551616) (a : Nat) (e : Int) (hu : omT x = (a, e)) :
    Calls Try.prog 18 #[.float .f64 x] w fun E w' => E = .returned (.tuple #[.float .f64 a, .int .i64 e]) ∧ w' = w := by have := aomega_any x w hx; rw [hu] at this; exact this
theorem ahertz_w (x : Nat) (w : World) (hx : x < 18446744073709551616) (a : Nat) (e : Int) (hu : hzT x = (a, e)) :
    Calls Try.prog 19 #[.float .f64 x] w fun E w' => E = .returned (.tuple #[.float .f64 a, .int .i64 e]) ∧ w' = w := by have := ahertz_any x w hx; rw [hu] at this; exact this
theorem romega_w (x : Nat) (w : World) (hx : x < 18446744073709551616) (a : Nat) (e : Int) (hu : omT x = (a, e)) :
    Calls Try.prog 20 #[.float .f64 x] w fun E w' => E = .returned (.tuple #[.float .f64 a, .int .i64 e]) ∧ ∃ n, w' = w.drewN n := by have := romega_any x w hx; rw [hu] at this; exact this
theorem rhertz_w (x : Nat) (w : World) (hx : x < 18446744073709551616) (a : Nat) (e : Int) (hu : hzT x = (a, e)) :
    Calls Try.prog 21 #[.float .f64 x] w fun E w' => E = .returned (.tuple #[.float .f64 a, .int .i64 e]) ∧ ∃ n, w' = w.drewN n := by have := rhertz_any x w hx; rw [hu] at this; exact this
theorem sameR_self (a : Nat) (w : World) : Calls Try.prog 22 #[.float .f64 a, .float .f64 a] w fun e w' => e = .returned (.bool true) ∧ w' = w := by
  have := rsameR_any a a w; rw [smB_self] at this; exact this
set_option maxRecDepth 100000 in
set_option maxHeartbeats 1000000 in
theorem hertz_walk (x : Nat) (w : World) (hx : x < 18446744073709551616) :
    Calls Try.prog 4 #[.int .u64 (x : Int)] w fun e w' => e = .returned (.bool true) ∧ Below w.heap.size w w' := by
  obtain ⟨⟨a, e⟩, hu⟩ : ∃ u, omT x = u := ⟨_, rfl⟩
  obtain ⟨⟨b, f⟩, hv⟩ : ∃ u, hzT x = u := ⟨_, rfl⟩
  have h1 : Hid _ := fun W => aomega_w x W hx a e hu
  have h2 : Hid _ := fun W => ahertz_w x W hx b f hv
  have h3 : Hid _ := fun W => romega_w x W hx a e hu
  have h4 : Hid _ := fun W => rhertz_w x W hx b f hv
  clear hu hv hx
  go_enter Try.func4, Try.ntmps4
  go_wp2_with (first
    | (go_at_call 18; (with_reducible refine (h1.out _).mono ?_); rintro E w1 ⟨rfl, hw⟩; subst w1)
    | (go_at_call 19; (with_reducible refine (h2.out _).mono ?_); rintro E w1 ⟨rfl, hw⟩; subst w1)
    | (go_at_call 20; (with_reducible refine (h3.out _).mono ?_); rintro E w1 ⟨rfl, m1, rfl⟩)
    | (go_at_call 21; (with_reducible refine (h4.out _).mono ?_); rintro E w1 ⟨rfl, m2, rfl⟩)
    | (go_at_call 16; (with_reducible refine (lives17 _).mono ?_); rintro E w5 ⟨rfl, hb⟩; (have B5 : Hid (Below w.heap.size w w5) := undrN hb); clear hb)
    | (go_at_call 22; (with_reducible refine (sameR_self _ _).mono ?_); rintro E w1 ⟨rfl, hw⟩; subst w1))
  go_ret
  exact ⟨rfl, B5.out⟩
end Go.Proofs.Ytnmibhgfcepddaa
