/-
  The numbers at the steps of the circle: what Root of package turns, and of gridworkref04, hand back.
-/
import Derived.Test.YtpjpamdocfdibabTu
namespace Go.Proofs.Ytpjpamdocfdibab
open Fl RowKit
set_option linter.unusedVariables false

theorem within_any (k : Int) (w : World) (h0 : -9223372036854775808 ≤ k) (h1 : k < 9223372036854775808) : Calls Try.prog 51 #[.int .i64 k] w fun e w' => e = .returned (.int .i64 (k % 24)) ∧ w' = w := by
  have hb := Int.emod_nonneg k (show (24 : Int) ≠ 0 by decide)
  have hl := Int.emod_lt_of_pos k (show (0 : Int) < 24 by decide)
  by_cases hn : k.tmod 24 < 0
  · have ht : k % 24 = k.tmod 24 + 24 := by rw [Int.tmod_eq_emod] at *; split at hn <;> split <;> omega
    have ht2 := Int.lt_tmod_of_pos k (show (0 : Int) < 24 by decide)
    go_enter Try.func51, Try.ntmps51
    go_wp2
    go_ret
    exact ⟨by rw [ht]; rfl, rfl⟩
  · have ht : k % 24 = k.tmod 24 := by rw [Int.tmod_eq_emod] at *; split at hn <;> split <;> omega
    go_enter Try.func51, Try.ntmps51
    go_wp2
    go_ret
    exact ⟨rfl, rfl⟩

/-- The parts of the number at k steps. -/
def rtR (k : Int) : Nat := cw (k % 24)
def rtI (k : Int) : Nat := cw ((k - 6) % 24)
theorem root_any (k : Int) (w : World) (h0 : -9223372036854775808 ≤ k) (h1 : k < 9223372036854775808) : Calls Try.prog 38 #[.int .i64 k] w fun e w' => e = .returned (.complex .f64 (rtR k) (rtI k)) ∧ w' = w := by
  have hb := Int.emod_nonneg k (show (24 : Int) ≠ 0 by decide)
  have hl := Int.emod_lt_of_pos k (show (0 : Int) < 24 by decide)
  go_enter Try.func38, Try.ntmps38
  go_wp2_with (first
    | (go_at_call 51; refine (within_any _ _ (by omega) (by omega)).mono ?_; rintro e w' ⟨rfl, rfl⟩)
    | (go_at_call 52; refine (tcosine _ _ (by omega) (by omega)).mono ?_; rintro e w' ⟨rfl, rfl⟩))
  go_ret
  exact ⟨retc rfl rfl, rfl⟩

end Go.Proofs.Ytpjpamdocfdibab
