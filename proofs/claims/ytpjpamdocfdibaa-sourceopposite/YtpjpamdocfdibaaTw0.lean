/-
  The numbers at the steps of the circle: what Root of package turns, and of gridworkref04, hand back.
-/
import Derived.Test.YtpjpamdocfdibaaTu
namespace Go.Proofs.Ytpjpamdocfdibaa
open Fl RowKit
set_option linter.unusedVariables false

theorem within_any (k : Int) (w : World) (h0 : -9223372036854775808 ≤ k) (h1 : k < 9223372036854775808) : Calls Try.prog 126 #[.int .i64 k] w fun e w' => e = .returned (.int .i64 (k % 24)) ∧ w' = w := by
  have hb := Int.emod_nonneg k (show (24 : Int) ≠ 0 by decide)
  have hl := Int.emod_lt_of_pos k (show (0 : Int) < 24 by decide)
  by_cases hn : k.tmod 24 < 0
  · have ht : k % 24 = k.tmod 24 + 24 := by rw [Int.tmod_eq_emod] at *; split at hn <;> split <;> omega
    have ht2 := Int.lt_tmod_of_pos k (show (0 : Int) < 24 by decide)
    go_enter Try.func126, Try.ntmps126
    go_wp2
    go_ret
    exact ⟨by rw [ht]; rfl, rfl⟩
  · have ht : k % 24 = k.tmod 24 := by rw [Int.tmod_eq_emod] at *; split at hn <;> split <;> omega
    go_enter Try.func126, Try.ntmps126
    go_wp2
    go_ret
    exact ⟨rfl, rfl⟩

/-- The parts of the number at k steps. -/
def rtR (k : Int) : Nat := cw (k % 24)
def rtI (k : Int) : Nat := cw ((k - 6) % 24)
theorem root_any (k : Int) (w : World) (h0 : -9223372036854775808 ≤ k) (h1 : k < 9223372036854775808) : Calls Try.prog 103 #[.int .i64 k] w fun e w' => e = .returned (.complex .f64 (rtR k) (rtI k)) ∧ w' = w := by
  have hb := Int.emod_nonneg k (show (24 : Int) ≠ 0 by decide)
  have hl := Int.emod_lt_of_pos k (show (0 : Int) < 24 by decide)
  go_enter Try.func103, Try.ntmps103
  go_wp2_with (first
    | (go_at_call 126; refine (within_any _ _ (by omega) (by omega)).mono ?_; rintro e w' ⟨rfl, rfl⟩)
    | (go_at_call 127; refine (tcosine _ _ (by omega) (by omega)).mono ?_; rintro e w' ⟨rfl, rfl⟩))
  go_ret
  exact ⟨retc rfl rfl, rfl⟩

theorem rconst (k : Int) (w : World) (h0 : 0 ≤ k) (h1 : k ≤ 6) : Calls Try.prog 139 #[.int .i64 k] w fun e w' => e = .returned (.float .f64 (cK k)) ∧ Below w.heap.size w w' := by
  have hk : k = 0 ∨ k = 1 ∨ k = 2 ∨ k = 3 ∨ k = 4 ∨ k = 5 ∨ k = 6 := by omega
  rcases hk with rfl | rfl | rfl | rfl | rfl | rfl | rfl
  all_goals
    go_enter Try.func139, Try.ntmps139
    go_wp2
    go_ret
    exact ⟨rfl, (below_self _).alloc (Nat.le_refl _) _⟩
theorem rcosine (k : Int) (w : World) (h0 : -9223372036854775808 ≤ k) (h1 : k < 9223372036854775808) : Calls Try.prog 128 #[.int .i64 k] w fun e w' => e = .returned (.float .f64 (cw (k % 24))) ∧ Below w.heap.size w w' := by
  have ht : k % 24 = if k.tmod 24 < 0 then k.tmod 24 + 24 else k.tmod 24 := by rw [Int.tmod_eq_emod]; split <;> split <;> omega
  have hb := Int.lt_tmod_of_pos k (show (0 : Int) < 24 by decide)
  have hl := Int.tmod_lt_of_pos k (show (0 : Int) < 24 by decide)
  rw [ht]
  clear ht
  obtain ⟨t, hT⟩ : ∃ t, k.tmod 24 = t := ⟨_, rfl⟩
  rw [hT] at hb hl ⊢
  have hk : t = -23 ∨ t = -22 ∨ t = -21 ∨ t = -20 ∨ t = -19 ∨ t = -18 ∨ t = -17 ∨ t = -16 ∨ t = -15 ∨ t = -14 ∨ t = -13 ∨ t = -12 ∨ t = -11 ∨ t = -10 ∨ t = -9 ∨ t = -8 ∨ t = -7 ∨ t = -6 ∨ t = -5 ∨ t = -4 ∨ t = -3 ∨ t = -2 ∨ t = -1 ∨ t = 0 ∨ t = 1 ∨ t = 2 ∨ t = 3 ∨ t = 4 ∨ t = 5 ∨ t = 6 ∨ t = 7 ∨ t = 8 ∨ t = 9 ∨ t = 10 ∨ t = 11 ∨ t = 12 ∨ t = 13 ∨ t = 14 ∨ t = 15 ∨ t = 16 ∨ t = 17 ∨ t = 18 ∨ t = 19 ∨ t = 20 ∨ t = 21 ∨ t = 22 ∨ t = 23 := by omega
  rcases hk with rfl | rfl | rfl | rfl | rfl | rfl | rfl | rfl | rfl | rfl | rfl | rfl | rfl | rfl | rfl | rfl | rfl | rfl | rfl | rfl | rfl | rfl | rfl | rfl | rfl | rfl | rfl | rfl | rfl | rfl | rfl | rfl | rfl | rfl | rfl | rfl | rfl | rfl | rfl | rfl | rfl | rfl | rfl | rfl | rfl | rfl | rfl
  all_goals
    go_enter Try.func128, Try.ntmps128
    go_wp2_with (first | (go_at_call 139; refine (rconst _ _ (by decide) (by decide)).mono ?_; rintro e w' ⟨rfl, hbel⟩))
    go_ret
    first | exact ⟨retf (by kernel_rfl), hbel⟩ | exact ⟨retf (by kernel_rfl), below_self _⟩
theorem rroot_any (k : Int) (w : World) (h0 : -9223372036854775808 ≤ k) (h1 : k < 9223372036854775808) : Calls Try.prog 104 #[.int .i64 k] w fun e w' => e = .returned (.complex .f64 (rtR k) (rtI k)) ∧ Below w.heap.size w w' := by
  have hb := Int.lt_tmod_of_pos k (show (0 : Int) < 24 by decide)
  have hl := Int.tmod_lt_of_pos k (show (0 : Int) < 24 by decide)
  have e1 : k.tmod 24 % 24 = k % 24 := by rw [Int.tmod_eq_emod]; split <;> omega
  have e2 : (k.tmod 24 - 6) % 24 = (k - 6) % 24 := by rw [Int.tmod_eq_emod]; split <;> omega
  have E1 : Hid (cw (k.tmod 24 % 24) = rtR k) := by rw [e1]; rfl
  have E2 : Hid (cw ((k.tmod 24 - 6) % 24) = rtI k) := by rw [e2]; rfl
  clear e1 e2
  go_enter Try.func104, Try.ntmps104
  go_wp2_with (first
    | (go_at_call 128; refine (rcosine _ _ (by omega) (by omega)).mono ?_; rintro e w' ⟨rfl, hbel⟩))
  go_ret
  exact ⟨retc E1.out E2.out, bt (by assumption) (by assumption)⟩

end Go.Proofs.Ytpjpamdocfdibaa
