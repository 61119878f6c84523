/-
  What the functions of package parts, and the same of gridworkref02, hand back, whatever they are called with: each by one function on answers.
-/
import Derived.Test.YtnmibhgfcepddaaBt
namespace Go.Proofs.Ytnmibhgfcepddaa
open Fl

theorem retc {a b c d : Nat} (h : a = b) (h2 : c = d) : Ending.returned (.complex .f64 a c) = .returned (.complex .f64 b d) := by rw [h, h2]

theorem natCast_beq (a b : Nat) : ((a : Int) == (b : Int)) = (a == b) := by rw [Bool.eq_iff_iff]; simp; omega

section small
variable (a b c d : Nat) (w : World)
theorem apart_any : Calls Try.prog 43 #[.complex .f64 a b] w fun e w' => e = .returned (.tuple #[.float .f64 a, .float .f64 b]) ∧ w' = w := by
  go_enter Try.func43, Try.ntmps43
  go_wp2
  go_ret2
  exact ⟨rfl, rfl⟩
theorem of_any : Calls Try.prog 54 #[.float .f64 a, .float .f64 b] w fun e w' => e = .returned (.complex .f64 a b) ∧ w' = w := by
  go_enter Try.func54, Try.ntmps54
  go_wp2
  go_ret
  exact ⟨rfl, rfl⟩
theorem rsameR_any : Calls Try.prog 22 #[.float .f64 a, .float .f64 b] w fun e w' => e = .returned (.bool (smB a b)) ∧ w' = w := by
  cases ha : nan a <;> cases hb : nan b
  all_goals
    first | (have h1 := order_num ha) | (have h1 := order_nan ha)
    first | (have h2 := order_num hb) | (have h2 := order_nan hb)
    go_enter Try.func22, Try.ntmps22
    go_wp2
    go_ret
    refine ⟨retb ?_, rfl⟩
    simp only [smB, ha, hb]
    first
      | rfl
      | exact natCast_beq a b
      | (rw [natCast_beq]; cases hq : a == b with
         | false => rfl
         | true => rw [eq_of_beq hq] at ha; rw [ha] at hb; cases hb)
theorem rsame_any : Calls Try.prog 17 #[.complex .f64 a b, .complex .f64 c d] w fun e w' => e = .returned (.bool (smB a c && smB b d)) ∧ w' = w := by
  cases h1 : smB a c <;> cases h2 : smB b d
  all_goals
    go_enter Try.func17, Try.ntmps17
    go_wp2_with (first | (go_at_call 22; refine (rsameR_any _ _ _).mono ?_; rintro e w' ⟨rfl, rfl⟩))
    go_ret
    exact ⟨rfl, rfl⟩
theorem fin_any (ha : a < 18446744073709551616) (hb : b < 18446744073709551616) : Calls Try.prog 51 #[.complex .f64 a b] w fun e w' => e = .returned (.bool (finB a && finB b)) ∧ w' = w := by
  cases h1 : finB a <;> cases h2 : finB b
  all_goals
    go_enter Try.func51, Try.ntmps51
    go_wp2_with (first | (go_at_call 62; refine (finite_any _ _ (by assumption)).mono ?_; rintro e w' ⟨rfl, rfl⟩))
    go_ret
    exact ⟨rfl, rfl⟩
end small

end Go.Proofs.Ytnmibhgfcepddaa
