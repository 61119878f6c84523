/-
  What the functions of package parts, and the same of gridworkref02, hand back, whatever they are called with: each by one function on answers.
-/
import Derived.Test.YtjjpgmgnejhggaaBt
namespace Go.Proofs.Ytjjpgmgnejhggaa
open Fl

theorem retc {a b c d : Nat} (h : a = b) (h2 : c = d) : Ending.returned (.complex .f64 a c) = .returned (.complex .f64 b d) := by rw [h, h2]

theorem natCast_beq (a b : Nat) : ((a : Int) == (b : Int)) = (a == b) := by rw [Bool.eq_iff_iff]; simp; omega

section small
variable (a b c d : Nat) (w : World)
theorem apart_any : Calls Try.prog 102 #[.complex .f64 a b] w fun e w' => e = .returned (.tuple #[.float .f64 a, .float .f64 b]) ∧ w' = w := by
  go_enter Try.func102, Try.ntmps102
  go_wp2
  go_ret2
  exact ⟨rfl, rfl⟩
theorem of_any : Calls Try.prog 110 #[.float .f64 a, .float .f64 b] w fun e w' => e = .returned (.complex .f64 a b) ∧ w' = w := by
  go_enter Try.func110, Try.ntmps110
  go_wp2
  go_ret
  exact ⟨rfl, rfl⟩
theorem sameR_any : Calls Try.prog 103 #[.float .f64 a, .float .f64 b] w fun e w' => e = .returned (.bool (smB a b)) ∧ w' = w := by
  cases ha : nan a <;> cases hb : nan b
  all_goals
    first | (have h1 := order_num ha) | (have h1 := order_nan ha)
    first | (have h2 := order_num hb) | (have h2 := order_nan hb)
    go_enter Try.func103, Try.ntmps103
    go_wp2
    go_ret
    refine ⟨retb ?_, rfl⟩
    simp [smB, ha, hb]
    try exact natCast_beq a b
theorem rsameR_any : Calls Try.prog 112 #[.float .f64 a, .float .f64 b] w fun e w' => e = .returned (.bool (smB a b)) ∧ w' = w := by
  cases ha : nan a <;> cases hb : nan b
  all_goals
    first | (have h1 := order_num ha) | (have h1 := order_nan ha)
    first | (have h2 := order_num hb) | (have h2 := order_nan hb)
    go_enter Try.func112, Try.ntmps112
    go_wp2
    go_ret
    refine ⟨retb ?_, rfl⟩
    simp only [smB, ha, hb]
    first
      | rfl
      | exact natCast_beq a b
      | (rw [natCast_beq]; cases hq : a == b with
         | false => rfl
         | true => rw [eq_of_beq hq] at ha; rw [ha] at hb; cases hb)
theorem same_any : Calls Try.prog 57 #[.complex .f64 a b, .complex .f64 c d] w fun e w' => e = .returned (.bool (smB a c && smB b d)) ∧ w' = w := by
  cases h1 : smB a c <;> cases h2 : smB b d
  all_goals
    go_enter Try.func57, Try.ntmps57
    go_wp2_with (first | (go_at_call 103; refine (sameR_any _ _ _).mono ?_; rintro e w' ⟨rfl, rfl⟩))
    go_ret
    exact ⟨rfl, rfl⟩
theorem rsame_any : Calls Try.prog 84 #[.complex .f64 a b, .complex .f64 c d] w fun e w' => e = .returned (.bool (smB a c && smB b d)) ∧ w' = w := by
  cases h1 : smB a c <;> cases h2 : smB b d
  all_goals
    go_enter Try.func84, Try.ntmps84
    go_wp2_with (first | (go_at_call 112; refine (rsameR_any _ _ _).mono ?_; rintro e w' ⟨rfl, rfl⟩))
    go_ret
    exact ⟨rfl, rfl⟩
theorem equal_any : Calls Try.prog 86 #[.complex .f64 a b, .complex .f64 c d] w fun e w' => e = .returned (.bool (eqB a c && eqB b d)) ∧ w' = w := by
  cases h1 : eqB a c <;> cases h2 : eqB b d
  all_goals
    have k1 := h1
    have k2 := h2
    unfold eqB at k1 k2
    go_enter Try.func86, Try.ntmps86
    go_wp2
    go_ret
    exact ⟨rfl, rfl⟩
end small

end Go.Proofs.Ytjjpgmgnejhggaa
