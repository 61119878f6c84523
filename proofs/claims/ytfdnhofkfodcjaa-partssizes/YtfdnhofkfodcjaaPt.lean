/-
  What the functions of package parts, and the same of gridworkref02, hand back, whatever they are called with: each by one function on answers.
-/
import Derived.Test.YtfdnhofkfodcjaaBt
namespace Go.Proofs.Ytfdnhofkfodcjaa
open Fl

theorem retc {a b c d : Nat} (h : a = b) (h2 : c = d) : Ending.returned (.complex .f64 a c) = .returned (.complex .f64 b d) := by rw [h, h2]

theorem natCast_beq (a b : Nat) : ((a : Int) == (b : Int)) = (a == b) := by rw [Bool.eq_iff_iff]; simp; omega

section small
variable (a b c d : Nat) (w : World)
theorem apart_any : Calls Try.prog 73 #[.complex .f64 a b] w fun e w' => e = .returned (.tuple #[.float .f64 a, .float .f64 b]) ∧ w' = w := by
  go_enter Try.func73, Try.ntmps73
  go_wp2
  go_ret2
  exact ⟨rfl, rfl⟩
theorem of_any : Calls Try.prog 74 #[.float .f64 a, .float .f64 b] w fun e w' => e = .returned (.complex .f64 a b) ∧ w' = w := by
  go_enter Try.func74, Try.ntmps74
  go_wp2
  go_ret
  exact ⟨rfl, rfl⟩
theorem sameR_any : Calls Try.prog 70 #[.float .f64 a, .float .f64 b] w fun e w' => e = .returned (.bool (smB a b)) ∧ w' = w := by
  cases ha : nan a <;> cases hb : nan b
  all_goals
    first | (have h1 := order_num ha) | (have h1 := order_nan ha)
    first | (have h2 := order_num hb) | (have h2 := order_nan hb)
    go_enter Try.func70, Try.ntmps70
    go_wp2
    go_ret
    refine ⟨retb ?_, rfl⟩
    simp [smB, ha, hb]
    try exact natCast_beq a b
theorem rsameR_any : Calls Try.prog 46 #[.float .f64 a, .float .f64 b] w fun e w' => e = .returned (.bool (smB a b)) ∧ w' = w := by
  cases ha : nan a <;> cases hb : nan b
  all_goals
    first | (have h1 := order_num ha) | (have h1 := order_nan ha)
    first | (have h2 := order_num hb) | (have h2 := order_nan hb)
    go_enter Try.func46, Try.ntmps46
    go_wp2
    go_ret
    refine ⟨retb ?_, rfl⟩
    simp only [smB, ha, hb]
    first
      | rfl
      | exact natCast_beq a b
      | (rw [natCast_beq]; cases hq : a == b with
         | false => rfl
         | true => rw [eq_of_beq hq] at ha; rw [ha] at hb; cases hb)
theorem same_any : Calls Try.prog 19 #[.complex .f64 a b, .complex .f64 c d] w fun e w' => e = .returned (.bool (smB a c && smB b d)) ∧ w' = w := by
  cases h1 : smB a c <;> cases h2 : smB b d
  all_goals
    go_enter Try.func19, Try.ntmps19
    go_wp2_with (first | (go_at_call 70; refine (sameR_any _ _ _).mono ?_; rintro e w' ⟨rfl, rfl⟩))
    go_ret
    exact ⟨rfl, rfl⟩
theorem rsame_any : Calls Try.prog 20 #[.complex .f64 a b, .complex .f64 c d] w fun e w' => e = .returned (.bool (smB a c && smB b d)) ∧ w' = w := by
  cases h1 : smB a c <;> cases h2 : smB b d
  all_goals
    go_enter Try.func20, Try.ntmps20
    go_wp2_with (first | (go_at_call 46; refine (rsameR_any _ _ _).mono ?_; rintro e w' ⟨rfl, rfl⟩))
    go_ret
    exact ⟨rfl, rfl⟩
theorem lsame_any : Calls Try.prog 27 #[.complex .f64 a b, .complex .f64 c d] w fun e w' => e = .returned (.bool (smB a c && smB b d)) ∧ w' = w := by
  go_enter Try.func27, Try.ntmps27
  go_wp2_with (first | (go_at_call 20; refine (rsame_any _ _ _ _ _).mono ?_; rintro e w' ⟨rfl, rfl⟩))
  go_ret
  exact ⟨rfl, rfl⟩
theorem equal_any : Calls Try.prog 21 #[.complex .f64 a b, .complex .f64 c d] w fun e w' => e = .returned (.bool (eqB a c && eqB b d)) ∧ w' = w := by
  cases h1 : eqB a c <;> cases h2 : eqB b d
  all_goals
    have k1 := h1
    have k2 := h2
    unfold eqB at k1 k2
    go_enter Try.func21, Try.ntmps21
    go_wp2
    go_ret
    exact ⟨rfl, rfl⟩
theorem requal_any : Calls Try.prog 22 #[.complex .f64 a b, .complex .f64 c d] w fun e w' => e = .returned (.bool (eqB a c && eqB b d)) ∧ w' = w := by
  cases h1 : eqB a c <;> cases h2 : eqB b d
  all_goals
    have k1 := h1
    have k2 := h2
    unfold eqB at k1 k2
    go_enter Try.func22, Try.ntmps22
    go_wp2
    go_ret
    exact ⟨rfl, rfl⟩
theorem zero_any : Calls Try.prog 25 #[.complex .f64 a b] w fun e w' => e = .returned (.bool (eqB a 0 && eqB b 0)) ∧ w' = w := by
  cases h1 : eqB a 0 <;> cases h2 : eqB b 0
  all_goals
    have k1 := h1
    have k2 := h2
    unfold eqB at k1 k2
    go_enter Try.func25, Try.ntmps25
    go_wp2
    go_ret
    exact ⟨rfl, rfl⟩
theorem rzero_any : Calls Try.prog 26 #[.complex .f64 a b] w fun e w' => e = .returned (.bool (eqB a 0 && eqB b 0)) ∧ w' = w := by
  cases h1 : eqB a 0 <;> cases h2 : eqB b 0
  all_goals
    have k1 := h1
    have k2 := h2
    unfold eqB at k1 k2
    go_enter Try.func26, Try.ntmps26
    go_wp2
    go_ret
    exact ⟨rfl, rfl⟩
theorem fin_any (ha : a < 18446744073709551616) (hb : b < 18446744073709551616) : Calls Try.prog 23 #[.complex .f64 a b] w fun e w' => e = .returned (.bool (finB a && finB b)) ∧ w' = w := by
  cases h1 : finB a <;> cases h2 : finB b
  all_goals
    go_enter Try.func23, Try.ntmps23
    go_wp2_with (first | (go_at_call 71; refine (finite_any _ _ (by assumption)).mono ?_; rintro e w' ⟨rfl, rfl⟩))
    go_ret
    exact ⟨rfl, rfl⟩
end small

end Go.Proofs.Ytfdnhofkfodcjaa
