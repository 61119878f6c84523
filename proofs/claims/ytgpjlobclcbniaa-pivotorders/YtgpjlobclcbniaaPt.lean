/-
  What the functions of package parts, and the same of gridworkref02, hand back, whatever they are called with: each by one function on answers.
-/
import Derived.Test.YtgpjlobclcbniaaBt
namespace Go.Proofs.Ytgpjlobclcbniaa
open Fl

theorem retc {a b c d : Nat} (h : a = b) (h2 : c = d) : Ending.returned (.complex .f64 a c) = .returned (.complex .f64 b d) := by rw [h, h2]

theorem natCast_beq (a b : Nat) : ((a : Int) == (b : Int)) = (a == b) := by rw [Bool.eq_iff_iff]; simp; omega

section small
variable (a b c d : Nat) (w : World)
theorem apart_any : Calls Try.prog 59 #[.complex .f64 a b] w fun e w' => e = .returned (.tuple #[.float .f64 a, .float .f64 b]) ∧ w' = w := by
  go_enter Try.func59, Try.ntmps59
  go_wp2
  go_ret2
  exact ⟨rfl, rfl⟩
theorem rsameR_any : Calls Try.prog 21 #[.float .f64 a, .float .f64 b] w fun e w' => e = .returned (.bool (smB a b)) ∧ w' = w := by
  cases ha : nan a <;> cases hb : nan b
  all_goals
    first | (have h1 := order_num ha) | (have h1 := order_nan ha)
    first | (have h2 := order_num hb) | (have h2 := order_nan hb)
    go_enter Try.func21, Try.ntmps21
    go_wp2
    go_ret
    refine ⟨retb ?_, rfl⟩
    simp only [smB, ha, hb]
    first
      | rfl
      | exact natCast_beq a b
      | (rw [natCast_beq]; cases hq : a == b with
         | false => rfl
         | true => rw [eq_of_beq hq] at ha; rw [ha] at hb; cases hb)
theorem equal_any : Calls Try.prog 32 #[.complex .f64 a b, .complex .f64 c d] w fun e w' => e = .returned (.bool (eqB a c && eqB b d)) ∧ w' = w := by
  cases h1 : eqB a c <;> cases h2 : eqB b d
  all_goals
    have k1 := h1
    have k2 := h2
    unfold eqB at k1 k2
    go_enter Try.func32, Try.ntmps32
    go_wp2
    go_ret
    exact ⟨rfl, rfl⟩
theorem rzero_any : Calls Try.prog 46 #[.complex .f64 a b] w fun e w' => e = .returned (.bool (eqB a 0 && eqB b 0)) ∧ w' = w := by
  cases h1 : eqB a 0 <;> cases h2 : eqB b 0
  all_goals
    have k1 := h1
    have k2 := h2
    unfold eqB at k1 k2
    go_enter Try.func46, Try.ntmps46
    go_wp2
    go_ret
    exact ⟨rfl, rfl⟩
theorem fin_any (ha : a < 18446744073709551616) (hb : b < 18446744073709551616) : Calls Try.prog 50 #[.complex .f64 a b] w fun e w' => e = .returned (.bool (finB a && finB b)) ∧ w' = w := by
  cases h1 : finB a <;> cases h2 : finB b
  all_goals
    go_enter Try.func50, Try.ntmps50
    go_wp2_with (first | (go_at_call 66; refine (finite_any _ _ (by assumption)).mono ?_; rintro e w' ⟨rfl, rfl⟩))
    go_ret
    exact ⟨rfl, rfl⟩
end small

end Go.Proofs.Ytgpjlobclcbniaa
