/-
  What gridworkkit's SameReal, SameNumber and Pick hand back.
-/
import Derived.Test.YtpjpamdocfdibaaBsa
namespace Go.Proofs.Ytpjpamdocfdibaa
open Fl RowKit

theorem ksameR_any (a b : Nat) (w : World) : Calls Try.prog 58 #[.float .f64 a, .float .f64 b] w fun e w' => e = .returned (.bool (smB a b)) ∧ w' = w := by
  by_cases hab : a = b
  · subst hab
    rw [smB_self]
    go_enter Try.func58, Try.ntmps58
    go_wp2
    go_ret
    exact ⟨rfl, rfl⟩
  · have hne : ¬ ((a : Int) = (b : Int)) := by omega
    have hnb : (a == b) = false := beq_false_of_ne hab
    cases ha : nan a <;> cases hb : nan b
    all_goals
      first | (have h1 := order_num ha) | (have h1 := order_nan ha)
      first | (have h2 := order_num hb) | (have h2 := order_nan hb)
      go_enter Try.func58, Try.ntmps58
      go_wp2
      go_ret
      refine ⟨retb ?_, rfl⟩
      simp [smB, ha, hb, hnb]
      try exact hne
theorem ksame_any (a b c d : Nat) (w : World) : Calls Try.prog 24 #[.complex .f64 a b, .complex .f64 c d] w fun e w' => e = .returned (.bool (smB a c && smB b d)) ∧ w' = w := by
  cases h1 : smB a c <;> cases h2 : smB b d
  all_goals
    go_enter Try.func24, Try.ntmps24
    go_wp2_with (first | (go_at_call 58; refine (ksameR_any _ _ _).mono ?_; rintro e w' ⟨rfl, rfl⟩))
    go_ret
    exact ⟨rfl, rfl⟩

end Go.Proofs.Ytpjpamdocfdibaa
