/-
  What the calls of package turns that go round the circle, and the same of gridworkref04, hand back: the words of the 24 cosines.
-/
import Derived.Test.YtmhplaanpbpndaaBsa
namespace Go.Proofs.Ytmhplaanpbpndaa
open Fl RowKit

/-- The word of the cosine of k steps, 0 to 6; of 0 to 23. -/
def cK (k : Int) : Nat := if k = 0 then 4607182418800017408 else if k = 1 then 4606875505927962389 else if k = 2 then 4605975682916830378 else if k = 3 then 4604544271217802189 else if k = 4 then 4602678819172646912 else if k = 5 then 4598334089338226320 else 0
def cw (k : Int) : Nat := if k ≤ 6 then cK k else if k ≤ 12 then ngW (cK (12 - k)) else if k < 18 then ngW (cK (k - 12)) else cK (24 - k)

theorem nf0 : Op.negFloat .f64 4607182418800017408 = 13830554455654793216 := by kernel_rfl
theorem nf1 : Op.negFloat .f64 4606875505927962389 = 13830247542782738197 := by kernel_rfl
theorem nf2 : Op.negFloat .f64 4605975682916830378 = 13829347719771606186 := by kernel_rfl
theorem nf3 : Op.negFloat .f64 4604544271217802189 = 13827916308072577997 := by kernel_rfl
theorem nf4 : Op.negFloat .f64 4602678819172646912 = 13826050856027422720 := by kernel_rfl
theorem nf5 : Op.negFloat .f64 4598334089338226320 = 13821706126193002128 := by kernel_rfl

end Go.Proofs.Ytmhplaanpbpndaa
namespace Go.Proofs.Ytmhplaanpbpndaa
open Fl RowKit
set_option linter.unusedVariables false

/-- The parts of the number at k steps. -/
def rtR (k : Int) : Nat := cw (k % 24)
def rtI (k : Int) : Nat := cw ((k - 6) % 24)
end Go.Proofs.Ytmhplaanpbpndaa
namespace Go.Proofs.Ytmhplaanpbpndaa
open Fl RowKit

theorem ksameR_any (a b : Nat) (w : World) : Calls Try.prog 64 #[.float .f64 a, .float .f64 b] w fun e w' => e = .returned (.bool (smB a b)) ∧ w' = w := by
  by_cases hab : a = b
  · subst hab
    rw [smB_self]
    go_enter Try.func64, Try.ntmps64
    go_wp2
    go_ret
    exact ⟨rfl, rfl⟩
  · have hne : ¬ ((a : Int) = (b : Int)) := by omega
    have hnb : (a == b) = false := beq_false_of_ne hab
    cases ha : nan a <;> cases hb : nan b
    all_goals
      first | (have h1 := order_num ha) | (have h1 := order_nan ha)
      first | (have h2 := order_num hb) | (have h2 := order_nan hb)
      go_enter Try.func64, Try.ntmps64
      go_wp2
      go_ret
      refine ⟨retb ?_, rfl⟩
      simp [smB, ha, hb, hnb]
      try exact hne
theorem ksame_any (a b c d : Nat) (w : World) : Calls Try.prog 36 #[.complex .f64 a b, .complex .f64 c d] w fun e w' => e = .returned (.bool (smB a c && smB b d)) ∧ w' = w := by
  cases h1 : smB a c <;> cases h2 : smB b d
  all_goals
    go_enter Try.func36, Try.ntmps36
    go_wp2_with (first | (go_at_call 64; refine (ksameR_any _ _ _).mono ?_; rintro e w' ⟨rfl, rfl⟩))
    go_ret
    exact ⟨rfl, rfl⟩

end Go.Proofs.Ytmhplaanpbpndaa
