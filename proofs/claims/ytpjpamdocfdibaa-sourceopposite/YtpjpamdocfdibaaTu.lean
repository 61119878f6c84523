/-
  What the calls of package turns that go round the circle, and the same of gridworkref04, hand back: the words of the 24 cosines.
-/
import Derived.Test.YtpjpamdocfdibaaBsa
namespace Go.Proofs.Ytpjpamdocfdibaa
open Fl RowKit

/-- The word of the cosine of k steps, 0 to 6; of 0 to 23. -/
def cK (k : Int) : Nat := if k = 0 then 4607182418800017408 else if k = 1 then 4606875505927962389 else if k = 2 then 4605975682916830378 else if k = 3 then 4604544271217802189 else if k = 4 then 4602678819172646912 else if k = 5 then 4598334089338226320 else 0
def cw (k : Int) : Nat := if k ≤ 6 then cK k else if k ≤ 12 then ngW (cK (12 - k)) else if k < 18 then ngW (cK (k - 12)) else cK (24 - k)

theorem nf0 : Op.negFloat .f64 4607182418800017408 = 13830554455654793216 := by kernel_rfl
theorem nf1 : Op.negFloat .f64 4606875505927962389 = 13830247542782738197 := by kernel_rfl
theorem nf2 : Op.negFloat .f64 4605975682916830378 = 13829347719771606186 := by kernel_rfl
theorem nf3 : Op.negFloat .f64 4604544271217802189 = 13827916308072577997 := by kernel_rfl
theorem nf4 : Op.negFloat .f64 4602678819172646912 = 13826050856027422720 := by kernel_rfl
theorem nf5 : Op.negFloat .f64 4598334089338226320 = 13821706126193002128 := by kernel_rfl

theorem tconst_bits (k : Int) (w : World) (h0 : 0 ≤ k) (h1 : k ≤ 6) : Calls Try.prog 142 #[.int .i64 k] w fun e w' => e = .returned (.int .u64 ((cK k : Nat) : Int)) ∧ w' = w := by
  have hk : k = 0 ∨ k = 1 ∨ k = 2 ∨ k = 3 ∨ k = 4 ∨ k = 5 ∨ k = 6 := by omega
  rcases hk with rfl | rfl | rfl | rfl | rfl | rfl | rfl
  all_goals
    go_enter Try.func142, Try.ntmps142
    go_wp2
    go_ret
    exact ⟨rfl, rfl⟩
theorem tconst (k : Int) (w : World) (h0 : 0 ≤ k) (h1 : k ≤ 6) : Calls Try.prog 138 #[.int .i64 k] w fun e w' => e = .returned (.float .f64 (cK k)) ∧ w' = w := by
  go_enter Try.func138, Try.ntmps138
  go_wp2_with (first | (go_at_call 142; refine (tconst_bits _ _ h0 h1).mono ?_; rintro e w' ⟨rfl, rfl⟩))
  go_ret
  exact ⟨rfl, rfl⟩
theorem tcosine (k : Int) (w : World) (h0 : 0 ≤ k) (h1 : k < 24) : Calls Try.prog 127 #[.int .i64 k] w fun e w' => e = .returned (.float .f64 (cw k)) ∧ w' = w := by
  have hk : k = 0 ∨ k = 1 ∨ k = 2 ∨ k = 3 ∨ k = 4 ∨ k = 5 ∨ k = 6 ∨ k = 7 ∨ k = 8 ∨ k = 9 ∨ k = 10 ∨ k = 11 ∨ k = 12 ∨ k = 13 ∨ k = 14 ∨ k = 15 ∨ k = 16 ∨ k = 17 ∨ k = 18 ∨ k = 19 ∨ k = 20 ∨ k = 21 ∨ k = 22 ∨ k = 23 := by omega
  rcases hk with rfl | rfl | rfl | rfl | rfl | rfl | rfl | rfl | rfl | rfl | rfl | rfl | rfl | rfl | rfl | rfl | rfl | rfl | rfl | rfl | rfl | rfl | rfl | rfl
  all_goals
    go_enter Try.func127, Try.ntmps127
    go_wp2_with (first | (go_at_call 138; refine (tconst _ _ (by decide) (by decide)).mono ?_; rintro e w' ⟨rfl, rfl⟩))
    go_ret
    exact ⟨retf (by kernel_rfl), rfl⟩

end Go.Proofs.Ytpjpamdocfdibaa
