/-
  awake of the statements, outright.
-/
import Derived.Test.YtjoncbfaajcioaaGreatDoorNpt
import Derived.Test.YtjoncbfaajcioaaGreatDoorQnv
namespace Go.Proofs.YtjoncbfaajcioaaGreatDoor
open Go.Maps Go.RowKit Joins Deep
set_option linter.unusedVariables false
set_option maxRecDepth 100000

theorem ex_prE : ∀ x ∈ exE, PrE x (exX x) := by
  intro x hx
  simp only [exE, List.mem_cons, List.not_mem_nil, or_false] at hx
  rcases hx with rfl | rfl | rfl
  · exact ⟨by decide, by decide, by decide, by decide, by decide, pr_0⟩
  · exact ⟨by decide, by decide, by decide, by decide, by decide, pr_8⟩
  · exact ⟨by decide, by decide, by decide, by decide, by decide, pr_1⟩
theorem awake15 (w : World) (hw : Wow w) : Calls Tryz.prog 20 #[] w fun e w' => e = .returned (.bool true) ∧ Below w.heap.size w w' := awake15_by w hw ex_prE
end Go.Proofs.YtjoncbfaajcioaaGreatDoor
