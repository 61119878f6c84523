/-
  The document's net in memory: Nodes.
-/
import Derived.Test.YtpjpamdocfdibabDnb
import Derived.BigQuiet
import Derived.Deep.QuietTactic
namespace Go.Proofs.Ytpjpamdocfdibab
open Go.Maps Go.RowKit
set_option linter.unusedVariables false
set_option maxRecDepth 100000

theorem ndR_take {l : List Elm} {i : Nat} {x : Elm} (hx : l[i]? = some x) : ndR (l.take (i + 1)) = ndE (ndR (l.take i)) x := by rw [take_snoc hx, ndR_snoc]
theorem ndR_len : ∀ (l : List Elm), (ndR l).length ≤ 4 * l.length := snoc_rec (P := fun l => (ndR l).length ≤ 4 * l.length) (Nat.zero_le _) (fun l x ih => by
  show (ndR (l ++ [x])).length ≤ _
  rw [ndR_snoc]
  have := ndE_len (ndR l) x
  simp only [List.length_append, List.length_cons, List.length_nil]
  omega)
/-- four texts in a block -/
def Four (W : World) (q : Nat) (x : Elm) : Prop := W.heap[q]? = some (.cells #[.string x.a, .string x.b, .string x.c, .string x.d] 9 (0, 0))
theorem Four.at {W : World} {q k : Nat} {x : Elm} (h : Four W q x) (hk : k < 4) : W.cell? ⟨q, k, none⟩ = some (.string ⟨(bl (nod x k)).toArray⟩) := by
  rw [cell_of_row W q k _ _ (0, 0) h]
  rcases (by omega : k = 0 ∨ k = 1 ∨ k = 2 ∨ k = 3) with rfl | rfl | rfl | rfl <;> rfl
def hasN (xs : List (List UInt8)) (s : List UInt8) (j : Nat) : Bool := decide (s ∈ xs.take j)
theorem hasN_next {xs : List (List UInt8)} {s y : List UInt8} {j : Nat} (hy : xs[j]? = some y) : hasN xs s (j + 1) = (hasN xs s j || (y == s)) := by
  unfold hasN
  rw [List.take_add_one, hy]
  by_cases h1 : s ∈ xs.take j
  · simp [h1]
  · by_cases h2 : y = s
    · subst h2; simp [h1]
    · have h3 : ¬ s = y := fun e => h2 e.symm
      simp [h1, h2, h3]
end Go.Proofs.Ytpjpamdocfdibab
