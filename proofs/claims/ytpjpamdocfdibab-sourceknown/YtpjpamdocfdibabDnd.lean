/-
  The document's net in memory: Order, places.
-/
import Derived.Test.YtpjpamdocfdibabDnc
namespace Go.Proofs.Ytpjpamdocfdibab
open Go.Maps Go.RowKit
set_option linter.unusedVariables false
set_option maxRecDepth 100000

theorem posL_step {xs : List (List UInt8)} {s y : List UInt8} {j : Nat} (h : s ∉ xs.take j) (hy : xs[j]? = some y) (hys : y = s) : posL xs s = j ∧ s ∈ xs := by
  obtain ⟨hj, hv⟩ := List.getElem?_eq_some_iff.1 hy
  have hm : s ∈ xs := by rw [← hys, ← hv]; exact List.getElem_mem hj
  refine ⟨?_, hm⟩
  unfold posL
  rw [if_pos hm]
  have e : xs = xs.take j ++ s :: xs.drop (j + 1) := by
    rw [← hys, ← hv]
    exact (List.take_append_drop j xs).symm.trans (by rw [List.drop_eq_getElem_cons hj])
  have hl : (xs.take j).length = j := by rw [List.length_take]; omega
  rw [e, List.idxOf_append, if_neg h, List.idxOf_cons_self, hl, Nat.zero_add]
end Go.Proofs.Ytpjpamdocfdibab
