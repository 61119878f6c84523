/-
  What the given package gridworkkit says of numbers and lists of them: the same, equal, finite, read by their bits.
-/
import Derived.Test.YtgpjlobclcbniabVh
namespace Go.Proofs.Ytgpjlobclcbniab
open Fl RowKit

def finZ (z : Cw) : Bool := finB z.1 && finB z.2
/-- are the first k numbers finite? -/
def finL (xs : List Cw) : Nat → Bool
  | 0 => true
  | k + 1 => finL xs k && finZ (zat xs k)
theorem finL_at {xs : List Cw} {n : Nat} (h : finL xs n = true) : ∀ j, j < n → finZ (zat xs j) = true := by
  induction n with
  | zero => intro j hj; omega
  | succ n ih =>
    unfold finL at h
    rw [Bool.and_eq_true] at h
    intro j hj
    by_cases e : j = n
    · subst e; exact h.2
    · exact ih h.1 j (by omega)
theorem finL_lt {xs : List Cw} {k : Nat} (hf : finZ (zat xs k) = false) : ∀ n, k < n → finL xs n = false := by
  intro n
  induction n with
  | zero => intro _; omega
  | succ n ih =>
    intro hk
    unfold finL
    by_cases e : k = n
    · subst e; rw [hf, Bool.and_false]
    · rw [ih (by omega), Bool.false_and]
end Go.Proofs.Ytgpjlobclcbniab
