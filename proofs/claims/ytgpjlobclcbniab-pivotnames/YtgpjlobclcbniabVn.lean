/-
  What Numbers of the given package gridworkkit hands back: the numbers of their bits, in new memory.
-/
import Derived.Test.YtgpjlobclcbniabVk
namespace Go.Proofs.Ytgpjlobclcbniab
open Fl RowKit

/-- what a list of pairs of words in memory reads as -/
def Rz (w : World) (ao : Option Addr) (xs : List Cw) : Prop :=
  ∀ k, k < xs.length → ∃ b off, ao = some ⟨b, off, none⟩ ∧ b < w.heap.size ∧ w.cell? ⟨b, off + k * 2, none⟩ = some (.int .u64 (((zat xs k).1 : Nat) : Int)) ∧ w.cell? ⟨b, off + k * 2 + 1, none⟩ = some (.int .u64 (((zat xs k).2 : Nat) : Int))
theorem Rz.below {w w' : World} {ao : Option Addr} {xs : List Cw} (h : Rz w ao xs) (hb : Below w.heap.size w w') : Rz w' ao xs := by
  intro k hk
  obtain ⟨b, off, h1, h2, h3, h4⟩ := h k hk
  exact ⟨b, off, h1, Nat.lt_of_lt_of_le h2 hb.size, (hb.cell (by exact h2)).trans h3, (hb.cell (by exact h2)).trans h4⟩
theorem own_drew {w : World} {base e size n : Nat} {v : Value} {xs : List Value} (h : w.ownsRow base e size v n xs) : w.drew.ownsRow base e size v n xs := h
theorem take_snocZ (l : List Cw) (k : Nat) (h : k < l.length) : l.take (k + 1) = l.take k ++ [zat l k] := by
  rw [List.take_succ_eq_append_getElem h]; simp [zat, List.getD_eq_getElem?_getD, h]
end Go.Proofs.Ytgpjlobclcbniab
