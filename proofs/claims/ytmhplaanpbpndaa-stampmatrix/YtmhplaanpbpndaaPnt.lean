/-
  A made net's calls that lay nothing: places, branches, Without of no name; a node's place, a branch's row; what is touched at one block alone.
-/
import Derived.Test.YtmhplaanpbpndaaBsd
namespace Go.Proofs.Ytmhplaanpbpndaa
open Fl Go.Maps RowKit Joins Deep
set_option linter.unusedVariables false

/-- a node's place; -1: the ground's -/
def plI (N : Ns) (s : ByteArray) : Int := if bl s ∈ N.nd then (posL N.nd (bl s) : Int) else -1
/-- a branch's row -/
def rwI (N : Ns) (x : Elm) : Int := (N.nd.length : Int) + (posL N.br (bl x.n) : Int)
theorem plI_lo (N : Ns) (s : ByteArray) : -1 ≤ plI N s := by unfold plI; split <;> omega
theorem posL_lt {xs : List (List UInt8)} {s : List UInt8} (h : s ∈ xs) : posL xs s < xs.length := by unfold posL; rw [if_pos h]; exact List.idxOf_lt_length_of_mem h
theorem plI_hi {N : Ns} {s : ByteArray} : plI N s < N.nd.length := by
  unfold plI
  split
  · rename_i h; have := posL_lt h; omega
  · omega
theorem rwI_lo (N : Ns) (x : Elm) : -1 ≤ rwI N x := by unfold rwI; omega
theorem posL_le (xs : List (List UInt8)) (t : List UInt8) : posL xs t ≤ xs.length := by
  by_cases h : t ∈ xs
  · exact Nat.le_of_lt (posL_lt h)
  · unfold posL; rw [if_neg h]; omega
/-- nothing that was there is touched but the block s -/
structure Kp (s : Nat) (w w' : World) : Prop where
  bel : Below s w w'
  ot : ∀ q, q < w.heap.size → q ≠ s → w'.heap[q]? = w.heap[q]?
theorem Kp.refl (s : Nat) (w : World) : Kp s w w := ⟨Below.refl _ _, fun _ _ _ => rfl⟩
theorem Kp.size {s : Nat} {w w' : World} (h : Kp s w w') : w.heap.size ≤ w'.heap.size := h.bel.size
theorem Kp.trans {s : Nat} {a b c : World} (h : Kp s a b) (k : Kp s b c) : Kp s a c := ⟨h.bel.trans k.bel, fun q h1 h2 => (k.ot q (Nat.lt_of_lt_of_le h1 h.size) h2).trans (h.ot q h1 h2)⟩
theorem Kp.of {s : Nat} {w w' : World} (h : Below w.heap.size w w') (hs : s < w.heap.size) : Kp s w w' := ⟨h.mono (Nat.le_of_lt hs), fun q h1 _ => h.block q h1⟩
theorem Kp.dN (s : Nat) (w : World) (m : Nat) : Kp s w (w.drewN m) := ⟨⟨rfl, rfl, rfl, Nat.le_refl _, fun _ _ => rfl⟩, fun _ _ _ => rfl⟩
theorem Kp.setCell {s : Nat} {w w' : World} (h : Kp s w w') (j : Nat) (u : Value) : Kp s w (w'.setCell ⟨s, j, none⟩ u) := ⟨h.bel.setCell (p := ⟨s, j, none⟩) (Nat.le_refl s) u, fun q h1 h2 => (Below.heap_setCell w' ⟨s, j, none⟩ u q h2).trans (h.ot q h1 h2)⟩
theorem plc_made {w : World} {base p : Nat} {N : Ns} {b : Nb} (h : Nt w base p N b) (s : ByteArray) (hs : s.size ≤ 100000) : Calls Try.prog 92 #[.pointer (some ⟨p, 0, none⟩), .string s] w fun e w' => e = .returned (.tuple #[.int .i64 (posL N.nd (bl s)), .bool (decide (bl s ∈ N.nd))]) ∧ w' = w := by
  have c2 := h.nm.c1
  have hpl := place_s w p 3 b.B4 N.nd s hs h.nd.c1 h.nd.mp
  go_enter Try.func92, Try.ntmps92
  go_wp2_with (first | (go_at_call 43; (with_reducible refine (made_yes c2).mono ?_); rintro e1 w1 ⟨rfl, hw1⟩; subst w1) | (go_at_call 19; (with_reducible refine hpl.mono ?_); rintro e2 w2 ⟨rfl, hw2⟩; subst w2))
  go_ret2
  exact ⟨rfl, rfl⟩
theorem brn_made {w : World} {base p : Nat} {N : Ns} {b : Nb} (h : Nt w base p N b) (s : ByteArray) (hs : s.size ≤ 100000) : Calls Try.prog 96 #[.pointer (some ⟨p, 0, none⟩), .string s] w fun e w' => e = .returned (.tuple #[.int .i64 (posL N.br (bl s)), .bool (decide (bl s ∈ N.br))]) ∧ w' = w := by
  have c2 := h.nm.c1
  have hpl := place_s w p 5 b.B6 N.br s hs h.br.c1 h.br.mp
  go_enter Try.func96, Try.ntmps96
  go_wp2_with (first | (go_at_call 43; (with_reducible refine (made_yes c2).mono ?_); rintro e1 w1 ⟨rfl, hw1⟩; subst w1) | (go_at_call 19; (with_reducible refine hpl.mono ?_); rintro e2 w2 ⟨rfl, hw2⟩; subst w2))
  go_ret2
  exact ⟨rfl, rfl⟩
theorem wto_made {w : World} {base p : Nat} {N : Ns} {b : Nb} (h : Nt w base p N b) (hn : bl ⟨#[]⟩ ∉ N.nm) : Calls Try.prog 49 #[.pointer (some ⟨p, 0, none⟩), .string ⟨#[]⟩] w fun e w' => e = .returned (.tuple #[.pointer none, .int .i64 10]) ∧ w' = w := by
  have c2 := h.nm.c1
  have hpl := place_s w p 1 b.B2 N.nm ⟨#[]⟩ (by decide) c2 h.nm.mp
  rw [show decide (bl ⟨#[]⟩ ∈ N.nm) = false from decide_eq_false hn] at hpl
  go_enter Try.func49, Try.ntmps49
  go_wp2_with (first | (go_at_call 43; (with_reducible refine (made_yes c2).mono ?_); rintro e1 w1 ⟨rfl, hw1⟩; subst w1) | (go_at_call 19; (with_reducible refine hpl.mono ?_); rintro e2 w2 ⟨rfl, hw2⟩; subst w2))
  go_ret2
  exact ⟨rfl, rfl⟩
end Go.Proofs.Ytmhplaanpbpndaa
