/-
  What CopyNumbers, LentNumbers, KeptNumbers and OverNumbers of the given package gridworkkit hand back, and which memory they leave.
-/
import Derived.Test.YtgpjlobclcbniabWVMirror
namespace Go.Proofs.Ytgpjlobclcbniab
open Fl RowKit

/-- a mark -/
def mkO (k i : Int) : Option Nat := subO (floatOfInt .f64 (-1000 * k - i)) 4620130267728707584
def mk1 (k i : Int) : Nat := (mkO k i).getD 0
def mk (k i : Int) : Cw := (mk1 k i, floatOfInt .f64 k)
theorem int_not_nan (n : Int) : nan (floatOfInt .f64 n) = false := nearest_not_nan _ _ _
theorem sub_some {x y : Nat} (hx : nan x = false) (hy : fin y) : ∃ r, subO x y = some r := by
  unfold subO Ieee.Format.sub
  rw [read_fin y hy]
  rcases kinds x with h | h | h
  · rw [read_fin x h]; exact ⟨_, rfl⟩
  · rw [read_inf x h]; exact ⟨_, rfl⟩
  · rw [h] at hx; cases hx
theorem mk_some (k i : Int) : mkO k i = some (mk1 k i) := by
  obtain ⟨r, h⟩ := sub_some (int_not_nan (-1000 * k - i)) (y := 4620130267728707584) (by unfold Fl.fin; decide)
  have : mkO k i = some r := h
  unfold mk1; rw [this]; rfl
theorem subV_of {x y s : Nat} (h : subO x y = some s) (W : World) : subV W x y = s := by unfold subV fV; rw [h]
/-- a list that is read: its address is none only if it is empty -/
structure Sl (w : World) (ao : Option Addr) (cap : Nat) (xs : List Cw) : Prop where
  rd : Rc w ao xs
  shape : ao = none ∧ xs.length = 0 ∨ ∃ g off, ao = some ⟨g, off, none⟩
  cap : xs.length ≤ cap
theorem Sl.below {w w' : World} {ao : Option Addr} {cap : Nat} {xs : List Cw} (h : Sl w ao cap xs) (hb : Below w.heap.size w w') : Sl w' ao cap xs := ⟨h.rd.below hb, h.shape, h.cap⟩
theorem Sl.drewN {w : World} {ao : Option Addr} {cap : Nat} {xs : List Cw} (h : Sl w ao cap xs) (n : Nat) : Sl (w.drewN n) ao cap xs := ⟨h.rd.drewN n, h.shape, h.cap⟩
theorem own_sl {w : World} {base : Nat} {v : Value} {xs : List Cw} (h : w.ownsRow base 27 1 v xs.length (xs.map cx)) :
    ∃ ao cap, v = .slice ao xs.length cap ∧ Sl w ao cap xs := by
  obtain ⟨ao, cap, h1, h2, h3, h4⟩ := own_rc rfl h
  refine ⟨ao, cap, h1, h4, ?_, h2⟩
  rcases h3 with ⟨a, b, _⟩ | ⟨g, a, _⟩
  · exact .inl ⟨b, a⟩
  · exact .inr ⟨g, 0, a⟩
/-- the first m marks of list k -/
def marks (k : Int) (m : Nat) : List Cw := (List.range m).map (fun (i : Nat) => mk k (i : Int))
theorem marks_len (k : Int) (m : Nat) : (marks k m).length = m := by simp [marks]
theorem marks_succ (k : Int) (m : Nat) : marks k (m + 1) = marks k m ++ [mk k (m : Int)] := by simp [marks, List.range_succ]
theorem marks_getD (k : Int) (m j : Nat) (h : j < m) : zat (marks k m) j = mk k (j : Int) := by simp [marks, zat, List.getD_eq_getElem?_getD, h]
/-- a full list of marks, and what is left of a list, in one row -/
theorem over_step {xs : List Cw} {k : Nat} (hk : k < xs.length) : ((marks 9 k ++ xs.drop k).map cx).set k (cx (mk 9 (k : Int))) = (marks 9 (k + 1) ++ xs.drop (k + 1)).map cx := by
  have e : (marks 9 k ++ xs.drop k).set k (mk 9 (k : Int)) = marks 9 (k + 1) ++ xs.drop (k + 1) := by
    rw [List.set_append_right _ _ (by rw [marks_len]; exact Nat.le_refl _), marks_len, Nat.sub_self, List.drop_eq_getElem_cons hk, marks_succ, List.append_assoc]; rfl
  rw [← e, List.map_set]
/-- the row g alone is written -/
structure OnlyRow (g : Nat) (w w' : World) : Prop where
  os : w'.os = w.os
  tape : w'.tape = w.tape
  output : w'.output = w.output
  size : w'.heap.size = w.heap.size
  block : ∀ b, b ≠ g → w'.heap[b]? = w.heap[b]?
theorem OnlyRow.refl (g : Nat) (w : World) : OnlyRow g w w := ⟨rfl, rfl, rfl, rfl, fun _ _ => rfl⟩
theorem OnlyRow.setCell {g k : Nat} {w w' : World} (h : OnlyRow g w w') (u : Value) : OnlyRow g w (w'.setCell ⟨g, k, none⟩ u) := by
  refine ⟨h.os, h.tape, h.output, by simpa using h.size, fun b hb => ?_⟩
  rw [Below.heap_setCell _ _ _ _ (by exact hb)]
  exact h.block b hb
end Go.Proofs.Ytgpjlobclcbniab
