/-
  The document's Lower in memory; which of a column's numbers the document takes.
-/
import Derived.Test.YtklbgibhbnijaaaLwh
namespace Go.Proofs.Ytklbgibhbnijaaa
open Fl RowKit

/-- a struct of six cells that may be written -/
structure V6 (p : Nat) (a b c d e f : Value) (w : World) : Prop where
  lt : p < w.heap.size
  c0 : w.cell? ⟨p, 0, none⟩ = some a
  c1 : w.cell? ⟨p, 1, none⟩ = some b
  c2 : w.cell? ⟨p, 2, none⟩ = some c
  c3 : w.cell? ⟨p, 3, none⟩ = some d
  c4 : w.cell? ⟨p, 4, none⟩ = some e
  c5 : w.cell? ⟨p, 5, none⟩ = some f
  fz : ∀ j, w.frozen? ⟨p, j, none⟩ = false
theorem V6.at {p : Nat} {a b c d e f : Value} {w w' : World} (h : V6 p a b c d e f w) (hs : w.heap.size ≤ w'.heap.size) (hp : w'.heap[p]? = w.heap[p]?) : V6 p a b c d e f w' := by
  have hv : ∀ j, w'.cell? ⟨p, j, none⟩ = w.cell? ⟨p, j, none⟩ := fun j => World.cell?_of_block hp
  have hf : ∀ j, w'.frozen? ⟨p, j, none⟩ = w.frozen? ⟨p, j, none⟩ := fun j => World.frozen?_of_block hp
  exact ⟨Nat.lt_of_lt_of_le h.lt hs, (hv 0).trans h.c0, (hv 1).trans h.c1, (hv 2).trans h.c2, (hv 3).trans h.c3, (hv 4).trans h.c4, (hv 5).trans h.c5, fun j => (hf j).trans (h.fz j)⟩
/-- the document's Lower: the struct at p, its rows' block gr, the order's block go, the rows' blocks; rows may have spare places -/
structure Lr (w : World) (b p n gr go cr co : Nat) (bl cp : Nat → Nat) (M : Nat → Nat → Cw) (o : Nat → Nat) (odd ties : Bool) : Prop where
  v : V6 p (.int .i64 n) (.slice (some ⟨gr, 0, none⟩) n cr) (.slice (some ⟨go, 0, none⟩) n co) (.bool odd) (.bool ties) (.bool true) w
  rows : w.ownsRow b 24 1 (.slice (some ⟨gr, 0, none⟩) n cr) n ((List.range n).map fun i => .slice (some ⟨bl i, 0, none⟩) n (cp i))
  row : ∀ i, i < n → Rw w b (.slice (some ⟨bl i, 0, none⟩) n (cp i)) n (ro n (M i))
  ord : Ir w b (.slice (some ⟨go, 0, none⟩) n co) n (ri n o)
  ge : b ≤ p
  inj : ∀ i j, i < n → j < n → bl i = bl j → i = j
  ap : ∀ i, i < n → bl i ≠ p ∧ bl i ≠ gr ∧ bl i ≠ go
  ap2 : gr ≠ p ∧ go ≠ p ∧ gr ≠ go
theorem Lr.at {w w' : World} {b p n gr go cr co : Nat} {bl cp : Nat → Nat} {M : Nat → Nat → Cw} {o : Nat → Nat} {odd ties : Bool} (h : Lr w b p n gr go cr co bl cp M o odd ties) (hs : w.heap.size ≤ w'.heap.size) (hk : ∀ g, b ≤ g → g < w.heap.size → w'.heap[g]? = w.heap[g]?) : Lr w' b p n gr go cr co bl cp M o odd ties := by
  refine ⟨h.v.at hs (hk p h.ge h.v.lt), own_at h.rows (fun g hg => ?_), fun i hi => ⟨(h.row i hi).len, own_at (h.row i hi).own (fun g hg => ?_)⟩, ⟨h.ord.len, own_at h.ord.own (fun g hg => ?_)⟩, h.ge, h.inj, h.ap, h.ap2⟩
  · exact hk g (h.rows.lt g hg).1 (h.rows.lt g hg).2
  · exact hk g ((h.row i hi).own.lt g hg).1 ((h.row i hi).own.lt g hg).2
  · exact hk g (h.ord.own.lt g hg).1 (h.ord.own.lt g hg).2
theorem Lr.below {w w' : World} {b p n gr go cr co : Nat} {bl cp : Nat → Nat} {M : Nat → Nat → Cw} {o : Nat → Nat} {odd ties : Bool} (h : Lr w b p n gr go cr co bl cp M o odd ties) (hb : Below w.heap.size w w') : Lr w' b p n gr go cr co bl cp M o odd ties :=
  h.at hb.size (fun g _ hg => hb.block g hg)
theorem Lr.drewN {w : World} {b p n gr go cr co : Nat} {bl cp : Nat → Nat} {M : Nat → Nat → Cw} {o : Nat → Nat} {odd ties : Bool} (h : Lr w b p n gr go cr co bl cp M o odd ties) (m : Nat) : Lr (w.drewN m) b p n gr go cr co bl cp M o odd ties :=
  h.at (Nat.le_refl _) (fun _ _ _ => rfl)
theorem Lr.cell {w : World} {b p n gr go cr co : Nat} {bl cp : Nat → Nat} {M : Nat → Nat → Cw} {o : Nat → Nat} {odd ties : Bool} (h : Lr w b p n gr go cr co bl cp M o odd ties) {i : Nat} (hi : i < n) : w.cell? ⟨gr, i, none⟩ = some (.slice (some ⟨bl i, 0, none⟩) n (cp i)) := by
  rw [h.rows.cellAt i (by omega)]
  simp [hi]
theorem Lr.cellM {w : World} {b p n gr go cr co : Nat} {bl cp : Nat → Nat} {M : Nat → Nat → Cw} {o : Nat → Nat} {odd ties : Bool} (h : Lr w b p n gr go cr co bl cp M o odd ties) {i j : Nat} (hi : i < n) (hj : j < n) : w.cell? ⟨bl i, j, none⟩ = some (cx (M i j)) := by
  rw [(h.row i hi).own.cellAt j (by omega)]
  simp [ro, hj]
/-- the best place so far, of the rows from k on -/
def bst (M : Nat → Nat → Cw) (k m : Nat) : Int := if (fstG (fun i => wt (M (k + i) k)) m).2 = 0 then -1 else ((k + (fstG (fun i => wt (M (k + i) k)) m).1 : Nat) : Int)

end Go.Proofs.Ytklbgibhbnijaaa
