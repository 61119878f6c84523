/-
  Eight cells of a block, read and written at once.
-/
import Derived.Test.YtcakfclfggnmbaaNmb
namespace Go.Proofs.Ytcakfclfggnmbaa
open Go.Maps Go.RowKit
set_option maxRecDepth 100000

/-- eight cells of a block, each of them may be written -/
theorem eight {w : World} {p : Nat} {a b c d e f g h : Value} {t : TypeId} (hb : w.heap[p]? = some (.cells #[a, b, c, d, e, f, g, h] t (0, 0))) :
    (w.cell? ⟨p, 0, none⟩ = some a ∧ w.cell? ⟨p, 1, none⟩ = some b ∧ w.cell? ⟨p, 2, none⟩ = some c ∧ w.cell? ⟨p, 3, none⟩ = some d ∧ w.cell? ⟨p, 4, none⟩ = some e ∧ w.cell? ⟨p, 5, none⟩ = some f ∧ w.cell? ⟨p, 6, none⟩ = some g ∧ w.cell? ⟨p, 7, none⟩ = some h) ∧
    (w.frozen? ⟨p, 0, none⟩ = false ∧ w.frozen? ⟨p, 1, none⟩ = false ∧ w.frozen? ⟨p, 2, none⟩ = false ∧ w.frozen? ⟨p, 3, none⟩ = false ∧ w.frozen? ⟨p, 4, none⟩ = false ∧ w.frozen? ⟨p, 5, none⟩ = false ∧ w.frozen? ⟨p, 6, none⟩ = false ∧ w.frozen? ⟨p, 7, none⟩ = false) := by
  refine ⟨⟨?_, ?_, ?_, ?_, ?_, ?_, ?_, ?_⟩, ⟨?_, ?_, ?_, ?_, ?_, ?_, ?_, ?_⟩⟩
  all_goals first | exact frozen_of_row w p _ _ _ hb | (rw [cell_of_row w p _ _ _ (0, 0) hb]; rfl)
theorem below_set {w0 w : World} {p j : Nat} {u : Value} (hb : Below p w0 w) : Below p w0 (w.setCell ⟨p, j, none⟩ u) :=
  ⟨hb.os, hb.tape, hb.output, by have := hb.size; simpa [World.setCell] using this, fun k hk => (heap_setCell_other w ⟨p, j, none⟩ k u (by simp; omega)).trans (hb.block k hk)⟩
def st8 (w : World) (p : Nat) (a b c d e f g h : Value) : World := (((((((w.setCell ⟨p, 0, none⟩ a).setCell ⟨p, 1, none⟩ b).setCell ⟨p, 2, none⟩ c).setCell ⟨p, 3, none⟩ d).setCell ⟨p, 4, none⟩ e).setCell ⟨p, 5, none⟩ f).setCell ⟨p, 6, none⟩ g).setCell ⟨p, 7, none⟩ h
theorem set_at {w : World} {p i : Nat} {c c' : Array Value} {t : TypeId} {v : Value} (hb : w.heap[p]? = some (.cells c t (0, 0))) (hc : c.setIfInBounds i v = c') : (w.setCell ⟨p, i, none⟩ v).heap[p]? = some (.cells c' t (0, 0)) := by rw [← hc]; exact heap_setCell_same w p i c t v hb
theorem st8_blk {w : World} {p : Nat} {a b c d e f g h : Value} {t : TypeId} (hb : w.heap[p]? = some (.cells #[a, b, c, d, e, f, g, h] t (0, 0))) (a' b' c' d' e' f' g' h' : Value) : (st8 w p a' b' c' d' e' f' g' h').heap[p]? = some (.cells #[a', b', c', d', e', f', g', h'] t (0, 0)) := by
  have h0 := set_at (i := 0) (v := a') (c' := #[a', b, c, d, e, f, g, h]) hb rfl
  have h1 := set_at (i := 1) (v := b') (c' := #[a', b', c, d, e, f, g, h]) h0 rfl
  have h2 := set_at (i := 2) (v := c') (c' := #[a', b', c', d, e, f, g, h]) h1 rfl
  have h3 := set_at (i := 3) (v := d') (c' := #[a', b', c', d', e, f, g, h]) h2 rfl
  have h4 := set_at (i := 4) (v := e') (c' := #[a', b', c', d', e', f, g, h]) h3 rfl
  have h5 := set_at (i := 5) (v := f') (c' := #[a', b', c', d', e', f', g, h]) h4 rfl
  have h6 := set_at (i := 6) (v := g') (c' := #[a', b', c', d', e', f', g', h]) h5 rfl
  have h7 := set_at (i := 7) (v := h') (c' := #[a', b', c', d', e', f', g', h']) h6 rfl
  unfold st8
  exact h7
theorem st8_bel {w0 w : World} {p : Nat} (hb : Below p w0 w) (a b c d e f g h : Value) : Below p w0 (st8 w p a b c d e f g h) := by
  unfold st8
  exact below_set (below_set (below_set (below_set (below_set (below_set (below_set (below_set hb)))))))

/-- two cells of a block that is known whole -/
theorem tw_c {w : World} {B : Nat} {a b : Value} {T : TypeId} (h : w.heap[B]? = some (.cells #[a, b] T (0, 0))) : w.cell? ⟨B, 0, none⟩ = some a ∧ w.cell? ⟨B, 1, none⟩ = some b ∧ w.frozen? ⟨B, 0, none⟩ = false ∧ w.frozen? ⟨B, 1, none⟩ = false :=
  ⟨by rw [cell_of_row w B 0 _ T (0, 0) h]; rfl, by rw [cell_of_row w B 1 _ T (0, 0) h]; rfl, frozen_of_row w B 0 _ T h, frozen_of_row w B 1 _ T h⟩
theorem tw_set {w : World} {B : Nat} {a b : Value} {T : TypeId} (h : w.heap[B]? = some (.cells #[a, b] T (0, 0))) (x y : Value) :
    ((w.setCell ⟨B, 0, none⟩ x).setCell ⟨B, 1, none⟩ y).cell? ⟨B, 0, none⟩ = some x ∧ ((w.setCell ⟨B, 0, none⟩ x).setCell ⟨B, 1, none⟩ y).cell? ⟨B, 1, none⟩ = some y := by
  obtain ⟨c0, c1, _, _⟩ := tw_c h
  constructor
  · rw [World.cell?_setCell_other _ _ _ _ (by simp)]
    exact World.cell?_setCell_same _ _ _ c0
  · refine World.cell?_setCell_same _ _ _ (u := b) ?_
    rw [World.cell?_setCell_other _ _ _ _ (by simp)]; exact c1
theorem tw_bel {w w' : World} {f n : Nat} (h : Below n w w') (hf : n ≤ f) (x y : Value) : Below n w ((w'.setCell ⟨f, 0, none⟩ x).setCell ⟨f, 1, none⟩ y) :=
  (h.setCell (p := ⟨f, 0, none⟩) hf _).setCell (p := ⟨f, 1, none⟩) hf _

end Go.Proofs.Ytcakfclfggnmbaa
