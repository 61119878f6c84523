/-
  Rows of texts and a row of them, as ApartTexts of the given package gridworkkit writes them and goes on with them; what a mark is.
-/
import Derived.Test.YtmhplaanpbpndaaBsb
import Derived.Test.YtmhplaanpbpndaaBsd
namespace Go.Proofs.Ytmhplaanpbpndaa.Tx
open Fl RowKit Go.Maps

def tat (xs : List (List UInt8)) (k : Nat) : List UInt8 := xs.getD k []
theorem tat_lt {xs : List (List UInt8)} {k : Nat} (h : k < xs.length) : xs[k]? = some (tat xs k) := by simp [tat, List.getD_eq_getElem?_getD, h]
theorem sv_bl (s : ByteArray) : sv s.data.toList = .string s := rfl
/-- a mark's byte -/
def u8 (z : Int) : UInt8 := UInt8.ofNat (z % 256).toNat
/-- a mark -/
def mk (k i : Int) : List UInt8 := [109, 97, 114, 107, u8 k, u8 i]
def marks (k : Int) (m : Nat) : List (List UInt8) := (List.range m).map (fun (i : Nat) => mk k (i : Int))
theorem marks_len (k : Int) (m : Nat) : (marks k m).length = m := by simp [marks]
theorem marks_succ (k : Int) (m : Nat) : marks k (m + 1) = marks k m ++ [mk k (m : Int)] := by simp [marks, List.range_succ]
/-- m rows, and a row of them -/
structure Many (base LB m : Nat) (n : Nat → Nat) (V : Nat → Value) (L : Nat → List (List UInt8)) (w : World) : Prop where
  cell : ∀ j, j < m → w.cell? ⟨LB, j, none⟩ = some (V j)
  own : ∀ j, j < m → w.ownsRow base 9 1 (V j) (n j) ((L j).map sv)
  len : ∀ j, j < m → (L j).length = n j
  apart : ∀ j k, j < m → k < m → j ≠ k → ∀ g, (V j).ownBlock = some g → (V k).ownBlock ≠ some g
  off : ∀ j, j < m → (V j).ownBlock ≠ some LB
  lt : LB < w.heap.size
theorem Many.at {base LB m : Nat} {n : Nat → Nat} {V : Nat → Value} {L : Nat → List (List UInt8)} {w w' : World} (h : Many base LB m n V L w) (hs : w.heap.size ≤ w'.heap.size) (hl : w'.heap[LB]? = w.heap[LB]?) (hg : ∀ j, j < m → ∀ g, (V j).ownBlock = some g → w'.heap[g]? = w.heap[g]?) : Many base LB m n V L w' := by
  refine ⟨?_, ?_, h.len, h.apart, h.off, Nat.lt_of_lt_of_le h.lt hs⟩
  · intro j hj
    rw [World.cell?_of_block (w := w) hl]
    exact h.cell j hj
  · intro j hj
    exact own_at (h.own j hj) (hg j hj)
theorem Many.drewN {base LB m : Nat} {n : Nat → Nat} {V : Nat → Value} {L : Nat → List (List UInt8)} {w : World} (h : Many base LB m n V L w) (q : Nat) : Many base LB m n V L (w.drewN q) := h.at (Nat.le_refl _) rfl (fun _ _ _ _ => rfl)
theorem Many.store {base LB m : Nat} {n : Nat → Nat} {V : Nat → Value} {L : Nat → List (List UInt8)} {w : World} (h : Many base LB m n V L w) {k i g C : Nat} (hk : k < m) (hV : V k = .slice (some ⟨g, 0, none⟩) (n k) C) (u : (List UInt8)) :
    Many base LB m n V (fun j => if j = k then (L k).set i u else L j) (w.setCell ⟨g, i, none⟩ (sv u)) := by
  have hb : (V k).ownBlock = some g := by rw [hV]; rfl
  have hoth : ∀ b, b ≠ g → (w.setCell ⟨g, i, none⟩ (sv u)).heap[b]? = w.heap[b]? := fun b hb => Below.heap_setCell _ _ _ _ hb
  refine ⟨?_, ?_, ?_, h.apart, h.off, by simpa using h.lt⟩
  · intro j hj
    rw [World.cell?_of_block (w := w) (hoth LB (fun e => h.off k hk (by rw [hb, e])))]
    exact h.cell j hj
  · intro j hj
    by_cases e : j = k
    · subst e
      simp only [if_true]
      have ho := h.own j hj
      rw [hV] at ho ⊢
      rw [List.map_set]
      exact (ho.stored i (sv u)).1
    · simp only [e, if_false]
      refine own_at (h.own j hj) ?_
      intro g' hg'
      refine hoth _ (fun e2 => ?_)
      subst e2
      exact h.apart j k hj hk e _ hg' hb
  · intro j hj
    by_cases e : j = k
    · simp only [e, if_true]; rw [List.length_set]; exact h.len k hk
    · simp only [e, if_false]; exact h.len j hj
/-- what stands in the rows while they are written: rows below k are full of marks, row k up to i -/
def wr1 (E : Nat → List (List UInt8)) (k i : Nat) (n : Nat → Nat) (j : Nat) : List (List UInt8) := if j < k then marks ((j : Int) + 10) (n j) else if j = k then marks ((k : Int) + 10) i ++ (E k).drop i else E j
theorem wr1_start (E : Nat → List (List UInt8)) (n : Nat → Nat) : wr1 E 0 0 n = E := by
  funext j
  unfold wr1
  by_cases hj : j = 0
  · subst hj; simp [marks]
  · simp [hj]
theorem wr1_next (E : Nat → List (List UInt8)) (k : Nat) (n : Nat → Nat) (h : (E k).length = n k) : wr1 E k (n k) n = wr1 E (k + 1) 0 n := by
  funext j
  unfold wr1
  by_cases h1 : j < k
  · rw [if_pos h1, if_pos (by omega)]
  · rw [if_neg h1]
    by_cases h2 : j = k
    · subst h2; rw [if_pos rfl, if_pos (by omega), ← h, List.drop_length, List.append_nil]
    · rw [if_neg h2, if_neg (by omega)]
      by_cases h3 : j = k + 1
      · subst h3; simp [marks]
      · rw [if_neg h3]
theorem wr1_set (E : Nat → List (List UInt8)) (k i : Nat) (n : Nat → Nat) (h : i < (E k).length) : (fun j => if j = k then (wr1 E k i n k).set i (mk ((k : Int) + 10) (i : Int)) else wr1 E k i n j) = wr1 E k (i + 1) n := by
  funext j
  by_cases h1 : j = k
  · subst h1
    simp only [if_true]
    unfold wr1
    rw [if_neg (by omega), if_pos rfl, if_neg (by omega), if_pos rfl]
    rw [List.set_append_right _ _ (by rw [marks_len]; exact Nat.le_refl _), marks_len, Nat.sub_self, List.drop_eq_getElem_cons h, marks_succ, List.append_assoc]; rfl
  · simp only [h1, if_false]
    unfold wr1
    by_cases h2 : j < k
    · rw [if_pos h2, if_pos h2]
    · rw [if_neg h2, if_neg h2, if_neg h1, if_neg h1]

theorem marks_get (k : Int) {m j : Nat} (h : j < m) : ((marks k m).map sv)[j]? = some (sv (mk k (j : Int))) := by
  rw [List.getElem?_map]; simp [marks, h]
theorem marks_next (k : Nat) (a b : Nat) : (marks ((k : Int) + 10) (a + b)).map sv ++ [sv (mk ((k : Int) + 10) ((a : Int) + (b : Int)))] = (marks ((k : Int) + 10) (a + (b + 1))).map sv := by
  rw [← Nat.add_assoc, marks_succ, List.map_append, Int.natCast_add]; rfl
/-- the first k rows gone on with by six marks; those from r on as they were written -/
structure Gone (base W0 LB m k r : Nat) (n : Nat → Nat) (V H : Nat → Value) (w : World) : Prop where
  row : ∀ j, j < k → w.ownsRow base 9 1 (H j) (n j + 6) ((marks ((j : Int) + 10) (n j + 6)).map sv)
  old : ∀ j, j < k → ∀ g, (V j).ownBlock = some g → ∀ i, i < n j → w.cell? ⟨g, i, none⟩ = some (sv (mk ((j : Int) + 10) (i : Int)))
  rest : ∀ j, r ≤ j → j < m → w.ownsRow base 9 1 (V j) (n j) ((marks ((j : Int) + 10) (n j)).map sv)
  cell : ∀ j, j < m → w.cell? ⟨LB, j, none⟩ = some (V j)
  size : W0 ≤ w.heap.size
  loc : ∀ j, j < k → (H j).ownBlock = (V j).ownBlock ∨ ∃ h, (H j).ownBlock = some h ∧ W0 ≤ h
  hap : ∀ i j, i < k → j < k → i ≠ j → ∀ g, (H i).ownBlock = some g → (H j).ownBlock ≠ some g
theorem Gone.less {base W0 LB m k r : Nat} {n : Nat → Nat} {V H : Nat → Value} {w : World} (h : Gone base W0 LB m k r n V H w) : Gone base W0 LB m k (r + 1) n V H w := ⟨h.row, h.old, fun j hj => h.rest j (by omega), h.cell, h.size, h.loc, h.hap⟩
theorem Gone.kept {base W0 LB m k r : Nat} {n : Nat → Nat} {V H : Nat → Value} {w w' : World} {row : Option Nat} (h : Gone base W0 LB m k r n V H w) (hS : Vs W0 LB m V) (hkm : k ≤ m) (hg : w.grownBy w' row)
    (hrow : ∀ g, row = some g → LB ≠ g ∧ (∀ j, j < m → (j < k ∨ r ≤ j) → (V j).ownBlock ≠ some g) ∧ (∀ j, j < k → (H j).ownBlock ≠ some g)) : Gone base W0 LB m k r n V H w' := by
  have hz := h.size
  refine ⟨?_, ?_, ?_, ?_, Nat.le_trans hz hg.size, h.loc, h.hap⟩
  · intro j hj
    exact (h.row j hj).kept hg (ne_or (fun g e e2 => (hrow g e2).2.2 j hj e))
  · intro j hj g hV i hi
    rw [hg.cell_far _ (by show g < _; have := hS.lt j (by omega) g hV; omega) (fun e => (hrow g e.symm).2.1 j (by omega) (.inl hj) hV)]
    exact h.old j hj g hV i hi
  · intro j hj hjm
    exact (h.rest j hj hjm).kept hg (ne_or (fun g e e2 => (hrow g e2).2.1 j hjm (.inr hj) e))
  · intro j hj
    rw [hg.cell_far _ (by show LB < _; have := hS.lb; omega) (fun e => (hrow LB e.symm).1 rfl)]
    exact h.cell j hj
theorem gone_push {base W0 LB m k : Nat} {n : Nat → Nat} {V H : Nat → Value} {w : World} {g0 : Value} (h : Gone base W0 LB m k (k + 1) n V H w)
    (hown : w.ownsRow base 9 1 g0 (n k + 6) ((marks ((k : Int) + 10) (n k + 6)).map sv))
    (hold : ∀ g, (V k).ownBlock = some g → ∀ i, i < n k → w.cell? ⟨g, i, none⟩ = some (sv (mk ((k : Int) + 10) (i : Int))))
    (hloc : g0.ownBlock = (V k).ownBlock ∨ ∃ h, g0.ownBlock = some h ∧ W0 ≤ h) (hap : ∀ j, j < k → ∀ g, (H j).ownBlock = some g → g0.ownBlock ≠ some g) : Gone base W0 LB m (k + 1) (k + 1) n V (upd H k g0) w := by
  refine ⟨?_, ?_, h.rest, h.cell, h.size, ?_, ?_⟩
  · intro j hj
    by_cases e : j = k
    · subst e; rw [upd_self]; exact hown
    · rw [upd_ne _ _ e]; exact h.row j (by omega)
  · intro j hj
    by_cases e : j = k
    · subst e; exact hold
    · exact h.old j (by omega)
  · intro j hj
    by_cases e : j = k
    · subst e; rw [upd_self]; exact hloc
    · rw [upd_ne _ _ e]; exact h.loc j (by omega)
  · intro i j hi hj hij g hg
    by_cases e : i = k
    · subst e
      rw [upd_self] at hg
      rw [upd_ne _ _ (Ne.symm hij)]
      intro e2
      exact hap j (by omega) g e2 hg
    · rw [upd_ne _ _ e] at hg
      by_cases e2 : j = k
      · subst e2; rw [upd_self]; exact hap i (by omega) g hg
      · rw [upd_ne _ _ e2]; exact h.hap i j (by omega) (by omega) hij g hg
end Go.Proofs.Ytmhplaanpbpndaa.Tx
