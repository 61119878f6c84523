/-
  Full rows and a row of them, as ApartReals of the given package gridworkkit writes them.
-/
import Derived.Test.YthkhemmpjfilaaaRu
import Derived.Test.YthkhemmpjfilaaaMv
import Derived.Deep.RegionWith
import Derived.Maps.AppendAt
namespace Go.Proofs.Ythkhemmpjfilaaa
open Fl RowKit

/-- m full rows, and a row of them -/
structure Many (base LB m : Nat) (n : Nat → Nat) (G : Nat → Nat) (L : Nat → List Nat) (w : World) : Prop where
  cell : ∀ j, j < m → w.cell? ⟨LB, j, none⟩ = some (.slice (some ⟨G j, 0, none⟩) (n j) (n j))
  own : ∀ j, j < m → w.ownsRow base 29 1 (.slice (some ⟨G j, 0, none⟩) (n j) (n j)) (n j) ((L j).map (Value.float .f64))
  len : ∀ j, j < m → (L j).length = n j
  apart : ∀ j k, j < m → k < m → j ≠ k → G j ≠ G k
  off : ∀ j, j < m → G j ≠ LB
  lt : LB < w.heap.size
theorem Many.at {base LB m : Nat} {n G : Nat → Nat} {L : Nat → List Nat} {w w' : World} (h : Many base LB m n G L w) (hs : w.heap.size ≤ w'.heap.size) (hl : w'.heap[LB]? = w.heap[LB]?) (hg : ∀ j, j < m → w'.heap[G j]? = w.heap[G j]?) : Many base LB m n G L w' := by
  refine ⟨?_, ?_, h.len, h.apart, h.off, Nat.lt_of_lt_of_le h.lt hs⟩
  · intro j hj
    rw [World.cell?_of_block (w := w) hl]
    exact h.cell j hj
  · intro j hj
    refine own_at (h.own j hj) ?_
    intro g hg2
    simp [Value.ownBlock] at hg2
    subst hg2
    exact hg j hj
theorem Many.g_lt {base LB m : Nat} {n G : Nat → Nat} {L : Nat → List Nat} {w : World} (h : Many base LB m n G L w) {j : Nat} (hj : j < m) : base ≤ G j ∧ G j < w.heap.size := by
  have := (h.own j hj).lt (G j) (by simp [Value.ownBlock])
  exact this
theorem Many.store {base LB m : Nat} {n G : Nat → Nat} {L : Nat → List Nat} {w : World} (h : Many base LB m n G L w) {k i : Nat} (hk : k < m) (u : Nat) :
    Many base LB m n G (fun j => if j = k then (L k).set i u else L j) (w.setCell ⟨G k, i, none⟩ (.float .f64 u)) := by
  have hoth : ∀ b, b ≠ G k → (w.setCell ⟨G k, i, none⟩ (.float .f64 u)).heap[b]? = w.heap[b]? := fun b hb => Below.heap_setCell _ _ _ _ hb
  refine ⟨?_, ?_, ?_, h.apart, h.off, by simpa using h.lt⟩
  · intro j hj
    rw [World.cell?_of_block (w := w) (hoth LB (fun e => h.off k hk e.symm))]
    exact h.cell j hj
  · intro j hj
    by_cases e : j = k
    · subst e
      simp only [if_true]
      have := ((h.own j hj).stored i (.float .f64 u)).1
      rw [List.map_set]; exact this
    · simp only [e, if_false]
      refine own_at (h.own j hj) ?_
      intro g hg
      simp [Value.ownBlock] at hg
      subst hg
      exact hoth _ (h.apart j k hj hk e)
  · intro j hj
    by_cases e : j = k
    · simp only [e, if_true]; rw [List.length_set]; exact h.len k hk
    · simp only [e, if_false]; exact h.len j hj
theorem Many.drewN {base LB m : Nat} {n G : Nat → Nat} {L : Nat → List Nat} {w : World} (h : Many base LB m n G L w) (q : Nat) : Many base LB m n G L (w.drewN q) := h.at (Nat.le_refl _) rfl (fun _ _ => rfl)
/-- what stands in the rows while they are written: rows below k are full of marks, row k up to i -/
def wr1 (E : Nat → List Nat) (k i : Nat) (n : Nat → Nat) (j : Nat) : List Nat := if j < k then marks ((j : Int) + 10) (n j) else if j = k then marks ((k : Int) + 10) i ++ (E k).drop i else E j
theorem wr1_start (E : Nat → List Nat) (n : Nat → Nat) : wr1 E 0 0 n = E := by
  funext j
  unfold wr1
  by_cases hj : j = 0
  · subst hj; simp [marks]
  · simp [hj]
theorem wr1_next (E : Nat → List Nat) (k : Nat) (n : Nat → Nat) (h : (E k).length = n k) : wr1 E k (n k) n = wr1 E (k + 1) 0 n := by
  funext j
  unfold wr1
  by_cases h1 : j < k
  · rw [if_pos h1, if_pos (by omega)]
  · rw [if_neg h1]
    by_cases h2 : j = k
    · subst h2; rw [if_pos rfl, if_pos (by omega), ← h, List.drop_length, List.append_nil]
    · rw [if_neg h2, if_neg (by omega)]
      by_cases h3 : j = k + 1
      · subst h3; simp [marks]
      · rw [if_neg h3]
theorem wr1_set (E : Nat → List Nat) (k i : Nat) (n : Nat → Nat) (h : i < (E k).length) : (fun j => if j = k then (wr1 E k i n k).set i (mk ((k : Int) + 10) (i : Int)) else wr1 E k i n j) = wr1 E k (i + 1) n := by
  funext j
  by_cases h1 : j = k
  · subst h1
    simp only [if_true]
    unfold wr1
    rw [if_neg (by omega), if_pos rfl, if_neg (by omega), if_pos rfl]
    rw [List.set_append_right _ _ (by rw [marks_len]; exact Nat.le_refl _), marks_len, Nat.sub_self, List.drop_eq_getElem_cons h, marks_succ, List.append_assoc]; rfl
  · simp only [h1, if_false]
    unfold wr1
    by_cases h2 : j < k
    · rw [if_pos h2, if_pos h2]
    · rw [if_neg h2, if_neg h2, if_neg h1, if_neg h1]

theorem own_base {w : World} {base base' e size n : Nat} {v : Value} {xs : List Value} (h : w.ownsRow base e size v n xs) (hb : base' ≤ base) : w.ownsRow base' e size v n xs := by
  refine ⟨h.1, ?_⟩
  rcases h.2 with h1 | ⟨g, cap, cur, hv, hg, rest⟩
  · exact .inl h1
  · exact .inr ⟨g, cap, cur, hv, Nat.le_trans hb hg, rest⟩
theorem own_shape {w : World} {base e size n : Nat} {v : Value} {xs : List Value} (h : w.ownsRow base e size v n xs) (hn : 0 < n) : ∃ g c, v = .slice (some ⟨g, 0, none⟩) n c ∧ base ≤ g := by
  rcases h.2 with ⟨_, h1⟩ | ⟨g, cap, cur, hv, hg, rest⟩
  · omega
  · exact ⟨g, cap, hv, hg⟩
theorem marks_next (k : Nat) (a b : Nat) : (marks ((k : Int) + 10) (a + b)).map (Value.float .f64) ++ [.float .f64 (mk ((k : Int) + 10) ((a : Int) + (b : Int)))] = (marks ((k : Int) + 10) (a + (b + 1))).map (Value.float .f64) := by
  rw [← Nat.add_assoc, marks_succ, List.map_append, Int.natCast_add]; rfl
/-- the first k rows gone on with by six marks, in a row -/
structure Gone (b2 k : Nat) (n H C : Nat → Nat) (gv : Value) (w : World) : Prop where
  gs : w.ownsRow b2 23 1 gv k ((List.range k).map fun j => .slice (some ⟨H j, 0, none⟩) (n j + 6) (C j))
  row : ∀ j, j < k → w.ownsRow b2 29 1 (.slice (some ⟨H j, 0, none⟩) (n j + 6) (C j)) (n j + 6) ((marks ((j : Int) + 10) (n j + 6)).map (Value.float .f64))
  off : ∀ j, j < k → gv.ownBlock ≠ some (H j)
theorem Gone.row_lt {b2 k : Nat} {n H C : Nat → Nat} {gv : Value} {w : World} (h : Gone b2 k n H C gv w) {j : Nat} (hj : j < k) : b2 ≤ H j ∧ H j < w.heap.size :=
  (h.row j hj).lt (H j) (by simp [Value.ownBlock])
theorem Gone.below {b2 k : Nat} {n H C : Nat → Nat} {gv : Value} {w w' : World} (h : Gone b2 k n H C gv w) (hb : Below w.heap.size w w') : Gone b2 k n H C gv w' := by
  refine ⟨?_, ?_, h.off⟩
  · refine own_at h.gs ?_
    intro g hg
    exact hb.block g (h.gs.lt g hg).2
  · intro j hj
    refine own_at (h.row j hj) ?_
    intro g hg
    exact hb.block g ((h.row j hj).lt g hg).2
theorem Many.below {base LB m : Nat} {n G : Nat → Nat} {L : Nat → List Nat} {w w' : World} (h : Many base LB m n G L w) (hb : Below w.heap.size w w') : Many base LB m n G L w' :=
  h.at hb.size (hb.block LB h.lt) (fun _ hj => hb.block _ (h.g_lt hj).2)
theorem gone0 (b2 : Nat) (n H C : Nat → Nat) (w : World) : Gone b2 0 n H C (.slice none 0 0) w :=
  ⟨World.ownsRow_nil _ _ _ _, fun _ h => absurd h (Nat.not_lt_zero _), fun _ h => absurd h (Nat.not_lt_zero _)⟩
def upd (f : Nat → Nat) (k v : Nat) (j : Nat) : Nat := if j = k then v else f j
theorem upd_self (f : Nat → Nat) (k v : Nat) : upd f k v k = v := by unfold upd; rw [if_pos rfl]
theorem upd_ne (f : Nat → Nat) {k j : Nat} (v : Nat) (h : j ≠ k) : upd f k v j = f j := by unfold upd; rw [if_neg h]
theorem Gone.push {b2 k h c : Nat} {n H C : Nat → Nat} {gv gv' : Value} {w w' : World} (hG : Gone b2 k n H C gv w) (hrow : w.ownsRow b2 29 1 (.slice (some ⟨h, 0, none⟩) (n k + 6) c) (n k + 6) ((marks ((k : Int) + 10) (n k + 6)).map (Value.float .f64)))
    (hne : gv.ownBlock ≠ some h) (hgs : w'.ownsRow b2 23 1 gv' (k + 1) (((List.range k).map fun j => .slice (some ⟨H j, 0, none⟩) (n j + 6) (C j)) ++ [.slice (some ⟨h, 0, none⟩) (n k + 6) c]))
    (hgrow : w.grownBy w' gv.ownBlock) (hat : gv'.ownBlock = gv.ownBlock ∨ gv'.ownBlock = some w.heap.size) : Gone b2 (k + 1) n (upd H k h) (upd C k c) gv' w' := by
  refine ⟨?_, ?_, ?_⟩
  · rw [List.range_succ, List.map_append]
    have e : ((List.range k).map fun j => Value.slice (some ⟨upd H k h j, 0, Option.none⟩) (n j + 6) (upd C k c j)) = ((List.range k).map fun j => Value.slice (some ⟨H j, 0, Option.none⟩) (n j + 6) (C j)) := by
      refine List.map_congr_left ?_
      intro j hj
      have : j ≠ k := by have := List.mem_range.1 hj; omega
      rw [upd_ne _ _ this, upd_ne _ _ this]
    rw [e]
    simp only [List.map_cons, List.map_nil, upd_self]
    exact hgs
  · intro j hj
    by_cases hjk : j = k
    · subst hjk
      rw [upd_self, upd_self]
      exact hrow.kept hgrow (Or.inr (by intro e; exact hne (by rw [← e]; rfl)))
    · rw [upd_ne _ _ hjk, upd_ne _ _ hjk]
      exact (hG.row j (by omega)).kept hgrow (Or.inr (by intro e; exact hG.off j (by omega) (by rw [← e]; rfl)))
  · intro j hj
    have hlt : upd H k h j < w.heap.size := by
      by_cases hjk : j = k
      · subst hjk; rw [upd_self]; exact (hrow.lt h (by simp [Value.ownBlock])).2
      · rw [upd_ne _ _ hjk]; exact (hG.row_lt (by omega)).2
    have hno : gv.ownBlock ≠ some (upd H k h j) := by
      by_cases hjk : j = k
      · subst hjk; rw [upd_self]; exact hne
      · rw [upd_ne _ _ hjk]; exact hG.off j (by omega)
    rcases hat with e | e
    · rw [e]; exact hno
    · rw [e]; intro e2; have := Option.some.inj e2; omega

end Go.Proofs.Ythkhemmpjfilaaa
