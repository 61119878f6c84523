/-
  The document's Lower while its rows are laid.
-/
import Derived.Test.YtklbgibhbnijaaaLrc
import Derived.Deep.AppendLies
namespace Go.Proofs.Ytklbgibhbnijaaa
open Fl RowKit

/-- rows and places that are laid one behind the other -/
structure Pr (w : World) (b p n i j : Nat) (vr vo : Value) (bl cp : Nat → Nat) (M : Nat → Nat → Cw) : Prop where
  v : V6 p (.int .i64 n) vr vo (.bool false) (.bool false) (.bool true) w
  rows : w.ownsRow b 24 1 vr i ((List.range i).map fun r => .slice (some ⟨bl r, 0, none⟩) n (cp r))
  row : ∀ r, r < i → Rw w b (.slice (some ⟨bl r, 0, none⟩) n (cp r)) n (ro n (M r))
  ord : Ir w b vo j (ri j (fun k => k))
  ge : b ≤ p
  inj : ∀ r s, r < i → s < i → bl r = bl s → r = s
  ap : ∀ r, r < i → bl r ≠ p ∧ vr.ownBlock ≠ some (bl r) ∧ vo.ownBlock ≠ some (bl r)
  ap2 : vr.ownBlock ≠ some p ∧ vo.ownBlock ≠ some p
  ap3 : ∀ g, vr.ownBlock = some g → vo.ownBlock ≠ some g
section pr
variable {w w' : World} {b p n i j : Nat} {vr vo : Value} {bl cp : Nat → Nat} {M : Nat → Nat → Cw}
theorem Pr.far (h : Pr w b p n i j vr vo bl cp M) (hs : w.heap.size ≤ w'.heap.size) (hk : ∀ g, g < w.heap.size → w'.heap[g]? = w.heap[g]?) : Pr w' b p n i j vr vo bl cp M :=
  ⟨h.v.at hs (hk p h.v.lt), own_at h.rows (fun g hg => hk g (h.rows.lt g hg).2), fun r hr => ⟨(h.row r hr).len, own_at (h.row r hr).own (fun g hg => hk g ((h.row r hr).own.lt g hg).2)⟩, ⟨h.ord.len, own_at h.ord.own (fun g hg => hk g (h.ord.own.lt g hg).2)⟩, h.ge, h.inj, h.ap, h.ap2, h.ap3⟩
theorem Pr.below (h : Pr w b p n i j vr vo bl cp M) (hb : Below w.heap.size w w') : Pr w' b p n i j vr vo bl cp M := h.far hb.size (fun g hg => hb.block g hg)
theorem V6.set1 {p : Nat} {a b c d e f : Value} {w : World} (h : V6 p a b c d e f w) (u : Value) : V6 p a u c d e f (w.setCell ⟨p, 1, none⟩ u) :=
  ⟨by simpa using h.lt, by rw [other_cell _ (by simp)]; exact h.c0, World.cell?_setCell_same _ _ _ h.c1, by rw [other_cell _ (by simp)]; exact h.c2, by rw [other_cell _ (by simp)]; exact h.c3, by rw [other_cell _ (by simp)]; exact h.c4, by rw [other_cell _ (by simp)]; exact h.c5, fun j => by simpa using h.fz j⟩
theorem V6.set2 {p : Nat} {a b c d e f : Value} {w : World} (h : V6 p a b c d e f w) (u : Value) : V6 p a b u d e f (w.setCell ⟨p, 2, none⟩ u) :=
  ⟨by simpa using h.lt, by rw [other_cell _ (by simp)]; exact h.c0, by rw [other_cell _ (by simp)]; exact h.c1, World.cell?_setCell_same _ _ _ h.c2, by rw [other_cell _ (by simp)]; exact h.c3, by rw [other_cell _ (by simp)]; exact h.c4, by rw [other_cell _ (by simp)]; exact h.c5, fun j => by simpa using h.fz j⟩
theorem own_some {w : World} {b e s m q : Nat} {u : Value} {xs : List Value} (h : w.ownsRow b e s u m xs) (hq : u.ownBlock = some q) : b ≤ q ∧ q < w.heap.size := h.lt q hq
/-- a row more -/
theorem Pr.pushRow (h : Pr w b p n i j vr vo bl cp M) {X w3 : World} {g c g8 c8 H : Nat} (h8 : Rw w b (.slice (some ⟨g8, 0, none⟩) n c8) n (ro n (M i))) (n1 : g8 ≠ p) (n2 : vr.ownBlock ≠ some g8) (n3 : vo.ownBlock ≠ some g8) (n4 : ∀ r, r < i → bl r ≠ g8)
    (U : Below w.heap.size w X) (hg : X.grownBy w3 vr.ownBlock) (hat : vr.ownBlock = some g ∨ g = H) (hH : X.heap.size = H)
    (own3 : w3.ownsRow b 24 1 (.slice (some ⟨g, 0, none⟩) (i + 1) c) (i + 1) (((List.range i).map fun r => .slice (some ⟨bl r, 0, none⟩) n (cp r)) ++ [.slice (some ⟨g8, 0, none⟩) n c8])) :
    Pr (w3.setCell ⟨p, 1, none⟩ (.slice (some ⟨g, 0, none⟩) (i + 1) c)) b p n (i + 1) j (.slice (some ⟨g, 0, none⟩) (i + 1) c) vo (fun r => if r = i then g8 else bl r) (fun r => if r = i then c8 else cp r) M ∧ Below b w (w3.setCell ⟨p, 1, none⟩ (.slice (some ⟨g, 0, none⟩) (i + 1) c)) := by
  have far : ∀ q, q < w.heap.size → vr.ownBlock ≠ some q → w3.heap[q]? = w.heap[q]? := fun q hq hn => (hg.block q (Nat.lt_of_lt_of_le hq U.size) (fun e => hn e.symm)).trans (U.block q hq)
  have sz : w.heap.size ≤ w3.heap.size := Nat.le_trans U.size hg.size
  have hgg : vr.ownBlock = some g ∨ w.heap.size ≤ g := by
    rcases hat with e | e
    · exact .inl e
    · right; rw [e, ← hH]; exact U.size
  have farS : ∀ q, q < w.heap.size → vr.ownBlock ≠ some q → q ≠ p → (w3.setCell ⟨p, 1, none⟩ (.slice (some ⟨g, 0, none⟩) (i + 1) c)).heap[q]? = w.heap[q]? := fun q hq hn hp => (Below.heap_setCell _ _ _ q hp).trans (far q hq hn)
  have o3 := own3.lt g rfl
  have hgp : g ≠ p := by
    rcases hgg with e | e
    · intro e2; exact h.ap2.1 (by rw [e, e2])
    · have := h.v.lt; omega
  have hne : ∀ q, q < w.heap.size → vr.ownBlock ≠ some q → g ≠ q := fun q hq hn e => by
    rcases hgg with e2 | e2
    · exact hn (by rw [e2, e])
    · omega
  have l8 := (h8.own.lt g8 rfl).2
  refine ⟨⟨(h.v.at sz (far p h.v.lt h.ap2.1)).set1 _, ?_, fun r hr => ?_, ⟨h.ord.len, own_at h.ord.own (fun q hq => farS q (h.ord.own.lt q hq).2 (fun e => h.ap3 q e hq) (fun e => h.ap2.2 (by rw [hq, e])))⟩, h.ge, fun r s hr hs e => ?_, fun r hr => ?_, ⟨fun e => hgp (Option.some.inj e), h.ap2.2⟩, fun q hq hv => ?_⟩, ?_⟩
  · have e : ((List.range (i + 1)).map fun r => Value.slice (some ⟨if r = i then g8 else bl r, 0, none⟩) n (if r = i then c8 else cp r)) = ((List.range i).map fun r => Value.slice (some ⟨bl r, 0, none⟩) n (cp r)) ++ [.slice (some ⟨g8, 0, none⟩) n c8] := by
      rw [List.range_succ, List.map_append]
      congr 1
      · refine List.map_congr_left (fun r hr => ?_)
        have := List.mem_range.1 hr
        rw [if_neg (by omega), if_neg (by omega)]
      · simp
    rw [e]
    exact own_at own3 (fun q hq => by cases hq; exact Below.heap_setCell _ _ _ g hgp)
  · by_cases e : r = i
    · subst e
      simp only [if_true]
      exact ⟨h8.len, own_at h8.own (fun q hq => by cases hq; exact farS g8 l8 n2 n1)⟩
    · have hr' : r < i := by omega
      simp only [e, if_false]
      exact ⟨(h.row r hr').len, own_at (h.row r hr').own (fun q hq => by cases hq; exact farS _ ((h.row r hr').own.lt _ rfl).2 (h.ap r hr').2.1 (h.ap r hr').1)⟩
  · by_cases e1 : r = i <;> by_cases e2 : s = i
    · omega
    · rw [if_pos e1, if_neg e2] at e; exact absurd e.symm (n4 s (by omega))
    · rw [if_neg e1, if_pos e2] at e; exact absurd e (n4 r (by omega))
    · rw [if_neg e1, if_neg e2] at e; exact h.inj r s (by omega) (by omega) e
  · by_cases e : r = i
    · simp only [e, if_true]
      exact ⟨n1, fun e2 => hne g8 l8 n2 (Option.some.inj e2), n3⟩
    · simp only [e, if_false]
      have hr' : r < i := by omega
      have lr := ((h.row r hr').own.lt _ rfl).2
      exact ⟨(h.ap r hr').1, fun e2 => hne _ lr (h.ap r hr').2.1 (Option.some.inj e2), (h.ap r hr').2.2⟩
  · have e1 : g = q := Option.some.inj hq
    subst e1
    have lv := (h.ord.own.lt _ hv).2
    rcases hgg with e2 | e2
    · exact h.ap3 _ e2 hv
    · omega
  · have hb : b ≤ w.heap.size := by have := h.ge; have := h.v.lt; omega
    exact ((U.mono hb).grown hg (Nat.le_trans hb U.size) (fun k hk => own_ge h.rows hk)).setCell h.ge _
/-- a place more -/
theorem Pr.pushOrd (h : Pr w b p n i j vr vo bl cp M) {X w3 : World} {g c H : Nat} (U : Below w.heap.size w X) (hg : X.grownBy w3 vo.ownBlock) (hat : vo.ownBlock = some g ∨ g = H) (hH : X.heap.size = H)
    (own3 : w3.ownsRow b 3 1 (.slice (some ⟨g, 0, none⟩) (j + 1) c) (j + 1) ((ri j (fun k => k)).map ci ++ [.int .i64 j])) :
    Pr (w3.setCell ⟨p, 2, none⟩ (.slice (some ⟨g, 0, none⟩) (j + 1) c)) b p n i (j + 1) vr (.slice (some ⟨g, 0, none⟩) (j + 1) c) bl cp M ∧ Below b w (w3.setCell ⟨p, 2, none⟩ (.slice (some ⟨g, 0, none⟩) (j + 1) c)) := by
  have far : ∀ q, q < w.heap.size → vo.ownBlock ≠ some q → w3.heap[q]? = w.heap[q]? := fun q hq hn => (hg.block q (Nat.lt_of_lt_of_le hq U.size) (fun e => hn e.symm)).trans (U.block q hq)
  have sz : w.heap.size ≤ w3.heap.size := Nat.le_trans U.size hg.size
  have hgg : vo.ownBlock = some g ∨ w.heap.size ≤ g := by
    rcases hat with e | e
    · exact .inl e
    · right; rw [e, ← hH]; exact U.size
  have farS : ∀ q, q < w.heap.size → vo.ownBlock ≠ some q → q ≠ p → (w3.setCell ⟨p, 2, none⟩ (.slice (some ⟨g, 0, none⟩) (j + 1) c)).heap[q]? = w.heap[q]? := fun q hq hn hp => (Below.heap_setCell _ _ _ q hp).trans (far q hq hn)
  have hgp : g ≠ p := by
    rcases hgg with e | e
    · intro e2; exact h.ap2.2 (by rw [e, e2])
    · have := h.v.lt; omega
  have hne : ∀ q, q < w.heap.size → vo.ownBlock ≠ some q → g ≠ q := fun q hq hn e => by
    rcases hgg with e2 | e2
    · exact hn (by rw [e2, e])
    · omega
  refine ⟨⟨(h.v.at sz (far p h.v.lt h.ap2.2)).set2 _, own_at h.rows (fun q hq => farS q (h.rows.lt q hq).2 (h.ap3 q hq) (fun e => h.ap2.1 (by rw [hq, e]))), fun r hr => ?_, ⟨by rw [ri_len], ?_⟩, h.ge, h.inj, fun r hr => ?_, ⟨h.ap2.1, fun e => hgp (Option.some.inj e)⟩, fun q hq hv => ?_⟩, ?_⟩
  · exact ⟨(h.row r hr).len, own_at (h.row r hr).own (fun q hq => by cases hq; exact farS _ ((h.row r hr).own.lt _ rfl).2 (h.ap r hr).2.2 (h.ap r hr).1)⟩
  · have e : (ri (j + 1) (fun k => k)).map ci = (ri j (fun k => k)).map ci ++ [.int .i64 j] := by
      unfold ri
      rw [List.range_succ, List.map_append, List.map_append]; rfl
    rw [e]
    exact own_at own3 (fun q hq => by cases hq; exact Below.heap_setCell _ _ _ g hgp)
  · have lr := ((h.row r hr).own.lt _ rfl).2
    exact ⟨(h.ap r hr).1, (h.ap r hr).2.1, fun e2 => hne _ lr (h.ap r hr).2.2 (Option.some.inj e2)⟩
  · have e1 : g = q := Option.some.inj hv
    subst e1
    have lv := (h.rows.lt _ hq).2
    rcases hgg with e2 | e2
    · exact h.ap3 _ hq e2
    · omega
  · have hb : b ≤ w.heap.size := by have := h.ge; have := h.v.lt; omega
    exact ((U.mono hb).grown hg (Nat.le_trans hb U.size) (fun k hk => own_ge h.ord.own hk)).setCell h.ge _
end pr
/-- all rows are laid -/
theorem Pr.lr {w : World} {b p n : Nat} {vr vo : Value} {bl cp : Nat → Nat} {M : Nat → Nat → Cw} (h : Pr w b p n n n vr vo bl cp M) (hn : 0 < n) : ∃ gr go cr co, vr = .slice (some ⟨gr, 0, none⟩) n cr ∧ vo = .slice (some ⟨go, 0, none⟩) n co ∧ Lr w b p n gr go cr co bl cp M (fun k => k) false false := by
  obtain ⟨gr, cr, rfl, _, _⟩ := h.rows.form hn
  obtain ⟨go, co, rfl, _, _⟩ := h.ord.own.form hn
  refine ⟨gr, go, cr, co, rfl, rfl, h.v, h.rows, h.row, h.ord, h.ge, h.inj, fun i hi => ⟨(h.ap i hi).1, fun e => (h.ap i hi).2.1 (by rw [e]; rfl), fun e => (h.ap i hi).2.2 (by rw [e]; rfl)⟩, fun e => h.ap2.1 (by rw [e]; rfl), fun e => h.ap2.2 (by rw [e]; rfl), fun e => h.ap3 gr rfl (by rw [e]; rfl)⟩
end Go.Proofs.Ytklbgibhbnijaaa
