/-
  The document's Lower in memory: what is written, cell by cell and row by row.
-/
import Derived.Test.YtklbgibhbnijaaaLra
import Derived.Test.YtklbgibhbnijaaaLwd
namespace Go.Proofs.Ytklbgibhbnijaaa
open Fl RowKit

section lr
variable {w w' : World} {b p n gr go cr co : Nat} {bl cp : Nat → Nat} {M : Nat → Nat → Cw} {o : Nat → Nat} {odd ties : Bool}
theorem Lr.same (h : Lr w b p n gr go cr co bl cp M o odd ties) (hk : ∀ g, g ≠ p → w'.heap[g]? = w.heap[g]?) {odd' ties' : Bool} (hv : V6 p (.int .i64 n) (.slice (some ⟨gr, 0, none⟩) n cr) (.slice (some ⟨go, 0, none⟩) n co) (.bool odd') (.bool ties') (.bool true) w') : Lr w' b p n gr go cr co bl cp M o odd' ties' :=
  ⟨hv, own_at h.rows (fun g hg => by cases hg; exact hk _ h.ap2.1), fun i hi => ⟨(h.row i hi).len, own_at (h.row i hi).own (fun g hg => by cases hg; exact hk _ (h.ap i hi).1)⟩, ⟨h.ord.len, own_at h.ord.own (fun g hg => by cases hg; exact hk _ h.ap2.2.1)⟩, h.ge, h.inj, h.ap, h.ap2⟩
theorem V6.set3 {p : Nat} {a b c d e f : Value} {w : World} (h : V6 p a b c d e f w) (u : Value) : V6 p a b c u e f (w.setCell ⟨p, 3, none⟩ u) :=
  ⟨by simpa using h.lt, by rw [other_cell _ (by simp)]; exact h.c0, by rw [other_cell _ (by simp)]; exact h.c1, by rw [other_cell _ (by simp)]; exact h.c2, World.cell?_setCell_same _ _ _ h.c3, by rw [other_cell _ (by simp)]; exact h.c4, by rw [other_cell _ (by simp)]; exact h.c5, fun j => by simpa using h.fz j⟩
theorem V6.set4 {p : Nat} {a b c d e f : Value} {w : World} (h : V6 p a b c d e f w) (u : Value) : V6 p a b c d u f (w.setCell ⟨p, 4, none⟩ u) :=
  ⟨by simpa using h.lt, by rw [other_cell _ (by simp)]; exact h.c0, by rw [other_cell _ (by simp)]; exact h.c1, by rw [other_cell _ (by simp)]; exact h.c2, by rw [other_cell _ (by simp)]; exact h.c3, World.cell?_setCell_same _ _ _ h.c4, by rw [other_cell _ (by simp)]; exact h.c5, fun j => by simpa using h.fz j⟩
theorem Lr.setOdd (h : Lr w b p n gr go cr co bl cp M o odd ties) (t : Bool) : Lr (w.setCell ⟨p, 3, none⟩ (.bool t)) b p n gr go cr co bl cp M o t ties :=
  h.same (fun _ hg => Below.heap_setCell _ _ _ _ hg) (h.v.set3 _)
theorem Lr.setTies (h : Lr w b p n gr go cr co bl cp M o odd ties) (t : Bool) : Lr (w.setCell ⟨p, 4, none⟩ (.bool t)) b p n gr go cr co bl cp M o odd t :=
  h.same (fun _ hg => Below.heap_setCell _ _ _ _ hg) (h.v.set4 _)
theorem Lr.put (h : Lr w b p n gr go cr co bl cp M o odd ties) {i : Nat} {f : Nat → Cw} (hi : i < n) (ho : OnlyRow (bl i) w w') (hr : Rw w' b (.slice (some ⟨bl i, 0, none⟩) n (cp i)) n (ro n f)) :
    Lr w' b p n gr go cr co bl cp (fun j => if j = i then f else M j) o odd ties := by
  refine ⟨h.v.at (Nat.le_of_eq ho.size.symm) (ho.block p (fun e => (h.ap i hi).1 e.symm)), own_at h.rows (fun g hg => ?_), fun j hj => ?_, ⟨h.ord.len, own_at h.ord.own (fun g hg => ?_)⟩, h.ge, h.inj, h.ap, h.ap2⟩
  · cases hg; exact ho.block gr (fun e => (h.ap i hi).2.1 e.symm)
  · by_cases e : j = i
    · subst e; simp only [if_true]; exact hr
    · simp only [e, if_false]
      exact ⟨(h.row j hj).len, own_at (h.row j hj).own (fun g hg => by cases hg; exact ho.block _ (fun e2 => e (h.inj j i hj hi e2)))⟩
  · cases hg; exact ho.block go (fun e => (h.ap i hi).2.2 e.symm)
theorem Lr.congr {M' : Nat → Nat → Cw} (h : Lr w b p n gr go cr co bl cp M o odd ties) (e : ∀ i j, i < n → j < n → M i j = M' i j) : Lr w b p n gr go cr co bl cp M' o odd ties :=
  ⟨h.v, h.rows, fun i hi => by rw [← ro_congr (fun j hj => e i j hi hj)]; exact h.row i hi, h.ord, h.ge, h.inj, h.ap, h.ap2⟩
theorem swO_inj {n k q : Nat} {f : Nat → Nat} (h : ∀ i j, i < n → j < n → f i = f j → i = j) (hk : k < n) (hq : q < n) : ∀ i j, i < n → j < n → swO f k q i = swO f k q j → i = j := by
  intro i j hi hj e
  unfold swO at e
  by_cases a1 : i = k
  · rw [if_pos a1] at e
    by_cases b1 : j = k
    · omega
    · rw [if_neg b1] at e
      by_cases b2 : j = q
      · rw [if_pos b2] at e; have := h q k hq hk e; omega
      · rw [if_neg b2] at e; have := h q j hq hj e; omega
  · rw [if_neg a1] at e
    by_cases a2 : i = q
    · rw [if_pos a2] at e
      by_cases b1 : j = k
      · rw [if_pos b1] at e; have := h k q hk hq e; omega
      · rw [if_neg b1] at e
        by_cases b2 : j = q
        · omega
        · rw [if_neg b2] at e; have := h k j hk hj e; omega
    · rw [if_neg a2] at e
      by_cases b1 : j = k
      · rw [if_pos b1] at e; have := h i q hi hq e; omega
      · rw [if_neg b1] at e
        by_cases b2 : j = q
        · rw [if_pos b2] at e; have := h i k hi hk e; omega
        · rw [if_neg b2] at e; exact h i j hi hj e
theorem Lr.swapRows (h : Lr w b p n gr go cr co bl cp M o odd ties) {k q : Nat} (hk : k < n) (hq : q < n) (hkq : k ≠ q)
    (hw : ∃ m, w' = ((w.drewN m).setCell ⟨gr, q, none⟩ (.slice (some ⟨bl k, 0, none⟩) n (cp k))).setCell ⟨gr, k, none⟩ (.slice (some ⟨bl q, 0, none⟩) n (cp q))) :
    Lr w' b p n gr go cr co (swO bl k q) (swO cp k q) (swM M k q) o odd ties := by
  obtain ⟨m, rfl⟩ := hw
  have hoth : ∀ g, g ≠ gr → (((w.drewN m).setCell ⟨gr, q, none⟩ (.slice (some ⟨bl k, 0, none⟩) n (cp k))).setCell ⟨gr, k, none⟩ (.slice (some ⟨bl q, 0, none⟩) n (cp q))).heap[g]? = w.heap[g]? := by
    intro g hg
    rw [Below.heap_setCell _ _ _ _ hg, Below.heap_setCell _ _ _ _ hg]; rfl
  have hrow : ∀ i, i < n → Rw (((w.drewN m).setCell ⟨gr, q, none⟩ (.slice (some ⟨bl k, 0, none⟩) n (cp k))).setCell ⟨gr, k, none⟩ (.slice (some ⟨bl q, 0, none⟩) n (cp q))) b (.slice (some ⟨bl i, 0, none⟩) n (cp i)) n (ro n (M i)) :=
    fun i hi => ⟨(h.row i hi).len, own_at (h.row i hi).own (fun g hg => by cases hg; exact hoth _ (h.ap i hi).2.1)⟩
  refine ⟨h.v.at (by simp) (hoth p h.ap2.1.symm), ?_, ?_, ⟨h.ord.len, own_at h.ord.own (fun g hg => by cases hg; exact hoth _ h.ap2.2.2.symm)⟩, h.ge, swO_inj h.inj hk hq, ?_, h.ap2⟩
  · have h1 := (h.rows.stored q (.slice (some ⟨bl k, 0, none⟩) n (cp k))).1
    have h2 := (h1.stored k (.slice (some ⟨bl q, 0, none⟩) n (cp q))).1
    rw [range_set, range_set] at h2
    have e : (List.range n).map (fun j => if j = k then (Value.slice (some ⟨bl q, 0, none⟩) n (cp q)) else if j = q then .slice (some ⟨bl k, 0, none⟩) n (cp k) else .slice (some ⟨bl j, 0, none⟩) n (cp j)) = (List.range n).map (fun i => Value.slice (some ⟨swO bl k q i, 0, none⟩) n (swO cp k q i)) := by
      refine List.map_congr_left (fun i _ => ?_)
      unfold swO
      by_cases h1 : i = k
      · rw [if_pos h1, if_pos h1, if_pos h1]
      · rw [if_neg h1, if_neg h1, if_neg h1]
        by_cases h2 : i = q
        · rw [if_pos h2, if_pos h2, if_pos h2]
        · rw [if_neg h2, if_neg h2, if_neg h2]
    rw [e] at h2
    exact h2
  · intro i hi
    unfold swO swM
    by_cases h1 : i = k
    · subst h1; simp only [if_true]; exact hrow q hq
    · simp only [h1, if_false]
      by_cases h2 : i = q
      · subst h2; simp only [if_true]; exact hrow k hk
      · simp only [h2, if_false]; exact hrow i hi
  · intro i hi
    unfold swO
    split
    · exact h.ap q hq
    · split
      · exact h.ap k hk
      · exact h.ap i hi
theorem Lr.swapOrd (h : Lr w b p n gr go cr co bl cp M o odd ties) {k q : Nat}
    (hw : ∃ m, w' = ((w.drewN m).setCell ⟨go, q, none⟩ (.int .i64 (o k))).setCell ⟨go, k, none⟩ (.int .i64 (o q))) :
    Lr w' b p n gr go cr co bl cp M (swO o k q) odd ties := by
  obtain ⟨m, rfl⟩ := hw
  have hoth : ∀ g, g ≠ go → (((w.drewN m).setCell ⟨go, q, none⟩ (.int .i64 (o k))).setCell ⟨go, k, none⟩ (.int .i64 (o q))).heap[g]? = w.heap[g]? := by
    intro g hg
    rw [Below.heap_setCell _ _ _ _ hg, Below.heap_setCell _ _ _ _ hg]; rfl
  refine ⟨h.v.at (by simp) (hoth p h.ap2.2.1.symm), own_at h.rows (fun g hg => by cases hg; exact hoth _ h.ap2.2.2), fun i hi => ⟨(h.row i hi).len, own_at (h.row i hi).own (fun g hg => by cases hg; exact hoth _ (h.ap i hi).2.2)⟩, ?_, h.ge, h.inj, h.ap, h.ap2⟩
  have h1 := ((h.ord.drewN m).set q (o k : Int)).set k (o q : Int)
  rw [ri_set, ri_set] at h1
  exact h1
end lr
theorem swO_comm' (o : Nat → Nat) (k q : Nat) : (fun j => if j = k then o q else if j = q then o k else o j) = swO o k q := rfl
/-- which pairs of a column's numbers have one weight -/
def tj (M : Nat → Nat → Cw) (k i : Nat) : Nat → Bool
  | 0 => false
  | m + 1 => tj M k i m || decide (wt (M i k) = wt (M (i + 1 + m) k))
def ti (M : Nat → Nat → Cw) (k n : Nat) : Nat → Bool
  | 0 => false
  | t + 1 => ti M k n t || tj M k (k + t) (n - (k + t + 1))
theorem ord_eqb {a b : Nat} (ha : a ≤ 9218868437227405312) (hb : b ≤ 9218868437227405312) : (FloatKind.f64.format.order a b == some .eq) = decide (a = b) := by
  rw [ord_le ha hb]
  by_cases h : a = b
  · subst h
    rw [decide_eq_true rfl, Int.compare_eq_eq.2 rfl]; rfl
  · rw [decide_eq_false h]
    have : ¬ compare (a : Int) (b : Int) = .eq := by rw [Int.compare_eq_eq]; omega
    cases h : compare (a : Int) (b : Int)
    · rfl
    · exact absurd h this
    · rfl

end Go.Proofs.Ytklbgibhbnijaaa
