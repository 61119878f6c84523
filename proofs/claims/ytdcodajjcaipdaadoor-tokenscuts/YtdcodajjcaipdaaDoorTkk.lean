/-
  Words: a list of lists of words that is written over and gone on with; what stays.
-/
import Derived.Test.YtdcodajjcaipdaaDoorTkr
namespace Go.Proofs.YtdcodajjcaipdaaDoor
open RowKit Joins Deep
set_option linter.unusedVariables false

theorem Fam.turn0 {w w1 : World} {base BL N n : Nat} {vs : Nat → Value} {ts : Nat → List Tok} (h : Fam w base BL N vs ts) (hn : n < N) {l : List Tok}
    (hg : w.grownBy w1 (vs n).ownBlock) (hown : w1.ownsRow base 32 3 (vs n) l.length (tcs l)) :
    Fam w1 base BL N vs (fun j => if j = n then l else ts j) := by
  have hlt := h.lt
  refine ⟨h.row.of_block (hg.block BL hlt (fun e => h.far n hn e.symm)), ?_, h.far, h.apart⟩
  intro j hj
  by_cases e : j = n
  · simp only [e, if_true]; exact hown
  · simp only [e, if_false]
    exact (h.own j hj).kept hg (by
      cases q : (vs j).ownBlock with
      | none => exact .inl rfl
      | some g => exact .inr (fun q2 => h.apart j n g hj hn e q q2.symm))
/-- what is known while a's lists are written over: what lies from mid on, up to w4's end, stays -/
structure Mrk (lo mid : Nat) (w4 wr : World) (base BL N : Nat) (vs : Nat → Value) (ts : Nat → List Tok) : Prop where
  fam : Fam wr base BL N vs ts
  inn : ∀ j g, j < N → (vs j).ownBlock = some g → g < mid ∨ w4.heap.size ≤ g
  bel : Below lo w4 wr
  sty : ∀ k, mid ≤ k → k < w4.heap.size → wr.heap[k]? = w4.heap[k]?
  lob : lo ≤ base ∧ lo ≤ BL ∧ BL < mid
theorem Mrk.step {lo mid : Nat} {w4 wr w1 : World} {base BL N n : Nat} {vs : Nat → Value} {ts : Nat → List Tok} (h : Mrk lo mid w4 wr base BL N vs ts) (hn : n < N) {l : List Tok}
    (hg : wr.grownBy w1 (vs n).ownBlock) (hown : w1.ownsRow base 32 3 (vs n) l.length (tcs l)) : Mrk lo mid w4 w1 base BL N vs (fun j => if j = n then l else ts j) := by
  have hb0 : ∀ g, (vs n).ownBlock = some g → base ≤ g := fun g e => ((h.fam.own n hn).lt g e).1
  refine ⟨h.fam.turn0 hn hg hown, h.inn, h.bel.trans ⟨hg.os, hg.tape, hg.output, by have := hg.size; have := h.bel.size; omega, fun k hk => hg.block k (by have := h.bel.size; have := h.lob; have := h.fam.lt; omega) (fun e => by have := hb0 k e.symm; have := h.lob; omega)⟩, ?_, h.lob⟩
  intro k h1 h2
  rw [hg.block k (by have := h.bel.size; omega) (fun e => by have := h.inn n k hn e.symm; omega)]
  exact h.sty k h1 h2
theorem Mrk.push {lo mid : Nat} {w4 wr w1 : World} {base BL N n : Nat} {vs : Nat → Value} {ts : Nat → List Tok} (h : Mrk lo mid w4 wr base BL N vs ts) (hn : n < N) {v' : Value} {l : List Tok}
    (hg : wr.grownBy w1 (vs n).ownBlock) (hown : w1.ownsRow base 32 3 v' l.length (tcs l)) (hv : v'.ownBlock = (vs n).ownBlock ∨ ∃ g, v'.ownBlock = some g ∧ wr.heap.size ≤ g) :
    Mrk lo mid w4 (w1.setCell ⟨BL, n, none⟩ v') base BL N (fun j => if j = n then v' else vs j) (fun j => if j = n then l else ts j) := by
  have hb0 : ∀ g, (vs n).ownBlock = some g → base ≤ g := fun g e => ((h.fam.own n hn).lt g e).1
  have hlt := h.fam.lt
  have hsz := h.bel.size
  have hlob := h.lob
  refine ⟨h.fam.turn hn hg hown hv, ?_, ?_, ?_, h.lob⟩
  · intro j g hj
    by_cases e : j = n
    · simp only [e, if_true]
      intro hq
      rcases hv with q | ⟨g', q, hq2⟩
      · exact h.inn n g hn (q.symm.trans hq)
      · rw [q] at hq; have := Option.some.inj hq; right; omega
    · simp only [e, if_false]; exact h.inn j g hj
  · refine h.bel.trans ⟨hg.os, hg.tape, hg.output, by have := hg.size; simp [World.setCell]; omega, fun k hk => ?_⟩
    rw [Below.heap_setCell _ _ _ _ (by intro e; have : k = BL := by simpa using e
                                       omega)]
    exact hg.block k (by omega) (fun e => by have := hb0 k e.symm; omega)
  · intro k h1 h2
    rw [Below.heap_setCell _ _ _ _ (by intro e; have : k = BL := by simpa using e
                                       omega), hg.block k (by omega) (fun e => by have := h.inn n k hn e.symm; omega)]
    exact h.sty k h1 h2
theorem tcs_set {l : List Tok} : ∀ {k : Nat} {p : Tok}, k < l.length → tcs (l.set k p) = (((tcs l).set (k * 3) (.string p.1)).set (k * 3 + 1) (.int .i64 p.2.1)).set (k * 3 + 2) (.int .i64 p.2.2) := by
  induction l with
  | nil => intro k p h; simp at h
  | cons q r ih =>
    intro k p h
    cases k with
    | zero => rfl
    | succ k =>
      have := ih (k := k) (p := p) (by simpa using h)
      rw [List.set_cons_succ]
      show .string q.1 :: .int .i64 q.2.1 :: .int .i64 q.2.2 :: tcs (r.set k p) = _
      rw [this, show (k + 1) * 3 = k * 3 + 3 by omega]
      rfl
/-- one word is written over -/
theorem own_write {w : World} {base g len cap k : Nat} {l : List Tok} (h : w.ownsRow base 32 3 (.slice (some ⟨g, 0, none⟩) len cap) l.length (tcs l)) (hl : l.length = len) (hk : k < len) (p : Tok) :
    (((w.setCell ⟨g, k * 3, none⟩ (.string p.1)).setCell ⟨g, k * 3 + 1, none⟩ (.int .i64 p.2.1)).setCell ⟨g, k * 3 + 2, none⟩ (.int .i64 p.2.2)).ownsRow base 32 3 (.slice (some ⟨g, 0, none⟩) len cap) (l.set k p).length (tcs (l.set k p)) ∧
    w.grownBy (((w.setCell ⟨g, k * 3, none⟩ (.string p.1)).setCell ⟨g, k * 3 + 1, none⟩ (.int .i64 p.2.1)).setCell ⟨g, k * 3 + 2, none⟩ (.int .i64 p.2.2)) (some g) := by
  subst hl
  have s1 := h.stored (k * 3) (.string p.1)
  have s2 := s1.1.stored (k * 3 + 1) (.int .i64 p.2.1)
  have s3 := s2.1.stored (k * 3 + 2) (.int .i64 p.2.2)
  rw [List.length_set, tcs_set hk]
  refine ⟨s3.1, ⟨rfl, rfl, rfl, by simp [World.setCell], fun j hj hne => ?_⟩⟩
  have hn : ∀ q, j ≠ (⟨g, q, none⟩ : Addr).block := fun q e => hne (by simp only at e; rw [e])
  rw [Below.heap_setCell _ _ _ _ (hn _), Below.heap_setCell _ _ _ _ (hn _), Below.heap_setCell _ _ _ _ (hn _)]
/-- the mark at place k of list i, the first n places of a list marked, what is put behind -/
def mkT (i k : Nat) : Tok := (⟨#[109, 97, 114, 107]⟩, -(i : Int), -(k : Int))
def mrT (i : Nat) : Tok := (⟨#[109, 111, 114, 101]⟩, (i : Int), 0)
def mkd (i n : Nat) (l : List Tok) : List Tok := l.mapIdx fun j p => if j < n then mkT i j else p
theorem mkd_len (i n : Nat) (l : List Tok) : (mkd i n l).length = l.length := by unfold mkd; simp
theorem mkd_zero (i : Nat) (l : List Tok) : mkd i 0 l = l := by
  apply List.ext_getElem?
  intro j; unfold mkd; simp
theorem mkd_get {i n : Nat} {l : List Tok} {k : Nat} (hk : k < l.length) (hn : k < n) : (mkd i n l)[k]? = some (mkT i k) := by
  unfold mkd; rw [List.getElem?_mapIdx, List.getElem?_eq_getElem hk]; simp [hn]
theorem mkd_set {i n : Nat} {l : List Tok} (hn : n < l.length) : (mkd i n l).set n (mkT i n) = mkd i (n + 1) l := by
  apply List.ext_getElem?
  intro j
  rw [List.getElem?_set]
  unfold mkd
  rw [List.getElem?_mapIdx, List.getElem?_mapIdx]
  by_cases e : n = j
  · subst e
    rw [if_pos rfl, if_pos (by simpa using hn), List.getElem?_eq_getElem hn]; simp
  · rw [if_neg e]
    cases l[j]? with
    | none => rfl
    | some p =>
      simp only [Option.map_some]
      by_cases q : j < n
      · rw [if_pos q, if_pos (by omega)]
      · rw [if_neg q, if_neg (by omega)]
end Go.Proofs.YtdcodajjcaipdaaDoor
