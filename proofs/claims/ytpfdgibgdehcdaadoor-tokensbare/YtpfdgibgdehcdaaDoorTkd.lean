/-
  Words: a list of lists of words in memory, each list in a block of its own: what is known of it while Cut goes on.
-/
import Derived.Test.YtpfdgibgdehcdaaDoorTkc
import Derived.Deep.OwnRows
namespace Go.Proofs.YtpfdgibgdehcdaaDoor
open RowKit Joins Deep
set_option linter.unusedVariables false

/-- the rows of words: block BL holds N slices, slice j the words ts j, in a block of its own -/
structure Fam (w : World) (base BL N : Nat) (vs : Nat → Value) (ts : Nat → List Tok) : Prop where
  row : w.rowIs BL 80 N vs
  own : ∀ j, j < N → w.ownsRow base 85 3 (vs j) (ts j).length (tcs (ts j))
  far : ∀ j, j < N → (vs j).ownBlock ≠ some BL
  apart : ∀ j k g, j < N → k < N → j ≠ k → (vs j).ownBlock = some g → (vs k).ownBlock ≠ some g
theorem Fam.lt {w : World} {base BL N : Nat} {vs : Nat → Value} {ts : Nat → List Tok} (h : Fam w base BL N vs ts) : BL < w.heap.size := h.row.lt
theorem Fam.made {w : World} {base N : Nat} : Fam (w.alloc (.cells (madeCells #[.slice none 0 0] N) 80)) base w.heap.size N (fun _ => .slice none 0 0) (fun _ => []) where
  row := World.rowIs_made w _ N _
  own := fun j _ => World.ownsRow_nil _ _ _ _
  far := fun j _ h => by cases h
  apart := fun j k g _ _ _ h => by cases h
theorem Fam.kept {w w' : World} {base BL N : Nat} {vs : Nat → Value} {ts : Nat → List Tok} (h : Fam w base BL N vs ts) (hb : Below w.heap.size w w') : Fam w' base BL N vs ts where
  row := h.row.of_block (hb.block _ h.lt)
  own := fun j hj => by
    refine (h.own j hj).kept (row := none) ⟨hb.os, hb.tape, hb.output, hb.size, fun k hk _ => hb.block k hk⟩ ?_
    cases e : (vs j).ownBlock
    · exact .inl rfl
    · exact .inr (by simp)
  far := h.far
  apart := h.apart
theorem Fam.turn {w w1 : World} {base BL N n : Nat} {vs : Nat → Value} {ts : Nat → List Tok} (h : Fam w base BL N vs ts) (hn : n < N) {v' : Value} {l : List Tok}
    (hg : w.grownBy w1 (vs n).ownBlock) (hown : w1.ownsRow base 85 3 v' l.length (tcs l)) (hv : v'.ownBlock = (vs n).ownBlock ∨ ∃ g, v'.ownBlock = some g ∧ w.heap.size ≤ g) :
    Fam (w1.setCell ⟨BL, n, none⟩ v') base BL N (fun j => if j = n then v' else vs j) (fun j => if j = n then l else ts j) := by
  have hlt := h.lt
  have hnb : v'.ownBlock ≠ some BL := by
    rcases hv with e | ⟨g, e, hge⟩
    · rw [e]; exact h.far n hn
    · rw [e]; intro q; have := Option.some.inj q; omega
  have hr1 : w1.rowIs BL 80 N vs := h.row.of_block (hg.block BL hlt (fun e => h.far n hn e.symm))
  have hb : ∀ j, j < N → ∀ g, (vs j).ownBlock = some g → g < w.heap.size := fun j hj g e => ((h.own j hj).lt g e).2
  refine ⟨hr1.set n v', ?_, ?_, ?_⟩
  · intro j hj
    by_cases e : j = n
    · simp only [e, if_true]
      exact hown.kept (row := some BL) grown_set (.inr hnb)
    · simp only [e, if_false]
      have h1 := (h.own j hj).kept hg (by
        cases q : (vs j).ownBlock with
        | none => exact .inl rfl
        | some g => exact .inr (fun q2 => h.apart j n g hj hn e q q2.symm))
      exact h1.kept (row := some BL) grown_set (.inr (h.far j hj))
  · intro j hj
    by_cases e : j = n
    · simp only [e, if_true]; exact hnb
    · simp only [e, if_false]; exact h.far j hj
  · intro j k g hj hk hjk
    by_cases e : j = n
    · have e2 : k ≠ n := fun q => hjk (by omega)
      simp only [e, if_true, e2, if_false]
      intro q1 q2
      rcases hv with e3 | ⟨g2, e3, hge⟩
      · exact h.apart n k g hn hk (fun q => e2 q.symm) (e3.symm.trans q1) q2
      · rw [e3] at q1; have := Option.some.inj q1; have := hb k hk g q2; omega
    · by_cases e2 : k = n
      · simp only [e, if_false, e2, if_true]
        intro q1 q2
        rcases hv with e3 | ⟨g2, e3, hge⟩
        · exact h.apart j n g hj hn e q1 (e3.symm.trans q2)
        · rw [e3] at q2; have := Option.some.inj q2; have := hb j hj g q1; omega
      · simp only [e, e2, if_false]; exact h.apart j k g hj hk hjk

/-- what is known while Cut goes on: it stands at line n, of which the words l are laid -/
structure Civ (s : ByteArray) (w wr : World) (n : Nat) (l : List Tok) : Prop where
  bel : Below w.heap.size w wr
  fc : wr.heap[w.heap.size]? = some (.cells #[.int .i64 0, .int .i64 0] 30 (0, 0))
  tx : wr.heap[w.heap.size + 1]? = some (.cells ((cuT s (alP s)).map Value.string).toArray 9)
  fam : ∃ vs ts, Fam wr (w.heap.size + 3) (w.heap.size + 2) (liP s).length vs ts ∧ (∀ j u, j < n → (liT s)[j]? = some u → ts j = tkl j u) ∧ ts n = l ∧ ∀ j, n < j → ts j = []
  ok : ∀ j u, j < n → (liT s)[j]? = some u → bdE u = 0
theorem Civ.next {s : ByteArray} {w wr : World} {n : Nat} {t : ByteArray} (h : Civ s w wr n (tkl n t)) (ht : (liT s)[n]? = some t) (hb : bdE t = 0) : Civ s w wr (n + 1) [] := by
  obtain ⟨vs, ts, hf, h1, h2, h3⟩ := h.fam
  refine ⟨h.bel, h.fc, h.tx, ⟨vs, ts, hf, ?_, h3 _ (by omega), fun j hj => h3 j (by omega)⟩, ?_⟩
  · intro j u hj hu
    rcases Nat.lt_succ_iff_lt_or_eq.1 hj with q | rfl
    · exact h1 j u q hu
    · rw [ht] at hu; cases hu; exact h2
  · intro j u hj hu
    rcases Nat.lt_succ_iff_lt_or_eq.1 hj with q | rfl
    · exact h.ok j u q hu
    · rw [ht] at hu; cases hu; exact hb
theorem liT_get {s : ByteArray} {n : Nat} (h : n < (liP s).length) : ∃ p ∈ liP s, (liP s)[n]? = some p ∧ (liT s)[n]? = some (s.extract p.1 p.2) := by
  refine ⟨(liP s)[n], List.getElem_mem h, List.getElem?_eq_getElem h, ?_⟩
  unfold liT cuT
  rw [List.getElem?_map, List.getElem?_eq_getElem h]; rfl
theorem liP_pre {s : ByteArray} {n : Nat} {p : Nat × Nat} (h : (liP s)[n]? = some p) : (alP s)[n]? = some p := by
  unfold liP at h
  split at h
  · rw [List.getElem?_dropLast] at h
    split at h
    · exact h
    · cases h
  · exact h
theorem Civ.text {s : ByteArray} {w wr : World} {n : Nat} {l : List Tok} (h : Civ s w wr n l) {t : ByteArray} {k : Nat} (hk : (liT s)[k]? = some t) : wr.cell? ⟨w.heap.size + 1, k, none⟩ = some (.string t) := by
  refine str_cell h.tx ?_
  have hk2 : (cuT s (liP s))[k]? = some t := hk
  unfold cuT at hk2 ⊢
  rw [List.getElem?_map] at hk2 ⊢
  cases e : (liP s)[k]? with
  | none => rw [e] at hk2; cases hk2
  | some p => rw [e] at hk2; rw [liP_pre e]; exact hk2
theorem Civ.lays {s : ByteArray} {w wr w1 : World} {n : Nat} {l l2 : List Tok} (h : Civ s w wr n l) (hn : n < (liP s).length) {vs : Nat → Value} {ts : Nat → List Tok}
    (hf : Fam wr (w.heap.size + 3) (w.heap.size + 2) (liP s).length vs ts) (h1 : ∀ j u, j < n → (liT s)[j]? = some u → ts j = tkl j u) (h3 : ∀ j, n < j → ts j = [])
    {v' : Value} (hg : wr.grownBy w1 (vs n).ownBlock) (hown : w1.ownsRow (w.heap.size + 3) 85 3 v' l2.length (tcs l2)) (hv : v'.ownBlock = (vs n).ownBlock ∨ ∃ g, v'.ownBlock = some g ∧ wr.heap.size ≤ g) :
    Civ s w (w1.setCell ⟨w.heap.size + 2, n, none⟩ v') n l2 := by
  have hlt := hf.lt
  have hb0 : ∀ g, (vs n).ownBlock = some g → w.heap.size + 3 ≤ g := fun g e => ((hf.own n hn).lt g e).1
  have hblk : ∀ k, k < w.heap.size + 3 → k ≠ w.heap.size + 2 → (w1.setCell ⟨w.heap.size + 2, n, none⟩ v').heap[k]? = wr.heap[k]? := by
    intro k hk hk2
    rw [Below.heap_setCell _ _ _ _ (by intro e; exact hk2 (by simpa using e)), hg.block k (by omega) (by intro e; have := hb0 k e.symm; omega)]
  refine ⟨?_, ?_, ?_, ⟨_, _, hf.turn hn hg hown hv, ?_, by simp, ?_⟩, h.ok⟩
  · refine h.bel.trans ⟨hg.os, hg.tape, hg.output, ?_, fun k hk => hblk k (by omega) (by omega)⟩
    have := hg.size
    simp [World.setCell]; have := h.bel.size; omega
  · rw [hblk _ (by omega) (by omega)]; exact h.fc
  · rw [hblk _ (by omega) (by omega)]; exact h.tx
  · intro j u hj hu
    simp only [show j ≠ n by omega, if_false]; exact h1 j u hj hu
  · intro j hj
    simp only [show j ≠ n by omega, if_false]; exact h3 j hj
theorem Civ.drew {s : ByteArray} {w wr : World} {n : Nat} {l : List Tok} (h : Civ s w wr n l) : Civ s w wr.drew n l :=
  ⟨h.bel.drew, h.fc, h.tx, h.fam.imp fun vs q => q.imp fun ts q => ⟨⟨q.1.row, q.1.own, q.1.far, q.1.apart⟩, q.2⟩, h.ok⟩
theorem Fam.put {w : World} {base BL N : Nat} {vs : Nat → Value} {ts : Nat → List Tok} (h : Fam w base BL N vs ts) {b i : Nat} (hb : b < base) (hne : BL ≠ b) (x : Value) : Fam (w.setCell ⟨b, i, none⟩ x) base BL N vs ts :=
  ⟨h.row.setOther hne x, fun j hj => ownsRow_setCell_below (h.own j hj) hb x, h.far, h.apart⟩
/-- two cells of a block that is known whole -/
theorem two_c {w : World} {B : Nat} {a b : Value} {T : TypeId} (h : w.heap[B]? = some (.cells #[a, b] T (0, 0))) : w.cell? ⟨B, 0, none⟩ = some a ∧ w.cell? ⟨B, 1, none⟩ = some b ∧ w.frozen? ⟨B, 0, none⟩ = false ∧ w.frozen? ⟨B, 1, none⟩ = false :=
  ⟨by rw [cell_of_row w B 0 _ T (0, 0) h]; rfl, by rw [cell_of_row w B 1 _ T (0, 0) h]; rfl, frozen_of_row w B 0 _ T h, frozen_of_row w B 1 _ T h⟩
theorem two_set {w : World} {B : Nat} {a b : Value} {T : TypeId} (h : w.heap[B]? = some (.cells #[a, b] T (0, 0))) (x y : Value) :
    ((w.setCell ⟨B, 0, none⟩ x).setCell ⟨B, 1, none⟩ y).cell? ⟨B, 0, none⟩ = some x ∧ ((w.setCell ⟨B, 0, none⟩ x).setCell ⟨B, 1, none⟩ y).cell? ⟨B, 1, none⟩ = some y := by
  obtain ⟨c0, c1, _, _⟩ := two_c h
  constructor
  · rw [World.cell?_setCell_other _ _ _ _ (by simp)]
    exact World.cell?_setCell_same _ _ _ c0
  · refine World.cell?_setCell_same _ _ _ (u := b) ?_
    rw [World.cell?_setCell_other _ _ _ _ (by simp)]; exact c1
theorem below_two {w w' : World} {f n : Nat} (h : Below n w w') (hf : n ≤ f) (x y : Value) : Below n w ((w'.setCell ⟨f, 0, none⟩ x).setCell ⟨f, 1, none⟩ y) :=
  (h.setCell (p := ⟨f, 0, none⟩) hf _).setCell (p := ⟨f, 1, none⟩) hf _
/-- Cut begins -/
theorem Civ.start {s : ByteArray} {w : World} {N : Nat} (hN : (liP s).length = N) :
    Civ s w (((w.alloc (.cells #[.int .i64 0, .int .i64 0] 30)).alloc (.cells ((cuT s (alP s)).map Value.string).toArray 9)).alloc (.cells (madeCells #[.slice none 0 0] N) 80)) 0 [] := by
  have hf := Fam.made (w := (w.alloc (.cells #[.int .i64 0, .int .i64 0] 30)).alloc (.cells ((cuT s (alP s)).map Value.string).toArray 9)) (base := w.heap.size + 3) (N := N)
  rw [show ((w.alloc (.cells #[.int .i64 0, .int .i64 0] 30)).alloc (.cells ((cuT s (alP s)).map Value.string).toArray 9)).heap.size = w.heap.size + 2 by simp] at hf
  refine ⟨(((Below.refl _ _).alloc (Nat.le_refl _) _).alloc (by simp) _).alloc (by simp; omega) _, ?_, ?_, ⟨_, _, by rw [hN]; exact hf, fun j u hj => absurd hj (by omega), rfl, fun _ _ => rfl⟩, fun j u hj => absurd hj (by omega)⟩
  · rw [blk_alloc_lt _ _ _ (by simp; omega), blk_alloc_lt _ _ _ (by simp)]; exact heap_alloc_new _ _
  · rw [blk_alloc_lt _ _ _ (by simp)]
    have := heap_alloc_new (w.alloc (.cells #[.int .i64 0, .int .i64 0] 30)) (.cells ((cuT s (alP s)).map Value.string).toArray 9)
    simpa using this
end Go.Proofs.YtpfdgibgdehcdaaDoor
