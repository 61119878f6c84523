/-
  Several texts in one: Tkc Tkd Tke Tkr Tkj.
-/
import Derived.Test.YtmpkcioeodlbcaaGreatDoorK03
import Derived.Test.YtmpkcioeodlbcaaGreatDoorK04
import Derived.Lib.IndexMore
import Derived.Deep.OwnRows
import Derived.WalkMore
import Derived.Deep.LoopGhost
import Derived.Deep.RegionWith
import Derived.Deep.QuietTactic
namespace Go.Proofs.YtmpkcioeodlbcaaGreatDoor
open RowKit Joins
set_option linter.unusedVariables false
theorem pcs_no {s : ByteArray} : ∀ {n i f : Nat}, (∀ j, i ≤ j → j < i + n → bty s j ≠ 10) → pcs s n i f = [(f, i + n)] := by
  intro n
  induction n with
  | zero => intro i f _; rfl
  | succ n ih =>
    intro i f h
    unfold pcs
    rw [if_neg (h i (Nat.le_refl _) (by omega)), ih (fun j h1 h2 => h j (by omega) (by omega))]
    congr 2; omega
theorem pcs_hit {s : ByteArray} : ∀ {m n i f : Nat}, (∀ j, i ≤ j → j < i + m → bty s j ≠ 10) → bty s (i + m) = 10 → m < n → pcs s n i f = (f, i + m) :: pcs s (n - m - 1) (i + m + 1) (i + m + 1) := by
  intro m
  induction m with
  | zero =>
    intro n i f _ h hn
    obtain ⟨n, rfl⟩ : ∃ k, n = k + 1 := ⟨n - 1, by omega⟩
    show (if bty s i = 10 then (f, i) :: pcs s n (i + 1) (i + 1) else pcs s n (i + 1) f) = _
    rw [if_pos (by simpa using h)]
    simp
  | succ m ih =>
    intro n i f h1 h2 hn
    obtain ⟨n, rfl⟩ : ∃ k, n = k + 1 := ⟨n - 1, by omega⟩
    show (if bty s i = 10 then (f, i) :: pcs s n (i + 1) (i + 1) else pcs s n (i + 1) f) = _
    rw [if_neg (h1 i (Nat.le_refl _) (by omega)), ih (n := n) (i := i + 1) (fun j q1 q2 => h1 j (by omega) (by omega)) (by rw [show i + 1 + m = i + (m + 1) by omega]; exact h2) (by omega)]
    rw [show i + 1 + m = i + (m + 1) by omega, show n - m - 1 = n + 1 - (m + 1) - 1 by omega]

def nlB : ByteArray := ⟨#[10]⟩
theorem occ_yes {s : ByteArray} {i : Nat} (h : Lib.occAt s.data.toList nlB.data.toList i = true) : i < s.size ∧ bty s i = 10 := by
  have := Lib.occAt_head (c := 10) (t := []) rfl h
  have h1 : s.data[i]? = some 10 := by simpa using this
  have h2 : i < s.data.size := by
    rcases Nat.lt_or_ge i s.data.size with q | q
    · exact q
    · rw [Array.getElem?_eq_none q] at h1; cases h1
  refine ⟨h2, ?_⟩
  show (s.data.getD i 0).toNat = 10
  rw [Array.getD_eq_getD_getElem?, h1]; rfl
theorem occ_no {s : ByteArray} {i : Nat} (hi : i < s.size) (h : Lib.occAt s.data.toList nlB.data.toList i = false) : bty s i ≠ 10 := by
  have h2 : i < s.data.size := hi
  intro q
  have q1 : (s.data[i]'h2).toNat = 10 := by
    have := bty_get hi; rw [q] at this; exact this
  have q2 : s.data[i]'h2 = 10 := UInt8.toNat_inj.1 q1
  rw [Lib.occAt_iff_take _ _ _ (by have : nlB.data.toList.length = 1 := rfl; rw [this, ← Lib.size_eq]; omega)] at h
  have e : (s.data.toList.drop i).take nlB.data.toList.length = [10] := by
    have : nlB.data.toList.length = 1 := rfl
    rw [this]
    rw [List.take_one, List.head?_drop]
    simp [Array.getElem?_eq_getElem h2, q2]
  rw [e] at h
  exact absurd h (by decide)

theorem split_pcs (s : ByteArray) : ∀ k p, p ≤ s.size → s.size - p = k →
    Lib.splitB nlB 0 (Lib.countB (s.extract p s.size) nlB) (s.extract p s.size) = cuT s (pcs s (s.size - p) p p) := by
  intro k
  induction k using Nat.strongRecOn with
  | _ k ih =>
    intro p hp hk
    have hts : (s.extract p s.size).size = s.size - p := ex_size (Nat.le_refl _)
    rcases Lib.index_spec (s.extract p s.size).data.toList nlB.data.toList with ⟨h1, h2⟩ | ⟨i, h1, h2, h3, h4⟩
    · have e1 : Lib.indexB (s.extract p s.size) nlB = -1 := h1
      rw [Lib.splitB_miss _ _ _ _ e1, pcs_no]
      · show _ = [s.extract p (p + (s.size - p))]
        rw [show p + (s.size - p) = s.size by omega]
      · intro j q1 q2
        have := occ_no (s := s.extract p s.size) (i := j - p) (by rw [hts]; omega) (h2 _ (by rw [← Lib.size_eq, hts]; omega))
        rwa [bty_ex (Nat.le_refl _) (by omega), show p + (j - p) = j by omega] at this
    · have e1 : Lib.indexB (s.extract p s.size) nlB = i := h1
      obtain ⟨y1, y2⟩ := occ_yes h3
      rw [hts] at y1
      rw [bty_ex (Nat.le_refl _) (by omega)] at y2
      have hsz : nlB.size = 1 := rfl
      have e2 : (s.extract p s.size).extract (i + 1) (s.extract p s.size).size = s.extract (p + i + 1) s.size := by
        rw [hts, ex_ex (by omega)]; congr 1; omega
      rw [Lib.countB_hit _ _ i (by decide) e1, hsz, e2, Nat.add_comm 1, Lib.splitB_hit _ _ _ _ i e1, hsz, e2, ih (s.size - (p + i + 1)) (by omega) _ (by omega) rfl]
      rw [pcs_hit (m := i) ?_ y2 (by omega)]
      · rw [ex_ex (by omega)]
        show _ = s.extract p (p + i) :: _
        rw [show s.size - p - i - 1 = s.size - (p + i + 1) by omega]
        congr 1
      · intro j q1 q2
        have := occ_no (s := s.extract p s.size) (i := j - p) (by rw [hts]; omega) (h4 _ (by omega))
        rwa [bty_ex (Nat.le_refl _) (by omega), show p + (j - p) = j by omega] at this
theorem split_all (s : ByteArray) : Lib.splitB nlB 0 (Lib.countB s nlB) s = cuT s (alP s) := by
  have h := split_pcs s s.size 0 (Nat.zero_le _) (by omega)
  have e : s.extract 0 s.size = s := by simp
  rw [e] at h
  exact h
theorem split_len (s : ByteArray) : Lib.countB s nlB + 1 = (alP s).length := by
  have := Lib.splitB_all nlB (by decide) 0 _ s rfl
  rw [split_all] at this
  rw [← this]; unfold cuT; simp

/-- what strings.Split at the byte 10 hands back -/
theorem split_any (s : ByteArray) (m : Int) (w : World) (hs : s.size < 4294967281) (hm : w.cell? ⟨1, 0, none⟩ = some (.int .i64 m)) :
    Calls Tryz.prog 192 #[.string s, .string ⟨#[10]⟩] w fun e w' =>
      e = .returned (.slice (some ⟨w.heap.size, 0, none⟩) (alP s).length (alP s).length) ∧ w' = w.alloc (.cells ((cuT s (alP s)).map Value.string).toArray 9) := by
  have h := Any.strings_Split sh146 shI s nlB m w hs hm (by decide)
  rw [split_all, split_len] at h
  exact h
theorem cuT_len (s : ByteArray) (l : List (Nat × Nat)) : (cuT s l).length = l.length := by unfold cuT; simp
theorem liT_len (s : ByteArray) : (liT s).length = (liP s).length := cuT_len _ _
theorem alP_pos (s : ByteArray) : 0 < (alP s).length := List.length_pos_iff.2 (pcs_ne s _ _ _)
theorem alP_len (s : ByteArray) : (alP s).length ≤ s.size + 1 := pcs_len s s.size 0 0
/-- the last piece -/
theorem alP_last (s : ByteArray) : ∃ g, g ≤ s.size ∧ (alP s)[(alP s).length - 1]? = some (g, s.size) := by
  obtain ⟨g, h1, h2⟩ := pcs_last s s.size 0 0 (by omega) (Nat.le_refl _)
  refine ⟨g, h1, ?_⟩
  rw [← h2, List.getLast?_eq_getElem?]; rfl
theorem str_cell {w : World} {B j : Nat} {l : List ByteArray} {t : TypeId} {u : ByteArray} (h : w.heap[B]? = some (.cells (l.map Value.string).toArray t)) (hj : l[j]? = some u) : w.cell? ⟨B, j, none⟩ = some (.string u) := by
  rw [cell_of_row w B j _ t (0, 0) h]
  simp [hj]
theorem ex_empty {s : ByteArray} {g : Nat} (hg : g ≤ s.size) : (s.extract g s.size).toList.isEmpty = decide (g = s.size) := by
  rw [ByteArray.toList_eq]
  by_cases h : g = s.size
  · subst h
    rw [decide_eq_true rfl]
    have : s.extract s.size s.size = ByteArray.empty := by simp
    rw [this]; rfl
  · rw [decide_eq_false h, List.isEmpty_eq_false_iff]
    intro e
    have : (s.extract g s.size).data.toList.length = 0 := by rw [e]; rfl
    rw [← Lib.size_eq, ex_size (Nat.le_refl _)] at this
    omega
theorem liP_drop {s : ByteArray} (h : (alP s)[(alP s).length - 1]? = some (s.size, s.size)) : liP s = (alP s).dropLast := by
  unfold liP; rw [if_pos (by rw [List.getLast?_eq_getElem?]; exact h)]
theorem liP_all {s : ByteArray} {g : Nat} (h : (alP s)[(alP s).length - 1]? = some (g, s.size)) (hg : g ≠ s.size) : liP s = alP s := by
  unfold liP; rw [if_neg (by rw [List.getLast?_eq_getElem?, h]; simp; exact hg)]

set_option maxHeartbeats 1000000 in
set_option maxRecDepth 100000 in
/-- what linesOf hands back: all pieces in a block of its own, and the slice of the lines -/
theorem linesOf_any (s : ByteArray) (m : Int) (w : World) (hs : s.size ≤ 65536) (hm : w.cell? ⟨1, 0, none⟩ = some (.int .i64 m)) :
    Calls Tryz.prog 145 #[.string s] w fun e w' =>
      e = .returned (.slice (some ⟨w.heap.size, 0, none⟩) (liP s).length (alP s).length) ∧ w' = w.alloc (.cells ((cuT s (alP s)).map Value.string).toArray 9) := by
  obtain ⟨g, hg, hl⟩ := alP_last s
  have hpos := alP_pos s
  have hlen := alP_len s
  have hcl : (cuT s (alP s))[(alP s).length - 1]? = some (s.extract g s.size) := by unfold cuT; rw [List.getElem?_map, hl]; rfl
  have hcell : (w.alloc (.cells ((cuT s (alP s)).map Value.string).toArray 9)).cell? ⟨w.heap.size, (alP s).length - 1, none⟩ = some (.string (s.extract g s.size)) := str_cell (heap_alloc_new _ _) hcl
  have hem := ex_empty hg
  have hli : (liP s).length = if g = s.size then (alP s).length - 1 else (alP s).length := by
    by_cases q : g = s.size
    · subst q; rw [liP_drop hl, if_pos rfl, List.length_dropLast]
    · rw [liP_all hl q, if_neg q]
  have hc := split_any s m w (by omega) hm
  generalize ((cuT s (alP s)).map Value.string).toArray = X at hcell hc ⊢
  obtain ⟨n, hn⟩ : ∃ n, (alP s).length = n + 1 := ⟨(alP s).length - 1, by omega⟩
  rw [hn] at hlen hli hc hcell
  rw [hn]
  simp only [Nat.add_sub_cancel] at hcell hli
  generalize hE : s.extract g s.size = E at hcell hem
  have hix : (n : Int) < (n : Int) + 1 := by omega
  clear hcl hl hn hpos
  by_cases q : g = s.size
  · rw [decide_eq_true q] at hem
    rw [if_pos q] at hli
    rw [hli]
    clear q hli hE
    go_enter Tryz.func145, Tryz.ntmps145
    go_wp2_with (go_at_call 192; (with_reducible refine hc.mono ?_); rintro e w' ⟨rfl, rfl⟩)
    go_ret
    exact ⟨rfl, rfl⟩
  · rw [decide_eq_false q] at hem
    rw [if_neg q] at hli
    rw [hli]
    clear q hli hE
    go_enter Tryz.func145, Tryz.ntmps145
    go_wp2_with (go_at_call 192; (with_reducible refine hc.mono ?_); rintro e w' ⟨rfl, rfl⟩)
    go_ret
    exact ⟨rfl, rfl⟩
end Go.Proofs.YtmpkcioeodlbcaaGreatDoor
namespace Go.Proofs.YtmpkcioeodlbcaaGreatDoor
open RowKit Joins Deep
set_option linter.unusedVariables false
/-- the rows of words: block BL holds N slices, slice j the words ts j, in a block of its own -/
structure Fam (w : World) (base BL N : Nat) (vs : Nat → Value) (ts : Nat → List Tok) : Prop where
  row : w.rowIs BL 161 N vs
  own : ∀ j, j < N → w.ownsRow base 225 3 (vs j) (ts j).length (tcs (ts j))
  far : ∀ j, j < N → (vs j).ownBlock ≠ some BL
  apart : ∀ j k g, j < N → k < N → j ≠ k → (vs j).ownBlock = some g → (vs k).ownBlock ≠ some g
theorem Fam.lt {w : World} {base BL N : Nat} {vs : Nat → Value} {ts : Nat → List Tok} (h : Fam w base BL N vs ts) : BL < w.heap.size := h.row.lt
theorem Fam.made {w : World} {base N : Nat} : Fam (w.alloc (.cells (madeCells #[.slice none 0 0] N) 161)) base w.heap.size N (fun _ => .slice none 0 0) (fun _ => []) where
  row := World.rowIs_made w _ N _
  own := fun j _ => World.ownsRow_nil _ _ _ _
  far := fun j _ h => by cases h
  apart := fun j k g _ _ _ h => by cases h
theorem Fam.kept {w w' : World} {base BL N : Nat} {vs : Nat → Value} {ts : Nat → List Tok} (h : Fam w base BL N vs ts) (hb : Below w.heap.size w w') : Fam w' base BL N vs ts where
  row := h.row.of_block (hb.block _ h.lt)
  own := fun j hj => by
    refine (h.own j hj).kept (row := none) ⟨hb.os, hb.tape, hb.output, hb.size, fun k hk _ => hb.block k hk⟩ ?_
    cases e : (vs j).ownBlock
    · exact .inl rfl
    · exact .inr (by simp)
  far := h.far
  apart := h.apart
theorem Fam.turn {w w1 : World} {base BL N n : Nat} {vs : Nat → Value} {ts : Nat → List Tok} (h : Fam w base BL N vs ts) (hn : n < N) {v' : Value} {l : List Tok}
    (hg : w.grownBy w1 (vs n).ownBlock) (hown : w1.ownsRow base 225 3 v' l.length (tcs l)) (hv : v'.ownBlock = (vs n).ownBlock ∨ ∃ g, v'.ownBlock = some g ∧ w.heap.size ≤ g) :
    Fam (w1.setCell ⟨BL, n, none⟩ v') base BL N (fun j => if j = n then v' else vs j) (fun j => if j = n then l else ts j) := by
  have hlt := h.lt
  have hnb : v'.ownBlock ≠ some BL := by
    rcases hv with e | ⟨g, e, hge⟩
    · rw [e]; exact h.far n hn
    · rw [e]; intro q; have := Option.some.inj q; omega
  have hr1 : w1.rowIs BL 161 N vs := h.row.of_block (hg.block BL hlt (fun e => h.far n hn e.symm))
  have hb : ∀ j, j < N → ∀ g, (vs j).ownBlock = some g → g < w.heap.size := fun j hj g e => ((h.own j hj).lt g e).2
  refine ⟨hr1.set n v', ?_, ?_, ?_⟩
  · intro j hj
    by_cases e : j = n
    · simp only [e, if_true]
      exact hown.kept (row := some BL) grown_set (.inr hnb)
    · simp only [e, if_false]
      have h1 := (h.own j hj).kept hg (by
        cases q : (vs j).ownBlock with
        | none => exact .inl rfl
        | some g => exact .inr (fun q2 => h.apart j n g hj hn e q q2.symm))
      exact h1.kept (row := some BL) grown_set (.inr (h.far j hj))
  · intro j hj
    by_cases e : j = n
    · simp only [e, if_true]; exact hnb
    · simp only [e, if_false]; exact h.far j hj
  · intro j k g hj hk hjk
    by_cases e : j = n
    · have e2 : k ≠ n := fun q => hjk (by omega)
      simp only [e, if_true, e2, if_false]
      intro q1 q2
      rcases hv with e3 | ⟨g2, e3, hge⟩
      · exact h.apart n k g hn hk (fun q => e2 q.symm) (e3.symm.trans q1) q2
      · rw [e3] at q1; have := Option.some.inj q1; have := hb k hk g q2; omega
    · by_cases e2 : k = n
      · simp only [e, if_false, e2, if_true]
        intro q1 q2
        rcases hv with e3 | ⟨g2, e3, hge⟩
        · exact h.apart j n g hj hn e q1 (e3.symm.trans q2)
        · rw [e3] at q2; have := Option.some.inj q2; have := hb j hj g q1; omega
      · simp only [e, e2, if_false]; exact h.apart j k g hj hk hjk

/-- what is known while Cut goes on: it stands at line n, of which the words l are laid -/
structure Civ (s : ByteArray) (w wr : World) (n : Nat) (l : List Tok) : Prop where
  bel : Below w.heap.size w wr
  fc : wr.heap[w.heap.size]? = some (.cells #[.int .i64 0, .int .i64 0] 69 (0, 0))
  tx : wr.heap[w.heap.size + 1]? = some (.cells ((cuT s (alP s)).map Value.string).toArray 9)
  fam : ∃ vs ts, Fam wr (w.heap.size + 3) (w.heap.size + 2) (liP s).length vs ts ∧ (∀ j u, j < n → (liT s)[j]? = some u → ts j = tkl j u) ∧ ts n = l ∧ ∀ j, n < j → ts j = []
  ok : ∀ j u, j < n → (liT s)[j]? = some u → bdE u = 0
theorem Civ.next {s : ByteArray} {w wr : World} {n : Nat} {t : ByteArray} (h : Civ s w wr n (tkl n t)) (ht : (liT s)[n]? = some t) (hb : bdE t = 0) : Civ s w wr (n + 1) [] := by
  obtain ⟨vs, ts, hf, h1, h2, h3⟩ := h.fam
  refine ⟨h.bel, h.fc, h.tx, ⟨vs, ts, hf, ?_, h3 _ (by omega), fun j hj => h3 j (by omega)⟩, ?_⟩
  · intro j u hj hu
    rcases Nat.lt_succ_iff_lt_or_eq.1 hj with q | rfl
    · exact h1 j u q hu
    · rw [ht] at hu; cases hu; exact h2
  · intro j u hj hu
    rcases Nat.lt_succ_iff_lt_or_eq.1 hj with q | rfl
    · exact h.ok j u q hu
    · rw [ht] at hu; cases hu; exact hb
theorem liT_get {s : ByteArray} {n : Nat} (h : n < (liP s).length) : ∃ p ∈ liP s, (liP s)[n]? = some p ∧ (liT s)[n]? = some (s.extract p.1 p.2) := by
  refine ⟨(liP s)[n], List.getElem_mem h, List.getElem?_eq_getElem h, ?_⟩
  unfold liT cuT
  rw [List.getElem?_map, List.getElem?_eq_getElem h]; rfl
theorem liP_pre {s : ByteArray} {n : Nat} {p : Nat × Nat} (h : (liP s)[n]? = some p) : (alP s)[n]? = some p := by
  unfold liP at h
  split at h
  · rw [List.getElem?_dropLast] at h
    split at h
    · exact h
    · cases h
  · exact h
theorem Civ.text {s : ByteArray} {w wr : World} {n : Nat} {l : List Tok} (h : Civ s w wr n l) {t : ByteArray} {k : Nat} (hk : (liT s)[k]? = some t) : wr.cell? ⟨w.heap.size + 1, k, none⟩ = some (.string t) := by
  refine str_cell h.tx ?_
  have hk2 : (cuT s (liP s))[k]? = some t := hk
  unfold cuT at hk2 ⊢
  rw [List.getElem?_map] at hk2 ⊢
  cases e : (liP s)[k]? with
  | none => rw [e] at hk2; cases hk2
  | some p => rw [e] at hk2; rw [liP_pre e]; exact hk2
theorem Civ.lays {s : ByteArray} {w wr w1 : World} {n : Nat} {l l2 : List Tok} (h : Civ s w wr n l) (hn : n < (liP s).length) {vs : Nat → Value} {ts : Nat → List Tok}
    (hf : Fam wr (w.heap.size + 3) (w.heap.size + 2) (liP s).length vs ts) (h1 : ∀ j u, j < n → (liT s)[j]? = some u → ts j = tkl j u) (h3 : ∀ j, n < j → ts j = [])
    {v' : Value} (hg : wr.grownBy w1 (vs n).ownBlock) (hown : w1.ownsRow (w.heap.size + 3) 225 3 v' l2.length (tcs l2)) (hv : v'.ownBlock = (vs n).ownBlock ∨ ∃ g, v'.ownBlock = some g ∧ wr.heap.size ≤ g) :
    Civ s w (w1.setCell ⟨w.heap.size + 2, n, none⟩ v') n l2 := by
  have hlt := hf.lt
  have hb0 : ∀ g, (vs n).ownBlock = some g → w.heap.size + 3 ≤ g := fun g e => ((hf.own n hn).lt g e).1
  have hblk : ∀ k, k < w.heap.size + 3 → k ≠ w.heap.size + 2 → (w1.setCell ⟨w.heap.size + 2, n, none⟩ v').heap[k]? = wr.heap[k]? := by
    intro k hk hk2
    rw [Below.heap_setCell _ _ _ _ (by intro e; exact hk2 (by simpa using e)), hg.block k (by omega) (by intro e; have := hb0 k e.symm; omega)]
  refine ⟨?_, ?_, ?_, ⟨_, _, hf.turn hn hg hown hv, ?_, by simp, ?_⟩, h.ok⟩
  · refine h.bel.trans ⟨hg.os, hg.tape, hg.output, ?_, fun k hk => hblk k (by omega) (by omega)⟩
    have := hg.size
    simp [World.setCell]; have := h.bel.size; omega
  · rw [hblk _ (by omega) (by omega)]; exact h.fc
  · rw [hblk _ (by omega) (by omega)]; exact h.tx
  · intro j u hj hu
    simp only [show j ≠ n by omega, if_false]; exact h1 j u hj hu
  · intro j hj
    simp only [show j ≠ n by omega, if_false]; exact h3 j hj
theorem Civ.drew {s : ByteArray} {w wr : World} {n : Nat} {l : List Tok} (h : Civ s w wr n l) : Civ s w wr.drew n l :=
  ⟨h.bel.drew, h.fc, h.tx, h.fam.imp fun vs q => q.imp fun ts q => ⟨⟨q.1.row, q.1.own, q.1.far, q.1.apart⟩, q.2⟩, h.ok⟩
theorem Fam.put {w : World} {base BL N : Nat} {vs : Nat → Value} {ts : Nat → List Tok} (h : Fam w base BL N vs ts) {b i : Nat} (hb : b < base) (hne : BL ≠ b) (x : Value) : Fam (w.setCell ⟨b, i, none⟩ x) base BL N vs ts :=
  ⟨h.row.setOther hne x, fun j hj => ownsRow_setCell_below (h.own j hj) hb x, h.far, h.apart⟩
/-- two cells of a block that is known whole -/
theorem two_c {w : World} {B : Nat} {a b : Value} {T : TypeId} (h : w.heap[B]? = some (.cells #[a, b] T (0, 0))) : w.cell? ⟨B, 0, none⟩ = some a ∧ w.cell? ⟨B, 1, none⟩ = some b ∧ w.frozen? ⟨B, 0, none⟩ = false ∧ w.frozen? ⟨B, 1, none⟩ = false :=
  ⟨by rw [cell_of_row w B 0 _ T (0, 0) h]; rfl, by rw [cell_of_row w B 1 _ T (0, 0) h]; rfl, frozen_of_row w B 0 _ T h, frozen_of_row w B 1 _ T h⟩
theorem two_set {w : World} {B : Nat} {a b : Value} {T : TypeId} (h : w.heap[B]? = some (.cells #[a, b] T (0, 0))) (x y : Value) :
    ((w.setCell ⟨B, 0, none⟩ x).setCell ⟨B, 1, none⟩ y).cell? ⟨B, 0, none⟩ = some x ∧ ((w.setCell ⟨B, 0, none⟩ x).setCell ⟨B, 1, none⟩ y).cell? ⟨B, 1, none⟩ = some y := by
  obtain ⟨c0, c1, _, _⟩ := two_c h
  constructor
  · rw [World.cell?_setCell_other _ _ _ _ (by simp)]
    exact World.cell?_setCell_same _ _ _ c0
  · refine World.cell?_setCell_same _ _ _ (u := b) ?_
    rw [World.cell?_setCell_other _ _ _ _ (by simp)]; exact c1
theorem below_two {w w' : World} {f n : Nat} (h : Below n w w') (hf : n ≤ f) (x y : Value) : Below n w ((w'.setCell ⟨f, 0, none⟩ x).setCell ⟨f, 1, none⟩ y) :=
  (h.setCell (p := ⟨f, 0, none⟩) hf _).setCell (p := ⟨f, 1, none⟩) hf _
/-- Cut begins -/
theorem Civ.start {s : ByteArray} {w : World} {N : Nat} (hN : (liP s).length = N) :
    Civ s w (((w.alloc (.cells #[.int .i64 0, .int .i64 0] 69)).alloc (.cells ((cuT s (alP s)).map Value.string).toArray 9)).alloc (.cells (madeCells #[.slice none 0 0] N) 161)) 0 [] := by
  have hf := Fam.made (w := (w.alloc (.cells #[.int .i64 0, .int .i64 0] 69)).alloc (.cells ((cuT s (alP s)).map Value.string).toArray 9)) (base := w.heap.size + 3) (N := N)
  rw [show ((w.alloc (.cells #[.int .i64 0, .int .i64 0] 69)).alloc (.cells ((cuT s (alP s)).map Value.string).toArray 9)).heap.size = w.heap.size + 2 by simp] at hf
  refine ⟨(((Below.refl _ _).alloc (Nat.le_refl _) _).alloc (by simp) _).alloc (by simp; omega) _, ?_, ?_, ⟨_, _, by rw [hN]; exact hf, fun j u hj => absurd hj (by omega), rfl, fun _ _ => rfl⟩, fun j u hj => absurd hj (by omega)⟩
  · rw [blk_alloc_lt _ _ _ (by simp; omega), blk_alloc_lt _ _ _ (by simp)]; exact heap_alloc_new _ _
  · rw [blk_alloc_lt _ _ _ (by simp)]
    have := heap_alloc_new (w.alloc (.cells #[.int .i64 0, .int .i64 0] 69)) (.cells ((cuT s (alP s)).map Value.string).toArray 9)
    simpa using this
end Go.Proofs.YtmpkcioeodlbcaaGreatDoor
namespace Go.Proofs.YtmpkcioeodlbcaaGreatDoor
open RowKit Joins Deep
set_option linter.unusedVariables false
theorem Tryz.infoRow : (Tryz.prog.info? 161).map (fun i => (i.zero, i.size, i.bytes)) = some (some (.slice none 0 0), 1, 24) := by kernel_rfl
/-- the fault as a value -/
abbrev fltV (e a : Int) : Value := .agg #[.int .i64 e, .int .i64 a]
set_option maxHeartbeats 4000000 in
set_option maxRecDepth 100000 in
theorem cut_any (s : ByteArray) (m : Int) (w : World) (hs : s.size ≤ 65536) (hm : w.cell? ⟨1, 0, none⟩ = some (.int .i64 m)) :
    Calls Tryz.prog 104 #[.string s] w fun e w' => Below w.heap.size w w' ∧ ∃ v, e = .returned (.tuple #[v, fltV (erL 0 (liT s)).1 (erL 0 (liT s)).2]) ∧
      (((erL 0 (liT s)).1 = 0 ∧ (erL 0 (liT s)).2 = 0 ∧ v = .slice (some ⟨w.heap.size + 2, 0, none⟩) (liP s).length (liP s).length ∧ ∃ vs ts, Fam w' (w.heap.size + 3) (w.heap.size + 2) (liP s).length vs ts ∧ ∀ j u, (liT s)[j]? = some u → ts j = tkl j u)
        ∨ ((erL 0 (liT s)).1 ≠ 0 ∧ v = .slice none 0 0)) := by
  have hlen := liP_len s
  obtain ⟨N, hN⟩ : ∃ N, (liP s).length = N := ⟨_, rfl⟩
  have hmk := run_make_row' (P := Tryz.prog) 155 161 (.slice none 0 0) 24 Tryz.underlying155 Tryz.infoRow rfl .i64 .i64 N (by omega) (by omega)
  have hlo : ∀ F, Calls Tryz.prog 145 #[.string s] (w.alloc F) fun e w' =>
      e = .returned (.slice (some ⟨w.heap.size + 1, 0, none⟩) N (alP s).length) ∧ w' = (w.alloc F).alloc (.cells ((cuT s (alP s)).map Value.string).toArray 9) := by
    intro F
    have := linesOf_any s m (w.alloc F) hs (by rw [World.cell?_alloc_lt _ _ _ (World.block_lt_of_cell? w _ hm)]; exact hm)
    rw [hN] at this
    simpa using this
  have HC : Hid (∀ F, F = Obj.cells #[.int .i64 0, .int .i64 0] 69 → Civ s w (((w.alloc F).alloc (.cells ((cuT s (alP s)).map Value.string).toArray 9)).alloc (.cells (madeCells #[.slice none 0 0] N) 161)) 0 []) := by
    rintro F rfl
    exact Civ.start hN
  generalize ((cuT s (alP s)).map Value.string).toArray = X at hlo HC
  go_enter Tryz.func104, Tryz.ntmps104
  go_wp2_with fail
  go_step3
  go_wp2_with (go_at_call 145; (with_reducible refine (hlo _).mono ?_); rintro e w' ⟨rfl, rfl⟩)
  go_step3
  go_wp2_with fail
  go_loopg [23] N (fun g iv wr => ∃ n : Nat, n + g = N ∧ iv = .int .i64 n ∧ Hid (Civ s w wr n []))
  case atStart => exact ⟨0, by omega, rfl, HC.out _ rfl⟩
  case round =>
    obtain ⟨n, hng, rfl, HV⟩ := hrel
    cases gk with
    | zero =>
      have hnn : ¬ ((n : Int) < (N : Int)) := by omega
      obtain rfl : n = N := by omega
      have hfc := HV.out.fc
      obtain ⟨c0, c1, f0, f1⟩ := two_c hfc
      have rr := two_set hfc (.int .i64 0) (.int .i64 0)
      clear hfc
      go_wp2_with fail
      try rw [Exit.noGoto_ret]
      refine bodyPost_ret (by simp [results, Tryz.results104, go_sem, rr.1, rr.2]; try rfl) rfl ?_
      have hz : erL 0 (liT s) = (0, 0) := erL_ok fun t ht => by
        obtain ⟨j, hj⟩ := List.getElem?_of_mem ht
        refine HV.out.ok j t ?_ hj
        have := (List.getElem?_eq_some_iff.1 hj).1
        rw [liT_len] at this; omega
      obtain ⟨vs, ts, hf, h1, _, _⟩ := HV.out.fam
      rw [hz]
      refine ⟨below_two HV.out.bel (Nat.le_refl _) _ _, _, rfl, .inl ⟨rfl, rfl, by rw [hN], vs, ts, (hf.put (by omega) (by omega) _).put (by omega) (by omega) _, fun j u hu => h1 j u ?_ hu⟩⟩
      have := (List.getElem?_eq_some_iff.1 hu).1
      rw [liT_len] at this; omega
    | succ g =>
      have hnn : (n : Int) < (N : Int) := by omega
      obtain ⟨p, hp, hpl, ht⟩ := liT_get (s := s) (n := n) (by omega)
      have hp2 := (liP_in hp).2
      obtain ⟨t, htt⟩ : ∃ t, s.extract p.1 p.2 = t := ⟨_, rfl⟩
      have hts : t.size ≤ 65536 := by rw [← htt, ex_size hp2]; omega
      rw [htt] at ht
      clear htt hpl hp hp2
      have HT : Hid ((liT s)[n]? = some t) := ht
      have hcell := HV.out.text ht
      clear ht
      go_wp2_with fail
      go_loopg [30] t.size (fun g2 iv wr2 => ∃ (i : Nat) (L : List (Nat × Nat)), i + g2 = t.size ∧ iv = .int .i64 i ∧ Hid (scn t i = (0, L)) ∧ Hid (Civ s w wr2 n (wtk t n L)))
      case atStart => exact ⟨0, [], by omega, rfl, rfl, HV.out⟩
      case round =>
        obtain ⟨i, L, hig, rfl, HS, HV2⟩ := hrel
        cases gk with
        | zero =>
          have hii : ¬ ((i : Int) < (t.size : Int)) := by omega
          obtain rfl : i = t.size := by omega
          go_wp2_with fail
          go_roundg g
          case measure => omega
          case rel =>
            refine ⟨n + 1, by omega, by go_num, ?_⟩
            refine Civ.next (t := t) ?_ HT.out (bd_ok (.inl (by rw [HS.out])))
            have := HV2.out
            rw [tkl_wtk, HS.out]
            exact this
        | succ g2 =>
          have hii : (i : Int) < (t.size : Int) := by omega
          have hit : i < t.size := by omega
          have hg := bty_get hit
          have hcl := bty_lt t i
          obtain ⟨c, hc⟩ : ∃ c, c = bty t i := ⟨_, rfl⟩
          rw [← hc] at hg hcl
          have HCc : Hid (c = bty t i) := hc
          clear hc
          have hfc := HV2.out.fc
          obtain ⟨c0, c1, f0, f1⟩ := two_c hfc
          have rr240 := two_set hfc (.int .i64 240) (.int .i64 n)
          have rr3 := two_set hfc (.int .i64 3) (.int .i64 n)
          clear hfc
          rcases (show (c = 42 ∨ c = 59) ∨ (c = 32 ∨ c = 9 ∨ c = 13) ∨ (¬ (c = 42 ∨ c = 59) ∧ ¬ (c = 32 ∨ c = 9 ∨ c = 13) ∧ (c < 33 ∨ 126 < c)) ∨ (¬ (c = 42 ∨ c = 59) ∧ ¬ (c = 32 ∨ c = 9 ∨ c = 13) ∧ ¬ (c < 33 ∨ 126 < c)) from by omega) with hq | hq | hq | hq
          · have hfin : scn t t.size = (1, L) := by
              have h1 := scn_rem HS.out (by rw [← HCc.out]; exact hq)
              rw [scn_stays (s := t) (i := i + 1) (by rw [h1]; simp) t.size (by omega), h1]
            have HF : Hid (scn t t.size = (1, L)) := hfin
            clear hfin
            rcases hq with rfl | rfl
            all_goals
              go_wp2_with fail
              go_roundg g
              case measure => omega
              case rel =>
                refine ⟨n + 1, by omega, by go_num, ?_⟩
                refine Civ.next (t := t) ?_ HT.out (bd_ok (.inr (by rw [HF.out])))
                have := HV2.out
                rw [tkl_wtk, HF.out]
                exact this
          · have HN : Hid (scn t (i + 1) = (0, L)) := scn_blk HS.out (by rw [← HCc.out]; exact hq)
            rcases hq with rfl | rfl | rfl
            all_goals
              go_wp2_with fail
              go_roundg g2
              case measure => omega
              case rel => exact ⟨i + 1, L, by omega, by go_num, HN.out, HV2.out⟩
          · obtain ⟨q1, q2, q3⟩ := hq
            have hfin : scn t t.size = (2, L) := by
              have h1 := scn_bad HS.out (by rw [← HCc.out]; exact q1) (by rw [← HCc.out]; exact q2) (by rw [← HCc.out]; exact q3)
              rw [scn_stays (s := t) (i := i + 1) (by rw [h1]; simp) t.size (by omega), h1]
            have HF : Hid (scn t t.size = (2, L)) := hfin
            clear hfin
            have n1 : ((c : Int) == 42) = false := by simp; omega
            have n2 : ((c : Int) == 59) = false := by simp; omega
            have n3 : ((c : Int) == 32) = false := by simp; omega
            have n4 : ((c : Int) == 9) = false := by simp; omega
            have n5 : ((c : Int) == 13) = false := by simp; omega
            clear q1 q2
            rcases q3 with q | q
            · have n6 : decide ((c : Int) < 33) = true := by simp; omega
              go_wp2_with fail
              try rw [Exit.noGoto_ret]
              refine bodyPost_ret (by simp [results, Tryz.results104, go_sem, rr240.1, rr240.2]; try rfl) rfl ?_
              have hb : bdE t = 240 := bd_2 (by rw [HF.out])
              have hz : erL 0 (liT s) = (240, n) := by rw [erL_at (n := 0) HT.out HV2.out.ok (by rw [hb]; decide), hb, Nat.zero_add]
              rw [hz]
              exact ⟨below_two HV2.out.bel (Nat.le_refl _) _ _, _, rfl, .inr ⟨by simp, rfl⟩⟩
            · have n6 : decide ((c : Int) < 33) = false := by simp; omega
              have n7 : decide ((126 : Int) < (c : Int)) = true := by simp; omega
              go_wp2_with fail
              try rw [Exit.noGoto_ret]
              refine bodyPost_ret (by simp [results, Tryz.results104, go_sem, rr240.1, rr240.2]; try rfl) rfl ?_
              have hb : bdE t = 240 := bd_2 (by rw [HF.out])
              have hz : erL 0 (liT s) = (240, n) := by rw [erL_at (n := 0) HT.out HV2.out.ok (by rw [hb]; decide), hb, Nat.zero_add]
              rw [hz]
              exact ⟨below_two HV2.out.bel (Nat.le_refl _) _ _, _, rfl, .inr ⟨by simp, rfl⟩⟩
          · obtain ⟨q1, q2, q3⟩ := hq
            have n1 : ((c : Int) == 42) = false := by simp; omega
            have n2 : ((c : Int) == 59) = false := by simp; omega
            have n3 : ((c : Int) == 32) = false := by simp; omega
            have n4 : ((c : Int) == 9) = false := by simp; omega
            have n5 : ((c : Int) == 13) = false := by simp; omega
            have n6 : decide ((c : Int) < 33) = false := by simp; omega
            have n7 : decide ((126 : Int) < (c : Int)) = false := by simp; omega
            have HQ : Hid ((¬ (bty t i = 42 ∨ bty t i = 59)) ∧ ¬ blk (bty t i) ∧ ¬ (bty t i < 33 ∨ 126 < bty t i)) := by rw [← HCc.out]; exact ⟨q1, q2, q3⟩
            clear q1 q2 q3
            obtain ⟨vs, ts, hf, h1, h2, h3⟩ := HV2.out.fam
            have hnl : n < (liP s).length := by omega
            have hwf : Wfw i L := by have := scn_wf t i; rw [HS.out] at this; exact this
            have hbase : w.heap.size + 3 ≤ wr.heap.size := hf.lt
            have hown : wr.ownsRow (w.heap.size + 3) 225 3 (vs n) L.length (tcs (wtk t n L)) := by
              have := hf.own n hnl
              rw [h2, wtk_len] at this; exact this
            have hcl2 : wr.cell? ⟨w.heap.size + 2, n, none⟩ = some (vs n) := hf.row.cell hnl
            have hfz2 := hf.row.frozen n
            have hne := hf.far n hnl
            have HCL : Hid (∀ w3 : World, wr.grownBy w3 (vs n).ownBlock → w3.cell? ⟨w.heap.size + 2, n, none⟩ = some (vs n) ∧ w3.frozen? ⟨w.heap.size + 2, n, none⟩ = false) := fun w3 hg =>
              ⟨(hg.cell_far _ (by simpa using hf.lt) (fun e => hne e.symm)).trans hcl2, (hg.frozen_far _ (by simpa using hf.lt) (fun e => hne e.symm)).trans hfz2⟩
            have HST : Hid (∀ (w3 : World) (v' : Value) (l2 : List Tok), wr.grownBy w3 (vs n).ownBlock → w3.ownsRow (w.heap.size + 3) 225 3 v' l2.length (tcs l2) → (v'.ownBlock = (vs n).ownBlock ∨ ∃ g, v'.ownBlock = some g ∧ wr.heap.size ≤ g) → Civ s w (w3.setCell ⟨w.heap.size + 2, n, none⟩ v') n l2) :=
              fun w3 v' l2 a1 a2 a3 => HV2.out.lays hnl hf h1 h3 a1 a2 a3
            have HFT : Hid (∀ w3 : World, wr.grownBy w3 (vs n).ownBlock → w3.heap[w.heap.size]? = some (.cells #[.int .i64 0, .int .i64 0] 69 (0, 0)) ∧ Below w.heap.size w w3) := fun w3 hg => by
              have hb0 : ∀ g, (vs n).ownBlock = some g → w.heap.size + 3 ≤ g := fun g e => ((hf.own n hnl).lt g e).1
              refine ⟨(hg.block _ (by omega) (fun e => by have := hb0 _ e.symm; omega)).trans HV2.out.fc, HV2.out.bel.trans ⟨hg.os, hg.tape, hg.output, by have := hg.size; omega, fun k hk => hg.block k (by omega) (fun e => by have := hb0 k e.symm; omega)⟩⟩
            clear hf h1 h2 h3 hne
            generalize vs n = v at hown hcl2 HCL HST HFT
            by_cases hnew : ∀ a b r, L = (a, b) :: r → b < i
            · have HN : Hid (scn t (i + 1) = (0, (i, i + 1) :: L)) := scn_new HS.out HQ.out.1 HQ.out.2.1 HQ.out.2.2 hnew
              have HL : Hid (Calls Tryz.prog 146 #[v, .string t, .int .i64 n, .int .i64 i] wr _) := lay_new wr (w.heap.size + 3) v t n i L hbase (by omega) hit hts hwf hnew hown
              clear hnew hwf hown
              go_wp2_with (go_at_call 146; (with_reducible refine HL.out.mono ?_); rintro e w3 ⟨v', rfl, ho, hgr, hv⟩; (obtain ⟨g3, cap3, rfl, _, _⟩ := ho.form (by omega)); (obtain ⟨y1, y2⟩ := HCL.out w3 hgr); (have HO : Hid _ := HST.out w3 _ (wtk t n ((i, i + 1) :: L)) hgr (by rw [wtk_len]; exact ho) hv); clear ho hgr hv)
              go_roundg g2
              case measure => omega
              case rel => exact ⟨i + 1, _, by omega, by go_num, HN.out, HO.out⟩
            · obtain ⟨a, b, r, rfl, hb⟩ : ∃ a b r, L = (a, b) :: r ∧ ¬ b < i := by
                match L, hnew with
                | [], hnew => exact absurd (fun a b r h => by cases h) hnew
                | (a, b) :: r, hnew => exact ⟨a, b, r, rfl, fun hb => hnew fun a' b' r' h => by cases h; exact hb⟩
              clear hnew
              have hx := scn_ext HS.out HQ.out.1 HQ.out.2.1 HQ.out.2.2 hb
              have HL := lay_ext wr (w.heap.size + 3) v t n i a b r hbase (by omega) hit hts hwf hb hown
              have hown2 : wr.ownsRow (w.heap.size + 3) 225 3 v (r.length + 1) (tcs (wtk t n ((a, b) :: r))) := hown
              clear hown
              obtain ⟨g0, cap0, rfl, _, _⟩ := hown2.form (by omega)
              by_cases h80 : i + 1 - a ≤ 80
              · rw [if_pos h80] at hx
                rw [decide_eq_true h80] at HL
                have HN : Hid (scn t (i + 1) = (0, (a, i + 1) :: r)) := hx
                have HLL : Hid (Calls Tryz.prog 146 _ wr _) := HL
                clear hx hwf hown2 hb HL
                go_wp2_with (go_at_call 146; (with_reducible refine HLL.out.mono ?_); rintro e w3 ⟨rfl, ho, hgr⟩; (obtain ⟨y1, y2⟩ := HCL.out w3 hgr); (have HO : Hid _ := HST.out w3 _ (wtk t n ((a, i + 1) :: r)) hgr (by rw [wtk_len]; exact ho) (.inl rfl)); clear ho hgr)
                go_roundg g2
                case measure => omega
                case rel => exact ⟨i + 1, _, by omega, by go_num, HN.out, HO.out⟩
              · rw [if_neg h80] at hx
                rw [decide_eq_false h80] at HL
                have hfin : scn t t.size = (3, (a, b) :: r) := by rw [scn_stays (s := t) (i := i + 1) (by rw [hx]; simp) t.size (by omega), hx]
                have HF : Hid (scn t t.size = (3, (a, b) :: r)) := hfin
                have HLL : Hid (Calls Tryz.prog 146 _ wr _) := HL
                clear hx hwf hown2 hb HL hfin c0 c1 f0 f1
                go_wp2_with (go_at_call 146; (with_reducible refine HLL.out.mono ?_); rintro e w3 ⟨rfl, ho, hgr⟩; (obtain ⟨y3, hb3⟩ := HFT.out w3 hgr); (have HB3 : Hid (Below w.heap.size w w3) := hb3); (obtain ⟨c0, c1, f0, f1⟩ := two_c y3); (have rr3' := two_set y3 (.int .i64 3) (.int .i64 n)); clear ho hgr hb3 y3)
                try rw [Exit.noGoto_ret]
                refine bodyPost_ret (by simp [results, Tryz.results104, go_sem, rr3'.1, rr3'.2]; try rfl) rfl ?_
                have hb : bdE t = 3 := bd_3 (by rw [HF.out])
                have hz : erL 0 (liT s) = (3, n) := by rw [erL_at (n := 0) HT.out HV2.out.ok (by rw [hb]; decide), hb, Nat.zero_add]
                rw [hz]
                exact ⟨below_two HB3.out (Nat.le_refl _) _ _, _, rfl, .inr ⟨by simp, rfl⟩⟩
end Go.Proofs.YtmpkcioeodlbcaaGreatDoor
namespace Go.Proofs.YtmpkcioeodlbcaaGreatDoor
open RowKit Joins Deep
set_option linter.unusedVariables false
/-- the value v reads as the words ts -/
def RdT (w : World) (v : Value) (ts : List Tok) : Prop :=
  ts.length ≤ 4611686018427387904 ∧ ∃ A c, v = .slice A ts.length c ∧ (ts = [] ∨ ∃ b, A = some ⟨b, 0, none⟩ ∧ ∀ (k : Nat) (p : Tok), ts[k]? = some p → w.cell? ⟨b, k * 3, none⟩ = some (.string p.1) ∧ w.cell? ⟨b, k * 3 + 1, none⟩ = some (.int .i64 p.2.1) ∧ w.cell? ⟨b, k * 3 + 2, none⟩ = some (.int .i64 p.2.2))
/-- the value v reads as the lists ls -/
def RdL (w : World) (v : Value) (ls : List (List Tok)) : Prop :=
  ls.length ≤ 4611686018427387904 ∧ ∃ A c, v = .slice A ls.length c ∧ (ls = [] ∨ ∃ b, A = some ⟨b, 0, none⟩ ∧ ∀ (k : Nat) (ts : List Tok), ls[k]? = some ts → ∃ u, w.cell? ⟨b, k, none⟩ = some u ∧ RdT w u ts)
theorem RdT.kept {w w' : World} {v : Value} {ts : List Tok} (h : RdT w v ts) (hb : Below w.heap.size w w') : RdT w' v ts := by
  obtain ⟨h0, A, c, h1, h2⟩ := h
  refine ⟨h0, A, c, h1, h2.imp id ?_⟩
  rintro ⟨b, h3, h4⟩
  refine ⟨b, h3, fun k p hk => ?_⟩
  obtain ⟨q0, q1, q2⟩ := h4 k p hk
  exact ⟨(hb.cell (World.block_lt_of_cell? w _ q0)).trans q0, (hb.cell (World.block_lt_of_cell? w _ q1)).trans q1, (hb.cell (World.block_lt_of_cell? w _ q2)).trans q2⟩
theorem RdL.kept {w w' : World} {v : Value} {ls : List (List Tok)} (h : RdL w v ls) (hb : Below w.heap.size w w') : RdL w' v ls := by
  obtain ⟨h0, A, c, h1, h2⟩ := h
  refine ⟨h0, A, c, h1, h2.imp id ?_⟩
  rintro ⟨b, h3, h4⟩
  refine ⟨b, h3, fun k p hk => ?_⟩
  obtain ⟨u, q0, q1⟩ := h4 k p hk
  exact ⟨u, (hb.cell (World.block_lt_of_cell? w _ q0)).trans q0, q1.kept hb⟩
theorem RdT.of {w : World} {base : Nat} {v : Value} {ts : List Tok} (h : w.ownsRow base 225 3 v ts.length (tcs ts)) (hl : ts.length ≤ 4611686018427387904) : RdT w v ts := by
  refine ⟨hl, ?_⟩
  rcases ownsRow_forms h with ⟨rfl, h0⟩ | ⟨g, cap, rfl⟩
  · rw [h0]; exact ⟨none, 0, rfl, .inl (List.length_eq_zero_iff.1 h0)⟩
  · refine ⟨_, cap, rfl, .inr ⟨g, rfl, fun k p hk => ?_⟩⟩
    have hlt := (List.getElem?_eq_some_iff.1 hk).1
    obtain ⟨q0, q1, q2⟩ := tcs_get hk
    exact ⟨by rw [h.cellAt _ (by omega)]; exact q0, by rw [h.cellAt _ (by omega)]; exact q1, by rw [h.cellAt _ (by omega)]; exact q2⟩
theorem tkl_len (n : Nat) (t : ByteArray) : (tkl n t).length ≤ t.size := by
  rw [tkl_wtk, wtk_len]; exact (scn_wf t t.size).len
theorem liT_size {s : ByteArray} {k : Nat} {t : ByteArray} (h : (liT s)[k]? = some t) : t.size ≤ s.size := by
  obtain ⟨p, hp, _, ht⟩ := liT_get (s := s) (n := k) (by have := (List.getElem?_eq_some_iff.1 h).1; rw [liT_len] at this; exact this)
  rw [h] at ht
  cases ht
  rw [ex_size (liP_in hp).2]; have := (liP_in hp).2; omega
theorem tkL_inv {l : List ByteArray} {k : Nat} {ts : List Tok} (h : (tkL 0 l)[k]? = some ts) : ∃ t, l[k]? = some t ∧ ts = tkl k t := by
  have hlt := (List.getElem?_eq_some_iff.1 h).1
  rw [tkL_len] at hlt
  refine ⟨l[k], List.getElem?_eq_getElem hlt, ?_⟩
  rw [tkL_get (List.getElem?_eq_getElem hlt), Nat.zero_add] at h
  exact (Option.some.inj h).symm
/-- what Cut hands back, read -/
theorem RdL.fam {s : ByteArray} {w : World} {base BL : Nat} {vs : Nat → Value} {ts : Nat → List Tok} (hs : s.size ≤ 65536) (h : Fam w base BL (liP s).length vs ts) (ht : ∀ j u, (liT s)[j]? = some u → ts j = tkl j u) :
    RdL w (.slice (some ⟨BL, 0, none⟩) (liP s).length (liP s).length) (tkL 0 (liT s)) := by
  have hl := liP_len s
  refine ⟨by rw [tkL_len, liT_len]; omega, _, _, by rw [tkL_len, liT_len], .inr ⟨BL, rfl, fun k l hk => ?_⟩⟩
  obtain ⟨t, h1, rfl⟩ := tkL_inv hk
  have hlt := (List.getElem?_eq_some_iff.1 h1).1
  rw [liT_len] at hlt
  refine ⟨vs k, h.row.cell hlt, ?_⟩
  have := h.own k hlt
  rw [ht k t h1] at this
  exact RdT.of this (by have := tkl_len k t; have := liT_size h1; omega)
theorem RdL.none (w : World) : RdL w (.slice none 0 0) [] := ⟨by simp, _, _, rfl, .inl rfl⟩
end Go.Proofs.YtmpkcioeodlbcaaGreatDoor
namespace Go.Proofs.YtmpkcioeodlbcaaGreatDoor
open RowKit Joins Deep
set_option linter.unusedVariables false
/-- the variable of the library that strings.Split names holds some number -/
def Mln (w : World) : Prop := ∃ m, w.cell? ⟨1, 0, none⟩ = some (.int .i64 m)
theorem Mln.kept {w w' : World} (h : Mln w) (hb : Below w.heap.size w w') : Mln w' := by
  obtain ⟨m, hm⟩ := h
  exact ⟨m, (hb.cell (World.block_lt_of_cell? w _ hm)).trans hm⟩
theorem cut_ok (s : ByteArray) (w : World) (hs : s.size ≤ 65536) (hm : Mln w) (he : erL 0 (liT s) = (0, 0)) :
    Calls Tryz.prog 104 #[.string s] w fun e w' => ∃ v, e = .returned (.tuple #[v, fltV 0 0]) ∧ RdL w' v (tkL 0 (liT s)) ∧ Below w.heap.size w w' := by
  obtain ⟨m, hm⟩ := hm
  refine (cut_any s m w hs hm).mono ?_
  rintro e w' ⟨hb, v, h1, h2⟩
  rw [he] at h1 h2
  rcases h2 with ⟨_, _, rfl, vs, ts, hf, ht⟩ | ⟨h, _⟩
  · exact ⟨_, h1, RdL.fam hs hf ht, hb⟩
  · exact absurd rfl h
/-- a list of words laid as a literal -/
theorem RdT.lit {w : World} {B : Nat} {ts : List Tok} {cs : Array Value} {c : Nat} (h : w.heap[B]? = some (.cells cs 225 (0, 0))) (hc : cs.toList = tcs ts) (hl : ts.length ≤ 4611686018427387904) : RdT w (.slice (some ⟨B, 0, none⟩) ts.length c) ts := by
  refine ⟨hl, _, _, rfl, .inr ⟨B, rfl, fun k p hk => ?_⟩⟩
  obtain ⟨q0, q1, q2⟩ := tcs_get hk
  rw [← hc] at q0 q1 q2
  refine ⟨?_, ?_, ?_⟩
  · rw [cell_of_row w B _ _ _ (0, 0) h]; simpa using q0
  · rw [cell_of_row w B _ _ _ (0, 0) h]; simpa using q1
  · rw [cell_of_row w B _ _ _ (0, 0) h]; simpa using q2
end Go.Proofs.YtmpkcioeodlbcaaGreatDoor
