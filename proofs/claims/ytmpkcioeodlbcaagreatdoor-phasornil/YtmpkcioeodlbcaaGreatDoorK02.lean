/-
  Several texts in one: Shl Tkc Tkd.
-/
import Derived.Test.YtmpkcioeodlbcaaGreatDoorProg
import Derived.Shelf.Strings.Builder1
import Derived.Shelf.Strings.BuilderF
import Derived.Shelf.Strings.BuilderK
import Derived.Shelf.Strings.Split
import Derived.Shelf.Strings.Repeat
import Derived.Shelf.Strings.Replace
import Derived.Test.YtmpkcioeodlbcaaGreatDoorK01
import Derived.Lib.IndexMore
import Derived.Deep.OwnRows
namespace Go.Proofs.YtmpkcioeodlbcaaGreatDoor
open Go.Shelf Go.Proofs
def shlR : Ren := ⟨fun | 99 => 305 | 105 => 272 | 138 => 237 | 143 => 238 | 146 => 192 | 154 => 999999 | 155 => 999999 | 165 => 306 | 166 => 307 | 167 => 999999 | 169 => 309 | 170 => 308 | 195 => 256 | 197 => 257 | 206 => 323 | 212 => 206 | 217 => 285 | 218 => 258 | 219 => 259 | 221 => 217 | 224 => 287 | 225 => 286 | 240 => 324 | 241 => 325 | 260 => 284 | 263 => 229 | 264 => 230 | 266 => 316 | 267 => 288 | 268 => 236 | 276 => 332 | 277 => 333 | 314 => 317 | n => n, fun | 0 => 0 | 3 => 3 | 4 => 4 | 5 => 5 | 9 => 9 | 20 => 20 | 21 => 21 | 31 => 61 | 37 => 298 | 46 => 227 | 51 => 303 | 53 => 47 | 70 => 376 | 72 => 378 | 75 => 295 | 76 => 296 | 80 => 379 | 105 => 330 | 109 => 275 | 119 => 389 | 127 => 299 | 138 => 391 | 139 => 392 | 146 => 304 | 148 => 306 | 164 => 401 | n => n, fun | 1 => 1 | 3 => 5 | 4 => 6 | n => n⟩
theorem sh146 : Lays.n146 Tryz.prog shlR := {
  mixed := by kernel_rfl
  f138 := Tryz.func237.trans (congrArg some (by kernel_rfl))
  f143 := Tryz.func238.trans (congrArg some (by kernel_rfl))
  f146 := Tryz.func192.trans (congrArg some (by kernel_rfl))
  f195 := Tryz.func256.trans (congrArg some (by kernel_rfl))
  f197 := Tryz.func257.trans (congrArg some (by kernel_rfl))
  f217 := Tryz.func285.trans (congrArg some (by kernel_rfl))
  f218 := Tryz.func258.trans (congrArg some (by kernel_rfl))
  f219 := Tryz.func259.trans (congrArg some (by kernel_rfl))
  f221 := Tryz.func217.trans (congrArg some (by kernel_rfl))
  f224 := Tryz.func287.trans (congrArg some (by kernel_rfl))
  f225 := Tryz.func286.trans (congrArg some (by kernel_rfl))
  f260 := Tryz.func284.trans (congrArg some (by kernel_rfl))
  f266 := Tryz.func316.trans (congrArg some (by kernel_rfl))
  f267 := Tryz.func288.trans (congrArg some (by kernel_rfl))
  f268 := Tryz.func236.trans (congrArg some (by kernel_rfl))
  f314 := Tryz.func317.trans (congrArg some (by kernel_rfl))
  t0 := Tryz.underlying0
  a0 := Tryz.isAgg0
  z0 := Tryz.sizeOf0
  v0 := Tryz.zeroValue0
  t3 := Tryz.underlying3
  a3 := Tryz.isAgg3
  z3 := Tryz.sizeOf3
  v3 := Tryz.zeroValue3
  t4 := Tryz.underlying4
  a4 := Tryz.isAgg4
  z4 := Tryz.sizeOf4
  v4 := Tryz.zeroValue4
  t5 := Tryz.underlying5
  a5 := Tryz.isAgg5
  z5 := Tryz.sizeOf5
  v5 := Tryz.zeroValue5
  t9 := Tryz.underlying9
  a9 := Tryz.isAgg9
  z9 := Tryz.sizeOf9
  v9 := Tryz.zeroValue9
  t21 := Tryz.underlying21
  a21 := Tryz.isAgg21
  z21 := Tryz.sizeOf21
  v21 := Tryz.zeroValue21
  t31 := Tryz.underlying61
  a31 := Tryz.isAgg61
  z31 := Tryz.sizeOf61
  v31 := Tryz.zeroValue61
  t46 := Tryz.underlying227
  a46 := Tryz.isAgg227
  z46 := Tryz.sizeOf227
  v46 := Tryz.zeroValue227
  t51 := Tryz.underlying303
  a51 := Tryz.isAgg303
  z51 := Tryz.sizeOf303
  v51 := Tryz.zeroValue303
  t105 := Tryz.underlying330
  a105 := Tryz.isAgg330
  z105 := Tryz.sizeOf330
  v105 := Tryz.zeroValue330
  t119 := Tryz.underlying389
  a119 := Tryz.isAgg389
  z119 := Tryz.sizeOf389
  t138 := Tryz.underlying391
  a138 := Tryz.isAgg391
  z138 := Tryz.sizeOf391
  v138 := Tryz.zeroValue391
  t139 := Tryz.underlying392
  a139 := Tryz.isAgg392
  z139 := Tryz.sizeOf392
  v139 := Tryz.zeroValue392
  t146 := Tryz.underlying304
  a146 := Tryz.isAgg304
  z146 := Tryz.sizeOf304
  v146 := Tryz.zeroValue304
  g1 := by kernel_rfl
  g3 := by kernel_rfl
  g4 := by kernel_rfl }
theorem shI : (Tryz.prog.info? 9).map (fun i => (i.zero, i.size, i.bytes)) = some (some (.string ByteArray.empty), 1, 16) := by kernel_rfl
end Go.Proofs.YtmpkcioeodlbcaaGreatDoor
namespace Go.Proofs.YtmpkcioeodlbcaaGreatDoor
open RowKit Joins
set_option linter.unusedVariables false
theorem pcs_no {s : ByteArray} : ∀ {n i f : Nat}, (∀ j, i ≤ j → j < i + n → bty s j ≠ 10) → pcs s n i f = [(f, i + n)] := by
  intro n
  induction n with
  | zero => intro i f _; rfl
  | succ n ih =>
    intro i f h
    unfold pcs
    rw [if_neg (h i (Nat.le_refl _) (by omega)), ih (fun j h1 h2 => h j (by omega) (by omega))]
    congr 2; omega
theorem pcs_hit {s : ByteArray} : ∀ {m n i f : Nat}, (∀ j, i ≤ j → j < i + m → bty s j ≠ 10) → bty s (i + m) = 10 → m < n → pcs s n i f = (f, i + m) :: pcs s (n - m - 1) (i + m + 1) (i + m + 1) := by
  intro m
  induction m with
  | zero =>
    intro n i f _ h hn
    obtain ⟨n, rfl⟩ : ∃ k, n = k + 1 := ⟨n - 1, by omega⟩
    show (if bty s i = 10 then (f, i) :: pcs s n (i + 1) (i + 1) else pcs s n (i + 1) f) = _
    rw [if_pos (by simpa using h)]
    simp
  | succ m ih =>
    intro n i f h1 h2 hn
    obtain ⟨n, rfl⟩ : ∃ k, n = k + 1 := ⟨n - 1, by omega⟩
    show (if bty s i = 10 then (f, i) :: pcs s n (i + 1) (i + 1) else pcs s n (i + 1) f) = _
    rw [if_neg (h1 i (Nat.le_refl _) (by omega)), ih (n := n) (i := i + 1) (fun j q1 q2 => h1 j (by omega) (by omega)) (by rw [show i + 1 + m = i + (m + 1) by omega]; exact h2) (by omega)]
    rw [show i + 1 + m = i + (m + 1) by omega, show n - m - 1 = n + 1 - (m + 1) - 1 by omega]

def nlB : ByteArray := ⟨#[10]⟩
theorem occ_yes {s : ByteArray} {i : Nat} (h : Lib.occAt s.data.toList nlB.data.toList i = true) : i < s.size ∧ bty s i = 10 := by
  have := Lib.occAt_head (c := 10) (t := []) rfl h
  have h1 : s.data[i]? = some 10 := by simpa using this
  have h2 : i < s.data.size := by
    rcases Nat.lt_or_ge i s.data.size with q | q
    · exact q
    · rw [Array.getElem?_eq_none q] at h1; cases h1
  refine ⟨h2, ?_⟩
  show (s.data.getD i 0).toNat = 10
  rw [Array.getD_eq_getD_getElem?, h1]; rfl
theorem occ_no {s : ByteArray} {i : Nat} (hi : i < s.size) (h : Lib.occAt s.data.toList nlB.data.toList i = false) : bty s i ≠ 10 := by
  have h2 : i < s.data.size := hi
  intro q
  have q1 : (s.data[i]'h2).toNat = 10 := by
    have := bty_get hi; rw [q] at this; exact this
  have q2 : s.data[i]'h2 = 10 := UInt8.toNat_inj.1 q1
  rw [Lib.occAt_iff_take _ _ _ (by have : nlB.data.toList.length = 1 := rfl; rw [this, ← Lib.size_eq]; omega)] at h
  have e : (s.data.toList.drop i).take nlB.data.toList.length = [10] := by
    have : nlB.data.toList.length = 1 := rfl
    rw [this]
    rw [List.take_one, List.head?_drop]
    simp [Array.getElem?_eq_getElem h2, q2]
  rw [e] at h
  exact absurd h (by decide)

theorem split_pcs (s : ByteArray) : ∀ k p, p ≤ s.size → s.size - p = k →
    Lib.splitB nlB 0 (Lib.countB (s.extract p s.size) nlB) (s.extract p s.size) = cuT s (pcs s (s.size - p) p p) := by
  intro k
  induction k using Nat.strongRecOn with
  | _ k ih =>
    intro p hp hk
    have hts : (s.extract p s.size).size = s.size - p := ex_size (Nat.le_refl _)
    rcases Lib.index_spec (s.extract p s.size).data.toList nlB.data.toList with ⟨h1, h2⟩ | ⟨i, h1, h2, h3, h4⟩
    · have e1 : Lib.indexB (s.extract p s.size) nlB = -1 := h1
      rw [Lib.splitB_miss _ _ _ _ e1, pcs_no]
      · show _ = [s.extract p (p + (s.size - p))]
        rw [show p + (s.size - p) = s.size by omega]
      · intro j q1 q2
        have := occ_no (s := s.extract p s.size) (i := j - p) (by rw [hts]; omega) (h2 _ (by rw [← Lib.size_eq, hts]; omega))
        rwa [bty_ex (Nat.le_refl _) (by omega), show p + (j - p) = j by omega] at this
    · have e1 : Lib.indexB (s.extract p s.size) nlB = i := h1
      obtain ⟨y1, y2⟩ := occ_yes h3
      rw [hts] at y1
      rw [bty_ex (Nat.le_refl _) (by omega)] at y2
      have hsz : nlB.size = 1 := rfl
      have e2 : (s.extract p s.size).extract (i + 1) (s.extract p s.size).size = s.extract (p + i + 1) s.size := by
        rw [hts, ex_ex (by omega)]; congr 1; omega
      rw [Lib.countB_hit _ _ i (by decide) e1, hsz, e2, Nat.add_comm 1, Lib.splitB_hit _ _ _ _ i e1, hsz, e2, ih (s.size - (p + i + 1)) (by omega) _ (by omega) rfl]
      rw [pcs_hit (m := i) ?_ y2 (by omega)]
      · rw [ex_ex (by omega)]
        show _ = s.extract p (p + i) :: _
        rw [show s.size - p - i - 1 = s.size - (p + i + 1) by omega]
        congr 1
      · intro j q1 q2
        have := occ_no (s := s.extract p s.size) (i := j - p) (by rw [hts]; omega) (h4 _ (by omega))
        rwa [bty_ex (Nat.le_refl _) (by omega), show p + (j - p) = j by omega] at this
theorem split_all (s : ByteArray) : Lib.splitB nlB 0 (Lib.countB s nlB) s = cuT s (alP s) := by
  have h := split_pcs s s.size 0 (Nat.zero_le _) (by omega)
  have e : s.extract 0 s.size = s := by simp
  rw [e] at h
  exact h
theorem split_len (s : ByteArray) : Lib.countB s nlB + 1 = (alP s).length := by
  have := Lib.splitB_all nlB (by decide) 0 _ s rfl
  rw [split_all] at this
  rw [← this]; unfold cuT; simp

/-- what strings.Split at the byte 10 hands back -/
theorem split_any (s : ByteArray) (m : Int) (w : World) (hs : s.size < 4294967281) (hm : w.cell? ⟨1, 0, none⟩ = some (.int .i64 m)) :
    Calls Tryz.prog 192 #[.string s, .string ⟨#[10]⟩] w fun e w' =>
      e = .returned (.slice (some ⟨w.heap.size, 0, none⟩) (alP s).length (alP s).length) ∧ w' = w.alloc (.cells ((cuT s (alP s)).map Value.string).toArray 9) := by
  have h := Any.strings_Split sh146 shI s nlB m w hs hm (by decide)
  rw [split_all, split_len] at h
  exact h
theorem cuT_len (s : ByteArray) (l : List (Nat × Nat)) : (cuT s l).length = l.length := by unfold cuT; simp
theorem liT_len (s : ByteArray) : (liT s).length = (liP s).length := cuT_len _ _
theorem alP_pos (s : ByteArray) : 0 < (alP s).length := List.length_pos_iff.2 (pcs_ne s _ _ _)
theorem alP_len (s : ByteArray) : (alP s).length ≤ s.size + 1 := pcs_len s s.size 0 0
/-- the last piece -/
theorem alP_last (s : ByteArray) : ∃ g, g ≤ s.size ∧ (alP s)[(alP s).length - 1]? = some (g, s.size) := by
  obtain ⟨g, h1, h2⟩ := pcs_last s s.size 0 0 (by omega) (Nat.le_refl _)
  refine ⟨g, h1, ?_⟩
  rw [← h2, List.getLast?_eq_getElem?]; rfl
theorem str_cell {w : World} {B j : Nat} {l : List ByteArray} {t : TypeId} {u : ByteArray} (h : w.heap[B]? = some (.cells (l.map Value.string).toArray t)) (hj : l[j]? = some u) : w.cell? ⟨B, j, none⟩ = some (.string u) := by
  rw [cell_of_row w B j _ t (0, 0) h]
  simp [hj]
theorem ex_empty {s : ByteArray} {g : Nat} (hg : g ≤ s.size) : (s.extract g s.size).toList.isEmpty = decide (g = s.size) := by
  rw [ByteArray.toList_eq]
  by_cases h : g = s.size
  · subst h
    rw [decide_eq_true rfl]
    have : s.extract s.size s.size = ByteArray.empty := by simp
    rw [this]; rfl
  · rw [decide_eq_false h, List.isEmpty_eq_false_iff]
    intro e
    have : (s.extract g s.size).data.toList.length = 0 := by rw [e]; rfl
    rw [← Lib.size_eq, ex_size (Nat.le_refl _)] at this
    omega
theorem liP_drop {s : ByteArray} (h : (alP s)[(alP s).length - 1]? = some (s.size, s.size)) : liP s = (alP s).dropLast := by
  unfold liP; rw [if_pos (by rw [List.getLast?_eq_getElem?]; exact h)]
theorem liP_all {s : ByteArray} {g : Nat} (h : (alP s)[(alP s).length - 1]? = some (g, s.size)) (hg : g ≠ s.size) : liP s = alP s := by
  unfold liP; rw [if_neg (by rw [List.getLast?_eq_getElem?, h]; simp; exact hg)]

set_option maxHeartbeats 1000000 in
set_option maxRecDepth 100000 in
/-- what linesOf hands back: all pieces in a block of its own, and the slice of the lines -/
theorem linesOf_any (s : ByteArray) (m : Int) (w : World) (hs : s.size ≤ 65536) (hm : w.cell? ⟨1, 0, none⟩ = some (.int .i64 m)) :
    Calls Tryz.prog 145 #[.string s] w fun e w' =>
      e = .returned (.slice (some ⟨w.heap.size, 0, none⟩) (liP s).length (alP s).length) ∧ w' = w.alloc (.cells ((cuT s (alP s)).map Value.string).toArray 9) := by
  obtain ⟨g, hg, hl⟩ := alP_last s
  have hpos := alP_pos s
  have hlen := alP_len s
  have hcl : (cuT s (alP s))[(alP s).length - 1]? = some (s.extract g s.size) := by unfold cuT; rw [List.getElem?_map, hl]; rfl
  have hcell : (w.alloc (.cells ((cuT s (alP s)).map Value.string).toArray 9)).cell? ⟨w.heap.size, (alP s).length - 1, none⟩ = some (.string (s.extract g s.size)) := str_cell (heap_alloc_new _ _) hcl
  have hem := ex_empty hg
  have hli : (liP s).length = if g = s.size then (alP s).length - 1 else (alP s).length := by
    by_cases q : g = s.size
    · subst q; rw [liP_drop hl, if_pos rfl, List.length_dropLast]
    · rw [liP_all hl q, if_neg q]
  have hc := split_any s m w (by omega) hm
  generalize ((cuT s (alP s)).map Value.string).toArray = X at hcell hc ⊢
  obtain ⟨n, hn⟩ : ∃ n, (alP s).length = n + 1 := ⟨(alP s).length - 1, by omega⟩
  rw [hn] at hlen hli hc hcell
  rw [hn]
  simp only [Nat.add_sub_cancel] at hcell hli
  generalize hE : s.extract g s.size = E at hcell hem
  have hix : (n : Int) < (n : Int) + 1 := by omega
  clear hcl hl hn hpos
  by_cases q : g = s.size
  · rw [decide_eq_true q] at hem
    rw [if_pos q] at hli
    rw [hli]
    clear q hli hE
    go_enter Tryz.func145, Tryz.ntmps145
    go_wp2_with (go_at_call 192; (with_reducible refine hc.mono ?_); rintro e w' ⟨rfl, rfl⟩)
    go_ret
    exact ⟨rfl, rfl⟩
  · rw [decide_eq_false q] at hem
    rw [if_neg q] at hli
    rw [hli]
    clear q hli hE
    go_enter Tryz.func145, Tryz.ntmps145
    go_wp2_with (go_at_call 192; (with_reducible refine hc.mono ?_); rintro e w' ⟨rfl, rfl⟩)
    go_ret
    exact ⟨rfl, rfl⟩
end Go.Proofs.YtmpkcioeodlbcaaGreatDoor
namespace Go.Proofs.YtmpkcioeodlbcaaGreatDoor
open RowKit Joins Deep
set_option linter.unusedVariables false
/-- the rows of words: block BL holds N slices, slice j the words ts j, in a block of its own -/
structure Fam (w : World) (base BL N : Nat) (vs : Nat → Value) (ts : Nat → List Tok) : Prop where
  row : w.rowIs BL 161 N vs
  own : ∀ j, j < N → w.ownsRow base 225 3 (vs j) (ts j).length (tcs (ts j))
  far : ∀ j, j < N → (vs j).ownBlock ≠ some BL
  apart : ∀ j k g, j < N → k < N → j ≠ k → (vs j).ownBlock = some g → (vs k).ownBlock ≠ some g
theorem Fam.lt {w : World} {base BL N : Nat} {vs : Nat → Value} {ts : Nat → List Tok} (h : Fam w base BL N vs ts) : BL < w.heap.size := h.row.lt
theorem Fam.made {w : World} {base N : Nat} : Fam (w.alloc (.cells (madeCells #[.slice none 0 0] N) 161)) base w.heap.size N (fun _ => .slice none 0 0) (fun _ => []) where
  row := World.rowIs_made w _ N _
  own := fun j _ => World.ownsRow_nil _ _ _ _
  far := fun j _ h => by cases h
  apart := fun j k g _ _ _ h => by cases h
theorem Fam.kept {w w' : World} {base BL N : Nat} {vs : Nat → Value} {ts : Nat → List Tok} (h : Fam w base BL N vs ts) (hb : Below w.heap.size w w') : Fam w' base BL N vs ts where
  row := h.row.of_block (hb.block _ h.lt)
  own := fun j hj => by
    refine (h.own j hj).kept (row := none) ⟨hb.os, hb.tape, hb.output, hb.size, fun k hk _ => hb.block k hk⟩ ?_
    cases e : (vs j).ownBlock
    · exact .inl rfl
    · exact .inr (by simp)
  far := h.far
  apart := h.apart
theorem Fam.turn {w w1 : World} {base BL N n : Nat} {vs : Nat → Value} {ts : Nat → List Tok} (h : Fam w base BL N vs ts) (hn : n < N) {v' : Value} {l : List Tok}
    (hg : w.grownBy w1 (vs n).ownBlock) (hown : w1.ownsRow base 225 3 v' l.length (tcs l)) (hv : v'.ownBlock = (vs n).ownBlock ∨ ∃ g, v'.ownBlock = some g ∧ w.heap.size ≤ g) :
    Fam (w1.setCell ⟨BL, n, none⟩ v') base BL N (fun j => if j = n then v' else vs j) (fun j => if j = n then l else ts j) := by
  have hlt := h.lt
  have hnb : v'.ownBlock ≠ some BL := by
    rcases hv with e | ⟨g, e, hge⟩
    · rw [e]; exact h.far n hn
    · rw [e]; intro q; have := Option.some.inj q; omega
  have hr1 : w1.rowIs BL 161 N vs := h.row.of_block (hg.block BL hlt (fun e => h.far n hn e.symm))
  have hb : ∀ j, j < N → ∀ g, (vs j).ownBlock = some g → g < w.heap.size := fun j hj g e => ((h.own j hj).lt g e).2
  refine ⟨hr1.set n v', ?_, ?_, ?_⟩
  · intro j hj
    by_cases e : j = n
    · simp only [e, if_true]
      exact hown.kept (row := some BL) grown_set (.inr hnb)
    · simp only [e, if_false]
      have h1 := (h.own j hj).kept hg (by
        cases q : (vs j).ownBlock with
        | none => exact .inl rfl
        | some g => exact .inr (fun q2 => h.apart j n g hj hn e q q2.symm))
      exact h1.kept (row := some BL) grown_set (.inr (h.far j hj))
  · intro j hj
    by_cases e : j = n
    · simp only [e, if_true]; exact hnb
    · simp only [e, if_false]; exact h.far j hj
  · intro j k g hj hk hjk
    by_cases e : j = n
    · have e2 : k ≠ n := fun q => hjk (by omega)
      simp only [e, if_true, e2, if_false]
      intro q1 q2
      rcases hv with e3 | ⟨g2, e3, hge⟩
      · exact h.apart n k g hn hk (fun q => e2 q.symm) (e3.symm.trans q1) q2
      · rw [e3] at q1; have := Option.some.inj q1; have := hb k hk g q2; omega
    · by_cases e2 : k = n
      · simp only [e, if_false, e2, if_true]
        intro q1 q2
        rcases hv with e3 | ⟨g2, e3, hge⟩
        · exact h.apart j n g hj hn e q1 (e3.symm.trans q2)
        · rw [e3] at q2; have := Option.some.inj q2; have := hb j hj g q1; omega
      · simp only [e, e2, if_false]; exact h.apart j k g hj hk hjk

/-- what is known while Cut goes on: it stands at line n, of which the words l are laid -/
structure Civ (s : ByteArray) (w wr : World) (n : Nat) (l : List Tok) : Prop where
  bel : Below w.heap.size w wr
  fc : wr.heap[w.heap.size]? = some (.cells #[.int .i64 0, .int .i64 0] 69 (0, 0))
  tx : wr.heap[w.heap.size + 1]? = some (.cells ((cuT s (alP s)).map Value.string).toArray 9)
  fam : ∃ vs ts, Fam wr (w.heap.size + 3) (w.heap.size + 2) (liP s).length vs ts ∧ (∀ j u, j < n → (liT s)[j]? = some u → ts j = tkl j u) ∧ ts n = l ∧ ∀ j, n < j → ts j = []
  ok : ∀ j u, j < n → (liT s)[j]? = some u → bdE u = 0
theorem Civ.next {s : ByteArray} {w wr : World} {n : Nat} {t : ByteArray} (h : Civ s w wr n (tkl n t)) (ht : (liT s)[n]? = some t) (hb : bdE t = 0) : Civ s w wr (n + 1) [] := by
  obtain ⟨vs, ts, hf, h1, h2, h3⟩ := h.fam
  refine ⟨h.bel, h.fc, h.tx, ⟨vs, ts, hf, ?_, h3 _ (by omega), fun j hj => h3 j (by omega)⟩, ?_⟩
  · intro j u hj hu
    rcases Nat.lt_succ_iff_lt_or_eq.1 hj with q | rfl
    · exact h1 j u q hu
    · rw [ht] at hu; cases hu; exact h2
  · intro j u hj hu
    rcases Nat.lt_succ_iff_lt_or_eq.1 hj with q | rfl
    · exact h.ok j u q hu
    · rw [ht] at hu; cases hu; exact hb
theorem liT_get {s : ByteArray} {n : Nat} (h : n < (liP s).length) : ∃ p ∈ liP s, (liP s)[n]? = some p ∧ (liT s)[n]? = some (s.extract p.1 p.2) := by
  refine ⟨(liP s)[n], List.getElem_mem h, List.getElem?_eq_getElem h, ?_⟩
  unfold liT cuT
  rw [List.getElem?_map, List.getElem?_eq_getElem h]; rfl
theorem liP_pre {s : ByteArray} {n : Nat} {p : Nat × Nat} (h : (liP s)[n]? = some p) : (alP s)[n]? = some p := by
  unfold liP at h
  split at h
  · rw [List.getElem?_dropLast] at h
    split at h
    · exact h
    · cases h
  · exact h
theorem Civ.text {s : ByteArray} {w wr : World} {n : Nat} {l : List Tok} (h : Civ s w wr n l) {t : ByteArray} {k : Nat} (hk : (liT s)[k]? = some t) : wr.cell? ⟨w.heap.size + 1, k, none⟩ = some (.string t) := by
  refine str_cell h.tx ?_
  have hk2 : (cuT s (liP s))[k]? = some t := hk
  unfold cuT at hk2 ⊢
  rw [List.getElem?_map] at hk2 ⊢
  cases e : (liP s)[k]? with
  | none => rw [e] at hk2; cases hk2
  | some p => rw [e] at hk2; rw [liP_pre e]; exact hk2
theorem Civ.lays {s : ByteArray} {w wr w1 : World} {n : Nat} {l l2 : List Tok} (h : Civ s w wr n l) (hn : n < (liP s).length) {vs : Nat → Value} {ts : Nat → List Tok}
    (hf : Fam wr (w.heap.size + 3) (w.heap.size + 2) (liP s).length vs ts) (h1 : ∀ j u, j < n → (liT s)[j]? = some u → ts j = tkl j u) (h3 : ∀ j, n < j → ts j = [])
    {v' : Value} (hg : wr.grownBy w1 (vs n).ownBlock) (hown : w1.ownsRow (w.heap.size + 3) 225 3 v' l2.length (tcs l2)) (hv : v'.ownBlock = (vs n).ownBlock ∨ ∃ g, v'.ownBlock = some g ∧ wr.heap.size ≤ g) :
    Civ s w (w1.setCell ⟨w.heap.size + 2, n, none⟩ v') n l2 := by
  have hlt := hf.lt
  have hb0 : ∀ g, (vs n).ownBlock = some g → w.heap.size + 3 ≤ g := fun g e => ((hf.own n hn).lt g e).1
  have hblk : ∀ k, k < w.heap.size + 3 → k ≠ w.heap.size + 2 → (w1.setCell ⟨w.heap.size + 2, n, none⟩ v').heap[k]? = wr.heap[k]? := by
    intro k hk hk2
    rw [Below.heap_setCell _ _ _ _ (by intro e; exact hk2 (by simpa using e)), hg.block k (by omega) (by intro e; have := hb0 k e.symm; omega)]
  refine ⟨?_, ?_, ?_, ⟨_, _, hf.turn hn hg hown hv, ?_, by simp, ?_⟩, h.ok⟩
  · refine h.bel.trans ⟨hg.os, hg.tape, hg.output, ?_, fun k hk => hblk k (by omega) (by omega)⟩
    have := hg.size
    simp [World.setCell]; have := h.bel.size; omega
  · rw [hblk _ (by omega) (by omega)]; exact h.fc
  · rw [hblk _ (by omega) (by omega)]; exact h.tx
  · intro j u hj hu
    simp only [show j ≠ n by omega, if_false]; exact h1 j u hj hu
  · intro j hj
    simp only [show j ≠ n by omega, if_false]; exact h3 j hj
theorem Civ.drew {s : ByteArray} {w wr : World} {n : Nat} {l : List Tok} (h : Civ s w wr n l) : Civ s w wr.drew n l :=
  ⟨h.bel.drew, h.fc, h.tx, h.fam.imp fun vs q => q.imp fun ts q => ⟨⟨q.1.row, q.1.own, q.1.far, q.1.apart⟩, q.2⟩, h.ok⟩
theorem Fam.put {w : World} {base BL N : Nat} {vs : Nat → Value} {ts : Nat → List Tok} (h : Fam w base BL N vs ts) {b i : Nat} (hb : b < base) (hne : BL ≠ b) (x : Value) : Fam (w.setCell ⟨b, i, none⟩ x) base BL N vs ts :=
  ⟨h.row.setOther hne x, fun j hj => ownsRow_setCell_below (h.own j hj) hb x, h.far, h.apart⟩
/-- two cells of a block that is known whole -/
theorem two_c {w : World} {B : Nat} {a b : Value} {T : TypeId} (h : w.heap[B]? = some (.cells #[a, b] T (0, 0))) : w.cell? ⟨B, 0, none⟩ = some a ∧ w.cell? ⟨B, 1, none⟩ = some b ∧ w.frozen? ⟨B, 0, none⟩ = false ∧ w.frozen? ⟨B, 1, none⟩ = false :=
  ⟨by rw [cell_of_row w B 0 _ T (0, 0) h]; rfl, by rw [cell_of_row w B 1 _ T (0, 0) h]; rfl, frozen_of_row w B 0 _ T h, frozen_of_row w B 1 _ T h⟩
theorem two_set {w : World} {B : Nat} {a b : Value} {T : TypeId} (h : w.heap[B]? = some (.cells #[a, b] T (0, 0))) (x y : Value) :
    ((w.setCell ⟨B, 0, none⟩ x).setCell ⟨B, 1, none⟩ y).cell? ⟨B, 0, none⟩ = some x ∧ ((w.setCell ⟨B, 0, none⟩ x).setCell ⟨B, 1, none⟩ y).cell? ⟨B, 1, none⟩ = some y := by
  obtain ⟨c0, c1, _, _⟩ := two_c h
  constructor
  · rw [World.cell?_setCell_other _ _ _ _ (by simp)]
    exact World.cell?_setCell_same _ _ _ c0
  · refine World.cell?_setCell_same _ _ _ (u := b) ?_
    rw [World.cell?_setCell_other _ _ _ _ (by simp)]; exact c1
theorem below_two {w w' : World} {f n : Nat} (h : Below n w w') (hf : n ≤ f) (x y : Value) : Below n w ((w'.setCell ⟨f, 0, none⟩ x).setCell ⟨f, 1, none⟩ y) :=
  (h.setCell (p := ⟨f, 0, none⟩) hf _).setCell (p := ⟨f, 1, none⟩) hf _
/-- Cut begins -/
theorem Civ.start {s : ByteArray} {w : World} {N : Nat} (hN : (liP s).length = N) :
    Civ s w (((w.alloc (.cells #[.int .i64 0, .int .i64 0] 69)).alloc (.cells ((cuT s (alP s)).map Value.string).toArray 9)).alloc (.cells (madeCells #[.slice none 0 0] N) 161)) 0 [] := by
  have hf := Fam.made (w := (w.alloc (.cells #[.int .i64 0, .int .i64 0] 69)).alloc (.cells ((cuT s (alP s)).map Value.string).toArray 9)) (base := w.heap.size + 3) (N := N)
  rw [show ((w.alloc (.cells #[.int .i64 0, .int .i64 0] 69)).alloc (.cells ((cuT s (alP s)).map Value.string).toArray 9)).heap.size = w.heap.size + 2 by simp] at hf
  refine ⟨(((Below.refl _ _).alloc (Nat.le_refl _) _).alloc (by simp) _).alloc (by simp; omega) _, ?_, ?_, ⟨_, _, by rw [hN]; exact hf, fun j u hj => absurd hj (by omega), rfl, fun _ _ => rfl⟩, fun j u hj => absurd hj (by omega)⟩
  · rw [blk_alloc_lt _ _ _ (by simp; omega), blk_alloc_lt _ _ _ (by simp)]; exact heap_alloc_new _ _
  · rw [blk_alloc_lt _ _ _ (by simp)]
    have := heap_alloc_new (w.alloc (.cells #[.int .i64 0, .int .i64 0] 69)) (.cells ((cuT s (alP s)).map Value.string).toArray 9)
    simpa using this
end Go.Proofs.YtmpkcioeodlbcaaGreatDoor
