/-
  Words: what strings.Split at the byte 10 hands back is the pieces; what linesOf hands back are the lines.
-/
import Derived.Test.YtpfdgibgdehcdaaDoorTkb
import Derived.Test.YtpfdgibgdehcdaaDoorShl
import Derived.Lib.IndexMore
namespace Go.Proofs.YtpfdgibgdehcdaaDoor
open RowKit Joins
set_option linter.unusedVariables false

theorem pcs_no {s : ByteArray} : ∀ {n i f : Nat}, (∀ j, i ≤ j → j < i + n → bty s j ≠ 10) → pcs s n i f = [(f, i + n)] := by
  intro n
  induction n with
  | zero => intro i f _; rfl
  | succ n ih =>
    intro i f h
    unfold pcs
    rw [if_neg (h i (Nat.le_refl _) (by omega)), ih (fun j h1 h2 => h j (by omega) (by omega))]
    congr 2; omega
theorem pcs_hit {s : ByteArray} : ∀ {m n i f : Nat}, (∀ j, i ≤ j → j < i + m → bty s j ≠ 10) → bty s (i + m) = 10 → m < n → pcs s n i f = (f, i + m) :: pcs s (n - m - 1) (i + m + 1) (i + m + 1) := by
  intro m
  induction m with
  | zero =>
    intro n i f _ h hn
    obtain ⟨n, rfl⟩ : ∃ k, n = k + 1 := ⟨n - 1, by omega⟩
    show (if bty s i = 10 then (f, i) :: pcs s n (i + 1) (i + 1) else pcs s n (i + 1) f) = _
    rw [if_pos (by simpa using h)]
    simp
  | succ m ih =>
    intro n i f h1 h2 hn
    obtain ⟨n, rfl⟩ : ∃ k, n = k + 1 := ⟨n - 1, by omega⟩
    show (if bty s i = 10 then (f, i) :: pcs s n (i + 1) (i + 1) else pcs s n (i + 1) f) = _
    rw [if_neg (h1 i (Nat.le_refl _) (by omega)), ih (n := n) (i := i + 1) (fun j q1 q2 => h1 j (by omega) (by omega)) (by rw [show i + 1 + m = i + (m + 1) by omega]; exact h2) (by omega)]
    rw [show i + 1 + m = i + (m + 1) by omega, show n - m - 1 = n + 1 - (m + 1) - 1 by omega]

def nlB : ByteArray := ⟨#[10]⟩
theorem occ_yes {s : ByteArray} {i : Nat} (h : Lib.occAt s.data.toList nlB.data.toList i = true) : i < s.size ∧ bty s i = 10 := by
  have := Lib.occAt_head (c := 10) (t := []) rfl h
  have h1 : s.data[i]? = some 10 := by simpa using this
  have h2 : i < s.data.size := by
    rcases Nat.lt_or_ge i s.data.size with q | q
    · exact q
    · rw [Array.getElem?_eq_none q] at h1; cases h1
  refine ⟨h2, ?_⟩
  show (s.data.getD i 0).toNat = 10
  rw [Array.getD_eq_getD_getElem?, h1]; rfl
theorem occ_no {s : ByteArray} {i : Nat} (hi : i < s.size) (h : Lib.occAt s.data.toList nlB.data.toList i = false) : bty s i ≠ 10 := by
  have h2 : i < s.data.size := hi
  intro q
  have q1 : (s.data[i]'h2).toNat = 10 := by
    have := bty_get hi; rw [q] at this; exact this
  have q2 : s.data[i]'h2 = 10 := UInt8.toNat_inj.1 q1
  rw [Lib.occAt_iff_take _ _ _ (by have : nlB.data.toList.length = 1 := rfl; rw [this, ← Lib.size_eq]; omega)] at h
  have e : (s.data.toList.drop i).take nlB.data.toList.length = [10] := by
    have : nlB.data.toList.length = 1 := rfl
    rw [this]
    rw [List.take_one, List.head?_drop]
    simp [Array.getElem?_eq_getElem h2, q2]
  rw [e] at h
  exact absurd h (by decide)

theorem split_pcs (s : ByteArray) : ∀ k p, p ≤ s.size → s.size - p = k →
    Lib.splitB nlB 0 (Lib.countB (s.extract p s.size) nlB) (s.extract p s.size) = cuT s (pcs s (s.size - p) p p) := by
  intro k
  induction k using Nat.strongRecOn with
  | _ k ih =>
    intro p hp hk
    have hts : (s.extract p s.size).size = s.size - p := ex_size (Nat.le_refl _)
    rcases Lib.index_spec (s.extract p s.size).data.toList nlB.data.toList with ⟨h1, h2⟩ | ⟨i, h1, h2, h3, h4⟩
    · have e1 : Lib.indexB (s.extract p s.size) nlB = -1 := h1
      rw [Lib.splitB_miss _ _ _ _ e1, pcs_no]
      · show _ = [s.extract p (p + (s.size - p))]
        rw [show p + (s.size - p) = s.size by omega]
      · intro j q1 q2
        have := occ_no (s := s.extract p s.size) (i := j - p) (by rw [hts]; omega) (h2 _ (by rw [← Lib.size_eq, hts]; omega))
        rwa [bty_ex (Nat.le_refl _) (by omega), show p + (j - p) = j by omega] at this
    · have e1 : Lib.indexB (s.extract p s.size) nlB = i := h1
      obtain ⟨y1, y2⟩ := occ_yes h3
      rw [hts] at y1
      rw [bty_ex (Nat.le_refl _) (by omega)] at y2
      have hsz : nlB.size = 1 := rfl
      have e2 : (s.extract p s.size).extract (i + 1) (s.extract p s.size).size = s.extract (p + i + 1) s.size := by
        rw [hts, ex_ex (by omega)]; congr 1; omega
      rw [Lib.countB_hit _ _ i (by decide) e1, hsz, e2, Nat.add_comm 1, Lib.splitB_hit _ _ _ _ i e1, hsz, e2, ih (s.size - (p + i + 1)) (by omega) _ (by omega) rfl]
      rw [pcs_hit (m := i) ?_ y2 (by omega)]
      · rw [ex_ex (by omega)]
        show _ = s.extract p (p + i) :: _
        rw [show s.size - p - i - 1 = s.size - (p + i + 1) by omega]
        congr 1
      · intro j q1 q2
        have := occ_no (s := s.extract p s.size) (i := j - p) (by rw [hts]; omega) (h4 _ (by omega))
        rwa [bty_ex (Nat.le_refl _) (by omega), show p + (j - p) = j by omega] at this
theorem split_all (s : ByteArray) : Lib.splitB nlB 0 (Lib.countB s nlB) s = cuT s (alP s) := by
  have h := split_pcs s s.size 0 (Nat.zero_le _) (by omega)
  have e : s.extract 0 s.size = s := by simp
  rw [e] at h
  exact h
theorem split_len (s : ByteArray) : Lib.countB s nlB + 1 = (alP s).length := by
  have := Lib.splitB_all nlB (by decide) 0 _ s rfl
  rw [split_all] at this
  rw [← this]; unfold cuT; simp

/-- what strings.Split at the byte 10 hands back -/
theorem split_any (s : ByteArray) (m : Int) (w : World) (hs : s.size < 4294967281) (hm : w.cell? ⟨2, 0, none⟩ = some (.int .i64 m)) :
    Calls Tryd.prog 19 #[.string s, .string ⟨#[10]⟩] w fun e w' =>
      e = .returned (.slice (some ⟨w.heap.size, 0, none⟩) (alP s).length (alP s).length) ∧ w' = w.alloc (.cells ((cuT s (alP s)).map Value.string).toArray 9) := by
  have h := Any.strings_Split sh146 shI s nlB m w hs hm (by decide)
  rw [split_all, split_len] at h
  exact h
theorem cuT_len (s : ByteArray) (l : List (Nat × Nat)) : (cuT s l).length = l.length := by unfold cuT; simp
theorem liT_len (s : ByteArray) : (liT s).length = (liP s).length := cuT_len _ _
theorem alP_pos (s : ByteArray) : 0 < (alP s).length := List.length_pos_iff.2 (pcs_ne s _ _ _)
theorem alP_len (s : ByteArray) : (alP s).length ≤ s.size + 1 := pcs_len s s.size 0 0
/-- the last piece -/
theorem alP_last (s : ByteArray) : ∃ g, g ≤ s.size ∧ (alP s)[(alP s).length - 1]? = some (g, s.size) := by
  obtain ⟨g, h1, h2⟩ := pcs_last s s.size 0 0 (by omega) (Nat.le_refl _)
  refine ⟨g, h1, ?_⟩
  rw [← h2, List.getLast?_eq_getElem?]; rfl
theorem str_cell {w : World} {B j : Nat} {l : List ByteArray} {t : TypeId} {u : ByteArray} (h : w.heap[B]? = some (.cells (l.map Value.string).toArray t)) (hj : l[j]? = some u) : w.cell? ⟨B, j, none⟩ = some (.string u) := by
  rw [cell_of_row w B j _ t (0, 0) h]
  simp [hj]
theorem ex_empty {s : ByteArray} {g : Nat} (hg : g ≤ s.size) : (s.extract g s.size).toList.isEmpty = decide (g = s.size) := by
  rw [ByteArray.toList_eq]
  by_cases h : g = s.size
  · subst h
    rw [decide_eq_true rfl]
    have : s.extract s.size s.size = ByteArray.empty := by simp
    rw [this]; rfl
  · rw [decide_eq_false h, List.isEmpty_eq_false_iff]
    intro e
    have : (s.extract g s.size).data.toList.length = 0 := by rw [e]; rfl
    rw [← Lib.size_eq, ex_size (Nat.le_refl _)] at this
    omega
theorem liP_drop {s : ByteArray} (h : (alP s)[(alP s).length - 1]? = some (s.size, s.size)) : liP s = (alP s).dropLast := by
  unfold liP; rw [if_pos (by rw [List.getLast?_eq_getElem?]; exact h)]
theorem liP_all {s : ByteArray} {g : Nat} (h : (alP s)[(alP s).length - 1]? = some (g, s.size)) (hg : g ≠ s.size) : liP s = alP s := by
  unfold liP; rw [if_neg (by rw [List.getLast?_eq_getElem?, h]; simp; exact hg)]

set_option maxHeartbeats 1000000 in
set_option maxRecDepth 100000 in
/-- what linesOf hands back: all pieces in a block of its own, and the slice of the lines -/
theorem linesOf_any (s : ByteArray) (m : Int) (w : World) (hs : s.size ≤ 65536) (hm : w.cell? ⟨2, 0, none⟩ = some (.int .i64 m)) :
    Calls Tryd.prog 36 #[.string s] w fun e w' =>
      e = .returned (.slice (some ⟨w.heap.size, 0, none⟩) (liP s).length (alP s).length) ∧ w' = w.alloc (.cells ((cuT s (alP s)).map Value.string).toArray 9) := by
  obtain ⟨g, hg, hl⟩ := alP_last s
  have hpos := alP_pos s
  have hlen := alP_len s
  have hcl : (cuT s (alP s))[(alP s).length - 1]? = some (s.extract g s.size) := by unfold cuT; rw [List.getElem?_map, hl]; rfl
  have hcell : (w.alloc (.cells ((cuT s (alP s)).map Value.string).toArray 9)).cell? ⟨w.heap.size, (alP s).length - 1, none⟩ = some (.string (s.extract g s.size)) := str_cell (heap_alloc_new _ _) hcl
  have hem := ex_empty hg
  have hli : (liP s).length = if g = s.size then (alP s).length - 1 else (alP s).length := by
    by_cases q : g = s.size
    · subst q; rw [liP_drop hl, if_pos rfl, List.length_dropLast]
    · rw [liP_all hl q, if_neg q]
  have hc := split_any s m w (by omega) hm
  generalize ((cuT s (alP s)).map Value.string).toArray = X at hcell hc ⊢
  obtain ⟨n, hn⟩ : ∃ n, (alP s).length = n + 1 := ⟨(alP s).length - 1, by omega⟩
  rw [hn] at hlen hli hc hcell
  rw [hn]
  simp only [Nat.add_sub_cancel] at hcell hli
  generalize hE : s.extract g s.size = E at hcell hem
  have hix : (n : Int) < (n : Int) + 1 := by omega
  clear hcl hl hn hpos
  by_cases q : g = s.size
  · rw [decide_eq_true q] at hem
    rw [if_pos q] at hli
    rw [hli]
    clear q hli hE
    go_enter Tryd.func36, Tryd.ntmps36
    go_wp2_with (go_at_call 19; (with_reducible refine hc.mono ?_); rintro e w' ⟨rfl, rfl⟩)
    go_ret
    exact ⟨rfl, rfl⟩
  · rw [decide_eq_false q] at hem
    rw [if_neg q] at hli
    rw [hli]
    clear q hli hE
    go_enter Tryd.func36, Tryd.ntmps36
    go_wp2_with (go_at_call 19; (with_reducible refine hc.mono ?_); rintro e w' ⟨rfl, rfl⟩)
    go_ret
    exact ⟨rfl, rfl⟩
end Go.Proofs.YtpfdgibgdehcdaaDoor
