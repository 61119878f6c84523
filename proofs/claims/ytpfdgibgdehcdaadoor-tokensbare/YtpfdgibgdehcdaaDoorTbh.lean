/-
  TokensBare, pure: the text that it writes out of a text's pieces: nothing wrong with it, and the same words.
-/
import Derived.Test.YtpfdgibgdehcdaaDoorTbg
namespace Go.Proofs.YtpfdgibgdehcdaaDoor
set_option linter.unusedVariables false

theorem erL_allq {l : List ByteArray} : ∀ {n : Nat}, erL n l = (0, 0) → ∀ u ∈ l, bdE u = 0 := by
  induction l with
  | nil => intro n _ u hu; cases hu
  | cons t r ih =>
    intro n h u hu
    have e : erL n (t :: r) = if bdE t ≠ 0 then (bdE t, n) else erL (n + 1) r := rfl
    rw [e] at h
    by_cases q : bdE t ≠ 0
    · rw [if_pos q, Prod.mk.injEq] at h; exact absurd h.1 q
    · rw [if_neg q] at h
      rcases List.mem_cons.1 hu with rfl | hu
      · exact Decidable.not_not.1 q
      · exact ih h u hu
theorem erL_okq {l : List ByteArray} (h : ∀ u ∈ l, bdE u = 0) : ∀ n, erL n l = (0, 0) := by
  induction l with
  | nil => intro n; rfl
  | cons t r ih =>
    intro n
    have e : erL n (t :: r) = if bdE t ≠ 0 then (bdE t, n) else erL (n + 1) r := rfl
    rw [e, if_neg (by rw [h t (by simp)]; exact fun q => q rfl)]
    exact ih (fun u hu => h u (List.mem_cons_of_mem _ hu)) _
/-- the words' texts, line by line -/
def txq (u : ByteArray) : List ByteArray := (tkl 0 u).map (·.1)
theorem txs_tkL (l : List ByteArray) : ∀ n, txs (tkL n l) = l.map txq := by
  induction l with
  | nil => intro n; rfl
  | cons t r ih =>
    intro n
    show (tkl n t).map (·.1) :: txs (tkL (n + 1) r) = txq t :: r.map txq
    rw [ih, tkl_same (s := t) (t := t) rfl n 0]; rfl
theorem pcs_noq {s : ByteArray} : ∀ (n i f : Nat), i + n = s.size → f ≤ i → (∀ k, f ≤ k → k < i → bty s k ≠ 10) → ∀ p ∈ pcs s n i f, p.1 ≤ p.2 ∧ p.2 ≤ s.size ∧ ∀ k, p.1 ≤ k → k < p.2 → bty s k ≠ 10 := by
  intro n
  induction n with
  | zero =>
    intro i f hi hf h p hp
    obtain rfl := List.mem_singleton.1 hp
    exact ⟨hf, by show i ≤ _; omega, h⟩
  | succ n ih =>
    intro i f hi hf h p hp
    unfold pcs at hp
    by_cases q : bty s i = 10
    · rw [if_pos q] at hp
      rcases List.mem_cons.1 hp with rfl | hp
      · exact ⟨hf, by show i ≤ _; omega, h⟩
      · exact ih (i + 1) (i + 1) (by omega) (Nat.le_refl _) (fun k h1 h2 => by omega) p hp
    · rw [if_neg q] at hp
      refine ih (i + 1) f (by omega) (by omega) (fun k h1 h2 => ?_) p hp
      rcases Nat.lt_or_ge k i with h3 | h3
      · exact h k h1 h3
      · obtain rfl : k = i := by omega
        exact q
theorem piece_no {s u : ByteArray} (h : u ∈ cuT s (alP s)) : ∀ c ∈ u.data.toList, c ≠ 10 := by
  unfold cuT at h
  obtain ⟨p, hp, rfl⟩ := List.mem_map.1 h
  have hq := pcs_noq s.size 0 0 (by omega) (Nat.le_refl _) (fun k _ h2 => by omega) p hp
  intro c hc
  obtain ⟨i, hi, rfl⟩ := List.getElem_of_mem hc
  have h2 : i < (s.extract p.1 p.2).size := by rw [Lib.size_eq]; exact hi
  have h3 : i < p.2 - p.1 := by rw [ex_size hq.2.1] at h2; exact h2
  have h4 := hq.2.2 (p.1 + i) (by omega) (by omega)
  rw [← bty_ex hq.2.1 h3, ← bty_get h2] at h4
  intro e
  apply h4
  have e2 : (s.extract p.1 p.2)[i]'h2 = (s.extract p.1 p.2).data.toList[i] := by
    rw [Array.getElem_toList]; rfl
  rw [e2, e]; rfl
/-- a piece as TokensBare writes it, without a remark and with one -/
def brz (u : ByteArray) : List UInt8 := 9 :: 32 :: u.data.toList.flatMap fun c => if c = 32 then [32, 13, 32] else [c]
def brr (rm : List UInt8) (u : ByteArray) : List UInt8 := brz u ++ 32 :: 59 :: rm
theorem brz_bts (u : ByteArray) : (brz u).map UInt8.toNat = 9 :: 32 :: (bts u).flatMap wde := by
  unfold brz bts
  show 9 :: 32 :: (u.data.toList.flatMap _).map UInt8.toNat = _
  congr 2
  generalize u.data.toList = l
  induction l with
  | nil => rfl
  | cons c r ih =>
    rw [List.flatMap_cons, List.map_append, ih, List.map_cons, List.flatMap_cons]
    congr 1
    unfold wde
    by_cases h : c = 32
    · subst h; rfl
    · have h2 : ¬ c.toNat = 32 := fun e => h (UInt8.toNat_inj.1 e)
      rw [if_neg h, if_neg h2]; rfl
theorem brz_no {u : ByteArray} (h : ∀ c ∈ u.data.toList, c ≠ 10) : ∀ c ∈ brz u, c ≠ 10 := by
  intro c hc
  unfold brz at hc
  rcases List.mem_cons.1 hc with rfl | hc
  · decide
  rcases List.mem_cons.1 hc with rfl | hc
  · decide
  obtain ⟨d, hd, hc⟩ := List.mem_flatMap.1 hc
  by_cases q : d = 32
  · rw [if_pos q] at hc
    rcases List.mem_cons.1 hc with rfl | hc
    · decide
    rcases List.mem_cons.1 hc with rfl | hc
    · decide
    obtain rfl := List.mem_singleton.1 hc
    decide
  · rw [if_neg q] at hc
    obtain rfl := List.mem_singleton.1 hc
    exact h _ hd
theorem brr_no {u : ByteArray} {rm : List UInt8} (hr : ∀ c ∈ rm, c ≠ 10) (h : ∀ c ∈ u.data.toList, c ≠ 10) : ∀ c ∈ brr rm u, c ≠ 10 := by
  intro c hc
  unfold brr at hc
  rcases List.mem_append.1 hc with hc | hc
  · exact brz_no h c hc
  rcases List.mem_cons.1 hc with rfl | hc
  · decide
  rcases List.mem_cons.1 hc with rfl | hc
  · decide
  exact hr c hc
/-- the text that TokensBare writes: nothing wrong with it; its words are those of the pieces -/
theorem bare_text {s t z : ByteArray} {ps : List ByteArray} {rm : List UInt8} (hp : cuT s (alP s) = ps ++ [z]) (hd : t.data.toList = ((ps.map (brr rm)).flatMap fun l => l ++ [10]) ++ brz z) (hr : ∀ c ∈ rm, c ≠ 10) (he : ∀ u ∈ ps ++ [z], bdE u = 0) :
    erL 0 (liT t) = (0, 0) ∧ txs (tkL 0 (liT t)) = (ps ++ [z]).map txq := by
  have hno : ∀ u ∈ ps ++ [z], ∀ c ∈ u.data.toList, c ≠ 10 := fun u hu => piece_no (s := s) (by rw [hp]; exact hu)
  have hl := liT_joinz hd (fun j hj => by
      obtain ⟨u, hu, rfl⟩ := List.mem_map.1 hj
      exact brr_no hr (hno u (List.mem_append_left _ hu))) (brz_no (hno z (by simp))) (by unfold brz; simp)
  have h1 : ∀ u ∈ ps, bdE ⟨(brr rm u).toArray⟩ = 0 ∧ txq ⟨(brr rm u).toArray⟩ = txq u := by
    intro u hu
    have hb := bare_line (u := u) (v := ⟨(brr rm u).toArray⟩) (.inr ⟨rm.map UInt8.toNat, by
      show (brr rm u).map UInt8.toNat = _
      unfold brr
      rw [List.map_append, brz_bts]; rfl⟩) (he u (List.mem_append_left _ hu))
    exact ⟨hb.1, hb.2 0 0⟩
  have h2 : bdE ⟨(brz z).toArray⟩ = 0 ∧ txq ⟨(brz z).toArray⟩ = txq z := by
    have hb := bare_line (u := z) (v := ⟨(brz z).toArray⟩) (.inl (by
      show (brz z).map UInt8.toNat = _
      exact brz_bts z)) (he z (by simp))
    exact ⟨hb.1, hb.2 0 0⟩
  rw [hl]
  constructor
  · apply erL_okq
    intro v hv
    obtain ⟨j, hj, rfl⟩ := List.mem_map.1 hv
    rcases List.mem_append.1 hj with hj | hj
    · obtain ⟨u, hu, rfl⟩ := List.mem_map.1 hj
      exact (h1 u hu).1
    · obtain rfl := List.mem_singleton.1 hj
      exact h2.1
  · rw [txs_tkL, List.map_map, List.map_append, List.map_append, List.map_map]
    congr 1
    · exact List.map_congr_left fun u hu => (h1 u hu).2
    · show [txq ⟨(brz z).toArray⟩] = [txq z]; rw [h2.2]
/-- the last piece is a line, or it has no byte and no word -/
theorem bare_last {s z : ByteArray} {ps : List ByteArray} (hp : cuT s (alP s) = ps ++ [z]) :
    (txq z = [] ∧ bdE z = 0 ∧ liT s = ps) ∨ liT s = ps ++ [z] := by
  obtain ⟨g, hg, hl⟩ := alP_last s
  have hlen : (alP s).length = ps.length + 1 := by
    have := congrArg List.length hp
    unfold cuT at this
    rw [List.length_map, List.length_append] at this; exact this
  have hz : z = s.extract g s.size := by
    have h1 : (cuT s (alP s))[(alP s).length - 1]? = some (s.extract g s.size) := by unfold cuT; rw [List.getElem?_map, hl]; rfl
    rw [hp, hlen, Nat.add_sub_cancel, List.getElem?_append_right (Nat.le_refl _), Nat.sub_self] at h1
    exact Option.some.inj h1
  by_cases q : g = s.size
  · left
    subst q
    have h0 : z = ⟨#[]⟩ := by
      rw [hz]
      exact bty_all (by rw [ex_size (Nat.le_refl _), Nat.sub_self]; rfl) (fun i hi => by rw [ex_size (Nat.le_refl _), Nat.sub_self] at hi; omega)
    refine ⟨by rw [h0]; rfl, by rw [h0]; rfl, ?_⟩
    show cuT s (liP s) = ps
    rw [liP_drop hl]
    have h3 := congrArg List.dropLast hp
    rw [List.dropLast_concat] at h3
    rw [← h3]
    unfold cuT
    rw [List.map_dropLast]
  · right
    show cuT s (liP s) = _
    rw [liP_all hl q, hp]
end Go.Proofs.YtpfdgibgdehcdaaDoor
