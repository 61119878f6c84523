/-
  Words: what lies between the words of a line; how long a joined text is; what Trim and TrimLeft leave of it.
-/
import Derived.Test.YtdcodajjcaipdaaDoorTba
import Derived.Test.YtdcodajjcaipdaaDoorShm
namespace Go.Proofs.YtdcodajjcaipdaaDoor
open Go.Proofs RowKit
set_option linter.unusedVariables false

/-- blanks alone between the words, and behind them -/
def gp (s : ByteArray) : Nat → List (Nat × Nat) → Prop
  | i, [] => ∀ j, j < i → blk (bty s j)
  | i, (a, b) :: r => (∀ j, b ≤ j → j < i → blk (bty s j)) ∧ gp s a r
theorem gp_more {s : ByteArray} {i : Nat} {L : List (Nat × Nat)} (h : gp s i L) (hb : blk (bty s i)) : gp s (i + 1) L := by
  match L, h with
  | [], h => intro j hj; rcases Nat.lt_succ_iff_lt_or_eq.1 hj with q | rfl; exact h j q; exact hb
  | (a, b) :: r, h => exact ⟨fun j h1 h2 => by rcases Nat.lt_succ_iff_lt_or_eq.1 h2 with q | rfl; exact h.1 j h1 q; exact hb, h.2⟩
theorem gp_scn (s : ByteArray) : ∀ i L, scn s i = (0, L) → gp s i L := by
  intro i
  induction i with
  | zero =>
    intro L h
    have h2 : ((0, []) : Nat × List (Nat × Nat)) = (0, L) := h
    cases h2
    intro j hj; omega
  | succ i ih =>
    intro L h
    have h0 : (scn s i).1 = 0 := scn_zero (n := i + 1) (by rw [h]) (by omega)
    obtain ⟨M, hM⟩ : ∃ M, scn s i = (0, M) := ⟨(scn s i).2, by rw [← h0]⟩
    have ih := ih M hM
    by_cases q0 : bty s i = 42 ∨ bty s i = 59
    · rw [scn_rem hM q0] at h; cases h
    by_cases q1 : blk (bty s i)
    · rw [scn_blk hM q1] at h; cases h; exact gp_more ih q1
    by_cases q2 : bty s i < 33 ∨ 126 < bty s i
    · rw [scn_bad hM q0 q1 q2] at h; cases h
    by_cases q3 : ∀ a b r, M = (a, b) :: r → b < i
    · rw [scn_new hM q0 q1 q2 q3] at h; cases h; exact ⟨fun j h1 h2 => by omega, ih⟩
    · match M, q3, hM, ih with
      | [], q3, _, _ => exact absurd (fun a b r h => by cases h) q3
      | (a, b) :: r, q3, hM, ih =>
        have hb : ¬ b < i := fun hb => q3 fun a' b' r' e => by cases e; exact hb
        rw [scn_ext hM q0 q1 q2 hb] at h
        split at h
        · cases h; exact ⟨fun j h1 h2 => by omega, ih.2⟩
        · cases h
theorem scn_one (s : ByteArray) : ∀ n, (scn s n).1 = 1 → ∃ r L, r < n ∧ scn s r = (0, L) ∧ (bty s r = 42 ∨ bty s r = 59) ∧ scn s n = (1, L) := by
  intro n
  induction n with
  | zero => intro h; cases h
  | succ n ih =>
    intro h
    by_cases h1 : (scn s n).1 = 1
    · obtain ⟨r, L, a, b, c, d⟩ := ih h1
      have e := scn_stays (s := s) (i := n) (by omega) (n + 1) (by omega)
      exact ⟨r, L, by omega, b, c, e.trans d⟩
    · by_cases h0 : (scn s n).1 = 0
      · obtain ⟨M, hM⟩ : ∃ M, scn s n = (0, M) := ⟨(scn s n).2, by rw [← h0]⟩
        by_cases q0 : bty s n = 42 ∨ bty s n = 59
        · exact ⟨n, M, by omega, hM, q0, scn_rem hM q0⟩
        by_cases q1 : blk (bty s n)
        · rw [scn_blk hM q1] at h; cases h
        by_cases q2 : bty s n < 33 ∨ 126 < bty s n
        · rw [scn_bad hM q0 q1 q2] at h; cases h
        by_cases q3 : ∀ a b r, M = (a, b) :: r → b < n
        · rw [scn_new hM q0 q1 q2 q3] at h; cases h
        · match M, q3, hM with
          | [], q3, _ => exact absurd (fun a b r h => by cases h) q3
          | (a, b) :: r, q3, hM =>
            have hb : ¬ b < n := fun hb => q3 fun a' b' r' e => by cases e; exact hb
            rw [scn_ext hM q0 q1 q2 hb] at h
            split at h <;> cases h
      · have e := scn_stays (s := s) (i := n) h0 (n + 1) (by omega)
        rw [e] at h; exact absurd h h1
/-- the words in their order, from an end on: blanks between, none side by side -/
def Fw (s : ByteArray) (r : Nat) : Bool → Nat → List (Nat × Nat) → Prop
  | _, e, [] => e ≤ r ∧ ∀ j, e ≤ j → j < r → blk (bty s j)
  | st, e, (a, b) :: q => e ≤ a ∧ (st = true → e < a) ∧ a < b ∧ b ≤ s.size ∧ (∀ j, e ≤ j → j < a → blk (bty s j)) ∧ Fw s r true b q
theorem fw_of {s : ByteArray} {r : Nat} : ∀ (L : List (Nat × Nat)) (i : Nat) (Y : List (Nat × Nat)), i ≤ s.size → gp s i L → Wfw i L → (match L with | [] => Fw s r false 0 Y | (a, b) :: _ => Fw s r true b Y) → Fw s r false 0 (L.reverse ++ Y) := by
  intro L
  induction L with
  | nil => intro i Y _ _ _ h; exact h
  | cons p q ih =>
    obtain ⟨a, b⟩ := p
    intro i Y hi hg hw h
    rw [List.reverse_cons, List.append_assoc]
    obtain ⟨w1, w2, w3, w4⟩ := hw
    refine ih (if a = 0 then 0 else a) ((a, b) :: Y) (by split <;> omega) (by split; (next e => rw [e] at hg; exact hg.2); exact hg.2) (by split; (next e => rw [e] at w3; exact w3); exact w3.mono (by omega)) ?_
    match q, hg, w3, w4 with
    | [], hg, _, _ => exact ⟨by omega, fun e => (by cases e), w1, by omega, fun j _ h2 => hg.2 j h2, h⟩
    | (c, d) :: q2, hg, w3, w4 =>
      have h0 := w4 (by simp)
      have hd := w3.2.1
      exact ⟨by omega, fun _ => by omega, w1, by omega, hg.2.1, h⟩
theorem line_fw {u : ByteArray} (h : bdE u = 0) : ∃ r, r ≤ u.size ∧ (r = u.size ∨ (bty u r = 42 ∨ bty u r = 59) ∧ r < u.size) ∧ Fw u r false 0 (wds u) := by
  have key : ∀ r L, r ≤ u.size → scn u r = (0, L) → Fw u r false 0 L.reverse := by
    intro r L hr hL
    have := fw_of (r := r) L r [] hr (gp_scn u r L hL) (by have := scn_wf u r; rw [hL] at this; exact this) (by
      have hg := gp_scn u r L hL
      have hw : Wfw r L := by have := scn_wf u r; rw [hL] at this; exact this
      match L, hg, hw with
      | [], hg, _ => exact ⟨Nat.zero_le _, fun j _ h2 => hg j h2⟩
      | (a, b) :: q, hg, hw => exact ⟨hw.2.1, hg.1⟩)
    rwa [List.append_nil] at this
  rcases bd_st h with h0 | h1
  · obtain ⟨L, hL⟩ : ∃ L, scn u u.size = (0, L) := ⟨(scn u u.size).2, by rw [← h0]⟩
    refine ⟨u.size, Nat.le_refl _, .inl rfl, ?_⟩
    unfold wds; rw [hL]
    exact key _ _ (Nat.le_refl _) hL
  · obtain ⟨r, L, a, b, c, d⟩ := scn_one u u.size h1
    refine ⟨r, by omega, .inr ⟨c, a⟩, ?_⟩
    unfold wds; rw [d]
    exact key r L (by omega) b
/-- how long a joined text is -/
theorem jnr_len {ts : List Tok} (h : ∀ p ∈ ts, p.1.size ≤ 80) : ∀ k, (jnr k ts).length ≤ 81 * ts.length := by
  induction ts with
  | nil => intro k; simp [jnr]
  | cons p r ih =>
    intro k
    show ((if k = 0 then [] else [32]) ++ (p.1.data.toList ++ jnr (k + 1) r)).length ≤ _
    have h1 := ih (fun q hq => h q (List.mem_cons_of_mem _ hq)) (k + 1)
    have h2 := h p (by simp)
    have h3 := Lib.size_eq p.1
    simp only [List.length_append, List.length_cons]
    split <;> simp <;> omega
theorem jnL_len : ∀ (ls : List (List Tok)), (∀ l ∈ ls, l.length ≤ 65536 ∧ ∀ p ∈ l, p.1.size ≤ 80) → (jnL ls).length ≤ 5400000 * ls.length := by
  intro ls
  induction ls with
  | nil => intro _; simp [jnL]
  | cons l r ih =>
    intro h
    show (jnr 0 l ++ (10 :: jnL r)).length ≤ _
    have h1 := ih (fun q hq => h q (List.mem_cons_of_mem _ hq))
    have h2 := jnr_len (h l (by simp)).2 0
    have h3 := (h l (by simp)).1
    simp only [List.length_append, List.length_cons]
    omega
theorem blk_cs {c : UInt8} (h : blk c.toNat) : ([32, 9, 13] : List UInt8).contains c = true := by
  rcases h with h | h | h
  · rw [show c = 32 from UInt8.toNat_inj.1 h]; decide
  · rw [show c = 9 from UInt8.toNat_inj.1 h]; decide
  · rw [show c = 13 from UInt8.toNat_inj.1 h]; decide
theorem dw_all (l : List UInt8) (h : ∀ c ∈ l, blk c.toNat) : l.dropWhile (([32, 9, 13] : List UInt8).contains ·) = [] := by
  induction l with
  | nil => rfl
  | cons c r ih =>
    rw [List.dropWhile_cons, if_pos (blk_cs (h c (by simp)))]
    exact ih fun d hd => h d (List.mem_cons_of_mem _ hd)
theorem mem_b {t : ByteArray} {c : UInt8} (h : c ∈ t.data.toList) : ∃ j, j < t.size ∧ c.toNat = bty t j := by
  obtain ⟨i, hi, rfl⟩ := List.getElem_of_mem h
  refine ⟨i, by rw [Lib.size_eq]; exact hi, ?_⟩
  rw [← w_b, List.getD_eq_getElem?_getD, List.getElem?_eq_getElem hi]; rfl
theorem trim_blank (t : ByteArray) (w : World) (ht : t.size ≤ 65536) (hb : ∀ j, j < t.size → blk (bty t j)) :
    Calls Tryd.prog 21 #[.string t, .string ⟨#[32, 9, 13]⟩] w fun e w' => e = .returned (.string ⟨#[]⟩) ∧ Below w.heap.size w w' := by
  have h := Any.strings_Trim_laid sm160 (by kernel_rfl) t ⟨#[32, 9, 13]⟩ w (by omega) (by decide) (ascii_of_all (by decide))
  have e : Lib.trimS t.data.toList (⟨#[32, 9, 13]⟩ : ByteArray).data.toList = [] := by
    have h1 : Lib.trimRightS t.data.toList [32, 9, 13] = [] := by
      unfold Lib.trimRightS
      rw [dw_all _ (fun c hc => by obtain ⟨j, h1, h2⟩ := mem_b (List.mem_reverse.1 hc); rw [h2]; exact hb j h1)]
      rfl
    show Lib.trimLeftS (Lib.trimRightS t.data.toList [32, 9, 13]) [32, 9, 13] = []
    rw [h1]; rfl
  rw [e] at h
  exact h
theorem trimL_any (t : ByteArray) (k : Nat) (w : World) (hk : k ≤ t.size) (hb : ∀ j, j < k → blk (bty t j)) (hn : k < t.size → ¬ blk (bty t k)) :
    Calls Tryd.prog 22 #[.string t, .string ⟨#[32, 9, 13]⟩] w fun e w' => e = .returned (.string (t.extract k t.size)) ∧ Below w.heap.size w w' := by
  have h := Any.strings_TrimLeft_laid sm161 (by kernel_rfl) t ⟨#[32, 9, 13]⟩ w (by decide) (ascii_of_all (by decide))
  have e : Lib.trimLeftS t.data.toList (⟨#[32, 9, 13]⟩ : ByteArray).data.toList = t.data.toList.drop k := by
    apply Lib.trimLeftS_drop
    · rw [← Lib.size_eq]; exact hk
    · intro j b hj hjb
      apply blk_cs
      have := hb j hj
      rwa [← w_b, List.getD_eq_getElem?_getD, hjb] at this
    · intro b hkb
      have hlt : k < t.size := by rw [Lib.size_eq]; exact (List.getElem?_eq_some_iff.1 hkb).1
      have h1 := hn hlt
      rw [← w_b, List.getD_eq_getElem?_getD, hkb] at h1
      have h1' : ¬ blk b.toNat := h1
      unfold blk at h1'
      show ([32, 9, 13] : List UInt8).contains b = false
      rw [List.contains_eq_mem, decide_eq_false_iff_not]
      intro hm
      simp at hm
      rcases hm with rfl | rfl | rfl
      · exact h1' (.inl rfl)
      · exact h1' (.inr (.inl rfl))
      · exact h1' (.inr (.inr rfl))
  rw [e] at h
  have e2 : (⟨(t.data.toList.drop k).toArray⟩ : ByteArray) = t.extract k t.size := by
    apply bty_all
    · rw [ex_size (Nat.le_refl _)]
      show (t.data.toList.drop k).toArray.size = _
      rw [List.size_toArray, List.length_drop, ← Lib.size_eq]
    · intro i hi
      have hi2 : i < t.size - k := by
        have : (⟨(t.data.toList.drop k).toArray⟩ : ByteArray).size = t.size - k := by
          show (t.data.toList.drop k).toArray.size = _
          rw [List.size_toArray, List.length_drop, ← Lib.size_eq]
        omega
      rw [bty_ex (Nat.le_refl _) hi2]
      show ((t.data.toList.drop k).toArray.getD i 0).toNat = (t.data.getD (k + i) 0).toNat
      rw [Array.getD_eq_getD_getElem?, Array.getD_eq_getD_getElem?]
      simp
  rw [e2] at h
  exact h
end Go.Proofs.YtdcodajjcaipdaaDoor
