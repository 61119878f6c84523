/-
  Words, there and back: what is joined of a text's words is cut into the same words.
-/
import Derived.Test.YtpfdgibgdehcdaaDoorTki
namespace Go.Proofs.YtpfdgibgdehcdaaDoor
set_option linter.unusedVariables false

/-- a byte of a word -/
def wby (c : Nat) : Prop := 33 ≤ c ∧ c ≤ 126 ∧ c ≠ 42 ∧ c ≠ 59
/-- a text that may be a word -/
def wdG (t : ByteArray) : Prop := 1 ≤ t.size ∧ t.size ≤ 80 ∧ ∀ i, i < t.size → wby (bty t i)
theorem wby_no {c : Nat} (h : wby c) : (¬ (c = 42 ∨ c = 59)) ∧ ¬ blk c ∧ ¬ (c < 33 ∨ 126 < c) := by
  obtain ⟨h1, h2, h3, h4⟩ := h
  unfold blk
  omega
/-- each word is as long as words may be, and of bytes of words -/
theorem scn_good (s : ByteArray) : ∀ i, i ≤ s.size → (scn s i).1 = 0 ∨ (scn s i).1 = 1 → ∀ p ∈ (scn s i).2, p.2 - p.1 ≤ 80 ∧ p.2 ≤ i ∧ ∀ j, p.1 ≤ j → j < p.2 → wby (bty s j) := by
  intro i
  induction i with
  | zero => intro _ _ p hp; cases hp
  | succ i ih =>
    intro hi hst
    have h0 : (scn s i).1 = 0 ∨ (scn s i).1 = 1 := by
      rcases Nat.eq_zero_or_pos (scn s i).1 with q | q
      · exact .inl q
      · have := scn_stays (s := s) (i := i) (by omega) (i + 1) (by omega)
        rw [this] at hst; exact hst
    have ih := ih (by omega) h0
    have hwf := scn_wf s i
    rcases h0 with h0 | h0
    · obtain ⟨L, hL⟩ : ∃ L, scn s i = (0, L) := ⟨(scn s i).2, by rw [← h0]⟩
      rw [hL] at ih hwf
      by_cases q0 : bty s i = 42 ∨ bty s i = 59
      · rw [scn_rem hL q0]; intro p hp; have := ih p hp; exact ⟨this.1, by omega, this.2.2⟩
      by_cases q1 : blk (bty s i)
      · rw [scn_blk hL q1]; intro p hp; have := ih p hp; exact ⟨this.1, by omega, this.2.2⟩
      by_cases q2 : bty s i < 33 ∨ 126 < bty s i
      · rw [scn_bad hL q0 q1 q2] at hst; simp at hst
      have hw : wby (bty s i) := ⟨by omega, by omega, fun e => q0 (.inl e), fun e => q0 (.inr e)⟩
      by_cases q3 : ∀ a b r, L = (a, b) :: r → b < i
      · rw [scn_new hL q0 q1 q2 q3]
        intro p hp
        rcases List.mem_cons.1 hp with rfl | hp
        · exact ⟨by show i + 1 - i ≤ 80; omega, Nat.le_refl _, fun j h1 h2 => by
            obtain rfl : j = i := by simp only at h1 h2; omega
            exact hw⟩
        · have := ih p hp; exact ⟨this.1, by omega, this.2.2⟩
      · match L, q3, hL, ih, hwf with
        | [], q3, _, _, _ => exact absurd (fun a b r h => by cases h) q3
        | (a, b) :: r, q3, hL, ih, hwf =>
          have hb : ¬ b < i := fun hb => q3 fun a' b' r' e => by cases e; exact hb
          have hbi : b = i := by have := hwf.2.1; omega
          rw [scn_ext hL q0 q1 q2 hb] at hst ⊢
          by_cases h80 : i + 1 - a ≤ 80
          · rw [if_pos h80]
            intro p hp
            rcases List.mem_cons.1 hp with rfl | hp
            · refine ⟨h80, Nat.le_refl _, fun j h1 h2 => ?_⟩
              rcases Nat.lt_or_ge j b with q | q
              · exact (ih (a, b) (by simp)).2.2 j h1 q
              · obtain rfl : j = i := by simp only at h1 h2; omega
                exact hw
            · have := ih p (List.mem_cons_of_mem _ hp); exact ⟨this.1, by omega, this.2.2⟩
          · rw [if_neg h80] at hst; simp at hst
    · have e := scn_stays (s := s) (i := i) (by omega) (i + 1) (by omega)
      rw [e]; intro p hp; have := ih p hp; exact ⟨this.1, by omega, this.2.2⟩
theorem bd_st {t : ByteArray} (h : bdE t = 0) : (scn t t.size).1 = 0 ∨ (scn t t.size).1 = 1 := by
  have h3 : ∀ i, (scn t i).1 ≤ 3 := by
    intro i
    induction i with
    | zero => exact Nat.zero_le _
    | succ i ih =>
      show (stp _ _ (scn t i)).1 ≤ 3
      generalize scn t i = x at ih
      unfold stp
      split
      · exact ih
      · split
        · simp
        · split
          · exact ih
          · split
            · simp
            · split
              · simp
              · split
                · simp
                · split
                  · simp
                  · simp
  have := h3 t.size
  unfold bdE at h
  split at h
  · cases h
  · split at h
    · cases h
    · omega
theorem wds_good {t : ByteArray} (h : bdE t = 0) : ∀ p ∈ wds t, wdG (t.extract p.1 p.2) := by
  intro p hp
  have hp2 : p ∈ (scn t t.size).2 := List.mem_reverse.1 hp
  obtain ⟨h1, h2, h3⟩ := scn_good t t.size (Nat.le_refl _) (bd_st h) p hp2
  have h4 := (scn_wf t t.size).mem p hp2
  refine ⟨by rw [ex_size h2]; omega, by rw [ex_size h2]; exact h1, fun i hi => ?_⟩
  rw [ex_size h2] at hi
  rw [bty_ex h2 hi]
  exact h3 _ (by omega) (by omega)
/-- words joined by one blank -/
def jw : List ByteArray → List UInt8
  | [] => []
  | [w] => w.data.toList
  | w :: v :: r => w.data.toList ++ (32 :: jw (v :: r))
theorem jw_cons (w : ByteArray) (r : List ByteArray) : jw (w :: r) = w.data.toList ++ (if r = [] then [] else 32 :: jw r) := by
  cases r with
  | nil => show w.data.toList = _; simp
  | cons v r => rfl
theorem jnr_jw : ∀ (ts : List Tok) (k : Nat), jnr k ts = (if k = 0 ∨ ts = [] then [] else [32]) ++ jw (ts.map (·.1)) := by
  intro ts
  induction ts with
  | nil => intro k; simp [jnr, jw]
  | cons p r ih =>
    intro k
    show (if k = 0 then [] else [32]) ++ (p.1.data.toList ++ jnr (k + 1) r) = _
    rw [ih (k + 1), List.map_cons, jw_cons]
    by_cases hk : k = 0 <;> cases r <;> simp [hk, jw]
theorem getD_app (l m : List UInt8) (i : Nat) (h : i < l.length) : (l ++ m).getD i 0 = l.getD i 0 := by
  rw [List.getD_eq_getElem?_getD, List.getD_eq_getElem?_getD, List.getElem?_append_left h]
/-- where the words lie -/
def psn : Nat → List ByteArray → List (Nat × Nat)
  | _, [] => []
  | p, w :: r => (p, p + w.size) :: psn (p + w.size + 1) r
theorem drop_b {s : ByteArray} {p : Nat} {l : List UInt8} (h : s.data.toList.drop p = l) {i : Nat} (hi : i < l.length) : bty s (p + i) = (l.getD i 0).toNat := by
  have e : l[i]? = s.data.toList[p + i]? := by rw [← h, List.getElem?_drop]
  show (s.data.getD (p + i) 0).toNat = _
  rw [Array.getD_eq_getD_getElem?, List.getD_eq_getElem?_getD, e]
  simp
theorem drop_s {s : ByteArray} {p : Nat} {l : List UInt8} (h : s.data.toList.drop p = l) (hp : p ≤ s.size) : s.size = p + l.length := by
  have := congrArg List.length h
  rw [List.length_drop, ← Lib.size_eq] at this
  omega
theorem w_b (w : ByteArray) (i : Nat) : (w.data.toList.getD i 0).toNat = bty w i := by
  show _ = (w.data.getD i 0).toNat
  rw [Array.getD_eq_getD_getElem?, List.getD_eq_getElem?_getD]; simp
/-- a word is gone through -/
theorem scn_word {s : ByteArray} {p : Nat} {L : List (Nat × Nat)} (h : scn s p = (0, L)) (hL : ∀ a b r, L = (a, b) :: r → b < p) : ∀ m, 1 ≤ m → m ≤ 80 → (∀ j, p ≤ j → j < p + m → wby (bty s j)) → scn s (p + m) = (0, (p, p + m) :: L) := by
  intro m
  induction m with
  | zero => intro h; omega
  | succ m ih =>
    intro h1 h80 hw
    obtain ⟨q0, q1, q2⟩ := wby_no (hw (p + m) (by omega) (by omega))
    rcases Nat.eq_zero_or_pos m with rfl | hm
    · exact scn_new h q0 q1 q2 hL
    · have e := ih (by omega) (by omega) (fun j h1 h2 => hw j h1 (by omega))
      have := scn_ext e q0 q1 q2 (by omega)
      rw [if_pos (by omega)] at this
      exact this
theorem scn_words {s : ByteArray} : ∀ (ws : List ByteArray) (p : Nat) (L : List (Nat × Nat)), p ≤ s.size → (∀ w ∈ ws, wdG w) → scn s p = (0, L) → (∀ a b r, L = (a, b) :: r → b < p) → s.data.toList.drop p = jw ws → scn s s.size = (0, (psn p ws).reverse ++ L) := by
  intro ws
  induction ws with
  | nil =>
    intro p L hp _ h _ hd
    have := drop_s hd hp
    have e : p = s.size := by simp [jw] at this; omega
    subst e; exact h
  | cons w r ih =>
    intro p L hp hg h hL hd
    obtain ⟨g1, g2, g3⟩ := hg w (by simp)
    have hsz := drop_s hd hp
    rw [jw_cons] at hd hsz
    rw [List.length_append, ← Lib.size_eq] at hsz
    have hw : ∀ j, p ≤ j → j < p + w.size → wby (bty s j) := by
      intro j h1 h2
      obtain ⟨d, rfl⟩ : ∃ d, j = p + d := ⟨j - p, by omega⟩
      rw [drop_b hd (by rw [List.length_append, ← Lib.size_eq]; omega), getD_app _ _ _ (by rw [← Lib.size_eq]; omega), w_b]
      exact g3 d (by omega)
    have h1 := scn_word h hL w.size g1 g2 hw
    have hd2 : s.data.toList.drop (p + w.size) = if r = [] then [] else 32 :: jw r := by
      rw [← List.drop_drop, hd, Lib.size_eq, List.drop_left]
    by_cases hr : r = []
    · subst hr
      rw [if_pos rfl] at hsz
      have e : p + w.size = s.size := by simp at hsz; omega
      rw [← e, h1]; rfl
    · rw [if_neg hr] at hd2 hsz
      rw [List.length_cons] at hsz
      have hb : bty s (p + w.size) = 32 := by
        have := drop_b hd2 (i := 0) (by simp)
        rw [Nat.add_zero] at this
        rw [this]; rfl
      have h2 := scn_blk h1 (by rw [hb]; exact .inl rfl)
      have h3 := ih (p + w.size + 1) _ (by omega) (fun v hv => hg v (List.mem_cons_of_mem _ hv)) h2 (fun a b r' e => by
        cases e; omega) (by rw [← List.drop_drop, hd2]; rfl)
      rw [h3]
      show (0, (psn (p + w.size + 1) r).reverse ++ (p, p + w.size) :: L) = (0, ((p, p + w.size) :: psn (p + w.size + 1) r).reverse ++ L)
      rw [List.reverse_cons, List.append_assoc]; rfl
theorem psn_text {s : ByteArray} : ∀ (ws : List ByteArray) (p : Nat), p ≤ s.size → s.data.toList.drop p = jw ws → (psn p ws).map (fun q => s.extract q.1 q.2) = ws := by
  intro ws
  induction ws with
  | nil => intro p _ _; rfl
  | cons w r ih =>
    intro p hp hd
    have hsz := drop_s hd hp
    rw [jw_cons] at hd hsz
    rw [List.length_append, ← Lib.size_eq] at hsz
    have e1 : s.extract p (p + w.size) = w := by
      apply bty_all
      · rw [ex_size (by omega)]; omega
      · intro i hi
        rw [ex_size (by omega)] at hi
        rw [bty_ex (by omega) hi, drop_b hd (by rw [List.length_append, ← Lib.size_eq]; omega), getD_app _ _ _ (by rw [← Lib.size_eq]; omega), w_b]
    show s.extract p (p + w.size) :: (psn (p + w.size + 1) r).map _ = _
    rw [e1]
    congr 1
    by_cases hr : r = []
    · subst hr; rfl
    · rw [if_neg hr] at hsz hd
      rw [List.length_cons] at hsz
      refine ih (p + w.size + 1) (by omega) ?_
      rw [← List.drop_drop, ← List.drop_drop, hd, Lib.size_eq, List.drop_left]; rfl
/-- a joined line is cut into its words -/
theorem jw_line {s : ByteArray} {ws : List ByteArray} (hg : ∀ w ∈ ws, wdG w) (hs : s.data.toList = jw ws) (n : Nat) : bdE s = 0 ∧ (tkl n s).map (·.1) = ws := by
  have h := scn_words ws 0 [] (Nat.zero_le _) hg rfl (fun a b r e => by cases e) (by rw [List.drop_zero]; exact hs)
  rw [List.append_nil] at h
  refine ⟨bd_ok (.inl (by rw [h])), ?_⟩
  have h2 := psn_text ws 0 (Nat.zero_le _) (by rw [List.drop_zero]; exact hs)
  unfold tkl wds
  rw [h, List.reverse_reverse, List.map_map]
  exact h2
/-- the texts of words -/
def txs (ls : List (List Tok)) : List (List ByteArray) := ls.map fun l => l.map (·.1)
theorem jnL_txs : ∀ ls : List (List Tok), jnL ls = (txs ls).flatMap fun l => jw l ++ [10] := by
  intro ls
  induction ls with
  | nil => rfl
  | cons l r ih =>
    show jnr 0 l ++ (10 :: jnL r) = (jw (l.map (·.1)) ++ [10]) ++ (txs r).flatMap fun l => jw l ++ [10]
    rw [ih, jnr_jw, if_pos (.inl rfl)]; simp
/-- where lines lie that are joined -/
def lpn : Nat → List (List UInt8) → List (Nat × Nat)
  | q, [] => [(q, q)]
  | q, j :: r => (q, q + j.length) :: lpn (q + j.length + 1) r
theorem pcs_lines {t : ByteArray} : ∀ (js : List (List UInt8)) (q : Nat), q ≤ t.size → t.data.toList.drop q = (js.flatMap fun l => l ++ [10]) → (∀ j ∈ js, ∀ c ∈ j, c ≠ 10) → pcs t (t.size - q) q q = lpn q js := by
  intro js
  induction js with
  | nil =>
    intro q hq hd _
    have := drop_s hd hq
    have e : q = t.size := by simp at this; omega
    subst e
    rw [Nat.sub_self]; rfl
  | cons j r ih =>
    intro q hq hd hn
    rw [List.flatMap_cons, List.append_assoc] at hd
    have hsz := drop_s hd hq
    simp only [List.length_append, List.length_singleton] at hsz
    have hb : bty t (q + j.length) = 10 := by
      rw [drop_b hd (by simp), List.getD_eq_getElem?_getD, List.getElem?_append_right (Nat.le_refl _), Nat.sub_self]; rfl
    rw [pcs_hit (m := j.length) ?_ hb (by omega)]
    · show _ = (q, q + j.length) :: lpn (q + j.length + 1) r
      rw [← ih (q + j.length + 1) (by omega) (by rw [← List.drop_drop, ← List.drop_drop, hd, List.drop_left]; rfl) (fun x hx => hn x (List.mem_cons_of_mem _ hx))]
      rw [show t.size - q - j.length - 1 = t.size - (q + j.length + 1) by omega]
    · intro i h1 h2
      obtain ⟨d, rfl⟩ : ∃ d, i = q + d := ⟨i - q, by omega⟩
      have hdj : d < j.length := by omega
      rw [drop_b hd (by simp only [List.length_append]; omega), getD_app _ _ _ hdj, List.getD_eq_getElem?_getD, List.getElem?_eq_getElem hdj]
      intro e
      have h3 := hn j (by simp) j[d] (List.getElem_mem hdj)
      exact h3 (UInt8.toNat_inj.1 e)
theorem lpn_ne (js : List (List UInt8)) (q : Nat) : lpn q js ≠ [] := by cases js <;> simp [lpn]
theorem lpn_last {t : ByteArray} : ∀ (js : List (List UInt8)) (q : Nat), q ≤ t.size → t.data.toList.drop q = (js.flatMap fun l => l ++ [10]) → (lpn q js).getLast? = some (t.size, t.size) := by
  intro js
  induction js with
  | nil =>
    intro q hq hd
    have := drop_s hd hq
    have e : q = t.size := by simp at this; omega
    subst e; rfl
  | cons j r ih =>
    intro q hq hd
    rw [List.flatMap_cons, List.append_assoc] at hd
    have hsz := drop_s hd hq
    simp only [List.length_append, List.length_singleton] at hsz
    show ((q, q + j.length) :: lpn (q + j.length + 1) r).getLast? = _
    rw [List.getLast?_cons, ih (q + j.length + 1) (by omega) (by rw [← List.drop_drop, ← List.drop_drop, hd, List.drop_left]; rfl)]
    rfl
theorem lpn_text {t : ByteArray} : ∀ (js : List (List UInt8)) (q : Nat), q ≤ t.size → t.data.toList.drop q = (js.flatMap fun l => l ++ [10]) → ((lpn q js).dropLast).map (fun p => t.extract p.1 p.2) = js.map fun j => ⟨j.toArray⟩ := by
  intro js
  induction js with
  | nil => intro q _ _; rfl
  | cons j r ih =>
    intro q hq hd
    rw [List.flatMap_cons, List.append_assoc] at hd
    have hsz := drop_s hd hq
    simp only [List.length_append, List.length_singleton] at hsz
    have hi := ih (q + j.length + 1) (by omega) (by rw [← List.drop_drop, ← List.drop_drop, hd, List.drop_left]; rfl)
    show (((q, q + j.length) :: lpn (q + j.length + 1) r).dropLast).map _ = _
    rw [List.dropLast_cons_of_ne_nil (lpn_ne _ _), List.map_cons, List.map_cons, hi]
    congr 1
    apply bty_all
    · rw [ex_size (by omega)]; show _ = j.toArray.size; simp
    · intro i hi
      rw [ex_size (by omega)] at hi
      have hij : i < j.length := by omega
      rw [bty_ex (by omega) hi, drop_b hd (by simp only [List.length_append]; omega), getD_app _ _ _ hij]
      show _ = (j.toArray.getD i 0).toNat
      rw [Array.getD_eq_getD_getElem?, List.getD_eq_getElem?_getD]; simp
/-- a text of lines, each ended: its lines -/
theorem liT_join {t : ByteArray} {js : List (List UInt8)} (hd : t.data.toList = js.flatMap fun l => l ++ [10]) (hn : ∀ j ∈ js, ∀ c ∈ j, c ≠ 10) : liT t = js.map fun j => ⟨j.toArray⟩ := by
  have h1 : alP t = lpn 0 js := by
    have := pcs_lines js 0 (Nat.zero_le _) (by rw [List.drop_zero]; exact hd) hn
    rw [Nat.sub_zero] at this; exact this
  have h2 := lpn_last js 0 (Nat.zero_le _) (by rw [List.drop_zero]; exact hd)
  show cuT t (liP t) = _
  unfold liP
  rw [h1, if_pos h2]
  exact lpn_text js 0 (Nat.zero_le _) (by rw [List.drop_zero]; exact hd)
theorem jw_no : ∀ (ws : List ByteArray), (∀ w ∈ ws, wdG w) → ∀ c ∈ jw ws, c ≠ 10 := by
  intro ws
  induction ws with
  | nil => intro _ c hc; cases hc
  | cons w r ih =>
    intro hg c hc
    rw [jw_cons] at hc
    rcases List.mem_append.1 hc with h | h
    · obtain ⟨i, hi, rfl⟩ := List.getElem_of_mem h
      have h2 : i < w.size := by rw [Lib.size_eq]; exact hi
      have h3 := (hg w (by simp)).2.2 i h2
      intro e
      have h4 : bty w i = 10 := by
        rw [← w_b, List.getD_eq_getElem?_getD, List.getElem?_eq_getElem hi]
        show (w.data.toList[i]).toNat = 10
        rw [e]; rfl
      have := h3.1
      omega
    · split at h
      · cases h
      · rcases List.mem_cons.1 h with rfl | h
        · decide
        · exact ih (fun v hv => hg v (List.mem_cons_of_mem _ hv)) c h
theorem tkL_txs : ∀ (js : List ByteArray) (n : Nat) (vs : List (List ByteArray)), js.length = vs.length → (∀ (k : Nat) (j : ByteArray) (v : List ByteArray), js[k]? = some j → vs[k]? = some v → ∀ n, (tkl n j).map (·.1) = v) → txs (tkL n js) = vs := by
  intro js
  induction js with
  | nil => intro n vs h _; cases vs with
    | nil => rfl
    | cons v r => cases h
  | cons j r ih =>
    intro n vs h hk
    cases vs with
    | nil => cases h
    | cons v q =>
      show (tkl n j).map (·.1) :: txs (tkL (n + 1) r) = _
      rw [hk 0 j v rfl rfl n, ih (n + 1) q (by simpa using h) (fun k a b ha hb => hk (k + 1) a b (by simpa using ha) (by simpa using hb))]
/-- THERE AND BACK -/
theorem back_all {s t : ByteArray} (he : erL 0 (liT s) = (0, 0)) (hall : ∀ u ∈ liT s, bdE u = 0) (ht : t.data.toList = jnL (tkL 0 (liT s))) : erL 0 (liT t) = (0, 0) ∧ txs (tkL 0 (liT t)) = txs (tkL 0 (liT s)) := by
  have hg : ∀ ws ∈ txs (tkL 0 (liT s)), ∀ w ∈ ws, wdG w := by
    intro ws hws w hw
    obtain ⟨l, hl, rfl⟩ := List.mem_map.1 hws
    obtain ⟨k, hk⟩ := List.getElem?_of_mem hl
    have hkl := (List.getElem?_eq_some_iff.1 hk).1
    rw [tkL_len] at hkl
    have e := tkL_get (n := 0) (List.getElem?_eq_getElem hkl)
    rw [hk] at e
    cases e
    obtain ⟨p, hp, rfl⟩ := List.mem_map.1 hw
    obtain ⟨q, hq, rfl⟩ := List.mem_map.1 hp
    exact wds_good (hall _ (List.getElem_mem hkl)) q hq
  rw [jnL_txs] at ht
  have h1 : liT t = ((txs (tkL 0 (liT s))).map jw).map fun j => ⟨j.toArray⟩ := by
    apply liT_join
    · rw [ht, List.flatMap_map]
    · intro j hj
      obtain ⟨ws, hws, rfl⟩ := List.mem_map.1 hj
      exact jw_no ws (hg ws hws)
  constructor
  · rw [h1]
    apply erL_ok
    intro u hu
    obtain ⟨j, hj, rfl⟩ := List.mem_map.1 hu
    obtain ⟨ws, hws, rfl⟩ := List.mem_map.1 hj
    exact (jw_line (hg ws hws) (by simp) 0).1
  · rw [h1]
    apply tkL_txs
    · simp
    · intro k j v hj hv n
      rw [List.map_map, List.getElem?_map, hv] at hj
      cases hj
      exact (jw_line (hg v (List.mem_of_getElem? hv)) (by simp) n).2
end Go.Proofs.YtpfdgibgdehcdaaDoor
