/-
  Matrices of turned ones: solving, norms and products.
-/
import Derived.Test.YtomllbpkjhoepaaIpa
import Derived.Test.YtomllbpkjhoepaaImr
namespace Go.Proofs.Ytomllbpkjhoepaa
open Fl RowKit

theorem redS_bd {s : Cn} {E K : Nat → Cn} (hs : bdZ s) (n : Nat) : bdZ (redS s E K n) := by
  cases n with
  | zero => exact hs
  | succ n => exact bd_subZ _ _
theorem redS_tv {s : Cn} {E K : Nat → Cn} {a : Nat} {b : Nat → Nat} (ha : a < 5) (hb : ∀ k, b k < 5) (hs : eqZ s (tv a)) : ∀ n, (∀ k, k < n → eqZ (E k) (tv 0)) → (∀ k, k < n → eqZ (K k) (tv (b k))) → eqZ (redS s E K n) (tv a) := by
  intro n
  induction n with
  | zero => intro _ _; exact hs
  | succ n ih =>
    intro hE hK
    exact tv_red ha (hb n) (ih (fun k hk => hE k (by omega)) (fun k hk => hK k (by omega))) (hK n (by omega)) (hE n (by omega))
theorem fw_tv {n : Nat} {m : Nat → Nat → Cn} {f : Nat → Cn} {g : Nat → Nat} (hm : ∀ i j, i < n → j < i → eqZ (m i j) (tv 0)) (hg : ∀ j, g j < 5) (hf : ∀ j, j < n → eqZ (f j) (tv (g j)) ∧ bdZ (f j)) : ∀ k, k ≤ n → ∀ j, j < n → eqZ (fwS m fstZ f k j) (tv (g j)) ∧ bdZ (fwS m fstZ f k j) := by
  intro k
  induction k with
  | zero => intro _; exact hf
  | succ k ih =>
    intro hk j hj
    have ih' := ih (by omega)
    show eqZ (upC (fwS m fstZ f k) k _ j) _ ∧ bdZ (upC (fwS m fstZ f k) k _ j)
    by_cases e : j = k
    · rw [e, upC_self]
      exact ⟨redS_tv (hg k) (fun k => hg k) (ih' k (by omega)).1 k (fun i hi => hm k i (by omega) hi) (fun i hi => (ih' i (by omega)).1), redS_bd (ih' k (by omega)).2 k⟩
    · rw [upC_ne _ _ e]; exact ih' j hj
theorem bw_tv {n : Nat} {m : Nat → Nat → Cn} {f : Nat → Cn} {g d : Nat → Nat} (hm : ∀ i j, i < j → j < n → eqZ (m i j) (tv 0)) (hd : ∀ i, i < n → eqZ (m i i) (tv (d i))) (hd2 : ∀ i, i < n → 0 < d i ∧ d i < 5) (hg : ∀ j, g j < 5) (hf : ∀ j, j < n → eqZ (f j) (tv (g j)) ∧ bdZ (f j)) : ∀ t, t ≤ n → ∀ j, j < n → eqZ (bwS n m divZ f t j) (tv (if n - t ≤ j then qd (g j) (d j) else g j)) ∧ bdZ (bwS n m divZ f t j) := by
  intro t
  induction t with
  | zero => intro _ j hj; rw [if_neg (by omega)]; exact hf j hj
  | succ t ih =>
    intro ht j hj
    have ih' := ih (by omega)
    show eqZ (upC (bwS n m divZ f t) (n - 1 - t) _ j) _ ∧ bdZ (upC (bwS n m divZ f t) (n - 1 - t) _ j)
    by_cases e : j = n - 1 - t
    · rw [if_pos (by omega), e, upC_self]
      have h0 := ih' (n - 1 - t) (by omega)
      rw [if_neg (by omega)] at h0
      refine ⟨tv_div (hg _) (hd2 _ (by omega)).2 (redS_tv (b := fun k => if n - t ≤ n - 1 - t + 1 + k then qd (g (n - 1 - t + 1 + k)) (d (n - 1 - t + 1 + k)) else g (n - 1 - t + 1 + k)) (hg _) (fun k => ?_) h0.1 _ (fun k hk => hm _ _ (by omega) (by omega)) (fun k hk => (ih' _ (by omega)).1)) (hd _ (by omega)) (hd2 _ (by omega)).1 (redS_bd h0.2 _), bd_divZ _ _⟩
      show (if n - t ≤ n - 1 - t + 1 + k then qd (g (n - 1 - t + 1 + k)) (d (n - 1 - t + 1 + k)) else g (n - 1 - t + 1 + k)) < 5
      split
      · exact qd_lt _ _
      · exact hg _
    · rw [upC_ne _ _ e]
      have := ih' j hj
      by_cases c : n - t ≤ j
      · rw [if_pos c] at this; rw [if_pos (by omega)]; exact this
      · rw [if_neg c] at this; rw [if_neg (by omega)]; exact this
theorem uV_tv (j i : Nat) : eqZ (anz (uV j i)) (tv (if i = j then 1 else 0)) ∧ bdZ (anz (uV j i)) := by
  refine ⟨?_, bd_anz (uV_ok j i)⟩
  unfold uV
  split <;> exact eqZ_refl _
section perm
variable {n : Nat} {at' t : Nat → Nat} {S : Es} (hat : inO n at') (ht : ∀ r, 0 < t r ∧ t r < 5) (I : inO n S.o) (P : Pst n at' t n S)
include hat ht I P
omit hat in
theorem perm_in (j : Nat) : (∀ i, i < n → eqZ (inX n S.M S.o j i) (tv (if S.o i = j then qd 1 (t j) else 0))) ∧ inK n S.M S.o j = true := by
  have hM : ∀ i k, i < n → k < n → eqZ (anz (S.M i k)) (tv (if k = i then t (S.o i) else 0)) := fun i k hi hk => by
    have := P.m i k hi hk
    unfold pmE at this
    rw [P.d i hi] at this
    exact this
  have hL : ∀ i k, i < n → k < i → eqZ (mzL S.M i k) (tv 0) := fun i k hi hk => by
    have := hM i k hi (by omega)
    rw [if_neg (by omega)] at this
    unfold mzL lE lF
    rw [if_pos hk]
    exact this
  have hU : ∀ i k, i < k → k < n → eqZ (mzU S.M i k) (tv 0) := fun i k hi hk => by
    have := hM i k (by omega) hk
    rw [if_neg (by omega)] at this
    unfold mzU uE uF
    rw [if_neg (by omega)]
    exact this
  have hD : ∀ i, i < n → eqZ (mzU S.M i i) (tv (t (S.o i))) := fun i hi => by
    have := hM i i hi hi
    rw [if_pos rfl] at this
    unfold mzU uE uF
    rw [if_neg (by omega)]
    exact this
  have hg : ∀ i, (if S.o i = j then 1 else 0) < 5 := fun i => by split <;> omega
  have hc : ∀ i, i < n → eqZ (anz (zat (ro n (uV j)) (S.o i))) (tv (if S.o i = j then 1 else 0)) ∧ bdZ (anz (zat (ro n (uV j)) (S.o i))) := fun i hi => by
    rw [ro_at _ (I.1 i hi)]
    exact uV_tv j (S.o i)
  have h1 := fw_tv (f := fun i => anz (zat (ro n (uV j)) (S.o i))) hL hg hc n (Nat.le_refl _)
  have h2 := bw_tv hU hD (fun i _ => ht _) hg h1 n (Nat.le_refl _)
  have h3 : ∀ i, i < n → eqZ (inX n S.M S.o j i) (tv (if S.o i = j then qd 1 (t j) else 0)) := fun i hi => by
    have := (h2 i hi).1
    rw [if_pos (by omega)] at this
    by_cases c : S.o i = j
    · rw [if_pos c] at this
      rw [if_pos c]
      rw [c] at this
      exact this
    · rw [if_neg c, qd_0] at this
      rw [if_neg c]
      exact this
  refine ⟨h3, ?_⟩
  unfold inK solK okS
  rw [Bool.and_eq_true]
  refine ⟨finS_iff.2 fun i hi => ?_, finS_iff.2 fun i hi => ?_⟩
  · have := (h1 i hi).1
    unfold frw
    rw [this.fin]
    exact tv_fin _ (hg i)
  · have := h3 i hi
    unfold inX solX at this
    rw [this.fin]
    refine tv_fin _ ?_
    split
    · exact qd_lt _ _
    · omega
omit ht in
theorem perm_at {i j : Nat} (hi : i < n) (hj : j < n) : S.o i = j ↔ i = at' j := by
  constructor
  · intro e
    have := P.d i hi
    rw [e] at this
    exact this.symm
  · intro e
    subst e
    exact hat.2 _ _ (I.1 _ (hat.1 j hj)) hj (P.d _ (hat.1 j hj))
omit hat in
theorem perm_K : fstN (inK n S.M S.o) n = n := fstN_all (fun j _ => (perm_in ht I P j).2)
theorem perm_iv {r c : Nat} (hr : r < n) (hc : c < n) : eqZ (anz (ivW n S (r * n + c))) (tv (if r = at' c then qd 1 (t c) else 0)) := by
  have hp := place_lt hr hc
  rw [ivW_anz (perm_K ht I P) hp]
  have e1 : (r * n + c) / n = r := by rw [Nat.add_comm, Nat.add_mul_div_right _ _ (by omega), Nat.div_eq_of_lt hc, Nat.zero_add]
  have e2 : (r * n + c) % n = c := by rw [Nat.add_comm, Nat.add_mul_mod_self_right, Nat.mod_eq_of_lt hc]
  rw [e1, e2]
  have := (perm_in ht I P c).1 r hr
  by_cases k : S.o r = c
  · rw [if_pos k] at this
    rw [if_pos ((perm_at hat I P hr hc).1 k)]
    exact this
  · rw [if_neg k] at this
    rw [if_neg (fun e => k ((perm_at hat I P hr hc).2 e))]
    exact this
end perm
abbrev one1 : Nat := 4607182418800017408
theorem add_00 : addA (some 0) (some 0) = some 0 := by kernel_rfl
theorem add_01 : addA (some 0) (some one1) = some one1 := by kernel_rfl
theorem add_10 : addA (some one1) (some 0) = some one1 := by kernel_rfl
theorem ord_10 : (ordA (some one1) (some 0) == some .gt) = true := by kernel_rfl
theorem ord_11 : (ordA (some one1) (some one1) == some .gt) = false := by kernel_rfl
theorem ord_00 : (ordA (some 0) (some 0) == some .gt) = false := by kernel_rfl
theorem mul_11 : mulO one1 one1 = some one1 := by kernel_rfl
theorem nrF_one {f : Nat → Cn} {n p : Nat} (h : ∀ i, i < n → sizZ (f i) = some (if i = p then one1 else 0)) : ∀ k, k ≤ n → nrF f k = some (if p < k then one1 else 0) := by
  intro k
  induction k with
  | zero => intro _; rw [if_neg (by omega)]; rfl
  | succ k ih =>
    intro hk
    show addA (nrF f k) (sizZ (f k)) = _
    rw [ih (by omega), h k (by omega)]
    rcases Nat.lt_trichotomy p k with c | c | c
    · rw [if_pos c, if_neg (by omega), if_pos (by omega), add_10]
    · rw [if_neg (by omega), if_pos c.symm, if_pos (by omega), add_01]
    · rw [if_neg (by omega), if_neg (by omega), if_neg (by omega), add_00]
theorem mxF_one {t : Nat → Option Nat} {n : Nat} (h : ∀ j, j < n → t j = some one1) : ∀ k, k ≤ n → mxF t k = if 0 < k then one1 else 0 := by
  intro k
  induction k with
  | zero => intro _; rfl
  | succ k ih =>
    intro hk
    rw [if_pos (by omega)]
    unfold mxF
    rw [h k (by omega), ih (by omega)]
    by_cases c : 0 < k
    · rw [if_pos c, if_neg (by rw [ord_11]; simp)]
    · rw [if_neg c, if_pos ord_10]; rfl
theorem mxF_zero {t : Nat → Option Nat} {n : Nat} (h : ∀ j, j < n → t j = some 0) : ∀ k, k ≤ n → mxF t k = 0 := by
  intro k
  induction k with
  | zero => intro _; rfl
  | succ k ih =>
    intro hk
    unfold mxF
    rw [h k (by omega), ih (by omega), if_neg (by rw [ord_00]; simp)]
theorem nrF_zero {f : Nat → Cn} {n : Nat} (h : ∀ i, i < n → sizZ (f i) = some 0) : nrF f n = some 0 := by
  have := nrF_one (p := n) (f := f) (n := n) (fun i hi => by rw [if_neg (by omega)]; exact h i hi) n (Nat.le_refl _)
  rw [if_neg (by omega)] at this
  exact this
theorem siz_tv {X : Cn} {k : Nat} (hk : k < 5) (h : eqZ X (tv k)) : sizZ X = some (if k = 0 then 0 else one1) := by rw [h.siz, tab_siz k hk]
theorem eqZ.add {X X' Y Y' : Cn} (h : eqZ X X') (k : eqZ Y Y') : eqZ (addZ X Y) (addZ X' Y') := ⟨h.1.add2 k.1, h.2.add2 k.2⟩
theorem sum_tv {f : Nat → Cn} {n p : Nat} {c : Prop} [Decidable c] (h : ∀ k, k < n → eqZ (f k) (tv (if k = p ∧ c then 1 else 0))) : ∀ m, m ≤ n → eqZ (sumZ f m) (tv (if p < m ∧ c then 1 else 0)) := by
  intro m
  induction m with
  | zero => intro _; rw [if_neg (by omega)]; exact eqZ_refl _
  | succ m ih =>
    intro hm
    have h1 := (ih (by omega)).add (h m (by omega))
    show eqZ (addZ (sumZ f m) (f m)) _
    refine h1.trans ?_
    by_cases hc : c
    · rcases Nat.lt_trichotomy p m with k | k | k
      · rw [if_pos ⟨k, hc⟩, if_neg (by omega), if_pos ⟨by omega, hc⟩]; exact eqZ_of (tab_add 1 (by decide)).2.1
      · rw [if_neg (by omega), if_pos ⟨k.symm, hc⟩, if_pos ⟨by omega, hc⟩]; exact eqZ_of (tab_add 1 (by decide)).1
      · rw [if_neg (by omega), if_neg (by omega), if_neg (by omega)]; exact eqZ_of (tab_add 0 (by decide)).1
    · rw [if_neg (fun h => hc h.2), if_neg (fun h => hc h.2), if_neg (fun h => hc h.2)]; exact eqZ_of (tab_add 0 (by decide)).1
theorem eq_tv {z z' : Cw} {k : Nat} (hk : k < 5) (ho : okz z) (ho' : okz z') (h : eqZ (anz z) (tv k)) (h' : eqZ (anz z') (tv k)) : eqB z.1 z'.1 = true ∧ eqB z.2 z'.2 = true := by
  have hf : finZ z' = true := by rw [fin_repz (repz_anz ho'), h'.fin]; exact tv_fin k hk
  have e := h.trans h'.symm
  exact ⟨e.1.order' (rep_ans ho.1) (rep_ans ho'.1) (fin_nan (finZ_1 hf)), e.2.order' (rep_ans ho.2) (rep_ans ho'.2) (fin_nan (finZ_2 hf))⟩
/-- all that InversePermutes says of the numbers -/
theorem perm_all {n : Nat} {at' t : Nat → Nat} {f : Nat → Cw} (hn : 0 < n) (hn64 : n ≤ 64) (hat : inO n at') (ht : ∀ r, 0 < t r ∧ t r < 5) (hf : ∀ k, k < n * n → okz (f k)) (h0 : ∀ i j, i < n → j < n → eqZ (anz (f (i * n + j))) (tv (pmE at' t i j))) :
    ∃ g, (∀ k, k < n * n → okz (g k)) ∧ InvMakes n f g ∧ (∀ r c, r < n → c < n → eqZ (anz (g (r * n + c))) (tv (if r = at' c then qd 1 (t c) else 0))) ∧ nW n f = one1 ∧ nW n g = one1 ∧ offW n (fun k => anz (f k)) (fun k => anz (g k)) = 0 := by
  have hfin : finM n (mat9 n f) := fun i j hi hj => by
    show finZ (f (i * n + j)) = true
    rw [fin_repz (repz_anz (hf _ (place_lt hi hj))), (h0 i j hi hj).fin]
    exact tv_fin _ (pmE_lt ht _ _)
  have hnf : nff (ro (n * n) f) (n * n) = n * n := nff_all (finL_iff.2 fun k hk => by
    rw [ro_at _ hk]
    obtain ⟨k1, k2⟩ := div_lt' hk
    have := hfin _ _ k1 k2
    unfold mat9 at this
    rw [Nat.div_add_mod' k n] at this
    exact this)
  obtain ⟨e0, P⟩ := elm_perm hat ht (mat_ok hf) hfin (M0 := mat9 n f) h0 n (Nat.le_refl _)
  have I := elm_in n (Nat.le_refl _) e0
  have hK := perm_K ht I P
  have hiv := fun {r c : Nat} (hr : r < n) (hc : c < n) => perm_iv hat ht I P hr hc
  refine ⟨ivW n (elm n (mat9 n f) n).2, fun k hk => ivW_ok hk, inv_lit hn64 hf hnf e0 hK (fun _ _ => rfl), fun r c hr hc => hiv hr hc, ?_, ?_, ?_⟩
  · unfold nW
    rw [mxF_one (n := n) (fun j hj => ?_) n (Nat.le_refl _), if_pos hn]
    obtain ⟨p, hp, hpj⟩ := inj_surj n at' hat.1 hat.2 j hj
    unfold colT
    rw [nrF_one (n := n) (p := p) (fun i hi => ?_) n (Nat.le_refl _), if_pos hp]
    rw [siz_tv (pmE_lt ht _ _) (h0 i j hi hj)]
    unfold pmE
    by_cases c : i = p
    · subst c; rw [if_pos hpj.symm, if_pos rfl, if_neg (by have := (ht i).1; omega)]
    · have hne : ¬ j = at' i := fun e => c (hat.2 i p hi hp (e.symm.trans hpj.symm))
      rw [if_neg hne, if_neg c, if_pos rfl]
  · unfold nW
    rw [mxF_one (n := n) (fun j hj => ?_) n (Nat.le_refl _), if_pos hn]
    unfold colT
    rw [nrF_one (n := n) (p := at' j) (fun i hi => ?_) n (Nat.le_refl _), if_pos (hat.1 j hj)]
    have hlt : (if i = at' j then qd 1 (t j) else 0) < 5 := by split; exact qd_lt _ _; omega
    rw [siz_tv hlt (hiv hi hj)]
    by_cases c : i = at' j
    · rw [if_pos c, if_pos c, if_neg (by unfold qd; rw [if_neg (by omega)]; omega)]
    · rw [if_neg c, if_neg c, if_pos rfl]
  · unfold offW
    refine mxF_zero (n := n) (fun j hj => nrF_zero (n := n) fun i hi => ?_) n (Nat.le_refl _)
    have hprod : eqZ (prF n (fun k => anz (f k)) (fun k => anz (ivW n (elm n (mat9 n f) n).2 k)) (i * n + j)) (tv (if i = j then 1 else 0)) := by
      unfold prF
      rw [flat_at hj]
      have := sum_tv (n := n) (p := at' i) (c := i = j) (f := fun k => mulZ (anz (f (i * n + k))) (anz (ivW n (elm n (mat9 n f) n).2 (k * n + j)))) (fun k hk => ?_) n (Nat.le_refl _)
      · by_cases c : i = j
        · rw [if_pos ⟨hat.1 i hi, c⟩] at this; rw [if_pos c]; exact this
        · rw [if_neg (fun e => c e.2)] at this; rw [if_neg c]; exact this
      · have hlt : (if k = at' j then qd 1 (t j) else 0) < 5 := by split; exact qd_lt _ _; omega
        have h1 := tv_mul (pmE_lt ht i k) hlt (h0 i k hi hk) (hiv hk hj)
        refine h1.trans ?_
        unfold pmE
        by_cases c1 : k = at' i
        · by_cases c2 : i = j
          · subst c2
            rw [if_pos c1, if_pos c1, if_pos ⟨c1, rfl⟩, (tab_con (t i) (ht i).2 (ht i).1).2]
            exact eqZ_refl _
          · have hne : ¬ k = at' j := fun e => c2 (hat.2 i j hi hj (c1.symm.trans e))
            rw [if_pos c1, if_neg hne, if_neg (show ¬ (k = at' i ∧ i = j) from fun e => c2 e.2)]
            unfold mu
            rw [if_pos (.inr rfl)]
            exact eqZ_refl _
        · rw [if_neg c1, if_neg (show ¬ (k = at' i ∧ i = j) from fun e => c1 e.1)]
          unfold mu
          rw [if_pos (.inl rfl)]
          exact eqZ_refl _
    have hid : flat n idE (i * n + j) = tv (if i = j then 1 else 0) := by
      rw [flat_at hj]
      unfold idE
      split <;> rfl
    have hoff : eqZ (offF n (fun k => anz (f k)) (fun k => anz (ivW n (elm n (mat9 n f) n).2 k)) (i * n + j)) (tv 0) := by
      unfold offF zipF
      rw [hid]
      have hlt : (if i = j then 1 else 0) < 5 := by split <;> omega
      exact (hprod.sub (eqZ_refl _) (tv_bd _ hlt) (tv_bd _ hlt)).trans (eqZ_of (tab_add _ hlt).2.2)
    rw [siz_tv (by decide) hoff]
    rfl

end Go.Proofs.Ytomllbpkjhoepaa
