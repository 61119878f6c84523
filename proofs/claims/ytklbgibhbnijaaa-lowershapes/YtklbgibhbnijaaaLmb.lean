/-
  Elimination of a matrix and of its conjugate go side by side; the order has each row once; the first pivot.
-/
import Derived.Test.YtklbgibhbnijaaaLma
namespace Go.Proofs.Ytklbgibhbnijaaa
open Fl RowKit

def cjM (n : Nat) (M M' : Nat → Nat → Cw) : Prop := ∀ i j, i < n → j < n → eqZ (anz (M' i j)) (conZ (anz (M i j)))
theorem mg_eqz {x y : Nat} (hx : finB x = true) (hy : finB y = true) (h : eqz (ans x) (ans y)) : mg x = mg y := by
  rw [ans_num (fin_nan hx), ans_num (fin_nan hy)] at h
  rcases h with h | ⟨u, v, h1, h2, h3, h4⟩
  · cases h; rfl
  · cases h1; cases h2; rw [h3, h4]
theorem finZ_1 {z : Cw} (h : finZ z = true) : finB z.1 = true := by unfold finZ at h; rw [Bool.and_eq_true] at h; exact h.1
theorem finZ_2 {z : Cw} (h : finZ z = true) : finB z.2 = true := by unfold finZ at h; rw [Bool.and_eq_true] at h; exact h.2
theorem wt_con {z z' : Cw} (ho : okz z) (hf : finZ z = true) (hf' : finZ z' = true) (h : eqZ (anz z') (conZ (anz z))) : wt z' = wt z := by
  have e1 := mg_eqz (finZ_1 hf') (finZ_1 hf) h.1
  have h2 : eqz (ans z'.2) (ans (ngW z.2)) := by
    have := h.2
    unfold conZ anz negA at this
    rw [ans_num (fin_nan (finZ_2 hf))] at this
    rw [ans_num (x := ngW z.2) (by rw [nan_ngW ho.2]; exact fin_nan (finZ_2 hf))]
    exact this
  have e2 := mg_eqz (finZ_2 hf') (by unfold finB; rw [mg_ngW ho.2]; exact finZ_2 hf) h2
  rw [mg_ngW ho.2] at e2
  unfold wt
  rw [e1, e2]
theorem pvt_con {n k : Nat} {M M' : Nat → Nat → Cw} (ho : okM n M) (hf : finM n M) (hf' : finM n M') (h : cjM n M M') (hk : k < n) : pvt n M' k = pvt n M k := by
  unfold pvt
  exact fstG_congr (fun j hj => wt_con (ho _ _ (by omega) hk) (hf _ _ (by omega) hk) (hf' _ _ (by omega) hk) (h _ _ (by omega) hk))
theorem swM_con {n k q : Nat} {M M' : Nat → Nat → Cw} (h : cjM n M M') (hk : k < n) (hq : q < n) : cjM n (swM M k q) (swM M' k q) := by
  intro i j hi hj
  unfold swM
  split
  · exact h q j hq hj
  · split
    · exact h k j hk hj
    · exact h i j hi hj
theorem anz_toW {Z : Cn} (hb : bdZ Z) (hf : finN Z = true) : anz (toW Z) = Z := by
  obtain ⟨a, b⟩ := Z
  unfold finN at hf
  rw [Bool.and_eq_true] at hf
  have key : ∀ {o : Option Nat}, bdA o → finO o = true → ans (o.getD 0) = o := by
    intro o h1 h2
    cases o with
    | none => cases h2
    | some x => exact ans_num (h1 x rfl).2
  unfold anz toW
  rw [key hb.1 hf.1, key hb.2 hf.2]
theorem wt_sw {n k : Nat} {M : Nat → Nat → Cw} (h0 : ¬ (pvt n M k).2 = 0) : wt (swM M k (k + (pvt n M k).1) k k) = (pvt n M k).2 := by
  unfold swM
  rw [if_pos rfl]
  have := fstG_at (fun i => wt (M (k + i) k)) (n - k)
  unfold pvt at *
  rcases this with ⟨h, _⟩ | ⟨_, _, h, _⟩
  · exact absurd h h0
  · exact h
theorem redZ_bdz {a p : Nat → Cw} {k j : Nat} (h : okz (a j)) : bdZ (redZ a p k j) := redZ_bd h
theorem red_con {n k : Nat} {M M' : Nat → Nat → Cw} (ho : okM n M) (ho' : okM n M') (hf' : finM n M') (h : cjM n M M') (hk : k < n) (hw : ¬ wt (M' k k) = 0) :
    ∀ i j, i < n → j < n → eqZ (redZ (M' i) (M' k) k j) (conZ (redZ (M i) (M k) k j)) := by
  intro i j hi hj
  exact redZ_con (ho i j hi hj) (ho i k hi hk) (ho k k hk hk) (ho k j hk hj) (ho' i k hi hk) (h i j hi hj) (h i k hi hk) (h k k hk hk) (h k j hk hj) (hf' k k hk hk) hw
theorem good_con {n k : Nat} {M M' : Nat → Nat → Cw} (ho : okM n M) (ho' : okM n M') (hf' : finM n M') (h : cjM n M M') (hk : k < n) (hw : ¬ wt (M' k k) = 0) : goodB n M' k = goodB n M k := by
  have key : ∀ i j, i < n → j < n → finN (redZ (M' i) (M' k) k j) = finN (redZ (M i) (M k) k j) := fun i j hi hj => by
    rw [(red_con ho ho' hf' h hk hw i j hi hj).fin, fin_con (redZ_bdz (ho i j hi hj))]
  cases hg : goodB n M k
  · cases hg' : goodB n M' k
    · rfl
    · rw [good_iff] at hg'
      have : goodB n M k = true := good_iff.2 (fun i hi hin j hj hjn => by rw [← key i j hin hjn]; exact hg' i hi hin j hj hjn)
      rw [hg] at this; cases this
  · rw [good_iff] at hg
    exact good_iff.2 (fun i hi hin j hj hjn => by rw [key i j hin hjn]; exact hg i hi hin j hj hjn)
theorem redM_con {n k : Nat} {M M' : Nat → Nat → Cw} (ho : okM n M) (ho' : okM n M') (hf : finM n M) (hf' : finM n M') (h : cjM n M M') (hk : k < n) (hw : ¬ wt (M' k k) = 0) (hg : goodB n M k = true) (hg' : goodB n M' k = true) : cjM n (redM M k) (redM M' k) := by
  intro i j hi hj
  unfold redM
  by_cases hik : i ≤ k
  · rw [if_pos hik, if_pos hik]; exact h i j hi hj
  · rw [if_neg hik, if_neg hik]
    have f1 : finN (redZ (M i) (M k) k j) = true := by
      by_cases hjk : k ≤ j
      · exact good_iff.1 hg i (by omega) hi j hjk hj
      · rw [redZ_lt (by omega), ← fin_repz (repz_anz (ho i j hi hj))]; exact hf i j hi hj
    have f2 : finN (redZ (M' i) (M' k) k j) = true := by
      by_cases hjk : k ≤ j
      · exact good_iff.1 hg' i (by omega) hi j hjk hj
      · rw [redZ_lt (by omega), ← fin_repz (repz_anz (ho' i j hi hj))]; exact hf' i j hi hj
    rw [anz_toW (redZ_bdz (ho' i j hi hj)) f2, anz_toW (redZ_bdz (ho i j hi hj)) f1]
    exact red_con ho ho' hf' h hk hw i j hi hj
/-- two eliminations side by side -/
structure Cj (n : Nat) (S S' : Es) : Prop where
  m : cjM n S.M S'.M
  o : S'.o = S.o
  s : S'.s = S.s
theorem stp_con {n k : Nat} {S S' : Es} (e : Eok n S) (e' : Eok n S') (h : Cj n S S') (hk : k < n) : (stp n k S').1 = (stp n k S).1 ∧ ((stp n k S).1 = 0 → Cj n (stp n k S).2 (stp n k S').2) := by
  have hp := pvt_con e.ok e.fin e'.fin h.m hk
  by_cases h7 : (pvt n S.M k).2 = 0
  · rw [stp_7 h7, stp_7 (S := S') (by rw [hp]; exact h7)]
    exact ⟨rfl, fun e => absurd (show (7 : Int) = 0 from e) (by decide)⟩
  · have hq := pvt_lt h7
    have h7' : ¬ (pvt n S'.M k).2 = 0 := by rw [hp]; exact h7
    have hw := wt_sw h7'
    have hc := swM_con h.m hk hq
    have o1 := swM_ok e.ok hk hq
    have o1' := swM_ok e'.ok hk hq
    have f1 := swM_fin e.fin hk hq
    have f1' := swM_fin e'.fin hk hq
    rw [hp] at hw
    have hw' : ¬ wt (swM S'.M k (k + (pvt n S.M k).1) k k) = 0 := by rw [hw]; exact h7
    have hg := good_con o1 o1' f1' hc hk hw'
    cases hG : goodB n (swM S.M k (k + (pvt n S.M k).1)) k
    · rw [stp_6 h7 hG, stp_6 (S := S') h7' (by rw [hp, hg]; exact hG)]
      exact ⟨rfl, fun e => absurd (show (6 : Int) = 0 from e) (by decide)⟩
    · have hG' : goodB n (swM S'.M k (k + (pvt n S'.M k).1)) k = true := by rw [hp, hg]; exact hG
      rw [stp_0 h7 hG, stp_0 (S := S') h7' hG']
      refine ⟨rfl, fun _ => ⟨?_, ?_, ?_⟩⟩
      · show cjM n (redM (swM S.M k (k + (pvt n S.M k).1)) k) (redM (swM S'.M k (k + (pvt n S'.M k).1)) k)
        rw [hp]
        exact redM_con o1 o1' f1 f1' hc hk hw' hG (by rw [hp] at hG'; exact hG')
      · show swO S'.o k (k + (pvt n S'.M k).1) = swO S.o k (k + (pvt n S.M k).1)
        rw [hp, h.o]
      · show (if (pvt n S'.M k).1 = 0 then S'.s else -S'.s) = (if (pvt n S.M k).1 = 0 then S.s else -S.s)
        rw [hp, h.s]
theorem elm_con {n : Nat} {M M' : Nat → Nat → Cw} (ho : okM n M) (ho' : okM n M') (hf : finM n M) (hf' : finM n M') (h : cjM n M M') : ∀ k, k ≤ n → (elm n M' k).1 = (elm n M k).1 ∧ ((elm n M k).1.1 = 0 → Cj n (elm n M k).2 (elm n M' k).2) := by
  intro k
  induction k with
  | zero => intro _; exact ⟨rfl, fun _ => ⟨h, rfl, rfl⟩⟩
  | succ k ih =>
    intro hk
    obtain ⟨i1, i2⟩ := ih (by omega)
    by_cases h0 : (elm n M k).1.1 = 0
    · have h0' : (elm n M' k).1.1 = 0 := by rw [i1]; exact h0
      have st := stp_con (elm_eok ho hf k (by omega) h0) (elm_eok ho' hf' k (by omega) h0') (i2 h0) (show k < n by omega)
      rw [elm_succ h0, elm_succ h0']
      refine ⟨?_, st.2⟩
      show ((stp n k (elm n M' k).2).1, _) = ((stp n k (elm n M k).2).1, _)
      rw [st.1]
    · have h0' : ¬ (elm n M' k).1.1 = 0 := by rw [i1]; exact h0
      rw [show elm n M (k + 1) = elm n M k from if_neg h0, show elm n M' (k + 1) = elm n M' k from if_neg h0']
      exact ⟨i1, i2⟩
/-- the order has each row once -/
def inO (n : Nat) (o : Nat → Nat) : Prop := (∀ i, i < n → o i < n) ∧ ∀ i j, i < n → j < n → o i = o j → i = j
theorem swO_in {n k q : Nat} {o : Nat → Nat} (h : inO n o) (hk : k < n) (hq : q < n) : inO n (swO o k q) := by
  refine ⟨fun i hi => ?_, fun i j hi hj e => ?_⟩
  · unfold swO
    split
    · exact h.1 q hq
    · split
      · exact h.1 k hk
      · exact h.1 i hi
  · unfold swO at e
    by_cases a1 : i = k
    · rw [if_pos a1] at e
      by_cases b1 : j = k
      · omega
      · rw [if_neg b1] at e
        by_cases b2 : j = q
        · rw [if_pos b2] at e; have := h.2 q k hq hk e; omega
        · rw [if_neg b2] at e; have := h.2 q j hq hj e; omega
    · rw [if_neg a1] at e
      by_cases a2 : i = q
      · rw [if_pos a2] at e
        by_cases b1 : j = k
        · rw [if_pos b1] at e; have := h.2 k q hk hq e; omega
        · rw [if_neg b1] at e
          by_cases b2 : j = q
          · omega
          · rw [if_neg b2] at e; have := h.2 k j hk hj e; omega
      · rw [if_neg a2] at e
        by_cases b1 : j = k
        · rw [if_pos b1] at e; have := h.2 i q hi hq e; omega
        · rw [if_neg b1] at e
          by_cases b2 : j = q
          · rw [if_pos b2] at e; have := h.2 i k hi hk e; omega
          · rw [if_neg b2] at e; exact h.2 i j hi hj e
theorem stp_o {n k : Nat} {S : Es} (h0 : (stp n k S).1 = 0) : ¬ (pvt n S.M k).2 = 0 ∧ goodB n (swM S.M k (k + (pvt n S.M k).1)) k = true ∧ stp n k S = (0, ⟨redM (swM S.M k (k + (pvt n S.M k).1)) k, swO S.o k (k + (pvt n S.M k).1), if (pvt n S.M k).1 = 0 then S.s else -S.s⟩) := by
  by_cases h7 : (pvt n S.M k).2 = 0
  · rw [stp_7 h7] at h0; exact absurd (show (7 : Int) = 0 from h0) (by decide)
  · cases hg : goodB n (swM S.M k (k + (pvt n S.M k).1)) k
    · rw [stp_6 h7 hg] at h0; exact absurd (show (6 : Int) = 0 from h0) (by decide)
    · exact ⟨h7, rfl, stp_0 h7 hg⟩
theorem elm_in {n : Nat} {M : Nat → Nat → Cw} : ∀ k, k ≤ n → (elm n M k).1.1 = 0 → inO n (elm n M k).2.o := by
  intro k
  induction k with
  | zero => intro _ _; exact ⟨fun i hi => hi, fun i j _ _ e => e⟩
  | succ k ih =>
    intro hk h
    have h0 := elm_prev h
    rw [elm_succ h0] at h ⊢
    obtain ⟨h7, _, e⟩ := stp_o h
    rw [e]
    exact swO_in (ih (by omega) h0) (by omega) (pvt_lt h7)
/-- behind the first column the order's first stays, and it is the first pivot's row -/
theorem elm_first {n : Nat} {M : Nat → Nat → Cw} : ∀ k, 0 < k → k ≤ n → (elm n M k).1.1 = 0 → (elm n M k).2.o 0 = (pvt n M 0).1 ∧ ¬ (pvt n M 0).2 = 0 := by
  intro k
  induction k with
  | zero => intro h; omega
  | succ k ih =>
    intro _ hk h
    have h0 := elm_prev h
    by_cases e0 : k = 0
    · subst e0
      rw [elm_succ h0] at h ⊢
      obtain ⟨h7, _, e⟩ := stp_o h
      rw [e]
      refine ⟨?_, h7⟩
      show swO (fun i => i) 0 (0 + (pvt n M 0).1) 0 = (pvt n M 0).1
      unfold swO
      rw [if_pos rfl, Nat.zero_add]
    · have hi := ih (by omega) (by omega) h0
      rw [elm_succ h0] at h ⊢
      obtain ⟨h7, _, e⟩ := stp_o h
      rw [e]
      refine ⟨?_, hi.2⟩
      show swO (elm n M k).2.o k (k + (pvt n (elm n M k).2.M k).1) 0 = _
      unfold swO
      rw [if_neg (by omega), if_neg (by omega)]
      exact hi.1
theorem first_most {n : Nat} {M : Nat → Nat → Cw} (h : ¬ (pvt n M 0).2 = 0) : ∀ i, i < n → wt (M i 0) ≤ wt (M (pvt n M 0).1 0) := by
  intro i hi
  have h1 := fstG_le (fun i => wt (M (0 + i) 0)) (n - 0) i (by omega)
  have h2 := fstG_at (fun i => wt (M (0 + i) 0)) (n - 0)
  unfold pvt at *
  rcases h2 with ⟨h2, _⟩ | ⟨_, _, h2, _⟩
  · exact absurd h2 h
  · simp only [Nat.zero_add] at h1 h2 ⊢
    rw [h2]; exact h1

end Go.Proofs.Ytklbgibhbnijaaa
