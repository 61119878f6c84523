/-
  Matrices that have one of 1, i, -1, -i in each row and column, and noughts else: what elimination, solving, norms and products make of them.
-/
import Derived.Test.YtomllbpkjhoepaaIva
namespace Go.Proofs.Ytomllbpkjhoepaa
open Fl RowKit

def eqzB (A B : Option Nat) : Bool := A == B || (match A, B with | some x, some y => mg x == 0 && mg y == 0 | _, _ => false)
theorem eqz_of {A B : Option Nat} (h : eqzB A B = true) : eqz A B := by
  unfold eqzB at h
  rw [Bool.or_eq_true] at h
  rcases h with h | h
  · exact .inl (eq_of_beq h)
  · cases A with
    | none => cases h
    | some x =>
      cases B with
      | none => cases h
      | some y =>
        simp only [Bool.and_eq_true, beq_iff_eq] at h
        exact .inr ⟨x, y, rfl, rfl, h.1, h.2⟩
def eqZB (X Y : Cn) : Bool := eqzB X.1 Y.1 && eqzB X.2 Y.2
theorem eqZ_of {X Y : Cn} (h : eqZB X Y = true) : eqZ X Y := by
  unfold eqZB at h
  rw [Bool.and_eq_true] at h
  exact ⟨eqz_of h.1, eqz_of h.2⟩
theorem eqZ_refl (X : Cn) : eqZ X X := ⟨eqz.refl _, eqz.refl _⟩
theorem eqZ.symm {X Y : Cn} (h : eqZ X Y) : eqZ Y X := ⟨h.1.symm, h.2.symm⟩
/-- nought, and the four turns of 1 -/
def tv : Nat → Cn
  | 0 => (some 0, some 0)
  | 1 => (some 4607182418800017408, some 0)
  | 2 => (some 0, some 4607182418800017408)
  | 3 => (some 13830554455654793216, some 0)
  | _ => (some 0, some 13830554455654793216)
/-- how the turns are divided and multiplied -/
def qd (k l : Nat) : Nat := if k = 0 then 0 else ((k - 1) + (5 - l)) % 4 + 1
def mu (k l : Nat) : Nat := if k = 0 ∨ l = 0 then 0 else ((k - 1) + (l - 1)) % 4 + 1
theorem tv_fin : ∀ k, k < 5 → finN (tv k) = true := by decide +kernel
theorem tab_red : ∀ k, k < 5 → ∀ l, l < 5 → eqZB (subZ (tv k) (mulZ (tv 0) (tv l))) (tv k) = true := by decide +kernel
theorem tab_div : ∀ k, k < 5 → ∀ l, l < 5 → 0 < l → eqZB (divZ (tv k) (tv l)) (tv (qd k l)) = true := by decide +kernel
theorem tab_mul : ∀ k, k < 5 → ∀ l, l < 5 → eqZB (mulZ (tv k) (tv l)) (tv (mu k l)) = true := by decide +kernel
theorem tab_add : ∀ k, k < 5 → eqZB (addZ (tv 0) (tv k)) (tv k) = true ∧ eqZB (addZ (tv k) (tv 0)) (tv k) = true ∧ eqZB (subZ (tv k) (tv k)) (tv 0) = true := by decide +kernel
theorem tab_siz : ∀ k, k < 5 → sizZ (tv k) = some (if k = 0 then 0 else 4607182418800017408) := by decide +kernel
theorem tab_con : ∀ k, k < 5 → 0 < k → eqZB (tv (qd 1 k)) (conZ (tv k)) = true ∧ mu k (qd 1 k) = 1 := by decide +kernel
theorem tv_bd : ∀ k, k < 5 → bdZ (tv k) := by
  intro k hk
  have key : ∀ x : Nat, x = 0 ∨ x = 4607182418800017408 ∨ x = 13830554455654793216 → bdA (some x) := by
    intro x hx y hy
    cases hy
    rcases hx with rfl | rfl | rfl <;> exact ⟨by decide, by decide⟩
  match k, hk with
  | 0, _ => exact ⟨key _ (by simp), key _ (by simp)⟩
  | 1, _ => exact ⟨key _ (by simp), key _ (by simp)⟩
  | 2, _ => exact ⟨key _ (by simp), key _ (by simp)⟩
  | 3, _ => exact ⟨key _ (by simp), key _ (by simp)⟩
  | 4, _ => exact ⟨key _ (by simp), key _ (by simp)⟩
theorem qd_lt (k l : Nat) : qd k l < 5 := by unfold qd; split <;> omega
theorem mu_lt (k l : Nat) : mu k l < 5 := by unfold mu; split <;> omega
theorem qd_0 (l : Nat) : qd 0 l = 0 := rfl
/-- what stands for a turn -/
theorem eqz_some {A : Option Nat} {a : Nat} (h : eqz A (some a)) : ∃ x, A = some x ∧ mg x = mg a := by
  rcases h with h | ⟨x, y, h1, h2, h3, h4⟩
  · exact ⟨a, h, rfl⟩
  · cases h2; exact ⟨x, h1, by omega⟩
theorem tv_some (k : Nat) : ∃ a b, tv k = (some a, some b) := by
  match k with
  | 0 => exact ⟨_, _, rfl⟩
  | 1 => exact ⟨_, _, rfl⟩
  | 2 => exact ⟨_, _, rfl⟩
  | 3 => exact ⟨_, _, rfl⟩
  | _ + 4 => exact ⟨_, _, rfl⟩
theorem tv_den {X : Cn} {l : Nat} (hl : l < 5) (h0 : 0 < l) (h : eqZ X (tv l)) : ∃ c d, X.1 = some c ∧ X.2 = some d ∧ Fl.fin c ∧ Fl.fin d ∧ ¬ (mg c = 0 ∧ mg d = 0) := by
  have key : ∀ a b, tv l = (some a, some b) → (mg a < 9218868437227405312 ∧ mg b < 9218868437227405312 ∧ ¬ (mg a = 0 ∧ mg b = 0)) := by
    intro a b e
    match l, hl, h0 with
    | 1, _, _ => cases e; exact ⟨by decide, by decide, by decide⟩
    | 2, _, _ => cases e; exact ⟨by decide, by decide, by decide⟩
    | 3, _, _ => cases e; exact ⟨by decide, by decide, by decide⟩
    | 4, _, _ => cases e; exact ⟨by decide, by decide, by decide⟩
  obtain ⟨a, b, e⟩ := tv_some l
  obtain ⟨k1, k2, k3⟩ := key a b e
  rw [e] at h
  obtain ⟨c, hc, mc⟩ := eqz_some h.1
  obtain ⟨d, hd, md⟩ := eqz_some h.2
  exact ⟨c, d, hc, hd, by unfold Fl.fin; omega, by unfold Fl.fin; omega, by omega⟩
theorem eqZ.sizZ {X Y : Cn} (h : eqZ X Y) : sizZ X = sizZ Y := by unfold Go.Proofs.Ytomllbpkjhoepaa.sizZ; rw [h.1.siz, h.2.siz]
section ops
variable {X Y Z : Cn} {k l m : Nat} (hk : k < 5) (hl : l < 5) (hX : eqZ X (tv k)) (hY : eqZ Y (tv l))
include hk hl hX hY
theorem tv_mul : eqZ (mulZ X Y) (tv (mu k l)) := (hX.mul hY).trans (eqZ_of (tab_mul k hk l hl))
theorem tv_div (h0 : 0 < l) (bX : bdZ X) : eqZ (divZ X Y) (tv (qd k l)) := by
  obtain ⟨c, d, h1, h2, h3, h4, h5⟩ := tv_den hl h0 hY
  exact (hX.div hY bX (tv_bd k hk) h1 h2 h3 h4 h5).trans (eqZ_of (tab_div k hk l hl h0))
theorem tv_red {W : Cn} (hW : eqZ W (tv 0)) : eqZ (subZ X (mulZ W Y)) (tv k) := (hX.sub (hW.mul hY) (bd_mulZ _ _) (bd_mulZ _ _)).trans (eqZ_of (tab_red k hk l hl))
end ops
/-- a row of such a matrix -/
def pmE (at' t : Nat → Nat) (r j : Nat) : Nat := if j = at' r then t r else 0
theorem pmE_lt {at' t : Nat → Nat} (ht : ∀ r, 0 < t r ∧ t r < 5) (r j : Nat) : pmE at' t r j < 5 := by unfold pmE; split; exact (ht r).2; omega
theorem wt_tv {z : Cw} {k : Nat} (hk : k < 5) (hf : finZ z = true) (h : eqZ (anz z) (tv k)) : wt z = if k = 0 then 0 else 4607182418800017408 := by
  have h1 := wt_siz hf
  rw [h.sizZ, tab_siz k hk] at h1
  exact (Option.some.inj h1).symm
structure Pst (n : Nat) (at' t : Nat → Nat) (k : Nat) (S : Es) : Prop where
  m : ∀ i j, i < n → j < n → eqZ (anz (S.M i j)) (tv (pmE at' t (S.o i) j))
  d : ∀ i, i < k → at' (S.o i) = i
theorem elm_perm {n : Nat} {at' t : Nat → Nat} {M0 : Nat → Nat → Cw} (hat : inO n at') (ht : ∀ r, 0 < t r ∧ t r < 5) (ho : okM n M0) (hf : finM n M0) (h0 : ∀ i j, i < n → j < n → eqZ (anz (M0 i j)) (tv (pmE at' t i j))) :
    ∀ k, k ≤ n → (elm n M0 k).1.1 = 0 ∧ Pst n at' t k (elm n M0 k).2 := by
  intro k
  induction k with
  | zero => intro _; exact ⟨rfl, h0, fun i hi => absurd hi (by omega)⟩
  | succ k ih =>
    intro hk
    obtain ⟨e0, P⟩ := ih (by omega)
    have E := elm_eok ho hf k (by omega) e0
    have I := elm_in k (by omega) e0
    obtain ⟨S, hS⟩ : ∃ S, S = (elm n M0 k).2 := ⟨_, rfl⟩
    rw [← hS] at P E I
    have hinj : ∀ i j, i < n → j < n → at' (S.o i) = at' (S.o j) → i = j := fun i j hi hj e => I.2 i j hi hj (hat.2 _ _ (I.1 i hi) (I.1 j hj) e)
    obtain ⟨p, hp, hpk⟩ := inj_surj n (fun i => at' (S.o i)) (fun i hi => hat.1 _ (I.1 i hi)) hinj k (by omega)
    have hkp : k ≤ p := by
      by_cases c : p < k
      · have := P.d p c; omega
      · omega
    obtain ⟨q, hq⟩ : ∃ q, p = k + q := ⟨p - k, by omega⟩
    subst hq
    have w1 : ∀ m, m < n - k → wt (S.M (k + m) k) = if m = q then 4607182418800017408 else 0 := by
      intro m hm
      rw [wt_tv (pmE_lt ht _ _) (E.fin _ _ (by omega) (by omega)) (P.m (k + m) k (by omega) (by omega))]
      by_cases c : m = q
      · subst c
        have : pmE at' t (S.o (k + m)) k = t (S.o (k + m)) := if_pos hpk.symm
        rw [this, if_neg (by have := (ht (S.o (k + m))).1; omega), if_pos rfl]
      · have : pmE at' t (S.o (k + m)) k = 0 := if_neg (fun e => c (by have := hinj (k + m) (k + q) (by omega) hp (e.symm.trans hpk.symm); omega))
        rw [this, if_pos rfl, if_neg c]
    have hqn : q < n - k := by omega
    have wq : wt (S.M (k + q) k) = 4607182418800017408 := by rw [w1 q hqn, if_pos rfl]
    have g1 : 0 < (fstG (fun i => wt (S.M (k + i) k)) (n - k)).2 := by
      have := fstG_le (fun i => wt (S.M (k + i) k)) (n - k) q hqn
      simp only [wq] at this
      omega
    have g2 : (fstG (fun i => wt (S.M (k + i) k)) (n - k)).1 = q := by
      refine fstG_uniq hqn (fun m hm => ?_) (fun m hm => ⟨q, hqn, ?_⟩) g1
      · show wt (S.M (k + m) k) ≤ wt (S.M (k + q) k)
        rw [w1 m hm, wq]; split <;> omega
      · show wt (S.M (k + m) k) < wt (S.M (k + q) k)
        rw [w1 m (by omega), wq, if_neg (by omega)]; omega
    have p2 : ¬ (pvt n S.M k).2 = 0 := by unfold pvt; omega
    have p1 : (pvt n S.M k).1 = q := g2
    have hmS : ∀ i j, i < n → j < n → eqZ (anz (swM S.M k (k + q) i j)) (tv (pmE at' t (swO S.o k (k + q) i) j)) := by
      intro i j hi hj
      unfold swM swO
      by_cases c1 : i = k
      · rw [if_pos c1, if_pos c1]; exact P.m _ _ hp hj
      · rw [if_neg c1, if_neg c1]
        by_cases c2 : i = k + q
        · rw [if_pos c2, if_pos c2]; exact P.m _ _ (by omega) hj
        · rw [if_neg c2, if_neg c2]; exact P.m _ _ hi hj
    have hdk : at' (swO S.o k (k + q) k) = k := by unfold swO; rw [if_pos rfl]; exact hpk
    have I' := swO_in I (by omega : k < n) hp
    have hok' := swM_ok E.ok (by omega : k < n) hp
    have hnk : ∀ i, i < n → i ≠ k → at' (swO S.o k (k + q) i) ≠ k := fun i hi hne e => hne (I'.2 i k hi (by omega) (hat.2 _ _ (I'.1 i hi) (I'.1 k (by omega)) (e.trans hdk.symm)))
    have hred : ∀ i j, k < i → i < n → j < n → eqZ (redZ (swM S.M k (k + q) i) (swM S.M k (k + q) k) k j) (tv (pmE at' t (swO S.o k (k + q) i) j)) := by
      intro i j hki hi hj
      have a1 : eqZ (anz (swM S.M k (k + q) i k)) (tv 0) := by
        have := hmS i k hi (by omega)
        rwa [show pmE at' t (swO S.o k (k + q) i) k = 0 from if_neg (Ne.symm (hnk i hi (by omega)))] at this
      have a2 : eqZ (anz (swM S.M k (k + q) k k)) (tv (t (swO S.o k (k + q) k))) := by
        have := hmS k k (by omega) (by omega)
        rwa [show pmE at' t (swO S.o k (k + q) k) k = t (swO S.o k (k + q) k) from if_pos hdk.symm] at this
      have a3 : eqZ (divZ (anz (swM S.M k (k + q) i k)) (anz (swM S.M k (k + q) k k))) (tv 0) := tv_div (by decide) (ht _).2 a1 a2 (ht _).1 (bd_anz (hok' i k hi (by omega)))
      rcases Nat.lt_trichotomy j k with c | c | c
      · rw [redZ_lt c]; exact hmS i j hi hj
      · subst c
        rw [redZ_eq, show pmE at' t (swO S.o j (j + q) i) j = 0 from if_neg (Ne.symm (hnk i hi (by omega)))]
        exact a3
      · rw [redZ_gt c]
        exact tv_red (pmE_lt ht _ _) (pmE_lt ht _ _) (hmS i j hi hj) (hmS k j (by omega) hj) a3
    have hg : goodB n (swM S.M k (k + (pvt n S.M k).1)) k = true := by
      rw [p1]
      refine good_iff.2 (fun i hki hi j hkj hj => ?_)
      rw [(hred i j hki hi hj).fin]
      exact tv_fin _ (pmE_lt ht _ _)
    have es := stp_0 p2 hg
    have e1 := elm_succ e0
    rw [← hS] at e1
    rw [e1, es]
    refine ⟨rfl, ?_, ?_⟩
    · intro i j hi hj
      show eqZ (anz (redM (swM S.M k (k + (pvt n S.M k).1)) k i j)) (tv (pmE at' t (swO S.o k (k + (pvt n S.M k).1) i) j))
      rw [p1]
      unfold redM
      by_cases c : i ≤ k
      · rw [if_pos c]; exact hmS i j hi hj
      · rw [if_neg c]
        have hr := hred i j (by omega) hi hj
        rw [anz_toW (redZ_bd (hok' i j hi hj)) (by rw [hr.fin]; exact tv_fin _ (pmE_lt ht _ _))]
        exact hr
    · intro i hi
      show at' (swO S.o k (k + (pvt n S.M k).1) i) = i
      rw [p1]
      by_cases c : i = k
      · subst c; exact hdk
      · have : swO S.o k (k + q) i = S.o i := by unfold swO; rw [if_neg c, if_neg (by omega)]
        rw [this]; exact P.d i (by omega)

end Go.Proofs.Ytomllbpkjhoepaa
