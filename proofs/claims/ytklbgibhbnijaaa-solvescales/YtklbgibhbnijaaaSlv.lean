/-
  Conjugates through the unknowns and the determinant.
-/
import Derived.Test.YtklbgibhbnijaaaSlq
import Derived.Test.YtklbgibhbnijaaaSlh
import Derived.Test.YtklbgibhbnijaaaLmd
namespace Go.Proofs.Ytklbgibhbnijaaa
open Fl RowKit

theorem elm_piv {n : Nat} {M : Nat → Nat → Cw} : ∀ k, k ≤ n → (elm n M k).1.1 = 0 → ∀ i, i < k → ¬ wt ((elm n M k).2.M i i) = 0 := by
  intro k
  induction k with
  | zero => intro _ _ i hi; omega
  | succ k ih =>
    intro hk h i hi
    have h0 := elm_prev h
    have hi0 := ih (by omega) h0
    rw [elm_succ h0] at h ⊢
    obtain ⟨h7, _, e⟩ := stp_o h
    rw [e]
    show ¬ wt (redM (swM (elm n M k).2.M k (k + (pvt n (elm n M k).2.M k).1)) k i i) = 0
    have e1 : redM (swM (elm n M k).2.M k (k + (pvt n (elm n M k).2.M k).1)) k i i = swM (elm n M k).2.M k (k + (pvt n (elm n M k).2.M k).1) i i := by unfold redM; rw [if_pos (by omega)]
    rw [e1]
    by_cases ek : i = k
    · subst ek
      rw [wt_sw h7]; exact h7
    · have : swM (elm n M k).2.M k (k + (pvt n (elm n M k).2.M k).1) i = (elm n M k).2.M i := by unfold swM; rw [if_neg ek, if_neg (by omega)]
      rw [this]
      exact hi0 i (by omega)
theorem pv_of {n : Nat} {S : Es} (e : Eok n S) (h : ∀ i, i < n → ¬ wt (S.M i i) = 0) : pvOk n (fun i => S.M i i) := fun k hk => by
  have hf := e.fin k k hk hk
  refine ⟨e.ok k k hk hk, fin_of (finZ_1 hf), fin_of (finZ_2 hf), ?_⟩
  rcases Nat.eq_zero_or_pos (gz (S.M k k)) with h0 | h0
  · exfalso
    have m1 : mg (S.M k k).1 = 0 := by have := Nat.le_max_left (mg (S.M k k).1) (mg (S.M k k).2); unfold gz at h0; omega
    have m2 : mg (S.M k k).2 = 0 := by have := Nat.le_max_right (mg (S.M k k).1) (mg (S.M k k).2); unfold gz at h0; omega
    exact h k hk (wt_z m1 m2)
  · exact h0
theorem inj_surj : ∀ (n : Nat) (f : Nat → Nat), (∀ i, i < n → f i < n) → (∀ i j, i < n → j < n → f i = f j → i = j) → ∀ j, j < n → ∃ i, i < n ∧ f i = j := by
  intro n
  induction n with
  | zero => intro f _ _ j hj; omega
  | succ n ih =>
    intro f hr hi j hj
    by_cases hm : f n = n
    · have h1 : ∀ i, i < n → f i < n := fun i h => by
        have a := hr i (by omega)
        have b : f i ≠ n := fun e => by have := hi i n (by omega) (by omega) (e.trans hm.symm); omega
        omega
      by_cases hjn : j = n
      · exact ⟨n, by omega, by rw [hm, hjn]⟩
      · obtain ⟨i, h2, h3⟩ := ih f h1 (fun i k a b => hi i k (by omega) (by omega)) j (by omega)
        exact ⟨i, by omega, h3⟩
    · have hm' : f n < n := by have := hr n (by omega); omega
      have g1 : ∀ i, i < n → (fun i => if f i = n then f n else f i) i < n := fun i h => by
        simp only
        have a := hr i (by omega)
        split <;> omega
      have g2 : ∀ i k, i < n → k < n → (fun i => if f i = n then f n else f i) i = (fun i => if f i = n then f n else f i) k → i = k := fun i k a b e => by
        simp only at e
        by_cases c1 : f i = n
        · by_cases c2 : f k = n
          · exact hi i k (by omega) (by omega) (c1.trans c2.symm)
          · rw [if_pos c1, if_neg c2] at e
            have := hi n k (by omega) (by omega) e; omega
        · by_cases c2 : f k = n
          · rw [if_neg c1, if_pos c2] at e
            have := hi i n (by omega) (by omega) e; omega
          · rw [if_neg c1, if_neg c2] at e
            exact hi i k (by omega) (by omega) e
      by_cases hjn : j = n
      · obtain ⟨i, h2, h3⟩ := ih _ g1 g2 (f n) hm'
        try simp only at h3
        by_cases c1 : f i = n
        · exact ⟨i, by omega, by rw [c1, hjn]⟩
        · rw [if_neg c1] at h3
          have := hi i n (by omega) (by omega) h3; omega
      · obtain ⟨i, h2, h3⟩ := ih _ g1 g2 j (by omega)
        try simp only at h3
        by_cases c1 : f i = n
        · rw [if_pos c1] at h3
          exact ⟨n, by omega, h3⟩
        · rw [if_neg c1] at h3
          exact ⟨i, by omega, h3⟩
/-- a number and its conjugate -/
def cjZ (X X' : Cn) : Prop := eqZ X' (conZ X) ∧ bdZ X ∧ bdZ X'
theorem bd_subZ (X Y : Cn) : bdZ (subZ X Y) := ⟨bd_subA _ _, bd_subA _ _⟩
theorem cjZ.mul {X X' Y Y' : Cn} (h : cjZ X X') (k : cjZ Y Y') : cjZ (mulZ X Y) (mulZ X' Y') := ⟨(h.1.mul k.1).trans (con_mul h.2.1 k.2.1), bd_mulZ _ _, bd_mulZ _ _⟩
theorem cjZ.sub {X X' Y Y' : Cn} (h : cjZ X X') (k : cjZ Y Y') : cjZ (subZ X Y) (subZ X' Y') := ⟨(h.1.sub k.1 k.2.2 (bd_con k.2.1)).trans (con_sub h.2.1 k.2.1), bd_subZ _ _, bd_subZ _ _⟩
theorem cjZ.fin {X X' : Cn} (h : cjZ X X') : finN X' = finN X := h.1.fin.trans (fin_con h.2.1)
theorem cjZ.div {X X' : Cn} {y y' : Cw} (h : cjZ X X') (k : cjZ (anz y) (anz y')) (f1 : Fl.fin y'.1) (f2 : Fl.fin y'.2) (h0 : 0 < gz y') : cjZ (divZ X (anz y)) (divZ X' (anz y')) := by
  refine ⟨(h.1.div k.1 h.2.2 (bd_con h.2.1) (ans_fin f1) (ans_fin f2) f1 f2 (fun e => ?_)).trans (con_div h.2.1 k.2.1), bd_divZ _ _, bd_divZ _ _⟩
  have : gz y' = 0 := by unfold gz; rw [e.1, e.2]; rfl
  omega
theorem redS_con {s s' : Cn} {E E' K K' : Nat → Cn} (hs : cjZ s s') : ∀ n, (∀ k, k < n → cjZ (E k) (E' k)) → (∀ k, k < n → cjZ (K k) (K' k)) → cjZ (redS s E K n) (redS s' E' K' n) := by
  intro n
  induction n with
  | zero => intro _ _; exact hs
  | succ n ih =>
    intro hE hK
    exact (ih (fun k hk => hE k (by omega)) (fun k hk => hK k (by omega))).sub ((hE n (by omega)).mul (hK n (by omega)))
def LCon (n : Nat) (L : Cn → Cn → Cn) (m m' : Nat → Nat → Cn) : Prop := ∀ i X X', i < n → cjZ X X' → cjZ (L X (m i i)) (L X' (m' i i))
theorem fwS_con {n : Nat} {m m' : Nat → Nat → Cn} {L : Cn → Cn → Cn} {f f' : Nat → Cn} (hm : ∀ i j, i < n → j < n → cjZ (m i j) (m' i j)) (hL : LCon n L m m') (hf : ∀ j, j < n → cjZ (f j) (f' j)) : ∀ k, k ≤ n → ∀ j, j < n → cjZ (fwS m L f k j) (fwS m' L f' k j) := by
  intro k
  induction k with
  | zero => intro _; exact hf
  | succ k ih =>
    intro hk j hj
    have ih' := ih (by omega)
    show cjZ (upC (fwS m L f k) k _ j) (upC (fwS m' L f' k) k _ j)
    by_cases e : j = k
    · rw [e, upC_self, upC_self]
      exact hL k _ _ (by omega) (redS_con (ih' k (by omega)) k (fun i hi => hm k i (by omega) (by omega)) (fun i hi => ih' i (by omega)))
    · rw [upC_ne _ _ e, upC_ne _ _ e]
      exact ih' j hj
theorem bwS_con {n : Nat} {m m' : Nat → Nat → Cn} {L : Cn → Cn → Cn} {f f' : Nat → Cn} (hm : ∀ i j, i < n → j < n → cjZ (m i j) (m' i j)) (hL : LCon n L m m') (hf : ∀ j, j < n → cjZ (f j) (f' j)) : ∀ t, t ≤ n → ∀ j, j < n → cjZ (bwS n m L f t j) (bwS n m' L f' t j) := by
  intro t
  induction t with
  | zero => intro _; exact hf
  | succ t ih =>
    intro ht j hj
    have ih' := ih (by omega)
    show cjZ (upC (bwS n m L f t) (n - 1 - t) _ j) (upC (bwS n m' L f' t) (n - 1 - t) _ j)
    by_cases e : j = n - 1 - t
    · rw [e, upC_self, upC_self]
      exact hL _ _ _ (by omega) (redS_con (ih' _ (by omega)) _ (fun i hi => hm _ _ (by omega) (by omega)) (fun i hi => ih' _ (by omega)))
    · rw [upC_ne _ _ e, upC_ne _ _ e]
      exact ih' j hj
theorem finS_con {n : Nat} {f f' : Nat → Cn} (h : ∀ j, j < n → cjZ (f j) (f' j)) : ∀ m, m ≤ n → finS f' m = finS f m := by
  intro m
  induction m with
  | zero => intro _; rfl
  | succ m ih =>
    intro hm
    show (finS f' m && finN (f' m)) = (finS f m && finN (f m))
    rw [ih (by omega), (h m (by omega)).fin]
theorem LCon_fst (n : Nat) (m m' : Nat → Nat → Cn) : LCon n fstZ m m' := fun _ _ _ _ h => h
theorem eqz_0 : eqz (ans 0) (negA (ans 0)) := .inr ⟨0, 9223372036854775808, rfl, rfl, by decide, by decide⟩
theorem cj_0 : cjZ (anz (0, 0)) (anz (0, 0)) := ⟨⟨.inl rfl, eqz_0⟩, bd_anz ⟨by decide, by decide⟩, bd_anz ⟨by decide, by decide⟩⟩
theorem cj_1 : cjZ (anz (4607182418800017408, 0)) (anz (4607182418800017408, 0)) := ⟨⟨.inl rfl, eqz_0⟩, bd_anz ⟨by decide, by decide⟩, bd_anz ⟨by decide, by decide⟩⟩
theorem cj_c {n : Nat} {xs ys : List Cw} (hx : okl xs) (hy : ∀ k, k < n → zat ys k = cjw (zat xs k)) {k : Nat} (hk : k < n) : cjZ (anz (zat xs k)) (anz (zat ys k)) := by
  rw [hy k hk]
  exact ⟨cjw_con (hx k), bd_anz (hx k), bd_anz (cjw_ok (hx k))⟩
section two
variable {n : Nat} {S S' : Es} (e : Eok n S) (e' : Eok n S') (h : Cj n S S')
include e e' h
theorem cj_m {i j : Nat} (hi : i < n) (hj : j < n) : cjZ (anz (S.M i j)) (anz (S'.M i j)) := ⟨h.m i j hi hj, bd_anz (e.ok i j hi hj), bd_anz (e'.ok i j hi hj)⟩
theorem cj_l {i j : Nat} (hi : i < n) (hj : j < n) : cjZ (mzL S.M i j) (mzL S'.M i j) := by
  unfold mzL lE lF
  split
  · exact cj_m e e' h hi hj
  · split
    · exact cj_1
    · exact cj_0
theorem cj_u {i j : Nat} (hi : i < n) (hj : j < n) : cjZ (mzU S.M i j) (mzU S'.M i j) := by
  unfold mzU uE uF
  split
  · exact cj_0
  · exact cj_m e e' h hi hj
variable (hp : pvOk n (fun i => S'.M i i)) {xs ys : List Cw} (hx : okl xs) (hy : ∀ k, k < n → zat ys k = cjw (zat xs k)) (ho : ∀ i, i < n → S.o i < n)
include hp
theorem LCon_div {m m' : Nat → Nat → Cn} (hm : ∀ i, i < n → m i i = mzU S.M i i) (hm' : ∀ i, i < n → m' i i = mzU S'.M i i) : LCon n divZ m m' := fun i X X' hi hX => by
  obtain ⟨p1, p2, p3, p4⟩ := hp i hi
  have e1 : mzU S.M i i = anz (S.M i i) := by unfold mzU uE uF; rw [if_neg (by omega)]
  have e2 : mzU S'.M i i = anz (S'.M i i) := by unfold mzU uE uF; rw [if_neg (by omega)]
  rw [hm i hi, hm' i hi, e1, e2]
  exact hX.div (cj_m e e' h hi hi) p2 p3 p4
include hx hy ho
theorem sol_con : (∀ k, k < n → cjZ (solX n S.M S.o xs k) (solX n S'.M S'.o ys k)) ∧ solK n S'.M S'.o ys = solK n S.M S.o xs := by
  rw [h.o]
  have hc : ∀ i, i < n → cjZ ((fun i => anz (zat xs (S.o i))) i) ((fun i => anz (zat ys (S.o i))) i) := fun i hi => cj_c hx hy (ho i hi)
  have h1 := fwS_con (fun i j hi hj => cj_l e e' h hi hj) (LCon_fst n _ _) hc n (Nat.le_refl _)
  have h2 := bwS_con (fun i j hi hj => cj_u e e' h hi hj) (LCon_div e e' h hp (fun _ _ => rfl) (fun _ _ => rfl)) h1 n (Nat.le_refl _)
  refine ⟨h2, ?_⟩
  unfold solK okS
  have q1 := finS_con h1 n (Nat.le_refl _)
  have q2 := finS_con h2 n (Nat.le_refl _)
  unfold frw slS bck frw
  rw [q1, q2]
omit ho in
theorem tr_con : (∀ k, k < n → cjZ (trZ n S.M xs k) (trZ n S'.M ys k)) ∧ trK n S'.M ys = trK n S.M xs := by
  have hc : ∀ i, i < n → cjZ ((fun i => anz (zat xs i)) i) ((fun i => anz (zat ys i)) i) := fun i hi => cj_c hx hy hi
  have h1 := fwS_con (n := n) (m := fun i j => mzU S.M j i) (m' := fun i j => mzU S'.M j i) (fun i j hi hj => cj_u e e' h hj hi) (LCon_div e e' h hp (fun _ _ => rfl) (fun _ _ => rfl)) hc n (Nat.le_refl _)
  have h2 := bwS_con (n := n) (m := fun i j => mzL S.M j i) (m' := fun i j => mzL S'.M j i) (fun i j hi hj => cj_l e e' h hj hi) (LCon_fst n _ _) h1 n (Nat.le_refl _)
  refine ⟨h2, ?_⟩
  unfold trK
  have q1 := finS_con h1 n (Nat.le_refl _)
  have q2 := finS_con h2 n (Nat.le_refl _)
  unfold trZ trY
  rw [q1, q2]
end two
/-- brought home in a mirror -/
theorem eqz_mg {x x' : Nat} (hx : Fl.fin x) (hx' : Fl.fin x') (h : eqz (ans x') (ans x)) : mg x' = mg x ∧ (¬ mg x = 0 → x' = x) := by
  rw [ans_fin hx, ans_fin hx'] at h
  rcases h with h | ⟨a, b, h1, h2, h3, h4⟩
  · cases h; exact ⟨rfl, fun _ => rfl⟩
  · cases h1; cases h2; exact ⟨h3.trans h4.symm, fun e => absurd h4 e⟩
theorem mg0_ldx {x : Nat} (p : Int) (h : mg x = 0) : mg (ldx x p) = 0 := by
  have : ldM (mg x) p = 0 := by unfold ldM; rw [if_pos h]
  unfold ldx
  rw [this]
  exact mg_word_zero _
theorem ld_con {x x' : Nat} {p : Int} (hx : Fl.fin x) (hx' : Fl.fin x') (h : eqz (ans x') (ans x)) (hl : Fl.fin (ldx x p)) (hl' : Fl.fin (ldx x' p)) : eqz (ans (ldx x' p)) (ans (ldx x p)) := by
  obtain ⟨h1, h2⟩ := eqz_mg hx hx' h
  by_cases h0 : mg x = 0
  · rw [ans_fin hl, ans_fin hl']
    exact .inr ⟨_, _, rfl, rfl, mg0_ldx p (h1.trans h0), mg0_ldx p h0⟩
  · rw [h2 h0]; exact .inl rfl
theorem hm_con {z z' : Cw} (f1 : Fl.fin z.1) (f2 : Fl.fin z.2) (f1' : Fl.fin z'.1) (f2' : Fl.fin z'.2) (hz : okz z) (_hz' : okz z') (h0 : 0 < gz z) (h : cjZ (anz z) (anz z')) : hmP z' = hmP z ∧ cjZ (anz (hmW z)) (anz (hmW z')) := by
  have a1 := eqz_mg f1 f1' h.1.1
  have hng : Fl.fin (ngW z.2) := by unfold Fl.fin; rw [mg_ngW hz.2]; exact f2
  have hneg : negA (ans z.2) = ans (ngW z.2) := by rw [ans_fin f2, ans_fin hng]; rfl
  have b0 : eqz (ans z'.2) (ans (ngW z.2)) := by have := h.1.2; rw [← hneg]; exact this
  have a2 := eqz_mg hng f2' b0
  rw [mg_ngW hz.2] at a2
  have hg : gz z' = gz z := by unfold gz; rw [a1.1, a2.1]
  have hP : hmP z' = hmP z := by unfold hmP; rw [hg]
  have H := hm_hom h0
  have H' := hm_hom (z := z') (by rw [hg]; exact h0)
  obtain ⟨q1, q2, _, _⟩ := H.fin1
  obtain ⟨q1', q2', _, _⟩ := H'.fin1
  refine ⟨hP, ⟨?_, ?_⟩, bd_anz H.1, bd_anz H'.1⟩
  · show eqz (ans (ldx z'.1 (-(hmP z')))) (ans (ldx z.1 (-(hmP z))))
    rw [hP]
    refine ld_con f1 f1' h.1.1 q1 ?_
    rw [← hP]; exact q1'
  · show eqz (ans (ldx z'.2 (-(hmP z')))) (negA (ans (ldx z.2 (-(hmP z)))))
    have hlt : ldM (mg z.2) (-(hmP z)) < 9223372036854775808 := by
      rw [neg_hmP]
      have := ldM_lt (m := mg z.2) (g := gz z) (Nat.le_max_right _ _) h0
      unfold W2 at this; omega
    have hlw : ldx z.2 (-(hmP z)) < 18446744073709551616 := word_lt _ hlt
    have e1 : negA (ans (ldx z.2 (-(hmP z)))) = ans (ldx (ngW z.2) (-(hmP z))) := by
      rw [ldx_ng hz.2 _ hlt]
      have q2'' : Fl.fin (ldx z.2 (-(hmP z))) := q2
      have q3 : Fl.fin (ngW (ldx z.2 (-(hmP z)))) := by unfold Fl.fin; rw [mg_ngW hlw]; exact q2''
      rw [ans_fin q2'', ans_fin q3]; rfl
    rw [e1, hP]
    refine ld_con hng f2' b0 ?_ ?_
    · rw [ldx_ng hz.2 _ hlt]; unfold Fl.fin; rw [mg_ngW hlw]; exact q2
    · rw [← hP]; exact q2'
theorem det_con {n : Nat} {P P' : Nat → Cw} (hP : pvOk n P) (hP' : pvOk n P') (h : ∀ k, k < n → cjZ (anz (P k)) (anz (P' k))) : ∀ k, k ≤ n → (detS P' k).2 = (detS P k).2 ∧ cjZ (anz (detS P k).1) (anz (detS P' k).1) := by
  intro k
  induction k with
  | zero => intro _; exact ⟨rfl, cj_1⟩
  | succ k ih =>
    intro hk
    obtain ⟨i1, i2⟩ := ih (by omega)
    obtain ⟨p1, p2, p3, p4⟩ := hP k (by omega)
    obtain ⟨p1', p2', p3', p4'⟩ := hP' k (by omega)
    obtain ⟨u1, u2⟩ := hm_con p2 p3 p2' p3' p1 p1' p4 (h k (by omega))
    have D := (det_inv hP k (by omega)).1
    have D' := (det_inv hP' k (by omega)).1
    obtain ⟨a1, a2, a3, a4, a5⟩ := mul_toW D (hm_hom p4)
    obtain ⟨b1, b2, b3, b4, b5⟩ := mul_toW D' (hm_hom p4')
    have hm : cjZ (anz (toW (mulZ (anz (detS P k).1) (anz (hmW (P k)))))) (anz (toW (mulZ (anz (detS P' k).1) (anz (hmW (P' k)))))) := by
      rw [a1.anz, b1.anz]
      exact i2.mul u2
    obtain ⟨v1, v2⟩ := hm_con a3 a4 b3 b4 a2 b2 a5 hm
    refine ⟨?_, v2⟩
    show (detS P' k).2 + hmP (P' k) + hmP _ = (detS P k).2 + hmP (P k) + hmP _
    rw [i1, u1, v1]
theorem ng_con {z z' : Cw} (hz : okz z) (hz' : okz z') (h : cjZ (anz z) (anz z')) (f1 : Fl.fin z.1) (f2 : Fl.fin z.2) (f1' : Fl.fin z'.1) (f2' : Fl.fin z'.2) : cjZ (anz (ngZ z)) (anz (ngZ z')) := by
  have e : ∀ x, x < 18446744073709551616 → Fl.fin x → ans (ngW x) = negA (ans x) := fun x hx hf => by
    have : Fl.fin (ngW x) := by unfold Fl.fin; rw [mg_ngW hx]; exact hf
    rw [ans_fin this, ans_fin hf]; rfl
  refine ⟨⟨?_, ?_⟩, bd_anz ⟨ngW_lt hz.1, ngW_lt hz.2⟩, bd_anz ⟨ngW_lt hz'.1, ngW_lt hz'.2⟩⟩
  · show eqz (ans (ngW z'.1)) (ans (ngW z.1))
    rw [e _ hz'.1 f1', e _ hz.1 f1]
    exact h.1.1.neg (bd_anz hz').1 (bd_anz hz).1
  · show eqz (ans (ngW z'.2)) (negA (ans (ngW z.2)))
    rw [e _ hz'.2 f2', e _ hz.2 f2]
    exact h.1.2.neg (bd_anz hz').2 (bd_negA (bd_anz hz).2)

end Go.Proofs.Ytklbgibhbnijaaa
