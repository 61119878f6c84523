/-
  Products with the identity, and of conjugates, entry by entry.
-/
import Derived.Test.YtibehhckaoookaaBnc
namespace Go.Proofs.Ytibehhckaoookaa
open Fl RowKit

/-- an answer that is finite, and its value -/
def FV (o : Option Nat) (v : Int) : Prop := ∃ x, o = some x ∧ fin x ∧ val x = v
theorem mg_of_val {z : Nat} (h : val z = 0) : mg z = 0 := by
  rcases Nat.eq_zero_or_pos (mg z) with h0 | h0
  · exact h0
  · have := sz_pos h0
    unfold val sgn at h
    split at h <;> omega
theorem fv_add0 {a b : Option Nat} {v : Int} (ha : FV a 0) (hb : FV b v) : FV (addA a b) v := by
  obtain ⟨z, rfl, _, vz⟩ := ha
  obtain ⟨x, rfl, fx, vx⟩ := hb
  obtain ⟨r, h1, h2, h3⟩ := zero_add fx (mg_of_val vz)
  exact ⟨r, h1, h2, h3.trans vx⟩
theorem fv_add0' {a b : Option Nat} {v : Int} (ha : FV a v) (hb : FV b 0) : FV (addA a b) v := by
  rw [addA_comm]; exact fv_add0 hb ha
theorem fv_sub0 {a b : Option Nat} {v : Int} (ha : FV a v) (hb : FV b 0) : FV (subA a b) v := by
  obtain ⟨x, rfl, fx, vx⟩ := ha
  obtain ⟨z, rfl, _, vz⟩ := hb
  obtain ⟨r, h1, h2, h3⟩ := sub_zero fx (mg_of_val vz)
  exact ⟨r, h1, h2, h3.trans vx⟩
theorem fv_mul1 {x : Nat} (hx : fin x) (lx : x < 18446744073709551616) : FV (mulA (some x) (some 4607182418800017408)) (val x) := ⟨x, mul_one hx lx, hx, rfl⟩
theorem fv_mul0 {x : Nat} (hx : fin x) : FV (mulA (some x) (some 0)) 0 := by
  obtain ⟨z, h1, h2⟩ := mul_zero hx
  exact ⟨z, h1, fin_zero h2, val_zero h2⟩
def FVz (Z : Cn) (a b : Int) : Prop := FV Z.1 a ∧ FV Z.2 b
theorem fvz_add0 {A B : Cn} {a b : Int} (hA : FVz A 0 0) (hB : FVz B a b) : FVz (addZ A B) a b := ⟨fv_add0 hA.1 hB.1, fv_add0 hA.2 hB.2⟩
theorem fvz_add0' {A B : Cn} {a b : Int} (hA : FVz A a b) (hB : FVz B 0 0) : FVz (addZ A B) a b := ⟨fv_add0' hA.1 hB.1, fv_add0' hA.2 hB.2⟩
section num
variable {z : Cw} (hz : okz z) (h1 : fin z.1) (h2 : fin z.2)
include hz h1 h2
theorem mul_1r : FVz (mulZ (anz z) (some 4607182418800017408, some 0)) (val z.1) (val z.2) := by
  unfold anz
  rw [ans_fin h1, ans_fin h2]
  exact ⟨fv_sub0 (fv_mul1 h1 hz.1) (fv_mul0 h2), fv_add0 (fv_mul0 h1) (fv_mul1 h2 hz.2)⟩
theorem mul_1l : FVz (mulZ (some 4607182418800017408, some 0) (anz z)) (val z.1) (val z.2) := by
  unfold anz
  rw [ans_fin h1, ans_fin h2]
  refine ⟨?_, ?_⟩
  · show FV (subA (mulA (some 4607182418800017408) (some z.1)) (mulA (some 0) (some z.2))) _
    rw [mulA_comm (some 4607182418800017408), mulA_comm (some 0)]
    exact fv_sub0 (fv_mul1 h1 hz.1) (fv_mul0 h2)
  · show FV (addA (mulA (some 4607182418800017408) (some z.2)) (mulA (some 0) (some z.1))) _
    rw [mulA_comm (some 4607182418800017408), mulA_comm (some 0)]
    exact fv_add0' (fv_mul1 h2 hz.2) (fv_mul0 h1)
omit hz in
theorem mul_0r : FVz (mulZ (anz z) (some 0, some 0)) 0 0 := by
  unfold anz
  rw [ans_fin h1, ans_fin h2]
  exact ⟨fv_sub0 (fv_mul0 h1) (fv_mul0 h2), fv_add0 (fv_mul0 h1) (fv_mul0 h2)⟩
omit hz in
theorem mul_0l : FVz (mulZ (some 0, some 0) (anz z)) 0 0 := by
  unfold anz
  rw [ans_fin h1, ans_fin h2]
  refine ⟨?_, ?_⟩
  · show FV (subA (mulA (some 0) (some z.1)) (mulA (some 0) (some z.2))) _
    rw [mulA_comm (some 0), mulA_comm (some 0)]
    exact fv_sub0 (fv_mul0 h1) (fv_mul0 h2)
  · show FV (addA (mulA (some 0) (some z.2)) (mulA (some 0) (some z.1))) _
    rw [mulA_comm (some 0), mulA_comm (some 0)]
    exact fv_add0 (fv_mul0 h2) (fv_mul0 h1)
end num
/-- a sum of which one summand is not nought -/
theorem sum_one {f : Nat → Cn} {i N : Nat} {a b : Int} (h0 : ∀ k, k < N → k ≠ i → FVz (f k) 0 0) (h1 : FVz (f i) a b) (n : Nat) (hn : n ≤ N) : (i < n → FVz (sumZ f n) a b) ∧ (n ≤ i → FVz (sumZ f n) 0 0) := by
  induction n with
  | zero => exact ⟨fun h => by omega, fun _ => ⟨⟨0, rfl, by unfold Fl.fin; decide, by decide⟩, ⟨0, rfl, by unfold Fl.fin; decide, by decide⟩⟩⟩
  | succ n ih =>
    have ih := ih (by omega)
    refine ⟨fun h => ?_, fun h => fvz_add0 (ih.2 (by omega)) (h0 n (by omega) (by omega))⟩
    by_cases e : i = n
    · subst e; exact fvz_add0 (ih.2 (Nat.le_refl _)) h1
    · exact fvz_add0' (ih.1 (by omega)) (h0 n (by omega) (by omega))
theorem fv_eq {o : Option Nat} {x y : Nat} (h : FV o (val y)) (hr : rep o x) (hy : fin y) : eqB x y = true := by
  obtain ⟨z, rfl, fz, vz⟩ := h
  rw [rep_is hr rfl]
  exact eqB_val fz hy vz
theorem fvz_eq {Z : Cn} {x y : Cw} (h : FVz Z (val y.1) (val y.2)) (hr : repz Z x) (h1 : fin y.1) (h2 : fin y.2) : equalW x y = true := by
  unfold equalW
  rw [fv_eq h.1 hr.1 h1, fv_eq h.2 hr.2 h2]; rfl
theorem idE_self (i : Nat) : idE i i = (some 4607182418800017408, some 0) := if_pos rfl
theorem idE_ne {i j : Nat} (h : i ≠ j) : idE i j = (some 0, some 0) := if_neg h
section ident
variable {r s : Nat} {xs zs : List Cw} (hx : okl xs) (hf : ∀ k, k < r * s → fin (zat xs k).1 ∧ fin (zat xs k).2)
include hx hf
/-- the identity ahead of a finite matrix, and behind it -/
theorem id_left (hz : repl (flat s (fun i j => sumZ (fun k => mulZ (flat r idE (i * r + k)) (anz (zat xs (k * s + j)))) r)) (r * s) zs) : ∀ k, k < r * s → equalW (zat zs k) (zat xs k) = true := by
  intro k hk
  have hs : 0 < s := Nat.pos_of_ne_zero (fun e => by rw [e, Nat.mul_zero] at hk; omega)
  have hi : k / s < r := Nat.div_lt_of_lt_mul (by rw [Nat.mul_comm]; exact hk)
  have hj : k % s < s := Nat.mod_lt _ hs
  have e : k / s * s + k % s = k := by rw [Nat.mul_comm]; exact Nat.div_add_mod k s
  have hr : repz (sumZ (fun t => mulZ (flat r idE (k / s * r + t)) (anz (zat xs (t * s + k % s)))) r) (zat zs k) := hz k hk
  rw [sumZ_congr (g := fun t => mulZ (idE (k / s) t) (anz (zat xs (t * s + k % s)))) (fun t ht => by rw [flat_at ht])] at hr
  refine fvz_eq ((sum_one (i := k / s) (N := r) ?_ ?_ r (Nat.le_refl _)).1 hi) hr (hf k hk).1 (hf k hk).2
  · intro t htr ht
    have h1 := hf (t * s + k % s) (place_lt htr hj)
    rw [idE_ne (Ne.symm ht)]
    exact mul_0l h1.1 h1.2
  · rw [idE_self, e]
    exact mul_1l (hx k) (hf k hk).1 (hf k hk).2
theorem id_right (hz : repl (flat s (fun i j => sumZ (fun k => mulZ (anz (zat xs (i * s + k))) (flat s idE (k * s + j))) s)) (r * s) zs) : ∀ k, k < r * s → equalW (zat zs k) (zat xs k) = true := by
  intro k hk
  have hs : 0 < s := Nat.pos_of_ne_zero (fun e => by rw [e, Nat.mul_zero] at hk; omega)
  have hi : k / s < r := Nat.div_lt_of_lt_mul (by rw [Nat.mul_comm]; exact hk)
  have hj : k % s < s := Nat.mod_lt _ hs
  have e : k / s * s + k % s = k := by rw [Nat.mul_comm]; exact Nat.div_add_mod k s
  have hr : repz (sumZ (fun t => mulZ (anz (zat xs (k / s * s + t))) (flat s idE (t * s + k % s))) s) (zat zs k) := hz k hk
  rw [sumZ_congr (g := fun t => mulZ (anz (zat xs (k / s * s + t))) (idE t (k % s))) (fun t ht => by rw [flat_at hj])] at hr
  refine fvz_eq ((sum_one (i := k % s) (N := s) ?_ ?_ s (Nat.le_refl _)).1 hj) hr (hf k hk).1 (hf k hk).2
  · intro t hts ht
    have h1 := hf (k / s * s + t) (place_lt hi hts)
    rw [idE_ne ht]
    exact mul_0r h1.1 h1.2
  · rw [idE_self, e]
    exact mul_1r (hx k) (hf k hk).1 (hf k hk).2
end ident
/-- a product of conjugates -/
theorem mul_con (X Y : Cn) (h1 : bdA X.2) (h2 : bdA Y.2) : (mulZ (conZ X) (conZ Y)).1 = (mulZ X Y).1 ∧ eqz (mulZ (conZ X) (conZ Y)).2 (negA (mulZ X Y).2) := ⟨mulRe_conj h1 h2, mulIm_conj h1 h2⟩
theorem sum_con {f g : Nat → Cn} (n : Nat) (hf : ∀ k, k < n → bdA (f k).2) (hg : ∀ k, k < n → bdA (g k).2) :
    (sumZ (fun k => mulZ (conZ (f k)) (conZ (g k))) n).1 = (sumZ (fun k => mulZ (f k) (g k)) n).1 ∧ eqz (sumZ (fun k => mulZ (conZ (f k)) (conZ (g k))) n).2 (negA (sumZ (fun k => mulZ (f k) (g k)) n).2) := by
  induction n with
  | zero => exact ⟨rfl, zero_eqz⟩
  | succ n ih =>
    have ih := ih (fun k hk => hf k (by omega)) (fun k hk => hg k (by omega))
    obtain ⟨m1, m2⟩ := mul_con (f n) (g n) (hf n (by omega)) (hg n (by omega))
    constructor
    · show addA _ (mulZ (conZ (f n)) (conZ (g n))).1 = addA _ (mulZ (f n) (g n)).1
      rw [ih.1, m1]
    · show eqz (addA _ (mulZ (conZ (f n)) (conZ (g n))).2) (negA (addA _ (mulZ (f n) (g n)).2))
      exact (ih.2.add' _).trans ((m2.add _).trans (addA_ng (sum_bd _ n).2 (bd_addA _ _)))
/-- the conjugate of a sum that is no NaN is equal to the sum of the products of conjugates -/
theorem con_eq {S Q : Cn} {p r q : Cw} (hp : repz S p) (hr : repz (conZ S) r) (hq : repz Q q) (e1 : Q.1 = S.1) (e2 : eqz Q.2 (negA S.2)) (n1 : nan p.1 = false) (n2 : nan p.2 = false) : equalW r q = true := by
  have k1 : nan r.1 = false := by
    have a := hr.1.2
    have b : ans p.1 = S.1 := hp.1.2
    have c : ans r.1 = S.1 := a
    cases hn : nan r.1
    · rfl
    · rw [← b] at c
      unfold ans at c
      rw [hn, n1] at c
      simp at c
  have k2 : nan r.2 = false := by
    have h1 := rep_ng hp.2
    have h2 : rep (negA S.2) r.2 := hr.2
    obtain ⟨h3, _⟩ := same_of h2 h1
    rw [h3, nan_ngW hp.2.1]; exact n2
  unfold equalW eqB
  rw [(eqz.refl S.1).order hr.1 (by rw [← e1]; exact hq.1) k1]
  have e3 : eqz (negA S.2) Q.2 := by
    rcases e2 with h | ⟨x, y, h1, h2, h3, h4⟩
    · exact Or.inl h.symm
    · exact Or.inr ⟨y, x, h2, h1, h4, h3⟩
  rw [e3.order hr.2 hq.2 k2]; rfl

end Go.Proofs.Ytibehhckaoookaa
