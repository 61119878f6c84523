/-
  Conjugates through product, quotient and root; a number times 1: on answers; nothing of any program's text.
-/
import Derived.Test.YtcakfclfggnmbaaPf
import Derived.Test.YtcakfclfggnmbaaTp
namespace Go.Proofs.Ytcakfclfggnmbaa
open Fl

theorem eqz.order' {A B : Option Nat} {x y : Nat} (h : eqz A B) (hx : rep A x) (hy : rep B y) (hn : nan y = false) : eqB x y = true := by
  have hnx : nan x = false := by
    rcases h with rfl | ⟨u, v, rfl, rfl, h1, h2⟩
    · rw [(same_of hx hy).1]; exact hn
    · exact (ans_some hx.2).1
  unfold eqB; rw [h.order hx hy hnx]; rfl

theorem mulRe_conj {A B C D : Option Nat} (hB : bdA B) (hD : bdA D) : mulRe A (negA B) C (negA D) = mulRe A B C D := by
  unfold mulRe; rw [mulA_ng hB, mulA_ng' _ hD, negA_negA (bd_mulA _ _)]
theorem mulRe_conjz {A B C D : Option Nat} (hB : bdA B) (hD : bdA D) : eqz (mulRe A (negA B) C (negA D)) (mulRe A B C D) := Or.inl (mulRe_conj hB hD)
theorem mulIm_conj {A B C D : Option Nat} (hB : bdA B) (hD : bdA D) : eqz (mulIm A (negA B) C (negA D)) (negA (mulIm A B C D)) := by
  unfold mulIm; rw [mulA_ng hB, mulA_ng' _ hD]; exact addA_ng (bd_mulA _ _) (bd_mulA _ _)
theorem mulRe_comm (A B C D : Option Nat) : mulRe C D A B = mulRe A B C D := by unfold mulRe; rw [mulA_comm C A, mulA_comm D B]
theorem mulIm_comm (A B C D : Option Nat) : mulIm C D A B = mulIm A B C D := by unfold mulIm; rw [mulA_comm C B, mulA_comm D A, addA_comm]
theorem geA_conj {C D : Option Nat} (hD : bdA D) : geA (sizA C) (sizA (negA D)) = geA (sizA C) (sizA D) := by rw [sizA_ng hD]
theorem sum_opp_same {a b : Ieee.Datum} (hs : a.neg = b.neg) (hab : ∀ s t, a = .infinity s → b = .infinity t → s = t) : a.opposite.sum b.opposite = (a.sum b).map Ieee.Datum.opposite := by
  cases a with
  | nan s f => cases b <;> rfl
  | infinity s =>
    cases b with
    | nan t g => rfl
    | infinity t => cases s <;> cases t <;> rfl
    | number t n j => rfl
  | number s m i =>
    cases b with
    | nan t g => rfl
    | infinity t => rfl
    | number t n j =>
      change s = t at hs
      subst hs
      have hk : ∀ (s : Bool) (m up : Nat), Ieee.signed (!s) m up = -Ieee.signed s m up := by
        intro s m up; rw [signed_eq, signed_eq, sgn_not]
      show some (Ieee.Datum.number _ _ _) = some (Ieee.Datum.number _ _ _)
      simp only [hk]
      generalize Ieee.signed s m (i - min i j).toNat = u
      generalize Ieee.signed s n (j - min i j).toNat = v
      congr 2
      · by_cases h0 : u + v = 0
        · rw [if_pos (by omega), if_pos h0]; cases s <;> rfl
        · rw [if_neg (by omega), if_neg h0]
          by_cases h : u + v < 0
          · rw [decide_eq_true h, decide_eq_false (by omega)]; rfl
          · rw [decide_eq_false h, decide_eq_true (by omega)]; rfl
      · omega
theorem addO_ng_same {x y : Nat} (hx : x < 18446744073709551616) (hy : y < 18446744073709551616) (hs : ng x = ng y) : addO (ngW x) (ngW y) = (addO x y).map ngW := by
  unfold addO Ieee.Format.add
  rw [read_ngW hx, read_ngW hy, sum_opp_same (by rw [neg_read, neg_read]; exact hs) ?_, map_opp (sum_not_nan _ _)]
  intro s t h1 h2
  have e1 := neg_read x
  have e2 := neg_read y
  rw [h1] at e1
  rw [h2] at e2
  exact e1.trans (hs.trans e2.symm)
theorem addA_ng_same {A B : Option Nat} (hA : bdA A) (hB : bdA B) (hs : ∀ x y, A = some x → B = some y → ng x = ng y) : addA (negA A) (negA B) = negA (addA A B) := by
  cases A with
  | none => rfl
  | some a => cases B with
    | none => rfl
    | some b => exact addO_ng_same (hA a rfl).1 (hB b rfl).1 (hs a b rfl rfl)
theorem cr_sign (C D : Option Nat) : ∀ x y, mulA C (divA C D) = some x → D = some y → ng x = ng y := by
  intro x y h1 h2
  subst h2
  cases C with
  | none => cases h1
  | some c =>
    cases hr : divA (some c) (some y) with
    | none => rw [hr] at h1; cases h1
    | some r =>
      rw [hr] at h1
      rw [ng_mulO h1, ng_divO hr]
      cases ng c <;> cases ng y <;> rfl
theorem divRe_conj {A B C D : Option Nat} (hB : bdA B) (hD : bdA D) : eqz (divRe A (negA B) C (negA D)) (divRe A B C D) := by
  unfold divRe; rw [geA_conj hD]
  split
  · left; unfold divRe1; rw [divA_ng hD, mulA_ng hB, mulA_ng' _ (bd_divA _ _), negA_negA (bd_mulA _ _), mulA_ng hD, mulA_ng' _ (bd_divA _ _), negA_negA (bd_mulA _ _)]
  · unfold divRe2
    rw [divA_ng' _ hD, mulA_ng' _ (bd_divA _ _), mulA_ng' _ (bd_divA _ _), addA_ng_same (bd_mulA _ _) hD (cr_sign C D), divA_ng' _ (bd_addA _ _)]
    have h := (addA_ng (bd_mulA A (divA C D)) hB).div (addA (mulA C (divA C D)) D)
    rw [divA_ng (bd_addA _ _)] at h
    have h2 := h.neg (bd_divA _ _) (bd_negA (bd_divA _ _))
    rw [negA_negA (bd_divA _ _)] at h2
    exact h2
theorem divIm_conj {A B C D : Option Nat} (hB : bdA B) (hD : bdA D) : eqz (divIm A (negA B) C (negA D)) (negA (divIm A B C D)) := by
  unfold divIm; rw [geA_conj hD]
  split
  · unfold divIm1
    rw [divA_ng hD, mulA_ng' _ (bd_divA _ _), mulA_ng hD, mulA_ng' _ (bd_divA _ _), negA_negA (bd_mulA _ _), ← divA_ng (bd_subA _ _)]
    exact (subA_ng hB (bd_mulA _ _)).div _
  · unfold divIm2
    rw [divA_ng' _ hD, mulA_ng' _ (bd_divA _ _), mulA_ng' _ (bd_divA _ _), mulA_ng hB, negA_negA (bd_mulA _ _)]
    left
    rw [addA_ng_same (bd_mulA _ _) hD (cr_sign C D), divA_ng' _ (bd_addA _ _)]

theorem absA_conj {A B : Option Nat} (hB : bdA B) : absA A (negA B) = absA A B := by
  have h1 : infA (negA B) = infA B := by
    cases B with
    | none => rfl
    | some b => show infB (ngW b) = infB b; unfold infB; rw [mg_ngW (hB b rfl).1]
  have h2 : zeA (negA B) = zeA B := by
    cases B with
    | none => rfl
    | some b => show zeB (ngW b) = zeB b; unfold zeB; rw [mg_ngW (hB b rfl).1]
  unfold absA absG; rw [h1, h2, sizA_ng hB]
theorem zeA_neg {B : Option Nat} (hB : bdA B) : zeA (negA B) = zeA B := by
  cases B with
  | none => rfl
  | some b => show zeB (ngW b) = zeB b; unfold zeB; rw [mg_ngW (hB b rfl).1]
theorem sgA_neg {b : Nat} (hb : b < 18446744073709551616) : sgA (negA (some b)) = !sgA (some b) := ng_ngW hb
theorem sqRe_conj {A B : Option Nat} (hB : bdA B) : sqRe A (negA B) = sqRe A B := by
  have hn : (negA B).isNone = B.isNone := by cases B <;> rfl
  unfold sqRe sqU sqV; rw [hn, zeA_neg hB, absA_conj hB, divA_ng hB, sizA_ng (bd_divA _ _)]
theorem sqIm_conj {A B : Option Nat} (hB : bdA B) : sqIm A (negA B) = negA (sqIm A B) := by
  have hn : (negA B).isNone = B.isNone := by cases B <;> rfl
  have hv : bdA (sqV A B) := bd_sqrtA _
  have hu : sqU A (negA B) = sqU A B := by unfold sqU; rw [absA_conj hB]
  have hw : sqV A (negA B) = sqV A B := by unfold sqV; rw [absA_conj hB]
  unfold sqIm; rw [hn, zeA_neg hB, hu, hw, divA_ng hB]
  cases B with
  | none => cases A <;> rfl
  | some b =>
    rw [sgA_neg (hB b rfl).1]
    split
    · rfl
    · split
      · rfl
      · split
        · rfl
        · cases sgA (some b)
          · rfl
          · show sqV A (some b) = negA (negA (sqV A (some b))); rw [negA_negA hv]

/-- A finite number times 1. -/
theorem nearest_shift (s : Bool) (m k : Nat) (p : Int) : Ieee.double.nearest s (m * 2 ^ k) (p - (k : Int)) = Ieee.double.nearest s m p := by
  by_cases h0 : m = 0
  · subst h0; rw [Nat.zero_mul, nearest_zero, nearest_zero]
  · have hm : 0 < m := by omega
    have hmk : ¬ m * 2 ^ k = 0 := Nat.ne_of_gt (Nat.mul_pos hm (Nat.two_pow_pos _))
    unfold Ieee.Format.nearest
    rw [if_neg h0, if_neg hmk]
    simp only [d_least, d_bin, d_inf, cut_rne, Nat.shiftLeft_eq, log2_mul m k hm]
    have hl : p - (k : Int) + ((m.log2 + k : Nat) : Int) - (Ieee.double.fractionBits : Int) = p + (m.log2 : Int) - (Ieee.double.fractionBits : Int) := by omega
    rw [hl]
    generalize max (p + (m.log2 : Int) - (Ieee.double.fractionBits : Int)) (-1074) = L
    congr 3
    rcases Int.lt_or_le (p - (k : Int)) L with h1 | h1
    · rcases Int.lt_or_le p L with h2 | h2
      · have e1 : (p - (k : Int) - L).toNat = 0 := by omega
        have e2 : (p - L).toNat = 0 := by omega
        have e3 : (L - (p - (k : Int))).toNat = (L - p).toNat + k := by omega
        rw [e1, e2, e3, Nat.pow_zero, Nat.mul_one, Nat.mul_one, rne_scale m k _ (by omega), Nat.add_sub_cancel]
      · have e1 : (p - (k : Int) - L).toNat = 0 := by omega
        have e3 : (L - p).toNat = 0 := by omega
        have e4 : k = (p - L).toNat + (L - (p - (k : Int))).toNat := by omega
        rw [e1, e3, Nat.pow_zero, Nat.mul_one]
        generalize (L - (p - (k : Int))).toNat = d at *
        rw [e4, Nat.pow_add, ← Nat.mul_assoc, rne_scale _ d d (Nat.le_refl _), Nat.sub_self]
    · have e1 : (L - (p - (k : Int))).toNat = 0 := by omega
      have e2 : (L - p).toNat = 0 := by omega
      have e3 : (p - L).toNat = k + (p - (k : Int) - L).toNat := by omega
      rw [e1, e2, e3, Nat.pow_add, Nat.mul_assoc]
theorem rung_sz (r : Nat) : rung (sz r) = r := by
  apply sz_inj
  rw [sz_rung]
  exact rn_exact ⟨sig r, ex r, rfl, sig_lt r⟩
theorem word_self {x : Nat} (h : x < 18446744073709551616) : Ieee.double.word (ng x) (mg x) = x := by
  unfold Ieee.Format.word ng mg; rw [d_sw]
  rcases Nat.mod_two_eq_zero_or_one (x / 9223372036854775808) with h2 | h2
  · rw [h2]; simp only [show ((0 : Nat) == 1) = false from rfl, Bool.false_eq_true, if_false]; omega
  · rw [h2]; simp only [beq_self_eq_true, if_true]; omega
theorem nearest_read {x : Nat} (hx : fin x) (h : x < 18446744073709551616) : Ieee.double.nearest (ng x) (sig (mg x)) (-1074 + (ex (mg x) : Int)) = x := by
  rw [nearest_eq]
  have e : sig (mg x) * 2 ^ ex (mg x) = sz (mg x) := rfl
  rw [e, rung_sz, Nat.min_eq_left (by unfold fin at hx; omega), word_self h]
theorem mul_one {x : Nat} (hx : fin x) (h : x < 18446744073709551616) : mulO x 4607182418800017408 = some x := by
  rw [mul_eq hx (by unfold fin; decide)]
  have e1 : ng 4607182418800017408 = false := by decide
  have e2 : sig (mg 4607182418800017408) = 2 ^ 52 := by decide
  have e3 : ex (mg 4607182418800017408) = 1022 := by decide
  rw [e1, e2, e3, Bool.xor_false]
  have e4 : (-1074 + (ex (mg x) : Int) + (-1074 + ((1022 : Nat) : Int))) = -1074 + (ex (mg x) : Int) - ((52 : Nat) : Int) := by omega
  rw [e4, nearest_shift, nearest_read hx h]
theorem mul_zero {x : Nat} (hx : fin x) : ∃ z, mulO x 0 = some z ∧ mg z = 0 := by
  rw [mul_eq hx (by unfold fin; decide)]
  have e2 : sig (mg 0) = 0 := by decide
  rw [e2, Nat.mul_zero, nearest_zero]
  exact ⟨_, rfl, mg_word_zero _⟩
theorem val_zero {z : Nat} (h : mg z = 0) : val z = 0 := by unfold val; rw [h, sz_zero]; unfold sgn; split <;> rfl
theorem val_lt {x : Nat} (hx : fin x) : (val x).natAbs < szI := by unfold val; rw [sgn_abs]; exact sz_mono hx
theorem val_inj_plc {x y : Nat} (h : val x = val y) : plc x = plc y := by
  have h1 : sz (mg x) = sz (mg y) := by
    have := congrArg Int.natAbs h
    unfold val at this; rw [sgn_abs, sgn_abs] at this; exact this
  have h2 := sz_inj h1
  unfold val at h
  unfold plc
  rw [h2] at h ⊢
  rcases Nat.eq_zero_or_pos (mg y) with h0 | h0
  · rw [h0]; unfold sgn; split <;> split <;> rfl
  · have := sz_pos h0
    unfold sgn at *
    split at h <;> split at h <;> simp_all <;> omega
theorem eqB_val {x y : Nat} (hx : fin x) (hy : fin y) (h : val x = val y) : eqB x y = true := by
  unfold eqB
  rw [order_eqb (fin_not_nan hx) (fin_not_nan hy)]
  exact decide_eq_true (val_inj_plc h)
theorem sub_zero {x z : Nat} (hx : fin x) (hz : mg z = 0) : ∃ r, subO x z = some r ∧ fin r ∧ val r = val x := by
  have hv : val x - val z = val x := by rw [val_zero hz]; omega
  have hr : rnI (val x) = val x := rnI_exact (val_rep x)
  obtain ⟨r, h1, h2, h3⟩ := sub_fin hx (fin_zero hz) (by rw [hv, ← rn_abs, hr]; exact val_lt hx)
  exact ⟨r, h1, h2, by rw [h3, hv, hr]⟩
theorem zero_add {x z : Nat} (hx : fin x) (hz : mg z = 0) : ∃ r, addO z x = some r ∧ fin r ∧ val r = val x := by
  have hv : val z + val x = val x := by rw [val_zero hz]; omega
  have hr : rnI (val x) = val x := rnI_exact (val_rep x)
  obtain ⟨r, h1, h2, h3⟩ := add_fin (fin_zero hz) hx (by rw [hv, ← rn_abs, hr]; exact val_lt hx)
  exact ⟨r, h1, h2, by rw [h3, hv, hr]⟩
theorem times_one {x y re im : Nat} (hx : fin x) (hy : fin y) (lx : x < 18446744073709551616) (ly : y < 18446744073709551616)
    (h1 : rep (mulRe (ans x) (ans y) (some 4607182418800017408) (some 0)) re) (h2 : rep (mulIm (ans x) (ans y) (some 4607182418800017408) (some 0)) im) : eqB re x = true ∧ eqB im y = true := by
  obtain ⟨z1, e1, m1⟩ := mul_zero hy
  obtain ⟨z2, e2, m2⟩ := mul_zero hx
  obtain ⟨r1, f1, g1, v1⟩ := sub_zero hx m1
  obtain ⟨r2, f2, g2, v2⟩ := zero_add hy m2
  have k1 : mulRe (ans x) (ans y) (some 4607182418800017408) (some 0) = some r1 := by
    rw [ans_fin hx, ans_fin hy]
    show subA (mulO x 4607182418800017408) (mulO y 0) = _
    rw [mul_one hx lx, e1]; exact f1
  have k2 : mulIm (ans x) (ans y) (some 4607182418800017408) (some 0) = some r2 := by
    rw [ans_fin hx, ans_fin hy]
    show addA (mulO x 0) (mulO y 4607182418800017408) = _
    rw [mul_one hy ly, e2]; exact f2
  rw [k1] at h1
  rw [k2] at h2
  obtain ⟨_, rfl⟩ := ans_some h1.2
  obtain ⟨_, rfl⟩ := ans_some h2.2
  exact ⟨eqB_val g1 hx v1, eqB_val g2 hy v2⟩

/-- A nought's sign in a numerator: no more than a nought's sign in the answer. -/
theorem eqz.trans {A B C : Option Nat} (h : eqz A B) (k : eqz B C) : eqz A C := by
  rcases h with rfl | ⟨x, y, rfl, rfl, h1, h2⟩
  · exact k
  · rcases k with rfl | ⟨u, v, hu, rfl, k1, k2⟩
    · exact Or.inr ⟨x, y, rfl, rfl, h1, h2⟩
    · exact Or.inr ⟨x, v, rfl, rfl, h1, k2⟩
theorem sum_zero_eqz (s t : Bool) (i : Int) (b : Ieee.Datum) : eqz (((Ieee.Datum.number s 0 i).sum b).map Ieee.double.write) (((Ieee.Datum.number t 0 i).sum b).map Ieee.double.write) := by
  cases b with
  | nan u g => exact Or.inl rfl
  | infinity u => exact Or.inl rfl
  | number u n j =>
    have hz : ∀ (s : Bool) (up : Nat), Ieee.signed s 0 up = 0 := by
      intro s up; rw [signed_eq, Nat.zero_mul]; unfold sgn; split <;> rfl
    show eqz (some (Ieee.double.write _)) (some (Ieee.double.write _))
    simp only [hz]
    generalize Ieee.signed u n (j - min i j).toNat = v
    by_cases h0 : 0 + v = 0
    · right
      refine ⟨_, _, rfl, rfl, ?_, ?_⟩
      · rw [if_pos h0, h0]
        show mg (Ieee.double.nearest _ 0 _) = 0
        rw [nearest_zero, mg_word_zero]
      · rw [if_pos h0, h0]
        show mg (Ieee.double.nearest _ 0 _) = 0
        rw [nearest_zero, mg_word_zero]
    · left; rw [if_neg h0, if_neg h0]
theorem eqz.add' {A B : Option Nat} (h : eqz A B) (X : Option Nat) : eqz (addA A X) (addA B X) := by
  rcases h with rfl | ⟨x, y, rfl, rfl, h1, h2⟩
  · exact Or.inl rfl
  · cases X with
    | none => exact Or.inl rfl
    | some t =>
      show eqz (addO x t) (addO y t)
      unfold addO Ieee.Format.add; rw [read_zero h1, read_zero h2]; exact sum_zero_eqz _ _ _ _
theorem eqz.add {A B : Option Nat} (h : eqz A B) (X : Option Nat) : eqz (addA X A) (addA X B) := by
  rw [addA_comm X A, addA_comm X B]; exact h.add' X
theorem eqz.sub' {A B : Option Nat} (h : eqz A B) {X : Option Nat} (hX : bdA X) : eqz (subA A X) (subA B X) := by
  rw [subA_add _ hX, subA_add _ hX]; exact h.add' _
theorem eqz.sub {A B : Option Nat} (h : eqz A B) (hA : bdA A) (hB : bdA B) (X : Option Nat) : eqz (subA X A) (subA X B) := by
  rw [subA_add _ hA, subA_add _ hB]; exact (h.neg hA hB).add _
theorem zero_mul {t : Nat} {z : Nat} (h : mulO 0 t = some z) : mg z = 0 := by
  unfold mulO Ieee.Format.mul at h
  rw [read_zero (by decide : mg 0 = 0)] at h
  cases hr : Ieee.double.read t with
  | nan s f => rw [hr] at h; cases h
  | infinity s => rw [hr] at h; cases h
  | number s n p =>
    rw [hr] at h
    cases h
    show mg (Ieee.double.nearest _ (0 * n) _) = 0
    rw [Nat.zero_mul, nearest_zero, mg_word_zero]
theorem bd_0 : bdA (some 0) := fun x h => by cases h; exact ⟨by decide, by decide⟩
theorem bd_1 : bdA (some 4607182418800017408) := fun x h => by cases h; exact ⟨by decide, by decide⟩
theorem zero_eqz : eqz (some 0) (negA (some 0)) := Or.inr ⟨_, _, rfl, rfl, by decide, by decide⟩
theorem mul_zero_eqz (R : Option Nat) : eqz (mulA (some 0) R) (mulA (negA (some 0)) R) := by
  rw [mulA_ng bd_0]
  cases R with
  | none => exact Or.inl rfl
  | some r =>
    cases h : mulA (some 0) (some r) with
    | none => exact Or.inl rfl
    | some z => exact Or.inr ⟨_, _, rfl, rfl, zero_mul h, by rw [mg_ngW (bd_mulA _ _ _ h).1]; exact zero_mul h⟩
theorem divRe_zero (A C D : Option Nat) : eqz (divRe A (some 0) C D) (divRe A (negA (some 0)) C D) := by
  unfold divRe
  split
  · unfold divRe1; exact ((mul_zero_eqz _).add _).div _
  · unfold divRe2; exact (zero_eqz.add _).div _
theorem divIm_zero {A : Option Nat} (hA : bdA A) (C D : Option Nat) : eqz (divIm A (some 0) C D) (divIm A (negA (some 0)) C D) := by
  unfold divIm
  split
  · unfold divIm1; exact (zero_eqz.sub' (bd_mulA _ _)).div _
  · unfold divIm2; exact ((mul_zero_eqz _).sub' hA).div _
theorem invRe_conj {A B : Option Nat} (hB : bdA B) : eqz (divRe (some 4607182418800017408) (some 0) A (negA B)) (divRe (some 4607182418800017408) (some 0) A B) :=
  (divRe_zero _ _ _).trans (divRe_conj bd_0 hB)
theorem invIm_conj {A B : Option Nat} (hB : bdA B) : eqz (divIm (some 4607182418800017408) (some 0) A (negA B)) (negA (divIm (some 4607182418800017408) (some 0) A B)) :=
  (divIm_zero bd_1 _ _).trans (divIm_conj bd_0 hB)

end Go.Proofs.Ytcakfclfggnmbaa
