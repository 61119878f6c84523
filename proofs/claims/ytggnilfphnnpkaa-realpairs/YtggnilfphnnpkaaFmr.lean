/-
  The error that FMA tells of a product that is finite, by whole numbers of two to the power -2200.
-/
import Derived.Test.YtggnilfphnnpkaaWRound
namespace Go.Proofs.Ytggnilfphnnpkaa
open Fl

theorem sum_write2 (s t : Bool) (m n p q : Nat) :
    ∃ r, (((Ieee.Datum.number s m (-2200 + (p : Int))).sum (.number t n (-2200 + (q : Int)))).map Ieee.double.write) = some r ∧
      ((sgn s (m * 2 ^ p) + sgn t (n * 2 ^ q)).natAbs = 0 → r = Ieee.double.word (s && t) 0) ∧
      (0 < (sgn s (m * 2 ^ p) + sgn t (n * 2 ^ q)).natAbs → r = Ieee.double.word (decide (sgn s (m * 2 ^ p) + sgn t (n * 2 ^ q) < 0)) (min (rung2 (sgn s (m * 2 ^ p) + sgn t (n * 2 ^ q)).natAbs) 9218868437227405312)) := by
  unfold Ieee.Datum.sum
  simp only [signed_eq, Option.map_some]
  have e1 : (-2200 + (p : Int) - min (-2200 + (p : Int)) (-2200 + (q : Int))).toNat = p - min p q := by omega
  have e2 : (-2200 + (q : Int) - min (-2200 + (p : Int)) (-2200 + (q : Int))).toNat = q - min p q := by omega
  have e3 : min (-2200 + (p : Int)) (-2200 + (q : Int)) = -2200 + ((min p q : Nat) : Int) := by omega
  rw [e1, e2, e3]
  have e4 : (sgn s (m * 2 ^ (p - min p q)) + sgn t (n * 2 ^ (q - min p q))) * ((2 ^ min p q : Nat) : Int) = sgn s (m * 2 ^ p) + sgn t (n * 2 ^ q) := by
    rw [Int.add_mul, ← sgn_mul, ← sgn_mul, Nat.mul_assoc, Nat.mul_assoc, ← Nat.pow_add, ← Nat.pow_add, Nat.sub_add_cancel (Nat.min_le_left _ _), Nat.sub_add_cancel (Nat.min_le_right _ _)]
  generalize hT : sgn s (m * 2 ^ (p - min p q)) + sgn t (n * 2 ^ (q - min p q)) = T at *
  have hk : 0 < 2 ^ min p q := Nat.two_pow_pos _
  have e5 : (sgn s (m * 2 ^ p) + sgn t (n * 2 ^ q)).natAbs = T.natAbs * 2 ^ min p q := by rw [← e4, Int.natAbs_mul]; rfl
  rw [e5]
  refine ⟨_, rfl, ?_, ?_⟩
  · intro h
    have hT0 : T = 0 := by
      rcases Nat.mul_eq_zero.1 h with h | h
      · omega
      · omega
    subst hT0
    rw [if_pos rfl]
    show Ieee.double.nearest (s && t) 0 _ = _
    unfold Ieee.Format.nearest; rw [if_pos rfl]
  · intro h
    have hT0 : T ≠ 0 := by intro h0; subst h0; simp at h
    rw [if_neg hT0]
    show Ieee.double.nearest (decide (T < 0)) T.natAbs _ = _
    rw [nearest2_eq _ _ _ (by omega)]
    congr 1
    rw [← e4]
    have hk' : (0 : Int) < ((2 ^ min p q : Nat) : Int) := by omega
    rw [decide_eq_decide]
    constructor
    · intro h; exact Int.mul_neg_of_neg_of_pos h hk'
    · intro h
      rcases Int.lt_or_le T 0 with h3 | h3
      · exact h3
      · exact absurd (Int.mul_nonneg h3 (Int.le_of_lt hk')) (by omega)
/-- 3171 and 52, kept shut -/
def K71 : Nat := 3171
theorem low_small {n : Nat} (h : rung2 n < 9218868437227405312) : lowD n ≤ K71 := by
  unfold rung2 at h
  rcases Nat.lt_or_ge 1126 (lowD n) with h1 | h1
  · have := rne_ge2 h1; unfold K71; omega
  · unfold K71; omega
theorem rung2_small {n : Nat} (h : n ≤ 2 ^ K71) : rung2 n < 9218868437227405312 := by
  have h1 := rne_le2 n
  have h2 : n.log2 ≤ K71 := by
    rcases Nat.eq_zero_or_pos n with h0 | h0
    · subst h0; simp
    · exact (Nat.pow_le_pow_iff_right (by omega : 1 < 2)).1 (Nat.le_trans (log2_bd h0).1 h)
  unfold rung2
  have h3 : lowD n ≤ 3119 := by unfold lowD; unfold K71 at h2; omega
  omega
/-- what a rounded number is worth -/
theorem sz_rung2 (n : Nat) : sz (rung2 n) * 2 ^ K26 = rne n (lowD n) * 2 ^ lowD n := by
  have hrep : RpN (rne n (lowD n) * 2 ^ (lowD n - 1126)) := by
    rcases Nat.eq_or_lt_of_le (rne_le2 n) with h | h
    · exact ⟨4503599627370496, lowD n - 1126 + 1, by rw [h, Nat.pow_succ]; omega, by omega⟩
    · exact ⟨_, _, rfl, h⟩
  rw [rung2_parts, sz_rung, rn_exact hrep, Nat.mul_assoc, ← Nat.pow_add]
  have : lowD n - 1126 + K26 = lowD n := by
    have : 1126 ≤ lowD n := Nat.le_max_right _ _
    unfold K26; omega
  rw [this]
theorem abs_sgn (S : Bool) (A B C D : Nat) (h : 2 * A ≤ 2 * B + C ∧ 2 * B ≤ 2 * A + C) (h2 : C ≤ D) : (sgn S B - sgn S A).natAbs ≤ D := by
  unfold sgn; cases S <;> simp <;> omega
theorem near_word {S : Bool} {M Q p : Nat} (hm : 0 < M) (hp : Ieee.double.nearest S M (-2200 + (Q : Int)) = p) (fp : fin p) :
    ng p = S ∧ (sgn S (M * 2 ^ Q) - val p * ((2 ^ K26 : Nat) : Int)).natAbs ≤ 2 ^ K71 := by
  rw [nearest2_eq S M Q hm] at hp
  generalize M * 2 ^ Q = B at *
  have hr : rung2 B < 9218868437227405312 := by
    rw [← hp] at fp; unfold fin at fp; rw [word_mg S (by omega)] at fp; omega
  rw [Nat.min_eq_left (Nat.le_of_lt hr)] at hp
  have hr2 : rung2 B < 9223372036854775808 := Nat.lt_trans hr (by decide)
  have hl := low_small hr
  have hv : val p * ((2 ^ K26 : Nat) : Int) = sgn S (rne B (lowD B) * 2 ^ lowD B) := by
    rw [← hp, word_val S hr2, ← sgn_mul, sz_rung2]
  refine ⟨by rw [← hp]; exact word_ng S hr2, ?_⟩
  rw [hv]
  have hnear := rne_near B (lowD B)
  rw [Nat.mul_assoc] at hnear
  exact abs_sgn S _ _ _ _ hnear (Nat.pow_le_pow_right (by decide) hl)
/-- the error of a product -/
def EE (a b p : Nat) : Int := val a * val b * ((2 ^ 52 : Nat) : Int) - val p * ((2 ^ K26 : Nat) : Int)
theorem fma_round {a b p : Nat} (ha : fin a) (hb : fin b) (hp : mulO a b = some p) (fp : fin p) :
    ∃ e, fmaO a b (Op.negFloat .f64 p) = some e ∧ rung2 (EE a b p).natAbs < 9218868437227405312 ∧ 2 * (EE a b p).natAbs < MM ∧
      ((EE a b p).natAbs = 0 → e = 0) ∧ (0 < (EE a b p).natAbs → e = Ieee.double.word (decide (EE a b p < 0)) (rung2 (EE a b p).natAbs)) := by
  have pl := (mul_bd hp).1
  have fn := neg_fin pl fp
  rw [fma_eq ha hb fn, neg_mg pl, neg_ng pl]
  rw [mul_eq ha hb] at hp
  have hp := Option.some.inj hp
  have eP : (-1074 + (ex (mg a) : Int) + (-1074 + (ex (mg b) : Int))) = -2200 + ((52 + (ex (mg a) + ex (mg b)) : Nat) : Int) := by omega
  have eQ : -1074 + (ex (mg p) : Int) = -2200 + ((K26 + ex (mg p) : Nat) : Int) := by unfold K26; omega
  rw [eP] at hp
  rw [eP, eQ]
  obtain ⟨e, he, h0, h1⟩ := sum_write2 (ng a ^^ ng b) (!ng p) (sig (mg a) * sig (mg b)) (sig (mg p)) (52 + (ex (mg a) + ex (mg b))) (K26 + ex (mg p))
  have hV1 : val a * val b * ((2 ^ 52 : Nat) : Int) = sgn (ng a ^^ ng b) (sig (mg a) * sig (mg b) * 2 ^ (52 + (ex (mg a) + ex (mg b)))) := by
    have e : sz (mg a) * sz (mg b) * 2 ^ 52 = sig (mg a) * sig (mg b) * 2 ^ (52 + (ex (mg a) + ex (mg b))) := by
      unfold sz; rw [Nat.pow_add, Nat.pow_add, Nat.mul_comm (2 ^ 52)]
      rw [← Nat.mul_assoc (sig (mg a) * sig (mg b)), Nat.mul_mul_mul_comm]
    rw [← e, sgn_mul, sgn_xor]; rfl
  have hV2 : val p * ((2 ^ K26 : Nat) : Int) = sgn (ng p) (sig (mg p) * 2 ^ (K26 + ex (mg p))) := by
    unfold val sz; rw [← sgn_mul, Nat.mul_assoc, ← Nat.pow_add, Nat.add_comm K26]
  have hE : sgn (ng a ^^ ng b) (sig (mg a) * sig (mg b) * 2 ^ (52 + (ex (mg a) + ex (mg b)))) + sgn (!ng p) (sig (mg p) * 2 ^ (K26 + ex (mg p))) = EE a b p := by
    unfold EE; rw [hV1, hV2, sgn_not]; omega
  rw [hE] at h0 h1
  -- what p is
  have hpn : ng p = (ng a ^^ ng b) ∧ (EE a b p).natAbs ≤ 2 ^ K71 := by
    generalize hS : (ng a ^^ ng b) = S at *
    generalize hM : sig (mg a) * sig (mg b) = M at *
    generalize hQ : 52 + (ex (mg a) + ex (mg b)) = Q at *
    have hEE : EE a b p = sgn S (M * 2 ^ Q) - val p * ((2 ^ K26 : Nat) : Int) := by unfold EE; rw [hV1]
    rcases Nat.eq_zero_or_pos M with hm | hm
    · subst hm
      have hp0 : p = Ieee.double.word S 0 := by rw [← hp]; unfold Ieee.Format.nearest; rw [if_pos rfl]
      refine ⟨by rw [hp0]; exact word_ng S (by omega), ?_⟩
      rw [hEE, hp0, val_word_zero]
      have : sgn S (0 * 2 ^ Q) = 0 := by rw [Nat.zero_mul]; unfold sgn; cases S <;> rfl
      rw [this]; simp
    · obtain ⟨g1, g2⟩ := near_word hm hp fp
      exact ⟨g1, by rw [hEE]; exact g2⟩
  have hsmall := hpn.2
  have hr := rung2_small hsmall
  refine ⟨e, he, hr, ?_, ?_, ?_⟩
  · have : 2 * 2 ^ K71 < MM := by
      rw [MM_pow, Nat.mul_comm, ← Nat.pow_succ]; exact Nat.pow_lt_pow_right (by omega) (by unfold K71 KMM; omega)
    omega
  · intro h
    rw [h0 h, hpn.1]
    have : ((ng a ^^ ng b) && !(ng a ^^ ng b)) = false := by cases (ng a ^^ ng b) <;> rfl
    rw [this, word_if]; rfl
  · intro h
    rw [h1 h, Nat.min_eq_left (by omega)]

end Go.Proofs.Ytggnilfphnnpkaa
