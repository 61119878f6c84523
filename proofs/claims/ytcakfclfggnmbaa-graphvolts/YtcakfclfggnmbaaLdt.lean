/-
  math.Ldexp of a whole number of at most 53 digits: exactly that number of a power of two.
-/
import Derived.Test.YtcakfclfggnmbaaRg
import Derived.Test.YtcakfclfggnmbaaPl
import Derived.Test.YtcakfclfggnmbaaMono
namespace Go.Proofs.Ytcakfclfggnmbaa
open Fl RowKit

def infC (x : Nat) : Bool := mg x == 9218868437227405312
theorem plc_max : plc 9218868437227405311 = 9218868437227405311 := by decide
theorem gt_max (x : Nat) : (FloatKind.f64.format.order (mg x) 9218868437227405311 == some .gt) = infC x := by
  cases hn : nan x
  · rw [order_gt (by rw [nan_mg]; exact hn) (by decide), plc_mg, plc_max]
    have := (by unfold nan at hn; simpa using hn : ¬ 9218868437227405312 < mg x)
    unfold infC; rw [Bool.eq_iff_iff]; simp; omega
  · rw [f64_double, order_eq, nan_mg, hn]
    have := (by unfold nan at hn; simpa using hn : 9218868437227405312 < mg x)
    unfold infC; rw [Bool.eq_iff_iff]; simp; omega
theorem nan_zero : nan 0 = false := by decide
theorem plc_zero : plc 0 = 0 := by decide
theorem mulV_of {x y s : Nat} (h : mulO x y = some s) (W : World) : mulV W x y = s := by unfold mulV fV; rw [h]
theorem pow_le_of {a b : Nat} (h : a ≤ b) : 2 ^ a ≤ 2 ^ b := Nat.pow_le_pow_right (by omega) h
theorem and_i64 (E : Nat) (h : E < 2048) : bits BinOp.and IntKind.i64 (E : Int) 2047 = (E : Int) := by
  show IntKind.i64.wrap ((BitVec.ofInt 64 (E : Int) &&& BitVec.ofInt 64 ((2047 : Nat) : Int)).toNat : Int) = _
  rw [BitVec.toNat_and, ofInt_u64 E (by omega), ofInt_u64 2047 (by omega), nat_mask11, Nat.mod_eq_of_lt h, IntKind.wrap_i64]
  omega
theorem fwords (m : Nat) (hm : 0 < m) (hm2 : m ≤ 9007199254740992) : ∃ E f, floatOfInt .f64 (m : Int) = E * 4503599627370496 + f ∧ f < 4503599627370496 ∧ 1023 ≤ E ∧ E ≤ 1076 ∧ (4503599627370496 + f) * 2 ^ (E - 1) = m * 2 ^ K74 := by
  have e0 : floatOfInt .f64 (m : Int) = Ieee.double.nearest false m (-1074 + ((K74 : Nat) : Int)) := by
    show Ieee.double.nearest (decide ((m : Int) < 0)) (m : Int).natAbs 0 = _
    have h1 : decide ((m : Int) < 0) = false := by simp
    have h2 : (m : Int).natAbs = m := Int.natAbs_natCast m
    have h3 : (0 : Int) = -1074 + ((K74 : Nat) : Int) := by decide
    rw [h1, h2, ← h3]
  have hrep : RpN (m * 2 ^ K74) := by
    rcases Nat.eq_or_lt_of_le hm2 with h | h
    · exact ⟨4503599627370496, K74 + 1, by rw [h, Nat.pow_succ]; omega, by omega⟩
    · exact ⟨m, K74, rfl, h⟩
  have hF := sz_rung (m * 2 ^ K74)
  rw [rn_exact hrep] at hF
  generalize hG : rung (m * 2 ^ K74) = G at hF
  have hKK : K74 = 1074 := rfl
  -- the size lies between two to the 1074 and two to the 1127
  have hlo : 2 ^ K74 ≤ sz G := by rw [hF]; exact Nat.le_mul_of_pos_left _ hm
  have hhi : sz G ≤ 2 ^ (K74 + 53) := by
    rw [hF, Nat.pow_add, Nat.mul_comm (2 ^ K74), show (2 : Nat) ^ 53 = 9007199254740992 by decide]; exact Nat.mul_le_mul_right _ hm2
  have sE : ∀ E : Nat, 1 ≤ E → sz (E * 4503599627370496) = 2 ^ (52 + (E - 1)) := by
    intro E hE
    unfold sz sig ex
    rw [if_neg (by omega), Nat.mul_mod_left, Nat.mul_div_cancel _ (by omega), Nat.pow_add]
  have sE1 : ∀ E : Nat, 1 ≤ E → E ≤ 1023 → sz (E * 4503599627370496) ≤ 2 ^ K74 := by intro E h1 h2; rw [sE E h1]; exact pow_le_of (by rw [hKK]; omega)
  have sE2 : ∀ E : Nat, 1076 ≤ E → 2 ^ (K74 + 53) ≤ sz (E * 4503599627370496) := by intro E h1; rw [sE E (by omega)]; exact pow_le_of (by rw [hKK]; omega)
  have g1 : 1023 * 4503599627370496 ≤ G := by
    rcases Nat.lt_or_ge G (1023 * 4503599627370496) with h | h
    · have h1 := sE1 1023 (by omega) (by omega)
      exact absurd (Nat.lt_of_lt_of_le (sz_mono h) h1) (Nat.not_lt.2 hlo)
    · exact h
  have g2 : G ≤ 1076 * 4503599627370496 := by
    rcases Nat.lt_or_ge (1076 * 4503599627370496) G with h | h
    · have h1 := sE2 1076 (by omega)
      exact absurd (Nat.lt_of_le_of_lt h1 (sz_mono h)) (Nat.not_lt.2 hhi)
    · exact h
  refine ⟨G / 4503599627370496, G % 4503599627370496, ?_, Nat.mod_lt _ (by omega), by omega, by omega, ?_⟩
  · rw [e0, nearest_eq, hG, Nat.min_eq_left (by omega)]
    show G = _; omega
  · have : sz G = (4503599627370496 + G % 4503599627370496) * 2 ^ (G / 4503599627370496 - 1) := by
      unfold sz sig ex; rw [if_neg (by omega)]
    rw [← this]; exact hF
/-- a word by its fields -/
theorem fields {E f : Nat} (hf : f < 4503599627370496) (hE : 1 ≤ E) (hE2 : E ≤ 2046) : fin (E * 4503599627370496 + f) ∧ ng (E * 4503599627370496 + f) = false ∧ mg (E * 4503599627370496 + f) = E * 4503599627370496 + f ∧ sig (E * 4503599627370496 + f) = 4503599627370496 + f ∧ ex (E * 4503599627370496 + f) = E - 1 := by
  have h1 : mg (E * 4503599627370496 + f) = E * 4503599627370496 + f := by unfold mg; omega
  refine ⟨by unfold fin; rw [h1]; omega, ?_, h1, ?_, ?_⟩
  · have : (E * 4503599627370496 + f) / 9223372036854775808 = 0 := by omega
    unfold ng; rw [this]; rfl
  · unfold sig; rw [if_neg (by omega)]; omega
  · unfold ex; omega
/-- times a power of two -/
theorem mul_two {c k G N : Nat} (hc : fin c) (hcn : ng c = false) (hcs : sig (mg c) = 2 ^ 52) (hck : ex (mg c) = k) (hG : fin G) (hGn : ng G = false) (hGs : 0 < sig (mg G))
    (hN : 2 ^ 52 * sig (mg G) * 2 ^ (52 + k + ex (mg G)) = N * 2 ^ K26g) (hN2 : rung N < 9218868437227405312) : mulO c G = some (rung N) := by
  rw [mul_eq hc hG, hcn, hGn, hcs, hck]
  have e : (-1074 + (k : Int) + (-1074 + (ex (mg G) : Int))) = -2200 + ((52 + k + ex (mg G) : Nat) : Int) := by omega
  rw [e, nearest2_eq _ _ _ (Nat.mul_pos (by decide) hGs), hN]
  rcases rung2_of N with h | h
  · rw [h, Nat.min_eq_left (by omega)]; rfl
  · exfalso
    rw [h, Nat.zero_mul] at hN
    have h1 : 0 < 2 ^ 52 * sig (mg G) := Nat.mul_pos (by decide) hGs
    have h2 : 0 < 2 ^ (52 + k + ex (mg G)) := Nat.two_pow_pos _
    have := Nat.mul_pos h1 h2
    omega


theorem and_low (F : Nat) (hF : F < 9223372036854775808) : F &&& 9227875636482146303 = F % 4503599627370496 := by
  have e : (9227875636482146303 : Nat) = 9223372036854775808 ||| 4503599627370495 := by decide
  have h1 := nat_bit 63 F
  rw [show (2 : Nat) ^ 63 = 9223372036854775808 by decide, Nat.div_eq_of_lt hF] at h1
  have h2 := Nat.and_two_pow_sub_one_eq_mod F 52
  rw [show (2 : Nat) ^ 52 - 1 = 4503599627370495 by decide, show (2 : Nat) ^ 52 = 4503599627370496 by decide] at h2
  rw [e, Nat.and_or_distrib_left, h1, h2]; simp
theorem ldbits (E f X : Nat) (hf : f < 4503599627370496) (hE : E < 2048) (hX : X < 2048) :
    (bits BinOp.or IntKind.u64 (bits BinOp.andNot IntKind.u64 ((E * 4503599627370496 + f : Nat) : Int) 9218868437227405312) ((X : Int) * 4503599627370496)).toNat = X * 4503599627370496 + f := by
  have h1 := u64_andNot_nat (E * 4503599627370496 + f) 9218868437227405312 (by omega) (by omega)
  have e1 : (E * 4503599627370496 + f) &&& (18446744073709551615 - 9218868437227405312) = f := by
    rw [show (18446744073709551615 - 9218868437227405312 : Nat) = 9227875636482146303 by decide, and_low _ (by omega)]; omega
  rw [e1] at h1
  have h2 := u64_or_nat f (X * 4503599627370496) (by omega) (by omega)
  have e2 : f ||| (X * 4503599627370496) = X * 4503599627370496 + f := by
    rw [Nat.or_comm]
    exact nat_join 52 (X * 4503599627370496) f (by rw [show (2 : Nat) ^ 52 = 4503599627370496 by decide]; omega) (by rw [show (2 : Nat) ^ 52 = 4503599627370496 by decide]; exact hf)
  rw [e2] at h2
  have h3 : bits BinOp.andNot IntKind.u64 ((E * 4503599627370496 + f : Nat) : Int) 9218868437227405312 = (f : Int) := h1
  have h4 : ((X : Int) * 4503599627370496) = ((X * 4503599627370496 : Nat) : Int) := by omega
  rw [h3, h4, h2]; exact Int.toNat_natCast _

theorem one_fields : fin 4607182418800017408 ∧ ng 4607182418800017408 = false ∧ sig (mg 4607182418800017408) = 2 ^ 52 ∧ ex (mg 4607182418800017408) = 1022 := ⟨by unfold fin; decide, by decide, by decide, by decide⟩
theorem tiny_fields : fin 4368491638549381120 ∧ ng 4368491638549381120 = false ∧ sig (mg 4368491638549381120) = 2 ^ 52 ∧ ex (mg 4368491638549381120) = 969 := ⟨by unfold fin; decide, by decide, by decide, by decide⟩
end Go.Proofs.Ytcakfclfggnmbaa
