/-
  math.Ldexp of a whole number of at most 53 digits: exactly that number of a power of two.
-/
import Derived.Test.YtnmibhgfcepddaaRg
import Derived.Test.YtnmibhgfcepddaaPl
import Derived.Test.YtnmibhgfcepddaaMono
namespace Go.Proofs.Ytnmibhgfcepddaa
open Fl RowKit

theorem mabs_any (x : Nat) (w : World) (hx : x < 18446744073709551616) :
    Calls Try.prog 69 #[.float .f64 x] w fun e w' => e = .returned (.float .f64 (mg x)) ∧ w' = w := by
  have ha := andNot_sign x hx
  go_enter Try.func69, Try.ntmps69
  go_wp2
  go_ret
  exact ⟨retf (by simp), rfl⟩
def infC (x : Nat) : Bool := mg x == 9218868437227405312
theorem plc_max : plc 9218868437227405311 = 9218868437227405311 := by decide
theorem gt_max (x : Nat) : (FloatKind.f64.format.order (mg x) 9218868437227405311 == some .gt) = infC x := by
  cases hn : nan x
  · rw [order_gt (by rw [nan_mg]; exact hn) (by decide), plc_mg, plc_max]
    have := (by unfold nan at hn; simpa using hn : ¬ 9218868437227405312 < mg x)
    unfold infC; rw [Bool.eq_iff_iff]; simp; omega
  · rw [f64_double, order_eq, nan_mg, hn]
    have := (by unfold nan at hn; simpa using hn : 9218868437227405312 < mg x)
    unfold infC; rw [Bool.eq_iff_iff]; simp; omega
theorem isInf_any (x : Nat) (w : World) (hx : x < 18446744073709551616) :
    Calls Try.prog 58 #[.float .f64 x, .int .i64 0] w fun e w' => e = .returned (.bool (infC x)) ∧ w' = w := by
  have hg := gt_max x
  go_enter Try.func58, Try.ntmps58
  go_wp2_with (go_at_call 69; refine (mabs_any _ _ hx).mono ?_; rintro e w' ⟨rfl, rfl⟩)
  go_ret
  exact ⟨rfl, rfl⟩

theorem nan_zero : nan 0 = false := by decide
theorem plc_zero : plc 0 = 0 := by decide
theorem mulV_of {x y s : Nat} (h : mulO x y = some s) (W : World) : mulV W x y = s := by unfold mulV fV; rw [h]
theorem pow_le_of {a b : Nat} (h : a ≤ b) : 2 ^ a ≤ 2 ^ b := Nat.pow_le_pow_right (by omega) h
theorem and_i64 (E : Nat) (h : E < 2048) : bits BinOp.and IntKind.i64 (E : Int) 2047 = (E : Int) := by
  show IntKind.i64.wrap ((BitVec.ofInt 64 (E : Int) &&& BitVec.ofInt 64 ((2047 : Nat) : Int)).toNat : Int) = _
  rw [BitVec.toNat_and, ofInt_u64 E (by omega), ofInt_u64 2047 (by omega), nat_mask11, Nat.mod_eq_of_lt h, IntKind.wrap_i64]
  omega
theorem fwords (m : Nat) (hm : 0 < m) (hm2 : m ≤ 9007199254740992) : ∃ E f, floatOfInt .f64 (m : Int) = E * 4503599627370496 + f ∧ f < 4503599627370496 ∧ 1023 ≤ E ∧ E ≤ 1076 ∧ (4503599627370496 + f) * 2 ^ (E - 1) = m * 2 ^ K74 := by
  have e0 : floatOfInt .f64 (m : Int) = Ieee.double.nearest false m (-1074 + ((K74 : Nat) : Int)) := by
    show Ieee.double.nearest (decide ((m : Int) < 0)) (m : Int).natAbs 0 = _
    have h1 : decide ((m : Int) < 0) = false := by simp
    have h2 : (m : Int).natAbs = m := Int.natAbs_natCast m
    have h3 : (0 : Int) = -1074 + ((K74 : Nat) : Int) := by decide
    rw [h1, h2, ← h3]
  have hrep : RpN (m * 2 ^ K74) := by
    rcases Nat.eq_or_lt_of_le hm2 with h | h
    · exact ⟨4503599627370496, K74 + 1, by rw [h, Nat.pow_succ]; omega, by omega⟩
    · exact ⟨m, K74, rfl, h⟩
  have hF := sz_rung (m * 2 ^ K74)
  rw [rn_exact hrep] at hF
  generalize hG : rung (m * 2 ^ K74) = G at hF
  have hKK : K74 = 1074 := rfl
  -- the size lies between two to the 1074 and two to the 1127
  have hlo : 2 ^ K74 ≤ sz G := by rw [hF]; exact Nat.le_mul_of_pos_left _ hm
  have hhi : sz G ≤ 2 ^ (K74 + 53) := by
    rw [hF, Nat.pow_add, Nat.mul_comm (2 ^ K74), show (2 : Nat) ^ 53 = 9007199254740992 by decide]; exact Nat.mul_le_mul_right _ hm2
  have sE : ∀ E : Nat, 1 ≤ E → sz (E * 4503599627370496) = 2 ^ (52 + (E - 1)) := by
    intro E hE
    unfold sz sig ex
    rw [if_neg (by omega), Nat.mul_mod_left, Nat.mul_div_cancel _ (by omega), Nat.pow_add]
  have sE1 : ∀ E : Nat, 1 ≤ E → E ≤ 1023 → sz (E * 4503599627370496) ≤ 2 ^ K74 := by intro E h1 h2; rw [sE E h1]; exact pow_le_of (by rw [hKK]; omega)
  have sE2 : ∀ E : Nat, 1076 ≤ E → 2 ^ (K74 + 53) ≤ sz (E * 4503599627370496) := by intro E h1; rw [sE E (by omega)]; exact pow_le_of (by rw [hKK]; omega)
  have g1 : 1023 * 4503599627370496 ≤ G := by
    rcases Nat.lt_or_ge G (1023 * 4503599627370496) with h | h
    · have h1 := sE1 1023 (by omega) (by omega)
      exact absurd (Nat.lt_of_lt_of_le (sz_mono h) h1) (Nat.not_lt.2 hlo)
    · exact h
  have g2 : G ≤ 1076 * 4503599627370496 := by
    rcases Nat.lt_or_ge (1076 * 4503599627370496) G with h | h
    · have h1 := sE2 1076 (by omega)
      exact absurd (Nat.lt_of_le_of_lt h1 (sz_mono h)) (Nat.not_lt.2 hhi)
    · exact h
  refine ⟨G / 4503599627370496, G % 4503599627370496, ?_, Nat.mod_lt _ (by omega), by omega, by omega, ?_⟩
  · rw [e0, nearest_eq, hG, Nat.min_eq_left (by omega)]
    show G = _; omega
  · have : sz G = (4503599627370496 + G % 4503599627370496) * 2 ^ (G / 4503599627370496 - 1) := by
      unfold sz sig ex; rw [if_neg (by omega)]
    rw [← this]; exact hF
/-- a word by its fields -/
theorem fields {E f : Nat} (hf : f < 4503599627370496) (hE : 1 ≤ E) (hE2 : E ≤ 2046) : fin (E * 4503599627370496 + f) ∧ ng (E * 4503599627370496 + f) = false ∧ mg (E * 4503599627370496 + f) = E * 4503599627370496 + f ∧ sig (E * 4503599627370496 + f) = 4503599627370496 + f ∧ ex (E * 4503599627370496 + f) = E - 1 := by
  have h1 : mg (E * 4503599627370496 + f) = E * 4503599627370496 + f := by unfold mg; omega
  refine ⟨by unfold fin; rw [h1]; omega, ?_, h1, ?_, ?_⟩
  · have : (E * 4503599627370496 + f) / 9223372036854775808 = 0 := by omega
    unfold ng; rw [this]; rfl
  · unfold sig; rw [if_neg (by omega)]; omega
  · unfold ex; omega
/-- times a power of two -/
theorem mul_two {c k G N : Nat} (hc : fin c) (hcn : ng c = false) (hcs : sig (mg c) = 2 ^ 52) (hck : ex (mg c) = k) (hG : fin G) (hGn : ng G = false) (hGs : 0 < sig (mg G))
    (hN : 2 ^ 52 * sig (mg G) * 2 ^ (52 + k + ex (mg G)) = N * 2 ^ K26g) (hN2 : rung N < 9218868437227405312) : mulO c G = some (rung N) := by
  rw [mul_eq hc hG, hcn, hGn, hcs, hck]
  have e : (-1074 + (k : Int) + (-1074 + (ex (mg G) : Int))) = -2200 + ((52 + k + ex (mg G) : Nat) : Int) := by omega
  rw [e, nearest2_eq _ _ _ (Nat.mul_pos (by decide) hGs), hN]
  rcases rung2_of N with h | h
  · rw [h, Nat.min_eq_left (by omega)]; rfl
  · exfalso
    rw [h, Nat.zero_mul] at hN
    have h1 : 0 < 2 ^ 52 * sig (mg G) := Nat.mul_pos (by decide) hGs
    have h2 : 0 < 2 ^ (52 + k + ex (mg G)) := Nat.two_pow_pos _
    have := Nat.mul_pos h1 h2
    omega


theorem and_low (F : Nat) (hF : F < 9223372036854775808) : F &&& 9227875636482146303 = F % 4503599627370496 := by
  have e : (9227875636482146303 : Nat) = 9223372036854775808 ||| 4503599627370495 := by decide
  have h1 := nat_bit 63 F
  rw [show (2 : Nat) ^ 63 = 9223372036854775808 by decide, Nat.div_eq_of_lt hF] at h1
  have h2 := Nat.and_two_pow_sub_one_eq_mod F 52
  rw [show (2 : Nat) ^ 52 - 1 = 4503599627370495 by decide, show (2 : Nat) ^ 52 = 4503599627370496 by decide] at h2
  rw [e, Nat.and_or_distrib_left, h1, h2]; simp
theorem ldbits (E f X : Nat) (hf : f < 4503599627370496) (hE : E < 2048) (hX : X < 2048) :
    (bits BinOp.or IntKind.u64 (bits BinOp.andNot IntKind.u64 ((E * 4503599627370496 + f : Nat) : Int) 9218868437227405312) ((X : Int) * 4503599627370496)).toNat = X * 4503599627370496 + f := by
  have h1 := u64_andNot_nat (E * 4503599627370496 + f) 9218868437227405312 (by omega) (by omega)
  have e1 : (E * 4503599627370496 + f) &&& (18446744073709551615 - 9218868437227405312) = f := by
    rw [show (18446744073709551615 - 9218868437227405312 : Nat) = 9227875636482146303 by decide, and_low _ (by omega)]; omega
  rw [e1] at h1
  have h2 := u64_or_nat f (X * 4503599627370496) (by omega) (by omega)
  have e2 : f ||| (X * 4503599627370496) = X * 4503599627370496 + f := by
    rw [Nat.or_comm]
    exact nat_join 52 (X * 4503599627370496) f (by rw [show (2 : Nat) ^ 52 = 4503599627370496 by decide]; omega) (by rw [show (2 : Nat) ^ 52 = 4503599627370496 by decide]; exact hf)
  rw [e2] at h2
  have h3 : bits BinOp.andNot IntKind.u64 ((E * 4503599627370496 + f : Nat) : Int) 9218868437227405312 = (f : Int) := h1
  have h4 : ((X : Int) * 4503599627370496) = ((X * 4503599627370496 : Nat) : Int) := by omega
  rw [h3, h4, h2]; exact Int.toNat_natCast _

set_option maxRecDepth 100000 in
theorem ldexp_hi (E f e1 R : Nat) (w : World) (hf : f < 4503599627370496) (hE : 1023 ≤ E) (hE2 : E ≤ 1076) (hs : 1075 ≤ E + e1) (hs2 : E + e1 ≤ 3120) (hR : mulO 4607182418800017408 ((E + e1 - 1074) * 4503599627370496 + f) = some R) :
    Calls Try.prog 27 #[.float .f64 (E * 4503599627370496 + f), .int .i64 ((e1 : Int) - 1074)] w fun e w' => ∃ n, e = .returned (.float .f64 R) ∧ w' = w.drewN n := by
  obtain ⟨b1, b2, b3, _, _⟩ := fields hf (show 1 ≤ E by omega) (show E ≤ 2046 by omega)
  have o1 : (FloatKind.f64.format.order (E * 4503599627370496 + f) 0 == some .eq) = false := by
    rw [order_eqb (fin_not_nan b1) nan_zero, plc_zero]; unfold plc; rw [b2, b3]; simp [sgn]; omega
  have o2 := order_num (fin_not_nan b1)
  have i1 : infC (E * 4503599627370496 + f) = false := by unfold infC; rw [b3]; simp; omega
  have l1 : E * 4503599627370496 + f < 18446744073709551616 := by omega
  have o3 : (FloatKind.f64.format.order (mg (E * 4503599627370496 + f)) 4503599627370496 == some .lt) = false := by
    rw [b3, order_lt (fin_not_nan b1) (by decide), show plc 4503599627370496 = 4503599627370496 by decide]; unfold plc; rw [b2, b3]; simp [sgn]; omega
  have d1 : ((E * 4503599627370496 + f : Nat) : Int) / 4503599627370496 = (E : Int) := by omega
  have hb := ldbits E f (E + e1 - 1074) hf (by omega) (by omega)
  have hx : ((e1 : Int) - 1074 + ((E : Int) - 1023) + 1023) = (((E + e1 - 1074) : Nat) : Int) := by omega
  rw [← hx] at hb
  have mv := mulV_of hR
  obtain ⟨F, hF⟩ : ∃ F, F = E * 4503599627370496 + f := ⟨_, rfl⟩
  rw [← hF] at o1 o2 i1 l1 o3 d1 hb ⊢
  have hand := and_i64 E (by omega)
  have HB : Hid ((bits BinOp.or IntKind.u64 (bits BinOp.andNot IntKind.u64 (F : Int) 9218868437227405312) ((((e1 : Int) - 1074 + ((E : Int) - 1023) + 1023)) * 4503599627370496)).toNat = (E + e1 - 1074) * 4503599627370496 + f) := hb
  clear hF b1 b2 b3 hb hx hR
  go_enter Try.func27, Try.ntmps27
  go_wp2_with (first
    | (go_at_call 58; refine (isInf_any _ _ l1).mono ?_; rintro e w' ⟨rfl, rfl⟩)
    | (go_at_call 69; refine (mabs_any _ _ l1).mono ?_; rintro e w' ⟨rfl, rfl⟩)
    | go_in)
  go_ret
  exact ⟨_, retf (by rw [HB.out]; exact mv _), rfl⟩

set_option maxRecDepth 100000 in
theorem ldexp_lo (E f e1 R : Nat) (w : World) (hf : f < 4503599627370496) (hE : 1023 ≤ E) (hE2 : E ≤ 1076) (hs : E + e1 ≤ 1074) (_ : E + e1 ≤ 3120) (hR : mulO 4368491638549381120 ((E + e1 - 1021) * 4503599627370496 + f) = some R) :
    Calls Try.prog 27 #[.float .f64 (E * 4503599627370496 + f), .int .i64 ((e1 : Int) - 1074)] w fun e w' => ∃ n, e = .returned (.float .f64 R) ∧ w' = w.drewN n := by
  obtain ⟨b1, b2, b3, _, _⟩ := fields hf (show 1 ≤ E by omega) (show E ≤ 2046 by omega)
  have o1 : (FloatKind.f64.format.order (E * 4503599627370496 + f) 0 == some .eq) = false := by
    rw [order_eqb (fin_not_nan b1) nan_zero, plc_zero]; unfold plc; rw [b2, b3]; simp [sgn]; omega
  have o2 := order_num (fin_not_nan b1)
  have i1 : infC (E * 4503599627370496 + f) = false := by unfold infC; rw [b3]; simp; omega
  have l1 : E * 4503599627370496 + f < 18446744073709551616 := by omega
  have o3 : (FloatKind.f64.format.order (mg (E * 4503599627370496 + f)) 4503599627370496 == some .lt) = false := by
    rw [b3, order_lt (fin_not_nan b1) (by decide), show plc 4503599627370496 = 4503599627370496 by decide]; unfold plc; rw [b2, b3]; simp [sgn]; omega
  have d1 : ((E * 4503599627370496 + f : Nat) : Int) / 4503599627370496 = (E : Int) := by omega
  have hb := ldbits E f (E + e1 - 1021) hf (by omega) (by omega)
  have hx : ((e1 : Int) - 1074 + ((E : Int) - 1023) + 53 + 1023) = (((E + e1 - 1021) : Nat) : Int) := by omega
  rw [← hx] at hb
  have mv := mulV_of hR
  obtain ⟨F, hF⟩ : ∃ F, F = E * 4503599627370496 + f := ⟨_, rfl⟩
  rw [← hF] at o1 o2 i1 l1 o3 d1 hb ⊢
  have hand := and_i64 E (by omega)
  have HB : Hid ((bits BinOp.or IntKind.u64 (bits BinOp.andNot IntKind.u64 (F : Int) 9218868437227405312) ((((e1 : Int) - 1074 + ((E : Int) - 1023) + 53 + 1023)) * 4503599627370496)).toNat = (E + e1 - 1021) * 4503599627370496 + f) := hb
  clear hF b1 b2 b3 hb hx hR
  go_enter Try.func27, Try.ntmps27
  go_wp2_with (first
    | (go_at_call 58; refine (isInf_any _ _ l1).mono ?_; rintro e w' ⟨rfl, rfl⟩)
    | (go_at_call 69; refine (mabs_any _ _ l1).mono ?_; rintro e w' ⟨rfl, rfl⟩)
    | go_in)
  go_ret
  exact ⟨_, retf (by rw [HB.out]; exact mv _), rfl⟩

theorem one_fields : fin 4607182418800017408 ∧ ng 4607182418800017408 = false ∧ sig (mg 4607182418800017408) = 2 ^ 52 ∧ ex (mg 4607182418800017408) = 1022 := ⟨by unfold fin; decide, by decide, by decide, by decide⟩
theorem tiny_fields : fin 4368491638549381120 ∧ ng 4368491638549381120 = false ∧ sig (mg 4368491638549381120) = 2 ^ 52 ∧ ex (mg 4368491638549381120) = 969 := ⟨by unfold fin; decide, by decide, by decide, by decide⟩
/-- Ldexp of a whole number -/
theorem ldexp_any (m e1 : Nat) (w : World) (hm : 0 < m) (hm2 : m ≤ 9007199254740992) (hN : rung (m * 2 ^ e1) < 9218868437227405312) (hrep : RpN (m * 2 ^ e1)) :
    Calls Try.prog 27 #[.float .f64 (floatOfInt .f64 (m : Int)), .int .i64 ((e1 : Int) - 1074)] w fun e w' => ∃ n, e = .returned (.float .f64 (rung (m * 2 ^ e1))) ∧ w' = w.drewN n := by
  obtain ⟨E, f, hF, hf, hE1, hE2, hval⟩ := fwords m hm hm2
  rw [hF]
  -- the size of what comes out
  have hsz := sz_rung (m * 2 ^ e1)
  rw [rn_exact hrep] at hsz
  have hS : E + e1 ≤ 3120 := by
    rcases Nat.lt_or_ge 3120 (E + e1) with h | h
    · exfalso
      have h1 : sz (rung (m * 2 ^ e1)) < sz 9218868437227405312 := sz_mono hN
      have h2 : sz 9218868437227405312 = 2 ^ (52 + (HE - 50)) := by
        have e1' : sig 9218868437227405312 = 2 ^ 52 := by decide
        have e2' : ex 9218868437227405312 = HE - 50 := by decide
        unfold sz; rw [e1', e2', Nat.pow_add]
      rw [hsz, h2] at h1
      have h3 : m * 2 ^ e1 * 2 ^ K74 = (4503599627370496 + f) * 2 ^ (E - 1 + e1) := by
        rw [Nat.mul_right_comm, ← hval, Nat.mul_assoc, ← Nat.pow_add]
      have h4 : m * 2 ^ e1 * 2 ^ K74 < 2 ^ (52 + (HE - 50)) * 2 ^ K74 := (Nat.mul_lt_mul_right (Nat.two_pow_pos _)).2 h1
      rw [h3, ← Nat.pow_add] at h4
      have h5 : 2 ^ 52 * 2 ^ (E - 1 + e1) ≤ (4503599627370496 + f) * 2 ^ (E - 1 + e1) := Nat.mul_le_mul_right _ (by rw [show (2 : Nat) ^ 52 = 4503599627370496 by decide]; omega)
      rw [← Nat.pow_add] at h5
      have h6 : 2 ^ (52 + (HE - 50) + K74) ≤ 2 ^ (52 + (E - 1 + e1)) := pow_le_of (by unfold HE K74; omega)
      omega
    · exact h
  rcases Nat.lt_or_ge (E + e1) 1075 with hs | hs
  · obtain ⟨c1, c2, c3, c4⟩ := tiny_fields
    obtain ⟨g1, g2, g3, g4, g5⟩ := fields hf (show 1 ≤ E + e1 - 1021 by omega) (show E + e1 - 1021 ≤ 2046 by omega)
    refine ldexp_lo E f e1 _ w hf hE1 hE2 (by omega) hS (mul_two c1 c2 c3 c4 g1 g2 (by rw [g3, g4]; omega) ?_ hN)
    rw [g3, g4, g5]
    have e1' : 2 ^ 52 * (4503599627370496 + f) * 2 ^ (52 + 969 + (E + e1 - 1021 - 1)) = (4503599627370496 + f) * 2 ^ (E - 1) * 2 ^ (e1 + 52) := by
      rw [Nat.mul_comm (2 ^ 52), Nat.mul_assoc, Nat.mul_assoc, ← Nat.pow_add, ← Nat.pow_add]
      have : 52 + (52 + 969 + (E + e1 - 1021 - 1)) = E - 1 + (e1 + 52) := by omega
      rw [this]
    have e2' : K74 + (e1 + 52) = e1 + K26g := by unfold K74 K26g; omega
    rw [e1', hval, Nat.mul_assoc, ← Nat.pow_add, e2', Nat.pow_add, Nat.mul_assoc]
  · obtain ⟨c1, c2, c3, c4⟩ := one_fields
    obtain ⟨g1, g2, g3, g4, g5⟩ := fields hf (show 1 ≤ E + e1 - 1074 by omega) (show E + e1 - 1074 ≤ 2046 by omega)
    refine ldexp_hi E f e1 _ w hf hE1 hE2 hs hS (mul_two c1 c2 c3 c4 g1 g2 (by rw [g3, g4]; omega) ?_ hN)
    rw [g3, g4, g5]
    have e1' : 2 ^ 52 * (4503599627370496 + f) * 2 ^ (52 + 1022 + (E + e1 - 1074 - 1)) = (4503599627370496 + f) * 2 ^ (E - 1) * 2 ^ (e1 + 52) := by
      rw [Nat.mul_comm (2 ^ 52), Nat.mul_assoc, Nat.mul_assoc, ← Nat.pow_add, ← Nat.pow_add]
      have : 52 + (52 + 1022 + (E + e1 - 1074 - 1)) = E - 1 + (e1 + 52) := by omega
      rw [this]
    have e2' : K74 + (e1 + 52) = e1 + K26g := by unfold K74 K26g; omega
    rw [e1', hval, Nat.mul_assoc, ← Nat.pow_add, e2', Nat.pow_add, Nat.mul_assoc]
theorem ldexp_zero (e1 : Int) (w : World) : Calls Try.prog 27 #[.float .f64 0, .int .i64 e1] w fun e w' => e = .returned (.float .f64 0) ∧ w' = w := by
  have o1 := order_num nan_zero
  go_enter Try.func27, Try.ntmps27
  go_wp2
  go_ret
  exact ⟨rfl, rfl⟩
theorem ldexp_p (m e1 : Nat) (p : Int) (w : World) (hp : p = (e1 : Int) - 1074) (hm2 : m ≤ 9007199254740992) (h2 : 4503599627370496 ≤ m ∨ e1 = 0) (hN : e1 * 4503599627370496 + m < 9218868437227405312) :
    Calls Try.prog 27 #[.float .f64 (floatOfInt .f64 (m : Int)), .int .i64 p] w fun e w' => ∃ n, e = .returned (.float .f64 (e1 * 4503599627370496 + m)) ∧ w' = w.drewN n := by
  subst hp
  rcases Nat.eq_zero_or_pos m with h0 | h0
  · subst h0
    have e : e1 = 0 := by omega
    subst e
    refine (ldexp_zero _ w).mono ?_
    rintro e w' ⟨rfl, rfl⟩
    exact ⟨0, rfl, rfl⟩
  · have hr := rung_of (m := m) (D := e1) hm2 h2
    have hrep : RpN (m * 2 ^ e1) := by
      rcases Nat.eq_or_lt_of_le hm2 with h | h
      · exact ⟨4503599627370496, e1 + 1, by rw [h, Nat.pow_succ]; omega, by omega⟩
      · exact ⟨m, e1, rfl, h⟩
    have := ldexp_any m e1 w h0 hm2 (by rw [hr]; exact hN) hrep
    rw [hr] at this
    exact this

end Go.Proofs.Ytnmibhgfcepddaa
