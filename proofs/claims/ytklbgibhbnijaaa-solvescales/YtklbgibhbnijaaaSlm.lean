/-
  math.Ldexp and math.Frexp of any finite word that is not nought.
-/
import Derived.Test.YtklbgibhbnijaaaLdt
import Derived.Test.YtklbgibhbnijaaaBnd
import Derived.Test.YtklbgibhbnijaaaBna
namespace Go.Proofs.Ytklbgibhbnijaaa
open Fl RowKit

/-- a size with its first digit in its place, and how far it was moved -/
def nG (m : Nat) : Nat := if m < 4503599627370496 then m.log2 * 4503599627370496 + m * 2 ^ (52 - m.log2) else m
def nC (m : Nat) : Nat := if m < 4503599627370496 then 52 else 0
theorem nG_big {m : Nat} (h : ¬ m < 4503599627370496) : nG m = m ∧ nC m = 0 := ⟨if_neg h, if_neg h⟩
theorem nG_small {m : Nat} (h : m < 4503599627370496) (h0 : 0 < m) : ∃ E f, nG m = E * 4503599627370496 + f ∧ f < 4503599627370496 ∧ E = m.log2 + 1 ∧ E ≤ 52 ∧ sz (nG m) = m * 2 ^ 52 := by
  have l1 := Nat.log2_self_le (Nat.pos_iff_ne_zero.1 h0)
  have l2 := Nat.lt_log2_self (n := m)
  have l3 : m.log2 < 52 := by
    rcases Nat.lt_or_ge m.log2 52 with h1 | h1
    · exact h1
    · have : 2 ^ 52 ≤ 2 ^ m.log2 := pow_le_of h1
      rw [show (2 : Nat) ^ 52 = 4503599627370496 by decide] at this
      omega
  have e1 : 2 ^ m.log2 * 2 ^ (52 - m.log2) = 4503599627370496 := by rw [← Nat.pow_add, show m.log2 + (52 - m.log2) = 52 by omega]
  have e2 : 2 ^ (m.log2 + 1) * 2 ^ (52 - m.log2) = 9007199254740992 := by rw [← Nat.pow_add, show m.log2 + 1 + (52 - m.log2) = 53 by omega]
  have a1 : 4503599627370496 ≤ m * 2 ^ (52 - m.log2) := by rw [← e1]; exact Nat.mul_le_mul_right _ l1
  have a2 : m * 2 ^ (52 - m.log2) < 9007199254740992 := by rw [← e2]; exact (Nat.mul_lt_mul_right (Nat.two_pow_pos _)).2 l2
  have hG : nG m = (m.log2 + 1) * 4503599627370496 + (m * 2 ^ (52 - m.log2) - 4503599627370496) := by unfold nG; rw [if_pos h]; omega
  refine ⟨m.log2 + 1, m * 2 ^ (52 - m.log2) - 4503599627370496, hG, by omega, rfl, by omega, ?_⟩
  have hs : sig (nG m) = m * 2 ^ (52 - m.log2) := by unfold sig; rw [hG, if_neg (by omega)]; omega
  have hx : ex (nG m) = m.log2 := by unfold ex; rw [hG]; omega
  unfold sz
  rw [hs, hx, Nat.mul_assoc, ← Nat.pow_add, show 52 - m.log2 + m.log2 = 52 by omega]
theorem nG_rng {m : Nat} (h0 : 0 < m) (hf : m < 9218868437227405312) : ∃ E f, nG m = E * 4503599627370496 + f ∧ f < 4503599627370496 ∧ 1 ≤ E ∧ E ≤ 2046 := by
  by_cases h : m < 4503599627370496
  · obtain ⟨E, f, h1, h2, h3, h4, _⟩ := nG_small h h0
    exact ⟨E, f, h1, h2, by omega, by omega⟩
  · refine ⟨m / 4503599627370496, m % 4503599627370496, ?_, Nat.mod_lt _ (by omega), by omega, by omega⟩
    rw [(nG_big h).1]; omega
/-- the place of the first digit -/
def nX (m : Nat) : Int := (nG m / 4503599627370496 : Nat) - (nC m : Nat)
theorem nX_mono {m m' : Nat} (h0 : 0 < m) (h : m ≤ m') : nX m ≤ nX m' := by
  unfold nX
  by_cases a : m' < 4503599627370496
  · obtain ⟨E, f, h1, h2, h3, _, _⟩ := nG_small (m := m) (by omega) h0
    obtain ⟨E', f', h1', h2', h3', _, _⟩ := nG_small a (by omega)
    have hl := log2_le h0 h
    have c1 : nC m = 52 := if_pos (by omega)
    have c2 : nC m' = 52 := if_pos a
    rw [h1, h1', c1, c2]
    omega
  · have c2 := nG_big a
    by_cases b : m < 4503599627370496
    · obtain ⟨E, f, h1, h2, h3, h4, _⟩ := nG_small b h0
      have c1 : nC m = 52 := if_pos b
      rw [h1, c1, c2.1, c2.2]
      omega
    · have c1 := nG_big b
      rw [c1.1, c1.2, c2.1, c2.2]
      omega
theorem word_lt64 (s : Bool) {r : Nat} (h : r < 9223372036854775808) : Ieee.double.word s r < 18446744073709551616 := word_lt s h
theorem word_eq (s : Bool) (r : Nat) : Ieee.double.word s r = (if s then 9223372036854775808 else 0) + r := by
  cases s
  · rw [word_false]; simp
  · unfold Ieee.Format.word; simp [d_sw]; try omega
theorem ng_mg {x : Nat} (h : x < 18446744073709551616) : x = Ieee.double.word (ng x) (mg x) := by
  rw [word_eq]
  unfold ng mg
  rcases Nat.lt_or_ge x 9223372036854775808 with h1 | h1
  · have : x / 9223372036854775808 = 0 := by omega
    simp [this]; omega
  · have : x / 9223372036854775808 = 1 := by omega
    simp [this]; omega
/-- 2 to the 52 -/
theorem c52 : fin 4841369599423283200 ∧ ng 4841369599423283200 = false ∧ sig (mg 4841369599423283200) = 2 ^ 52 ∧ ex (mg 4841369599423283200) = 1074 := ⟨by unfold fin; decide, by decide, by decide, by decide⟩
theorem norm_mul {x : Nat} (hx : fin x) (h0 : 0 < mg x) (hs : mg x < 4503599627370496) : mulO x 4841369599423283200 = some (Ieee.double.word (ng x) (nG (mg x))) := by
  obtain ⟨c1, c2, c3, c4⟩ := c52
  obtain ⟨E, f, h1, h2, h3, h4, h5⟩ := nG_small hs h0
  rw [mul_gen hx c1, c2]
  have e : sz (mg x) * sz (mg 4841369599423283200) = sz (nG (mg x)) * 2 ^ K74 := by
    have hm : sz (mg x) = mg x := by unfold sz sig ex; rw [if_pos hs, show mg x / 4503599627370496 = 0 by omega]; simp
    rw [h5, hm]
    unfold sz
    have hk : (1074 : Nat) = K74 := rfl
    rw [c3, c4, hk, ← Nat.mul_assoc]
  rw [e, show (-2148 : Int) = -1074 - ((K74 : Nat) : Int) by decide, nr_shift, nr_sz (by rw [h1]; omega)]
  simp
theorem and_lowS (F : Nat) (hF : F < 18446744073709551616) : F &&& 9227875636482146303 = F / 9223372036854775808 * 9223372036854775808 + F % 4503599627370496 := by
  have e : (9227875636482146303 : Nat) = 9223372036854775808 ||| 4503599627370495 := by decide
  have h1 := nat_bit 63 F
  rw [show (2 : Nat) ^ 63 = 9223372036854775808 by decide] at h1
  have h2 := Nat.and_two_pow_sub_one_eq_mod F 52
  rw [show (2 : Nat) ^ 52 - 1 = 4503599627370495 by decide, show (2 : Nat) ^ 52 = 4503599627370496 by decide] at h2
  rw [e, Nat.and_or_distrib_left, h1, h2]
  rw [show F / 9223372036854775808 % 2 = F / 9223372036854775808 by omega]
  exact nat_join 52 _ _ (by rw [show (2 : Nat) ^ 52 = 4503599627370496 by decide]; omega) (by rw [show (2 : Nat) ^ 52 = 4503599627370496 by decide]; omega)
/-- the word with another place of its first digit -/
theorem ldbitsS (s : Bool) (E f X : Nat) (hf : f < 4503599627370496) (hE : E < 2048) (hX : X < 2048) :
    (bits BinOp.or IntKind.u64 (bits BinOp.andNot IntKind.u64 ((Ieee.double.word s (E * 4503599627370496 + f) : Nat) : Int) 9218868437227405312) ((X : Int) * 4503599627370496)).toNat = Ieee.double.word s (X * 4503599627370496 + f) := by
  rw [word_eq, word_eq]
  generalize hS : (if s = true then 9223372036854775808 else 0) = S
  have hS2 : S = 0 ∨ S = 9223372036854775808 := by subst hS; cases s <;> simp
  have h1 := u64_andNot_nat (S + (E * 4503599627370496 + f)) 9218868437227405312 (by omega) (by omega)
  have e1 : (S + (E * 4503599627370496 + f)) &&& (18446744073709551615 - 9218868437227405312) = S + f := by
    rw [show (18446744073709551615 - 9218868437227405312 : Nat) = 9227875636482146303 by decide, and_lowS _ (by omega)]
    omega
  rw [e1] at h1
  have h2 := u64_or_nat (S + f) (X * 4503599627370496) (by omega) (by omega)
  have e2 : (S + f) ||| (X * 4503599627370496) = S + (X * 4503599627370496 + f) := by
    have a : S + f = S ||| f := by
      rcases hS2 with h | h
      · subst h; simp
      · rw [h]
        exact (nat_join 52 9223372036854775808 f (by decide) (by rw [show (2 : Nat) ^ 52 = 4503599627370496 by decide]; exact hf)).symm
    have b : f ||| (X * 4503599627370496) = X * 4503599627370496 + f := by
      rw [Nat.or_comm]
      exact nat_join 52 (X * 4503599627370496) f (by rw [show (2 : Nat) ^ 52 = 4503599627370496 by decide]; omega) (by rw [show (2 : Nat) ^ 52 = 4503599627370496 by decide]; exact hf)
    rw [a, Nat.or_assoc, b]
    rcases hS2 with h | h
    · subst h; simp
    · rw [h]
      exact nat_join 63 9223372036854775808 _ (by decide) (by rw [show (2 : Nat) ^ 63 = 9223372036854775808 by decide]; omega)
  rw [e2] at h2
  have h3 : bits BinOp.andNot IntKind.u64 ((S + (E * 4503599627370496 + f) : Nat) : Int) 9218868437227405312 = ((S + f : Nat) : Int) := h1
  have h4 : ((X : Int) * 4503599627370496) = ((X * 4503599627370496 : Nat) : Int) := by omega
  rw [h3, h4, h2]; exact Int.toNat_natCast _
theorem fields_w {s : Bool} {E f : Nat} (hf : f < 4503599627370496) (hE : 1 ≤ E) (hE2 : E ≤ 2046) : fin (Ieee.double.word s (E * 4503599627370496 + f)) ∧ ng (Ieee.double.word s (E * 4503599627370496 + f)) = s ∧ mg (Ieee.double.word s (E * 4503599627370496 + f)) = E * 4503599627370496 + f := by
  have h1 : mg (Ieee.double.word s (E * 4503599627370496 + f)) = E * 4503599627370496 + f := word_mg s (by omega)
  exact ⟨by unfold fin; rw [h1]; omega, word_ng s (by omega), h1⟩
/-- what is normalized -/
theorem norm_any (x : Nat) (w : World) (hx : x < 18446744073709551616) (hf : fin x) (h0 : 0 < mg x) :
    Calls Try.prog 101 #[.float .f64 x] w fun e w' => ∃ n, e = .returned (.tuple #[.float .f64 (Ieee.double.word (ng x) (nG (mg x))), .int .i64 (-(nC (mg x) : Nat) : Int)]) ∧ w' = w.drewN n := by
  have o3 : (FloatKind.f64.format.order (mg x) 4503599627370496 == some .lt) = decide (mg x < 4503599627370496) := by
    rw [order_lt (by rw [nan_mg]; exact fin_not_nan hf) (by decide), show plc 4503599627370496 = 4503599627370496 by decide, plc_mg, Bool.eq_iff_iff]
    simp
    omega
  by_cases h : mg x < 4503599627370496
  · have mv := mulV_of (norm_mul hf h0 h)
    have hc : nC (mg x) = 52 := if_pos h
    rw [hc]
    rw [decide_eq_true h] at o3
    obtain ⟨R, hR⟩ : ∃ R, R = Ieee.double.word (ng x) (nG (mg x)) := ⟨_, rfl⟩
    rw [← hR] at mv ⊢
    clear hR hc h h0 hf
    go_enter Try.func101, Try.ntmps101
    go_wp2_with (go_at_call 51; refine (mabs_any _ _ hx).mono ?_; rintro e w' ⟨rfl, rfl⟩)
    go_ret2
    exact ⟨_, rfl, rfl⟩
  · have hc := nG_big h
    rw [hc.1, hc.2, ← ng_mg hx]
    rw [decide_eq_false h] at o3
    clear hc h h0 hf
    go_enter Try.func101, Try.ntmps101
    go_wp2_with (go_at_call 51; refine (mabs_any _ _ hx).mono ?_; rintro e w' ⟨rfl, rfl⟩)
    go_ret2
    exact ⟨0, rfl, rfl⟩
theorem and_i64S (Y : Nat) (h : Y < 4096) : bits BinOp.and IntKind.i64 (Y : Int) 2047 = ((Y % 2048 : Nat) : Int) := by
  show IntKind.i64.wrap ((BitVec.ofInt 64 (Y : Int) &&& BitVec.ofInt 64 ((2047 : Nat) : Int)).toNat : Int) = _
  rw [BitVec.toNat_and, ofInt_u64 Y (by omega), ofInt_u64 2047 (by omega), nat_mask11, IntKind.wrap_i64]
  omega
theorem and_u64S (Y : Nat) (h : Y < 4096) : bits BinOp.and IntKind.u64 (Y : Int) 2047 = ((Y % 2048 : Nat) : Int) := by
  have := u64_and_nat Y 2047 (by omega) (by omega)
  rw [nat_mask11] at this
  exact this
theorem shr52 (s : Bool) {E f : Nat} (hf : f < 4503599627370496) (_hE : E ≤ 2046) : ((Ieee.double.word s (E * 4503599627370496 + f) : Nat) : Int) / 4503599627370496 = (((if s then 2048 else 0) + E : Nat) : Int) := by
  rw [word_eq]
  cases s
  · simp; omega
  · simp; omega
theorem exS (s : Bool) {E : Nat} (hE : E ≤ 2046) : ((if s then 2048 else 0) + E) % 2048 = E ∧ (if s then 2048 else 0) + E < 4096 := by cases s <;> simp <;> omega
theorem frexp_any (x : Nat) (w : World) (hx : x < 18446744073709551616) (hf : fin x) (h0 : 0 < mg x) :
    Calls Try.prog 125 #[.float .f64 x] w fun e w' => ∃ fr n, e = .returned (.tuple #[.float .f64 fr, .int .i64 (nX (mg x) - 1022)]) ∧ w' = w.drewN n := by
  have hm : mg x < 9218868437227405312 := hf
  obtain ⟨E, f, hG, hf2, hE1, hE2⟩ := nG_rng h0 hm
  have hX : nX (mg x) = (E : Int) - (nC (mg x) : Nat) := by unfold nX; rw [hG]; omega
  have hc : nC (mg x) ≤ 52 := by unfold nC; split <;> omega
  have HN := hid_o (fun W => norm_any x W hx hf h0)
  rw [hX]
  rw [hG] at HN
  have o1 : (FloatKind.f64.format.order x 0 == some .eq) = false := by
    rw [order_eqb (fin_not_nan hf) nan_zero, plc_zero]
    apply decide_eq_false
    intro h
    have := plc_mg x
    unfold plc sgn at h
    split at h <;> omega
  have o2 := order_num (fin_not_nan hf)
  have i1 : infC x = false := by unfold infC; simp; omega
  obtain ⟨c, hce⟩ : ∃ c, c = nC (mg x) := ⟨_, rfl⟩
  rw [← hce] at hc HN ⊢
  have d1 := shr52 (ng x) hf2 hE2
  obtain ⟨e1, e2⟩ := exS (ng x) hE2
  have hand := and_u64S _ e2
  rw [e1] at hand
  rw [← d1] at hand
  obtain ⟨F, hF⟩ : ∃ F, F = Ieee.double.word (ng x) (E * 4503599627370496 + f) := ⟨_, rfl⟩
  rw [← hF] at hand HN
  clear hF d1 e1 e2 hce hG hm hX hf h0
  go_enter Try.func125, Try.ntmps125
  go_wp2_with (first
    | (go_at_call 99; refine (isInf_any _ _ hx).mono ?_; rintro e w' ⟨rfl, rfl⟩)
    | (go_at_call 101; (with_reducible refine (HN.out _).mono ?_); rintro e w' ⟨n, rfl, rfl⟩)
    | go_in)
  go_ret2
  exact ⟨_, n, by rw [show (E : Int) - (c : Int) - 1022 = -(c : Int) + ((E : Int) - 1023 + 1) by omega]; rfl, rfl⟩
theorem one_times {y : Nat} (hy : fin y) (hl : y < 18446744073709551616) : mulO 4607182418800017408 y = some y := by
  obtain ⟨c1, c2, c3, c4⟩ := one_fields
  rw [mul_gen c1 hy, c2]
  have e : sz (mg 4607182418800017408) * sz (mg y) = sz (mg y) * 2 ^ K74 := by
    have e0 : sz (mg 4607182418800017408) = 2 ^ K74 := by
      have c4' : ex (mg 4607182418800017408) = K74 - 52 := by decide
      unfold sz
      rw [c3, c4', ← Nat.pow_add, show 52 + (K74 - 52) = K74 from rfl]
    rw [e0, Nat.mul_comm]
  rw [e, show (-2148 : Int) = -1074 - ((K74 : Nat) : Int) by decide, nr_shift, nr_sz (by have : mg y < 9218868437227405312 := hy; omega), Bool.false_xor]
  exact congrArg some (ng_mg hl).symm
theorem and_signW (y : Nat) (hy : y < 18446744073709551616) : bits BinOp.and IntKind.u64 (y : Int) 9223372036854775808 = (((if ng y then 9223372036854775808 else 0) : Nat) : Int) := by
  have h := u64_and_nat y 9223372036854775808 hy (by omega)
  have h1 := nat_bit 63 y
  rw [show (2 : Nat) ^ 63 = 9223372036854775808 by decide] at h1
  rw [h1] at h
  have e : y / 9223372036854775808 % 2 * 9223372036854775808 = (if ng y then 9223372036854775808 else 0) := by
    unfold ng
    rcases Nat.lt_or_ge y 9223372036854775808 with h1 | h1
    · have : y / 9223372036854775808 = 0 := by omega
      simp [this]
    · have : y / 9223372036854775808 = 1 := by omega
      simp [this]
  rw [e] at h
  exact h
theorem copys_any (x y : Nat) (w : World) (hx : x < 18446744073709551616) (hy : y < 18446744073709551616) :
    Calls Try.prog 102 #[.float .f64 x, .float .f64 y] w fun e w' => e = .returned (.float .f64 (Ieee.double.word (ng y) (mg x))) ∧ w' = w := by
  have ha := andNot_sign x hx
  have hb := and_signW y hy
  have hm : mg x < 9223372036854775808 := by unfold mg; omega
  have ho : (bits BinOp.or IntKind.u64 ((mg x : Nat) : Int) (((if ng y then 9223372036854775808 else 0) : Nat) : Int)).toNat = Ieee.double.word (ng y) (mg x) := by
    rw [u64_or_nat _ _ (by omega) (by split <;> omega), word_eq, Int.toNat_natCast]
    cases ng y
    · simp
    · simp only [if_true]
      rw [Nat.or_comm]
      exact nat_join 63 9223372036854775808 _ (by decide) (by rw [show (2 : Nat) ^ 63 = 9223372036854775808 by decide]; exact hm)
  obtain ⟨S, hS⟩ : ∃ S : Nat, S = (if ng y then 9223372036854775808 else 0) := ⟨_, rfl⟩
  rw [← hS] at hb ho
  have HO := hid_o ho
  clear hS ho
  go_enter Try.func102, Try.ntmps102
  go_wp2_with go_in
  go_ret
  exact ⟨retf HO.out, rfl⟩
/-- a size times a power of two -/
def ldM (m : Nat) (p : Int) : Nat :=
  if m = 0 then 0 else if nX m + p < -52 then 0 else if 1 ≤ nX m + p then (nX m + p).toNat * 4503599627370496 + nG m % 4503599627370496
  else nr (sz 4368491638549381120 * sz ((nX m + p + 53).toNat * 4503599627370496 + nG m % 4503599627370496)) (-2148)
def ldx (x : Nat) (p : Int) : Nat := Ieee.double.word (ng x) (ldM (mg x) p)
set_option maxRecDepth 100000 in
theorem ldexp_gen (x : Nat) (p : Int) (w : World) (hx : x < 18446744073709551616) (hf : fin x) (hp : -5000 ≤ p) (hp1 : p ≤ 5000) (hp2 : mg x ≠ 0 → nX (mg x) + p ≤ 2046) :
    Calls Try.prog 26 #[.float .f64 x, .int .i64 p] w fun e w' => ∃ n, e = .returned (.float .f64 (ldx x p)) ∧ w' = w.drewN n := by
  have o2 := order_num (fin_not_nan hf)
  have o1 : (FloatKind.f64.format.order x 0 == some .eq) = decide (mg x = 0) := by
    rw [order_eqb (fin_not_nan hf) nan_zero, plc_zero, Bool.eq_iff_iff]
    simp only [decide_eq_true_eq]
    unfold plc sgn
    split <;> omega
  by_cases hz : mg x = 0
  · rw [decide_eq_true hz] at o1
    have e : ldx x p = x := by
      unfold ldx ldM
      rw [if_pos hz]
      conv => rhs; rw [ng_mg hx, hz]
    rw [e]
    clear hz e hp2 hf
    go_enter Try.func26, Try.ntmps26
    go_wp2
    go_ret
    exact ⟨0, rfl, rfl⟩
  · rw [decide_eq_false hz] at o1
    have h0 : 0 < mg x := by omega
    have hm : mg x < 9218868437227405312 := hf
    obtain ⟨E, f, hG, hf2, hE1, hE2⟩ := nG_rng h0 hm
    have hX : nX (mg x) = (E : Int) - (nC (mg x) : Nat) := by unfold nX; rw [hG]; omega
    have hmod : nG (mg x) % 4503599627370496 = f := by rw [hG]; omega
    have hc : nC (mg x) ≤ 52 := by unfold nC; split <;> omega
    have hp3 := hp2 hz
    have HN := hid_o (fun W => norm_any x W hx hf h0)
    rw [hG] at HN
    have hl : ldx x p = Ieee.double.word (ng x) (if (E : Int) - (nC (mg x) : Nat) + p < -52 then 0 else if 1 ≤ (E : Int) - (nC (mg x) : Nat) + p then ((E : Int) - (nC (mg x) : Nat) + p).toNat * 4503599627370496 + f else nr (sz 4368491638549381120 * sz (((E : Int) - (nC (mg x) : Nat) + p + 53).toNat * 4503599627370496 + f)) (-2148)) := by
      unfold ldx ldM
      rw [if_neg hz, hX, hmod]
    rw [hl]
    rw [hX] at hp3
    have i1 : infC x = false := by unfold infC; simp; omega
    have d1 := shr52 (ng x) hf2 hE2
    obtain ⟨e1, e2⟩ := exS (ng x) hE2
    have hand := and_i64S _ e2
    rw [e1, ← d1] at hand
    obtain ⟨b1, b2, b3⟩ := fields_w (s := ng x) hf2 hE1 hE2
    have hFl : Ieee.double.word (ng x) (E * 4503599627370496 + f) < 18446744073709551616 := word_lt _ (by omega)
    have hbits := ldbitsS (ng x) E f
    obtain ⟨c, hce⟩ : ∃ c, c = nC (mg x) := ⟨_, rfl⟩
    rw [← hce] at hc HN hp3 ⊢
    obtain ⟨s, hs⟩ : ∃ s, s = ng x := ⟨_, rfl⟩
    rw [← hs] at HN hand b1 b2 hFl hbits b3 ⊢
    obtain ⟨F, hF⟩ : ∃ F, F = Ieee.double.word s (E * 4503599627370496 + f) := ⟨_, rfl⟩
    rw [← hF] at HN hand b1 b2 hFl hbits
    clear hF d1 e1 e2 hce hG hm hX hf h0 hl hp2 hs hmod b3 hz
    by_cases hA : (E : Int) - (c : Int) + p < -52
    · rw [if_pos hA]
      have HC := hid_o (fun W => copys_any 0 F W (by omega) hFl)
      rw [b2] at HC
      have hA' : p + -(c : Int) + ((E : Int) - 1023) < -1075 := by omega
      clear hbits hA
      go_enter Try.func26, Try.ntmps26
      go_wp2_with (first
        | (go_at_call 99; refine (isInf_any _ _ hx).mono ?_; rintro e w' ⟨rfl, rfl⟩)
        | (go_at_call 101; (with_reducible refine (HN.out _).mono ?_); rintro e w' ⟨n, rfl, rfl⟩)
        | (go_at_call 102; (with_reducible refine (HC.out _).mono ?_); rintro e w' ⟨rfl, rfl⟩)
        | go_in)
      go_ret
      exact ⟨n, rfl, rfl⟩
    · rw [if_neg hA]
      by_cases hB : 1 ≤ (E : Int) - (c : Int) + p
      · rw [if_pos hB]
        have hb := hbits ((E : Int) - (c : Int) + p).toNat hf2 (by omega) (by omega)
        rw [show ((((E : Int) - (c : Int) + p).toNat : Nat) : Int) = p + -(c : Int) + ((E : Int) - 1023) + 1023 by omega] at hb
        obtain ⟨g1, _, _⟩ := fields_w (s := s) (E := ((E : Int) - (c : Int) + p).toNat) hf2 (by omega) (by omega)
        have mv := mulV_of (one_times g1 (word_lt _ (by omega)))
        have q1 : ¬ p + -(c : Int) + ((E : Int) - 1023) < -1075 := by omega
        have q2 : ¬ (1023 : Int) < p + -(c : Int) + ((E : Int) - 1023) := by omega
        have q3 : ¬ p + -(c : Int) + ((E : Int) - 1023) < -1022 := by omega
        obtain ⟨R, hR⟩ : ∃ R, R = Ieee.double.word s (((E : Int) - (c : Int) + p).toNat * 4503599627370496 + f) := ⟨_, rfl⟩
        rw [← hR] at hb mv ⊢
        have HB := hid_o hb
        clear hb hR g1 hA hbits
        go_enter Try.func26, Try.ntmps26
        go_wp2_with (first
          | (go_at_call 99; refine (isInf_any _ _ hx).mono ?_; rintro e w' ⟨rfl, rfl⟩)
          | (go_at_call 101; (with_reducible refine (HN.out _).mono ?_); rintro e w' ⟨n, rfl, rfl⟩)
          | go_in)
        go_ret
        exact ⟨_, retf (by rw [HB.out]; exact mv _), rfl⟩
      · rw [if_neg hB]
        have hb := hbits ((E : Int) - (c : Int) + p + 53).toNat hf2 (by omega) (by omega)
        rw [show ((((E : Int) - (c : Int) + p + 53).toNat : Nat) : Int) = p + -(c : Int) + ((E : Int) - 1023) + 53 + 1023 by omega] at hb
        obtain ⟨g1, g2, g3⟩ := fields_w (s := s) (E := ((E : Int) - (c : Int) + p + 53).toNat) hf2 (by omega) (by omega)
        obtain ⟨t1, t2, _, _⟩ := tiny_fields
        have hmul := mul_gen t1 g1
        rw [t2, g2, g3, Bool.false_xor, show mg 4368491638549381120 = 4368491638549381120 by decide] at hmul
        have mv := mulV_of hmul
        have q1 : ¬ p + -(c : Int) + ((E : Int) - 1023) < -1075 := by omega
        have q2 : ¬ (1023 : Int) < p + -(c : Int) + ((E : Int) - 1023) := by omega
        have q3 : p + -(c : Int) + ((E : Int) - 1023) < -1022 := by omega
        obtain ⟨R, hR⟩ : ∃ R, R = Ieee.double.word s (nr (sz 4368491638549381120 * sz (((E : Int) - (c : Int) + p + 53).toNat * 4503599627370496 + f)) (-2148)) := ⟨_, rfl⟩
        obtain ⟨R2, hR2⟩ : ∃ R2, R2 = Ieee.double.word s (((E : Int) - (c : Int) + p + 53).toNat * 4503599627370496 + f) := ⟨_, rfl⟩
        rw [← hR] at mv ⊢
        rw [← hR2] at hb mv
        have HB := hid_o hb
        clear hb hR hR2 g1 g2 g3 hA hbits hmul
        go_enter Try.func26, Try.ntmps26
        go_wp2_with (first
          | (go_at_call 99; refine (isInf_any _ _ hx).mono ?_; rintro e w' ⟨rfl, rfl⟩)
          | (go_at_call 101; (with_reducible refine (HN.out _).mono ?_); rintro e w' ⟨n, rfl, rfl⟩)
          | go_in)
        go_ret
        exact ⟨_, retf (by rw [HB.out]; exact mv _), rfl⟩

end Go.Proofs.Ytklbgibhbnijaaa
