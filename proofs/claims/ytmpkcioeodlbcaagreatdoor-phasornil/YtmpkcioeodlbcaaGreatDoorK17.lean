/-
  Several texts in one: Fl Rn.
-/
import Derived.Laws.FloatArith
import Derived.Laws.BitsAllLaws
namespace Go.Proofs.YtmpkcioeodlbcaaGreatDoor.Fl
open Ieee
def mg (x : Nat) : Nat := x % 9223372036854775808
def ng (x : Nat) : Bool := x / 9223372036854775808 % 2 == 1
def nan (x : Nat) : Bool := decide (9218868437227405312 < mg x)
def fin (x : Nat) : Prop := mg x < 9218868437227405312
def sig (r : Nat) : Nat := if r < 4503599627370496 then r else 4503599627370496 + r % 4503599627370496
def ex (r : Nat) : Nat := r / 4503599627370496 - 1
def sz (r : Nat) : Nat := sig r * 2 ^ ex r
def sgn (s : Bool) (n : Nat) : Int := if s then -(n : Int) else n
def val (x : Nat) : Int := sgn (ng x) (sz (mg x))
def plc (x : Nat) : Int := sgn (ng x) (mg x)

theorem d_sw : Ieee.double.signWeight = 9223372036854775808 := by decide
theorem d_bin : Ieee.double.binade = 4503599627370496 := by decide
theorem d_inf : Ieee.double.infRung = 9218868437227405312 := by decide
theorem d_least : Ieee.double.leastPlace = -1074 := by decide
theorem f64_double : FloatKind.f64.format = Ieee.double := rfl

theorem read_fin (x : Nat) (h : fin x) : Ieee.double.read x = .number (ng x) (sig (mg x)) (-1074 + (ex (mg x) : Int)) := by
  unfold fin at h
  unfold Ieee.Format.read
  simp only [d_sw, d_bin, d_inf, d_least]
  by_cases h1 : x % 9223372036854775808 < 4503599627370496
  · have e0 : ex (x % 9223372036854775808) = 0 := by unfold ex; omega
    simp [h1, sig, mg, ng, e0]
  · unfold mg at h
    simp [h1, h, sig, mg, ng, ex]
theorem read_inf (x : Nat) (h : mg x = 9218868437227405312) : Ieee.double.read x = .infinity (ng x) := by
  unfold mg at h
  unfold Ieee.Format.read
  simp only [d_sw, d_bin, d_inf, d_least, h, ng]
  simp
theorem read_nan (x : Nat) (h : nan x = true) : Ieee.double.read x = .nan (ng x) (mg x - 9218868437227405312) := by
  unfold nan mg at h
  simp only [decide_eq_true_eq] at h
  unfold Ieee.Format.read
  simp only [d_sw, d_bin, d_inf, d_least]
  rw [if_neg (by omega), if_neg (by omega), if_neg (by omega)]
  rfl
theorem kinds (x : Nat) : fin x ∨ mg x = 9218868437227405312 ∨ nan x = true := by
  unfold fin nan; simp only [decide_eq_true_eq]; omega
theorem fin_not_nan {x : Nat} (h : fin x) : nan x = false := by unfold fin at h; unfold nan; simp; omega
theorem inf_not_nan {x : Nat} (h : mg x = 9218868437227405312) : nan x = false := by unfold nan; simp; omega

theorem signed_eq (s : Bool) (m up : Nat) : Ieee.signed s m up = sgn s (m * 2 ^ up) := by
  unfold Ieee.signed sgn; simp [Nat.shiftLeft_eq]
theorem sgn_mul (s : Bool) (m k : Nat) : sgn s (m * k) = sgn s m * (k : Int) := by
  unfold sgn; cases s <;> simp [Int.neg_mul]
theorem compare_mul (a b : Int) (k : Nat) (hk : 0 < k) : compare (a * (k : Int)) (b * (k : Int)) = compare a b := by
  have hk' : (0 : Int) < k := by omega
  rcases Int.lt_trichotomy a b with h | h | h
  · have := (Int.mul_lt_mul_right hk').2 h
    simp [compare, compareOfLessAndEq, h, this]
  · subst h; simp
  · have h2 := (Int.mul_lt_mul_right hk').2 h
    have e1 : ¬ a < b := by omega
    have e2 : ¬ a = b := by omega
    have e3 : ¬ a * (k : Int) < b * (k : Int) := by omega
    have e4 : ¬ a * (k : Int) = b * (k : Int) := by omega
    simp [compare, compareOfLessAndEq, e1, e2, e3, e4]

theorem cmp_lt {a b : Int} (h : a < b) : compare a b = .lt := by simp [compare, compareOfLessAndEq, h]
theorem cmp_gt {a b : Int} (h : b < a) : compare a b = .gt := by
  have h1 : ¬ a < b := by omega
  have h2 : ¬ a = b := by omega
  simp [compare, compareOfLessAndEq, h1, h2]
theorem sig_lt (r : Nat) : sig r < 9007199254740992 := by unfold sig; split <;> omega
theorem ex_succ_le (a b : Nat) (h : a < b) (e : ex a ≠ ex b) : 4503599627370496 ≤ sig b ∧ ex a + 1 ≤ ex b := by
  unfold ex at *; unfold sig; constructor
  · split <;> omega
  · omega
theorem sz_mono {a b : Nat} (h : a < b) : sz a < sz b := by
  unfold sz
  by_cases e : ex a = ex b
  · rw [e]
    refine (Nat.mul_lt_mul_right (Nat.two_pow_pos _)).2 ?_
    unfold ex at e; unfold sig; split <;> split <;> omega
  · obtain ⟨h1, h2⟩ := ex_succ_le a b h e
    have h3 := sig_lt a
    calc sig a * 2 ^ ex a < 9007199254740992 * 2 ^ ex a := (Nat.mul_lt_mul_right (Nat.two_pow_pos _)).2 h3
      _ = 4503599627370496 * 2 ^ (ex a + 1) := by rw [Nat.pow_succ]; omega
      _ ≤ 4503599627370496 * 2 ^ ex b := Nat.mul_le_mul_left _ (Nat.pow_le_pow_right (by omega) h2)
      _ ≤ sig b * 2 ^ ex b := Nat.mul_le_mul_right _ h1
theorem sz_zero : sz 0 = 0 := by decide
theorem sz_inj {a b : Nat} (h : sz a = sz b) : a = b := by
  rcases Nat.lt_trichotomy a b with h1 | h1 | h1
  · have := sz_mono h1; omega
  · exact h1
  · have := sz_mono h1; omega
theorem sz_pos {a : Nat} (h : 0 < a) : 0 < sz a := by have := sz_mono h; rw [sz_zero] at this; exact this

theorem cmp_sgn (s t : Bool) (a b : Nat) : compare (sgn s (sz a)) (sgn t (sz b)) = compare (sgn s a) (sgn t b) := by
  have key : ∀ a b : Int, ∀ c d : Int, ((a < b) ↔ (c < d)) → ((a = b) ↔ (c = d)) → compare a b = compare c d := by
    intro a b c d h1 h2
    simp only [compare, compareOfLessAndEq, h1, h2]
  have ha := fun h => @sz_pos a h
  have hb := fun h => @sz_pos b h
  have ha0 : a = 0 → sz a = 0 := by rintro rfl; exact sz_zero
  have hb0 : b = 0 → sz b = 0 := by rintro rfl; exact sz_zero
  have h1 : a < b → sz a < sz b := sz_mono
  have h2 : b < a → sz b < sz a := sz_mono
  have h3 : a = b → sz a = sz b := by rintro rfl; rfl
  refine key _ _ _ _ ?_ ?_ <;> unfold sgn <;> cases s <;> cases t <;> simp <;> omega

theorem order_fin {x y : Nat} (hx : fin x) (hy : fin y) : Ieee.double.order x y = some (compare (val x) (val y)) := by
  unfold Ieee.Format.order
  rw [read_fin x hx, read_fin y hy]
  unfold Ieee.Datum.order
  simp only [signed_eq]
  congr 1
  have e1 : (-1074 + (ex (mg x) : Int) - min (-1074 + (ex (mg x) : Int)) (-1074 + (ex (mg y) : Int))).toNat = ex (mg x) - min (ex (mg x)) (ex (mg y)) := by omega
  have e2 : (-1074 + (ex (mg y) : Int) - min (-1074 + (ex (mg x) : Int)) (-1074 + (ex (mg y) : Int))).toNat = ex (mg y) - min (ex (mg x)) (ex (mg y)) := by omega
  rw [e1, e2, ← compare_mul _ _ (2 ^ min (ex (mg x)) (ex (mg y))) (Nat.two_pow_pos _), ← sgn_mul, ← sgn_mul, Nat.mul_assoc, Nat.mul_assoc, ← Nat.pow_add, ← Nat.pow_add,
    Nat.sub_add_cancel (Nat.min_le_left _ _), Nat.sub_add_cancel (Nat.min_le_right _ _)]
  rfl

theorem order_eq (x y : Nat) : Ieee.double.order x y = if nan x || nan y then none else some (compare (plc x) (plc y)) := by
  rcases kinds x with hx | hx | hx
  · rcases kinds y with hy | hy | hy
    · simp only [fin_not_nan hx, fin_not_nan hy, Bool.or_false, Bool.false_eq_true, if_false]
      rw [order_fin hx hy]; unfold val plc; rw [cmp_sgn]
    · simp only [fin_not_nan hx, inf_not_nan hy, Bool.or_false, Bool.false_eq_true, if_false]
      unfold Ieee.Format.order; rw [read_fin x hx, read_inf y hy]
      unfold Ieee.Datum.order plc; unfold fin at hx; unfold sgn; rw [hy]
      cases ng x <;> cases ng y <;> simp <;> first | (rw [cmp_lt (by omega)]; done) | (rw [cmp_gt (by omega)]; done)
    · simp only [hy, Bool.or_true, if_true]
      unfold Ieee.Format.order; rw [read_nan y hy, read_fin x hx]; rfl
  · rcases kinds y with hy | hy | hy
    · simp only [fin_not_nan hy, inf_not_nan hx, Bool.or_false, Bool.false_eq_true, if_false]
      unfold Ieee.Format.order; rw [read_fin y hy, read_inf x hx]
      unfold Ieee.Datum.order plc; unfold fin at hy; unfold sgn; rw [hx]
      cases ng x <;> cases ng y <;> simp <;> first | (rw [cmp_lt (by omega)]; done) | (rw [cmp_gt (by omega)]; done)
    · simp only [inf_not_nan hy, inf_not_nan hx, Bool.or_false, Bool.false_eq_true, if_false]
      unfold Ieee.Format.order; rw [read_inf y hy, read_inf x hx]
      unfold Ieee.Datum.order plc sgn; rw [hx, hy]
      cases ng x <;> cases ng y <;> rfl
    · simp only [hy, Bool.or_true, if_true]
      unfold Ieee.Format.order; rw [read_nan y hy, read_inf x hx]; rfl
  · simp only [hx, Bool.true_or, if_true]
    unfold Ieee.Format.order; rw [read_nan x hx]; rfl

theorem order_self (x : Nat) : FloatKind.f64.format.order x x = if nan x then none else some .eq := by
  rw [f64_double, order_eq]; cases nan x <;> simp [compare, compareOfLessAndEq]
theorem order_nan {x : Nat} (h : nan x = true) : FloatKind.f64.format.order x x = none := by rw [order_self, h]; rfl
theorem order_num {x : Nat} (h : nan x = false) : FloatKind.f64.format.order x x = some .eq := by rw [order_self, h]; rfl
theorem order_lt {x y : Nat} (hx : nan x = false) (hy : nan y = false) : (FloatKind.f64.format.order x y == some .lt) = decide (plc x < plc y) := by
  rw [f64_double, order_eq, hx, hy]; simp only [Bool.or_false, Bool.false_eq_true, if_false, compare, compareOfLessAndEq]
  by_cases h : plc x < plc y
  · simp [h]
  · by_cases h2 : plc x = plc y <;> simp [h, h2]
theorem order_eqb {x y : Nat} (hx : nan x = false) (hy : nan y = false) : (FloatKind.f64.format.order x y == some .eq) = decide (plc x = plc y) := by
  rw [f64_double, order_eq, hx, hy]; simp only [Bool.or_false, Bool.false_eq_true, if_false, compare, compareOfLessAndEq]
  by_cases h : plc x < plc y
  · have : ¬ plc x = plc y := by omega
    simp [h, this]
  · by_cases h2 : plc x = plc y <;> simp [h, h2]
theorem neg_of_pos {b : Nat} (h : b < 9223372036854775808) : Op.negFloat .f64 b = b + 9223372036854775808 := by
  show b ^^^ 2 ^ 63 = _
  have h1 := nat_join 63 9223372036854775808 b (by decide) (by omega)
  have h2 : b ^^^ 2 ^ 63 = 9223372036854775808 ||| b := by
    apply Nat.eq_of_testBit_eq
    intro i
    rw [show (9223372036854775808 : Nat) = 2 ^ 63 from rfl, Nat.testBit_xor, Nat.testBit_or, Nat.testBit_two_pow]
    by_cases hi : 63 = i
    · subst hi
      have : b.testBit 63 = false := Nat.testBit_lt_two_pow (by omega)
      simp [this]
    · simp [hi]
  rw [h2, h1]; omega
theorem neg_of_neg {b : Nat} (h1 : 9223372036854775808 ≤ b) (h2 : b < 18446744073709551616) : Op.negFloat .f64 b = b - 9223372036854775808 := by
  have h := neg_of_pos (b := b - 9223372036854775808) (by omega)
  have e : b - 9223372036854775808 + 9223372036854775808 = b := by omega
  rw [e] at h
  have h3 : ∀ c : Nat, Op.negFloat .f64 (Op.negFloat .f64 c) = c := by
    intro c
    show (c ^^^ 2 ^ 63) ^^^ 2 ^ 63 = c
    rw [Nat.xor_assoc, Nat.xor_self, Nat.xor_zero]
  have h4 := h3 (b - 9223372036854775808)
  rw [h] at h4; exact h4

end Go.Proofs.YtmpkcioeodlbcaaGreatDoor.Fl
namespace Go.Proofs.YtmpkcioeodlbcaaGreatDoor.Fl
/-- n over two to the d, to the nearest, ties to even -/
def rne (n d : Nat) : Nat := n / 2 ^ d + (if 2 ^ d < 2 * (n % 2 ^ d) ∨ (2 ^ d = 2 * (n % 2 ^ d) ∧ n / 2 ^ d % 2 = 1) then 1 else 0)
def dig (n : Nat) : Nat := n.log2 - 52
def rn (n : Nat) : Nat := rne n (dig n) * 2 ^ dig n
def rnI (v : Int) : Int := if v < 0 then -(rn v.natAbs : Int) else rn v.natAbs
def Rp (v : Int) : Prop := ∃ m e : Nat, v.natAbs = m * 2 ^ e ∧ m < 9007199254740992
def RpN (n : Nat) : Prop := ∃ m e : Nat, n = m * 2 ^ e ∧ m < 9007199254740992

theorem rne_near (n d : Nat) : 2 * rne n d * 2 ^ d ≤ 2 * n + 2 ^ d ∧ 2 * n ≤ 2 * rne n d * 2 ^ d + 2 ^ d := by
  have h := Nat.div_add_mod n (2 ^ d)
  have hlt : n % 2 ^ d < 2 ^ d := Nat.mod_lt _ (Nat.two_pow_pos _)
  unfold rne
  generalize n / 2 ^ d = q at *
  generalize n % 2 ^ d = r at *
  generalize 2 ^ d = p at *
  split
  · have e : 2 * (q + 1) * p = 2 * (p * q) + 2 * p := by rw [Nat.mul_assoc, Nat.add_mul, Nat.mul_comm q p, Nat.mul_add]; omega
    rw [e]; omega
  · have e : 2 * (q + 0) * p = 2 * (p * q) := by rw [Nat.add_zero, Nat.mul_assoc, Nat.mul_comm q p]
    rw [e]; omega
theorem rne_exact (n d : Nat) (h : 2 ^ d ∣ n) : rne n d * 2 ^ d = n := by
  have h0 : n % 2 ^ d = 0 := Nat.mod_eq_zero_of_dvd h
  have hp : 0 < 2 ^ d := Nat.two_pow_pos _
  unfold rne; rw [h0, if_neg (by omega), Nat.add_zero]
  exact Nat.div_mul_cancel h
theorem log2_bd {n : Nat} (h : 0 < n) : 2 ^ n.log2 ≤ n ∧ n < 2 ^ (n.log2 + 1) := ⟨Nat.log2_self_le (by omega), Nat.lt_log2_self⟩
theorem dig_zero {n : Nat} (h : n < 9007199254740992) : dig n = 0 := by
  unfold dig
  by_cases h0 : n = 0
  · subst h0; simp
  · have h1 := (log2_bd (by omega : 0 < n)).1
    have : n.log2 < 53 := by
      rcases Nat.lt_or_ge n.log2 53 with h2 | h2
      · exact h2
      · have := Nat.pow_le_pow_right (n := 2) (by omega) h2
        have e : (2 : Nat) ^ 53 = 9007199254740992 := by decide
        omega
    omega
theorem dig_pos {n : Nat} (h : 9007199254740992 ≤ n) : 0 < dig n ∧ 4503599627370496 * 2 ^ dig n ≤ n ∧ n < 9007199254740992 * 2 ^ dig n := by
  have h1 := log2_bd (by omega : 0 < n)
  have hk : 53 ≤ n.log2 := by
    rcases Nat.lt_or_ge n.log2 53 with h2 | h2
    · have := Nat.pow_le_pow_right (n := 2) (by omega) (by omega : n.log2 + 1 ≤ 53)
      have e : (2 : Nat) ^ 53 = 9007199254740992 := by decide
      omega
    · exact h2
  have e1 : (2 : Nat) ^ n.log2 = 4503599627370496 * 2 ^ dig n := by
    rw [show (4503599627370496 : Nat) = 2 ^ 52 by decide, ← Nat.pow_add]; unfold dig; congr 1; omega
  have e2 : (2 : Nat) ^ (n.log2 + 1) = 9007199254740992 * 2 ^ dig n := by rw [Nat.pow_succ, e1]; omega
  unfold dig at *
  omega
theorem rn_small {n : Nat} (h : n < 9007199254740992) : rn n = n := by
  unfold rn; rw [dig_zero h]; exact rne_exact n 0 (by simp)
theorem rn_half {n : Nat} : 2 * rn n ≤ 2 * n + 2 ^ dig n ∧ 2 * n ≤ 2 * rn n + 2 ^ dig n := by
  have := rne_near n (dig n); unfold rn; rw [← Nat.mul_assoc]; exact this
theorem rne_bd {n : Nat} (h : 9007199254740992 ≤ n) : 4503599627370496 ≤ rne n (dig n) ∧ rne n (dig n) ≤ 9007199254740992 := by
  obtain ⟨h0, h1, h2⟩ := dig_pos h
  have hq1 : 4503599627370496 ≤ n / 2 ^ dig n := (Nat.le_div_iff_mul_le (Nat.two_pow_pos _)).2 h1
  have hq2 : n / 2 ^ dig n < 9007199254740992 := (Nat.div_lt_iff_lt_mul (Nat.two_pow_pos _)).2 h2
  unfold rne; split <;> omega
theorem rep_dvd {f d : Nat} (h : RpN f) (hf : 4503599627370496 * 2 ^ d ≤ f) : 2 ^ d ∣ f := by
  obtain ⟨m, e, rfl, hm⟩ := h
  rcases Nat.lt_or_ge e d with h1 | h1
  · exfalso
    have h2 : 2 ^ (e + 1) ≤ 2 ^ d := Nat.pow_le_pow_right (by omega) h1
    have h3 : m * 2 ^ e < 9007199254740992 * 2 ^ e := (Nat.mul_lt_mul_right (Nat.two_pow_pos _)).2 hm
    rw [Nat.pow_succ] at h2
    have h4 : 4503599627370496 * (2 ^ e * 2) ≤ 4503599627370496 * 2 ^ d := Nat.mul_le_mul_left _ h2
    omega
  · exact Nat.dvd_trans (Nat.pow_dvd_pow 2 h1) (Nat.dvd_mul_left _ _)
/-- rounding goes to the nearest -/
theorem rn_near (n f : Nat) (hf : RpN f) : (f ≤ n → f ≤ rn n ∧ 2 * n ≤ rn n + n + (n - f) ∧ rn n ≤ n + (n - f)) ∧ (n ≤ f → rn n ≤ f ∧ n ≤ rn n + (f - n)) := by
  by_cases h : n < 9007199254740992
  · rw [rn_small h]; constructor <;> intro _ <;> omega
  · have hn : 9007199254740992 ≤ n := by omega
    obtain ⟨h0, h1, h2⟩ := dig_pos hn
    obtain ⟨n1, n2⟩ := @rn_half n
    -- multiples of 2^dig: the nearest one
    have key : ∀ g, 2 ^ dig n ∣ g → (g ≤ n → g ≤ rn n ∧ rn n ≤ n + (n - g)) ∧ (n ≤ g → rn n ≤ g ∧ n ≤ rn n + (g - n)) := by
      intro g hg
      have hr : 2 ^ dig n ∣ rn n := by unfold rn; exact Nat.dvd_mul_left _ _
      obtain ⟨i, rfl⟩ := hg
      obtain ⟨j, hj⟩ := hr
      rw [hj] at n1 n2 ⊢
      have hp : 0 < 2 ^ dig n := Nat.two_pow_pos _
      generalize 2 ^ dig n = p at *
      constructor
      · intro hi
        have hij : i ≤ j := by
          rcases Nat.lt_or_ge j i with h | h
          · have := Nat.mul_le_mul_left p h
            rw [Nat.mul_succ] at this
            -- then 2n ≤ 2 p j + p and p i ≤ n with i ≥ j+1: p j + p ≤ n, so 2 p j + 2p ≤ 2 n ≤ 2 p j + p
            omega
          · exact h
        have := Nat.mul_le_mul_left p hij
        rcases Nat.eq_or_lt_of_le hij with h | h
        · subst h; omega
        · have := Nat.mul_le_mul_left p h
          rw [Nat.mul_succ] at this
          omega
      · intro hi
        have hij : j ≤ i := by
          rcases Nat.lt_or_ge i j with h | h
          · have := Nat.mul_le_mul_left p h
            rw [Nat.mul_succ] at this
            omega
          · exact h
        have := Nat.mul_le_mul_left p hij
        rcases Nat.eq_or_lt_of_le hij with h | h
        · subst h; omega
        · have := Nat.mul_le_mul_left p h
          rw [Nat.mul_succ] at this
          omega
    have low := key (4503599627370496 * 2 ^ dig n) (Nat.dvd_mul_left _ _)
    have high := key (9007199254740992 * 2 ^ dig n) (Nat.dvd_mul_left _ _)
    rcases Nat.lt_or_ge f (4503599627370496 * 2 ^ dig n) with h3 | h3
    · have := low.1 h1; constructor <;> intro _ <;> omega
    · rcases Nat.lt_or_ge f (9007199254740992 * 2 ^ dig n) with h4 | h4
      · have := key f (rep_dvd hf h3); constructor <;> intro hh
        · have := this.1 hh; omega
        · have := this.2 hh; omega
      · have := high.2 (by omega); constructor <;> intro _ <;> omega
theorem rn_exact {n : Nat} (h : RpN n) : rn n = n := by
  have := rn_near n n h; have h1 := this.1 (Nat.le_refl _); have h2 := this.2 (Nat.le_refl _); omega
theorem Rp.nat {v : Int} (h : Rp v) : RpN v.natAbs := h
theorem rp_zero : RpN 0 := ⟨0, 0, by simp, by omega⟩
theorem Rp.neg {v : Int} (h : Rp v) : Rp (-v) := by obtain ⟨m, e, h1, h2⟩ := h; exact ⟨m, e, by rw [Int.natAbs_neg]; exact h1, h2⟩
theorem rnI_near (v f : Int) (hf : Rp f) : (v - rnI v).natAbs ≤ (v - f).natAbs ∧ (f ≤ v → f ≤ rnI v) ∧ (v ≤ f → rnI v ≤ f) := by
  have h0 := rn_near v.natAbs 0 rp_zero
  have h1 := rn_near v.natAbs f.natAbs hf.nat
  have h0' := h0.1 (Nat.zero_le _)
  unfold rnI
  by_cases hv : v < 0
  · rw [if_pos hv]
    by_cases hs : f < 0
    · rcases Nat.le_total f.natAbs v.natAbs with hh | hh
      · have := h1.1 hh; omega
      · have := h1.2 hh; omega
    · omega
  · rw [if_neg hv]
    by_cases hs : f < 0
    · omega
    · rcases Nat.le_total f.natAbs v.natAbs with hh | hh
      · have := h1.1 hh; omega
      · have := h1.2 hh; omega
theorem rnI_exact {v : Int} (h : Rp v) : rnI v = v := by have := rnI_near v v h; omega
end Go.Proofs.YtmpkcioeodlbcaaGreatDoor.Fl
