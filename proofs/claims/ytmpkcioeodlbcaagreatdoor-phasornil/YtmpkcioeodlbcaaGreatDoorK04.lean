/-
  Several texts in one: Fl Rn Qx Qy Qxp Qpf Qdc Tfx.
-/
import Derived.Laws.FloatArith
import Derived.Laws.BitsAllLaws
import Derived.Test.YtmpkcioeodlbcaaGreatDoorK01
import Derived.Test.YtmpkcioeodlbcaaGreatDoorRows
import Derived.HandedShaped
import Derived.SizedLaws
import Derived.ShutString
import Derived.MakeChecks
import Derived.Lib.LaidTab
namespace Go.Proofs.YtmpkcioeodlbcaaGreatDoor.Fl
open Ieee
def mg (x : Nat) : Nat := x % 9223372036854775808
def ng (x : Nat) : Bool := x / 9223372036854775808 % 2 == 1
def nan (x : Nat) : Bool := decide (9218868437227405312 < mg x)
def fin (x : Nat) : Prop := mg x < 9218868437227405312
def sig (r : Nat) : Nat := if r < 4503599627370496 then r else 4503599627370496 + r % 4503599627370496
def ex (r : Nat) : Nat := r / 4503599627370496 - 1
def sz (r : Nat) : Nat := sig r * 2 ^ ex r
def sgn (s : Bool) (n : Nat) : Int := if s then -(n : Int) else n
def val (x : Nat) : Int := sgn (ng x) (sz (mg x))
def plc (x : Nat) : Int := sgn (ng x) (mg x)

theorem d_sw : Ieee.double.signWeight = 9223372036854775808 := by decide
theorem d_bin : Ieee.double.binade = 4503599627370496 := by decide
theorem d_inf : Ieee.double.infRung = 9218868437227405312 := by decide
theorem d_least : Ieee.double.leastPlace = -1074 := by decide
theorem f64_double : FloatKind.f64.format = Ieee.double := rfl

theorem read_fin (x : Nat) (h : fin x) : Ieee.double.read x = .number (ng x) (sig (mg x)) (-1074 + (ex (mg x) : Int)) := by
  unfold fin at h
  unfold Ieee.Format.read
  simp only [d_sw, d_bin, d_inf, d_least]
  by_cases h1 : x % 9223372036854775808 < 4503599627370496
  · have e0 : ex (x % 9223372036854775808) = 0 := by unfold ex; omega
    simp [h1, sig, mg, ng, e0]
  · unfold mg at h
    simp [h1, h, sig, mg, ng, ex]
theorem read_inf (x : Nat) (h : mg x = 9218868437227405312) : Ieee.double.read x = .infinity (ng x) := by
  unfold mg at h
  unfold Ieee.Format.read
  simp only [d_sw, d_bin, d_inf, d_least, h, ng]
  simp
theorem read_nan (x : Nat) (h : nan x = true) : Ieee.double.read x = .nan (ng x) (mg x - 9218868437227405312) := by
  unfold nan mg at h
  simp only [decide_eq_true_eq] at h
  unfold Ieee.Format.read
  simp only [d_sw, d_bin, d_inf, d_least]
  rw [if_neg (by omega), if_neg (by omega), if_neg (by omega)]
  rfl
theorem kinds (x : Nat) : fin x ∨ mg x = 9218868437227405312 ∨ nan x = true := by
  unfold fin nan; simp only [decide_eq_true_eq]; omega
theorem fin_not_nan {x : Nat} (h : fin x) : nan x = false := by unfold fin at h; unfold nan; simp; omega
theorem inf_not_nan {x : Nat} (h : mg x = 9218868437227405312) : nan x = false := by unfold nan; simp; omega

theorem signed_eq (s : Bool) (m up : Nat) : Ieee.signed s m up = sgn s (m * 2 ^ up) := by
  unfold Ieee.signed sgn; simp [Nat.shiftLeft_eq]
theorem sgn_mul (s : Bool) (m k : Nat) : sgn s (m * k) = sgn s m * (k : Int) := by
  unfold sgn; cases s <;> simp [Int.neg_mul]
theorem compare_mul (a b : Int) (k : Nat) (hk : 0 < k) : compare (a * (k : Int)) (b * (k : Int)) = compare a b := by
  have hk' : (0 : Int) < k := by omega
  rcases Int.lt_trichotomy a b with h | h | h
  · have := (Int.mul_lt_mul_right hk').2 h
    simp [compare, compareOfLessAndEq, h, this]
  · subst h; simp
  · have h2 := (Int.mul_lt_mul_right hk').2 h
    have e1 : ¬ a < b := by omega
    have e2 : ¬ a = b := by omega
    have e3 : ¬ a * (k : Int) < b * (k : Int) := by omega
    have e4 : ¬ a * (k : Int) = b * (k : Int) := by omega
    simp [compare, compareOfLessAndEq, e1, e2, e3, e4]

theorem cmp_lt {a b : Int} (h : a < b) : compare a b = .lt := by simp [compare, compareOfLessAndEq, h]
theorem cmp_gt {a b : Int} (h : b < a) : compare a b = .gt := by
  have h1 : ¬ a < b := by omega
  have h2 : ¬ a = b := by omega
  simp [compare, compareOfLessAndEq, h1, h2]
theorem sig_lt (r : Nat) : sig r < 9007199254740992 := by unfold sig; split <;> omega
theorem ex_succ_le (a b : Nat) (h : a < b) (e : ex a ≠ ex b) : 4503599627370496 ≤ sig b ∧ ex a + 1 ≤ ex b := by
  unfold ex at *; unfold sig; constructor
  · split <;> omega
  · omega
theorem sz_mono {a b : Nat} (h : a < b) : sz a < sz b := by
  unfold sz
  by_cases e : ex a = ex b
  · rw [e]
    refine (Nat.mul_lt_mul_right (Nat.two_pow_pos _)).2 ?_
    unfold ex at e; unfold sig; split <;> split <;> omega
  · obtain ⟨h1, h2⟩ := ex_succ_le a b h e
    have h3 := sig_lt a
    calc sig a * 2 ^ ex a < 9007199254740992 * 2 ^ ex a := (Nat.mul_lt_mul_right (Nat.two_pow_pos _)).2 h3
      _ = 4503599627370496 * 2 ^ (ex a + 1) := by rw [Nat.pow_succ]; omega
      _ ≤ 4503599627370496 * 2 ^ ex b := Nat.mul_le_mul_left _ (Nat.pow_le_pow_right (by omega) h2)
      _ ≤ sig b * 2 ^ ex b := Nat.mul_le_mul_right _ h1
theorem sz_zero : sz 0 = 0 := by decide
theorem sz_inj {a b : Nat} (h : sz a = sz b) : a = b := by
  rcases Nat.lt_trichotomy a b with h1 | h1 | h1
  · have := sz_mono h1; omega
  · exact h1
  · have := sz_mono h1; omega
theorem sz_pos {a : Nat} (h : 0 < a) : 0 < sz a := by have := sz_mono h; rw [sz_zero] at this; exact this

theorem cmp_sgn (s t : Bool) (a b : Nat) : compare (sgn s (sz a)) (sgn t (sz b)) = compare (sgn s a) (sgn t b) := by
  have key : ∀ a b : Int, ∀ c d : Int, ((a < b) ↔ (c < d)) → ((a = b) ↔ (c = d)) → compare a b = compare c d := by
    intro a b c d h1 h2
    simp only [compare, compareOfLessAndEq, h1, h2]
  have ha := fun h => @sz_pos a h
  have hb := fun h => @sz_pos b h
  have ha0 : a = 0 → sz a = 0 := by rintro rfl; exact sz_zero
  have hb0 : b = 0 → sz b = 0 := by rintro rfl; exact sz_zero
  have h1 : a < b → sz a < sz b := sz_mono
  have h2 : b < a → sz b < sz a := sz_mono
  have h3 : a = b → sz a = sz b := by rintro rfl; rfl
  refine key _ _ _ _ ?_ ?_ <;> unfold sgn <;> cases s <;> cases t <;> simp <;> omega

theorem order_fin {x y : Nat} (hx : fin x) (hy : fin y) : Ieee.double.order x y = some (compare (val x) (val y)) := by
  unfold Ieee.Format.order
  rw [read_fin x hx, read_fin y hy]
  unfold Ieee.Datum.order
  simp only [signed_eq]
  congr 1
  have e1 : (-1074 + (ex (mg x) : Int) - min (-1074 + (ex (mg x) : Int)) (-1074 + (ex (mg y) : Int))).toNat = ex (mg x) - min (ex (mg x)) (ex (mg y)) := by omega
  have e2 : (-1074 + (ex (mg y) : Int) - min (-1074 + (ex (mg x) : Int)) (-1074 + (ex (mg y) : Int))).toNat = ex (mg y) - min (ex (mg x)) (ex (mg y)) := by omega
  rw [e1, e2, ← compare_mul _ _ (2 ^ min (ex (mg x)) (ex (mg y))) (Nat.two_pow_pos _), ← sgn_mul, ← sgn_mul, Nat.mul_assoc, Nat.mul_assoc, ← Nat.pow_add, ← Nat.pow_add,
    Nat.sub_add_cancel (Nat.min_le_left _ _), Nat.sub_add_cancel (Nat.min_le_right _ _)]
  rfl

theorem order_eq (x y : Nat) : Ieee.double.order x y = if nan x || nan y then none else some (compare (plc x) (plc y)) := by
  rcases kinds x with hx | hx | hx
  · rcases kinds y with hy | hy | hy
    · simp only [fin_not_nan hx, fin_not_nan hy, Bool.or_false, Bool.false_eq_true, if_false]
      rw [order_fin hx hy]; unfold val plc; rw [cmp_sgn]
    · simp only [fin_not_nan hx, inf_not_nan hy, Bool.or_false, Bool.false_eq_true, if_false]
      unfold Ieee.Format.order; rw [read_fin x hx, read_inf y hy]
      unfold Ieee.Datum.order plc; unfold fin at hx; unfold sgn; rw [hy]
      cases ng x <;> cases ng y <;> simp <;> first | (rw [cmp_lt (by omega)]; done) | (rw [cmp_gt (by omega)]; done)
    · simp only [hy, Bool.or_true, if_true]
      unfold Ieee.Format.order; rw [read_nan y hy, read_fin x hx]; rfl
  · rcases kinds y with hy | hy | hy
    · simp only [fin_not_nan hy, inf_not_nan hx, Bool.or_false, Bool.false_eq_true, if_false]
      unfold Ieee.Format.order; rw [read_fin y hy, read_inf x hx]
      unfold Ieee.Datum.order plc; unfold fin at hy; unfold sgn; rw [hx]
      cases ng x <;> cases ng y <;> simp <;> first | (rw [cmp_lt (by omega)]; done) | (rw [cmp_gt (by omega)]; done)
    · simp only [inf_not_nan hy, inf_not_nan hx, Bool.or_false, Bool.false_eq_true, if_false]
      unfold Ieee.Format.order; rw [read_inf y hy, read_inf x hx]
      unfold Ieee.Datum.order plc sgn; rw [hx, hy]
      cases ng x <;> cases ng y <;> rfl
    · simp only [hy, Bool.or_true, if_true]
      unfold Ieee.Format.order; rw [read_nan y hy, read_inf x hx]; rfl
  · simp only [hx, Bool.true_or, if_true]
    unfold Ieee.Format.order; rw [read_nan x hx]; rfl

theorem order_self (x : Nat) : FloatKind.f64.format.order x x = if nan x then none else some .eq := by
  rw [f64_double, order_eq]; cases nan x <;> simp [compare, compareOfLessAndEq]
theorem order_nan {x : Nat} (h : nan x = true) : FloatKind.f64.format.order x x = none := by rw [order_self, h]; rfl
theorem order_num {x : Nat} (h : nan x = false) : FloatKind.f64.format.order x x = some .eq := by rw [order_self, h]; rfl
theorem order_lt {x y : Nat} (hx : nan x = false) (hy : nan y = false) : (FloatKind.f64.format.order x y == some .lt) = decide (plc x < plc y) := by
  rw [f64_double, order_eq, hx, hy]; simp only [Bool.or_false, Bool.false_eq_true, if_false, compare, compareOfLessAndEq]
  by_cases h : plc x < plc y
  · simp [h]
  · by_cases h2 : plc x = plc y <;> simp [h, h2]
theorem order_eqb {x y : Nat} (hx : nan x = false) (hy : nan y = false) : (FloatKind.f64.format.order x y == some .eq) = decide (plc x = plc y) := by
  rw [f64_double, order_eq, hx, hy]; simp only [Bool.or_false, Bool.false_eq_true, if_false, compare, compareOfLessAndEq]
  by_cases h : plc x < plc y
  · have : ¬ plc x = plc y := by omega
    simp [h, this]
  · by_cases h2 : plc x = plc y <;> simp [h, h2]
theorem neg_of_pos {b : Nat} (h : b < 9223372036854775808) : Op.negFloat .f64 b = b + 9223372036854775808 := by
  show b ^^^ 2 ^ 63 = _
  have h1 := nat_join 63 9223372036854775808 b (by decide) (by omega)
  have h2 : b ^^^ 2 ^ 63 = 9223372036854775808 ||| b := by
    apply Nat.eq_of_testBit_eq
    intro i
    rw [show (9223372036854775808 : Nat) = 2 ^ 63 from rfl, Nat.testBit_xor, Nat.testBit_or, Nat.testBit_two_pow]
    by_cases hi : 63 = i
    · subst hi
      have : b.testBit 63 = false := Nat.testBit_lt_two_pow (by omega)
      simp [this]
    · simp [hi]
  rw [h2, h1]; omega
theorem neg_of_neg {b : Nat} (h1 : 9223372036854775808 ≤ b) (h2 : b < 18446744073709551616) : Op.negFloat .f64 b = b - 9223372036854775808 := by
  have h := neg_of_pos (b := b - 9223372036854775808) (by omega)
  have e : b - 9223372036854775808 + 9223372036854775808 = b := by omega
  rw [e] at h
  have h3 : ∀ c : Nat, Op.negFloat .f64 (Op.negFloat .f64 c) = c := by
    intro c
    show (c ^^^ 2 ^ 63) ^^^ 2 ^ 63 = c
    rw [Nat.xor_assoc, Nat.xor_self, Nat.xor_zero]
  have h4 := h3 (b - 9223372036854775808)
  rw [h] at h4; exact h4

end Go.Proofs.YtmpkcioeodlbcaaGreatDoor.Fl
namespace Go.Proofs.YtmpkcioeodlbcaaGreatDoor.Fl
/-- n over two to the d, to the nearest, ties to even -/
def rne (n d : Nat) : Nat := n / 2 ^ d + (if 2 ^ d < 2 * (n % 2 ^ d) ∨ (2 ^ d = 2 * (n % 2 ^ d) ∧ n / 2 ^ d % 2 = 1) then 1 else 0)
def dig (n : Nat) : Nat := n.log2 - 52
def rn (n : Nat) : Nat := rne n (dig n) * 2 ^ dig n
def rnI (v : Int) : Int := if v < 0 then -(rn v.natAbs : Int) else rn v.natAbs
def Rp (v : Int) : Prop := ∃ m e : Nat, v.natAbs = m * 2 ^ e ∧ m < 9007199254740992
def RpN (n : Nat) : Prop := ∃ m e : Nat, n = m * 2 ^ e ∧ m < 9007199254740992

theorem rne_near (n d : Nat) : 2 * rne n d * 2 ^ d ≤ 2 * n + 2 ^ d ∧ 2 * n ≤ 2 * rne n d * 2 ^ d + 2 ^ d := by
  have h := Nat.div_add_mod n (2 ^ d)
  have hlt : n % 2 ^ d < 2 ^ d := Nat.mod_lt _ (Nat.two_pow_pos _)
  unfold rne
  generalize n / 2 ^ d = q at *
  generalize n % 2 ^ d = r at *
  generalize 2 ^ d = p at *
  split
  · have e : 2 * (q + 1) * p = 2 * (p * q) + 2 * p := by rw [Nat.mul_assoc, Nat.add_mul, Nat.mul_comm q p, Nat.mul_add]; omega
    rw [e]; omega
  · have e : 2 * (q + 0) * p = 2 * (p * q) := by rw [Nat.add_zero, Nat.mul_assoc, Nat.mul_comm q p]
    rw [e]; omega
theorem rne_exact (n d : Nat) (h : 2 ^ d ∣ n) : rne n d * 2 ^ d = n := by
  have h0 : n % 2 ^ d = 0 := Nat.mod_eq_zero_of_dvd h
  have hp : 0 < 2 ^ d := Nat.two_pow_pos _
  unfold rne; rw [h0, if_neg (by omega), Nat.add_zero]
  exact Nat.div_mul_cancel h
theorem log2_bd {n : Nat} (h : 0 < n) : 2 ^ n.log2 ≤ n ∧ n < 2 ^ (n.log2 + 1) := ⟨Nat.log2_self_le (by omega), Nat.lt_log2_self⟩
theorem dig_zero {n : Nat} (h : n < 9007199254740992) : dig n = 0 := by
  unfold dig
  by_cases h0 : n = 0
  · subst h0; simp
  · have h1 := (log2_bd (by omega : 0 < n)).1
    have : n.log2 < 53 := by
      rcases Nat.lt_or_ge n.log2 53 with h2 | h2
      · exact h2
      · have := Nat.pow_le_pow_right (n := 2) (by omega) h2
        have e : (2 : Nat) ^ 53 = 9007199254740992 := by decide
        omega
    omega
theorem dig_pos {n : Nat} (h : 9007199254740992 ≤ n) : 0 < dig n ∧ 4503599627370496 * 2 ^ dig n ≤ n ∧ n < 9007199254740992 * 2 ^ dig n := by
  have h1 := log2_bd (by omega : 0 < n)
  have hk : 53 ≤ n.log2 := by
    rcases Nat.lt_or_ge n.log2 53 with h2 | h2
    · have := Nat.pow_le_pow_right (n := 2) (by omega) (by omega : n.log2 + 1 ≤ 53)
      have e : (2 : Nat) ^ 53 = 9007199254740992 := by decide
      omega
    · exact h2
  have e1 : (2 : Nat) ^ n.log2 = 4503599627370496 * 2 ^ dig n := by
    rw [show (4503599627370496 : Nat) = 2 ^ 52 by decide, ← Nat.pow_add]; unfold dig; congr 1; omega
  have e2 : (2 : Nat) ^ (n.log2 + 1) = 9007199254740992 * 2 ^ dig n := by rw [Nat.pow_succ, e1]; omega
  unfold dig at *
  omega
theorem rn_small {n : Nat} (h : n < 9007199254740992) : rn n = n := by
  unfold rn; rw [dig_zero h]; exact rne_exact n 0 (by simp)
theorem rn_half {n : Nat} : 2 * rn n ≤ 2 * n + 2 ^ dig n ∧ 2 * n ≤ 2 * rn n + 2 ^ dig n := by
  have := rne_near n (dig n); unfold rn; rw [← Nat.mul_assoc]; exact this
theorem rne_bd {n : Nat} (h : 9007199254740992 ≤ n) : 4503599627370496 ≤ rne n (dig n) ∧ rne n (dig n) ≤ 9007199254740992 := by
  obtain ⟨h0, h1, h2⟩ := dig_pos h
  have hq1 : 4503599627370496 ≤ n / 2 ^ dig n := (Nat.le_div_iff_mul_le (Nat.two_pow_pos _)).2 h1
  have hq2 : n / 2 ^ dig n < 9007199254740992 := (Nat.div_lt_iff_lt_mul (Nat.two_pow_pos _)).2 h2
  unfold rne; split <;> omega
theorem rep_dvd {f d : Nat} (h : RpN f) (hf : 4503599627370496 * 2 ^ d ≤ f) : 2 ^ d ∣ f := by
  obtain ⟨m, e, rfl, hm⟩ := h
  rcases Nat.lt_or_ge e d with h1 | h1
  · exfalso
    have h2 : 2 ^ (e + 1) ≤ 2 ^ d := Nat.pow_le_pow_right (by omega) h1
    have h3 : m * 2 ^ e < 9007199254740992 * 2 ^ e := (Nat.mul_lt_mul_right (Nat.two_pow_pos _)).2 hm
    rw [Nat.pow_succ] at h2
    have h4 : 4503599627370496 * (2 ^ e * 2) ≤ 4503599627370496 * 2 ^ d := Nat.mul_le_mul_left _ h2
    omega
  · exact Nat.dvd_trans (Nat.pow_dvd_pow 2 h1) (Nat.dvd_mul_left _ _)
/-- rounding goes to the nearest -/
theorem rn_near (n f : Nat) (hf : RpN f) : (f ≤ n → f ≤ rn n ∧ 2 * n ≤ rn n + n + (n - f) ∧ rn n ≤ n + (n - f)) ∧ (n ≤ f → rn n ≤ f ∧ n ≤ rn n + (f - n)) := by
  by_cases h : n < 9007199254740992
  · rw [rn_small h]; constructor <;> intro _ <;> omega
  · have hn : 9007199254740992 ≤ n := by omega
    obtain ⟨h0, h1, h2⟩ := dig_pos hn
    obtain ⟨n1, n2⟩ := @rn_half n
    -- multiples of 2^dig: the nearest one
    have key : ∀ g, 2 ^ dig n ∣ g → (g ≤ n → g ≤ rn n ∧ rn n ≤ n + (n - g)) ∧ (n ≤ g → rn n ≤ g ∧ n ≤ rn n + (g - n)) := by
      intro g hg
      have hr : 2 ^ dig n ∣ rn n := by unfold rn; exact Nat.dvd_mul_left _ _
      obtain ⟨i, rfl⟩ := hg
      obtain ⟨j, hj⟩ := hr
      rw [hj] at n1 n2 ⊢
      have hp : 0 < 2 ^ dig n := Nat.two_pow_pos _
      generalize 2 ^ dig n = p at *
      constructor
      · intro hi
        have hij : i ≤ j := by
          rcases Nat.lt_or_ge j i with h | h
          · have := Nat.mul_le_mul_left p h
            rw [Nat.mul_succ] at this
            -- then 2n ≤ 2 p j + p and p i ≤ n with i ≥ j+1: p j + p ≤ n, so 2 p j + 2p ≤ 2 n ≤ 2 p j + p
            omega
          · exact h
        have := Nat.mul_le_mul_left p hij
        rcases Nat.eq_or_lt_of_le hij with h | h
        · subst h; omega
        · have := Nat.mul_le_mul_left p h
          rw [Nat.mul_succ] at this
          omega
      · intro hi
        have hij : j ≤ i := by
          rcases Nat.lt_or_ge i j with h | h
          · have := Nat.mul_le_mul_left p h
            rw [Nat.mul_succ] at this
            omega
          · exact h
        have := Nat.mul_le_mul_left p hij
        rcases Nat.eq_or_lt_of_le hij with h | h
        · subst h; omega
        · have := Nat.mul_le_mul_left p h
          rw [Nat.mul_succ] at this
          omega
    have low := key (4503599627370496 * 2 ^ dig n) (Nat.dvd_mul_left _ _)
    have high := key (9007199254740992 * 2 ^ dig n) (Nat.dvd_mul_left _ _)
    rcases Nat.lt_or_ge f (4503599627370496 * 2 ^ dig n) with h3 | h3
    · have := low.1 h1; constructor <;> intro _ <;> omega
    · rcases Nat.lt_or_ge f (9007199254740992 * 2 ^ dig n) with h4 | h4
      · have := key f (rep_dvd hf h3); constructor <;> intro hh
        · have := this.1 hh; omega
        · have := this.2 hh; omega
      · have := high.2 (by omega); constructor <;> intro _ <;> omega
theorem rn_exact {n : Nat} (h : RpN n) : rn n = n := by
  have := rn_near n n h; have h1 := this.1 (Nat.le_refl _); have h2 := this.2 (Nat.le_refl _); omega
theorem Rp.nat {v : Int} (h : Rp v) : RpN v.natAbs := h
theorem rp_zero : RpN 0 := ⟨0, 0, by simp, by omega⟩
theorem Rp.neg {v : Int} (h : Rp v) : Rp (-v) := by obtain ⟨m, e, h1, h2⟩ := h; exact ⟨m, e, by rw [Int.natAbs_neg]; exact h1, h2⟩
theorem rnI_near (v f : Int) (hf : Rp f) : (v - rnI v).natAbs ≤ (v - f).natAbs ∧ (f ≤ v → f ≤ rnI v) ∧ (v ≤ f → rnI v ≤ f) := by
  have h0 := rn_near v.natAbs 0 rp_zero
  have h1 := rn_near v.natAbs f.natAbs hf.nat
  have h0' := h0.1 (Nat.zero_le _)
  unfold rnI
  by_cases hv : v < 0
  · rw [if_pos hv]
    by_cases hs : f < 0
    · rcases Nat.le_total f.natAbs v.natAbs with hh | hh
      · have := h1.1 hh; omega
      · have := h1.2 hh; omega
    · omega
  · rw [if_neg hv]
    by_cases hs : f < 0
    · omega
    · rcases Nat.le_total f.natAbs v.natAbs with hh | hh
      · have := h1.1 hh; omega
      · have := h1.2 hh; omega
theorem rnI_exact {v : Int} (h : Rp v) : rnI v = v := by have := rnI_near v v h; omega
end Go.Proofs.YtmpkcioeodlbcaaGreatDoor.Fl
namespace Go.Proofs.YtmpkcioeodlbcaaGreatDoor
open RowKit
/-- a byte of a text (0 outside it) -/
def qbyt (s : ByteArray) (i : Nat) : Nat := (s.data.getD i 0).toNat
/-- a reader in memory: its text and how far it has come -/
structure Rdr (w : World) (p : Nat) (s : ByteArray) (i : Nat) : Prop where
  blk : w.heap[p]? = some (.cells #[.string s, .int .i64 (i : Int)] 285 (0, 0))
  le : i ≤ s.size
  sz : s.size ≤ 64
theorem Rdr.c0 {w : World} {p i : Nat} {s : ByteArray} (h : Rdr w p s i) : w.cell? ⟨p, 0, none⟩ = some (.string s) := by
  rw [cell_of_row w p 0 _ _ (0, 0) h.blk]; rfl
theorem Rdr.c1 {w : World} {p i : Nat} {s : ByteArray} (h : Rdr w p s i) : w.cell? ⟨p, 1, none⟩ = some (.int .i64 (i : Int)) := by
  rw [cell_of_row w p 1 _ _ (0, 0) h.blk]; rfl
theorem Rdr.fz {w : World} {p i : Nat} {s : ByteArray} (h : Rdr w p s i) : w.frozen? ⟨p, 1, none⟩ = false := frozen_of_row w p 1 _ _ h.blk
theorem Rdr.plt {w : World} {p i : Nat} {s : ByteArray} (h : Rdr w p s i) : p < w.heap.size := (Array.getElem?_eq_some_iff.1 h.blk).1
theorem Rdr.step {w : World} {p i : Nat} {s : ByteArray} (h : Rdr w p s i) (hi : i < s.size) (n : Nat) : Rdr ((w.drewN n).setCell ⟨p, 1, none⟩ (.int .i64 ((i + 1 : Nat) : Int))) p s (i + 1) ∧ Only (fun k => k = p) w ((w.drewN n).setCell ⟨p, 1, none⟩ (.int .i64 ((i + 1 : Nat) : Int))) :=
  ⟨⟨heap_setCell_same _ p 1 _ _ _ h.blk, hi, h.sz⟩, ((Only.refl _ w).drewN n).set _ _ (.inl rfl)⟩
theorem Rdr.only {w w' : World} {p i : Nat} {s : ByteArray} (h : Rdr w p s i) {S : Nat → Prop} (ho : Only S w w') (hp : ¬ S p) : Rdr w' p s i := ⟨by rw [ho.block p h.plt hp]; exact h.blk, h.le, h.sz⟩
theorem qbyt_get {s : ByteArray} {i : Nat} (h : i < s.size) : (s[i]'h).toNat = qbyt s i := by
  have h2 : i < s.data.size := h
  show (s.data[i]'h2).toNat = (s.data.getD i 0).toNat
  rw [Array.getD_eq_getD_getElem?, Array.getElem?_eq_getElem h2]; rfl
/-- how far it has come behind take -/
def tk (s : ByteArray) (i c : Nat) : Nat := if i < s.size ∧ qbyt s i = c then i + 1 else i
def tkb (s : ByteArray) (i c : Nat) : Bool := decide (i < s.size ∧ qbyt s i = c)
theorem Rdr.drewN {w : World} {p i : Nat} {s : ByteArray} (h : Rdr w p s i) (n : Nat) : Rdr (w.drewN n) p s i := ⟨h.blk, h.le, h.sz⟩
set_option maxRecDepth 10000 in
set_option maxHeartbeats 1000000 in
theorem take_any {w : World} {p i : Nat} {s : ByteArray} (c : Nat) {C : Int} (h : Rdr w p s i) (hC : C = ((c : Nat) : Int)) :
    Calls Tryz.prog 218 #[.pointer (some ⟨p, 0, none⟩), .int .u8 C] w fun e w' => e = .returned (.bool (tkb s i c)) ∧ Rdr w' p s (tk s i c) ∧ Only (fun k => k = p) w w' := by
  subst hC
  have c0 := h.c0
  have c1 := h.c1
  have fz := h.fz
  have hl := h.le
  have hs := h.sz
  by_cases hi : i < s.size
  · have hne : ((i : Int) == (s.size : Int)) = false := by simp; omega
    by_cases hbc : qbyt s i = c
    · have e1 : tkb s i c = true := decide_eq_true ⟨hi, hbc⟩
      have e2 : tk s i c = i + 1 := if_pos ⟨hi, hbc⟩
      rw [e1, e2]
      clear e1 e2
      go_enter Tryz.func218, Tryz.ntmps218
      go_wp2_with fail
      go_quiet (fail)
      rw [qbyt_get hi, hbc]
      go_wp2
      go_ret
      obtain ⟨R, O⟩ := h.step hi nq
      exact ⟨rfl, R, O⟩
    · have e1 : tkb s i c = false := decide_eq_false (fun q => hbc q.2)
      have e2 : tk s i c = i := if_neg (fun q => hbc q.2)
      have hb2 : ((qbyt s i : Int) != (c : Int)) = true := by simp; omega
      rw [e1, e2]
      clear e1 e2
      go_enter Tryz.func218, Tryz.ntmps218
      go_wp2_with fail
      go_quiet (fail)
      rw [qbyt_get hi, hb2]
      go_wp2
      go_ret
      exact ⟨rfl, h.drewN nq, (Only.refl _ w).drewN nq⟩
  · have e1 : tkb s i c = false := decide_eq_false (fun q => hi q.1)
    have e2 : tk s i c = i := if_neg (fun q => hi q.1)
    have e : i = s.size := by omega
    rw [e1, e2]
    clear e1 e2
    subst e
    go_enter Tryz.func218, Tryz.ntmps218
    go_wp2_with fail
    go_quiet (fail)
    go_wp2
    go_ret
    exact ⟨rfl, h.drewN nq, (Only.refl _ w).drewN nq⟩
/-- is a digit next? -/
def dgb (s : ByteArray) (i : Nat) : Bool := decide (i < s.size ∧ 48 ≤ qbyt s i ∧ qbyt s i ≤ 57)
set_option maxRecDepth 10000 in
set_option maxHeartbeats 1000000 in
theorem digit_yes {w : World} {p i : Nat} {s : ByteArray} (h : Rdr w p s i) (hd : dgb s i = true) :
    Calls Tryz.prog 260 #[.pointer (some ⟨p, 0, none⟩)] w fun e w' => e = .returned (.tuple #[.int .u64 ((qbyt s i - 48 : Nat) : Int), .bool true]) ∧ Rdr w' p s (i + 1) ∧ Only (fun k => k = p) w w' := by
  obtain ⟨hi, h48, h57⟩ := of_decide_eq_true hd
  have c0 := h.c0
  have c1 := h.c1
  have fz := h.fz
  have hl := h.le
  have hs := h.sz
  have hne : ((i : Int) == (s.size : Int)) = false := by simp; omega
  have hg := qbyt_get hi
  obtain ⟨b, hb⟩ : ∃ b, b = qbyt s i := ⟨_, rfl⟩
  rw [← hb] at h48 h57 hg ⊢
  obtain ⟨m, hm⟩ : ∃ m, b = m + 48 := ⟨b - 48, by omega⟩
  subst hm
  have HB : Hid (m + 48 = qbyt s i) := hb
  have h1 : ¬ ((m : Int) + 48) < 48 := by omega
  have h2 : ¬ 57 < ((m : Int) + 48) := by omega
  have hi2 : wrap64 ((i : Int) + 1 - 1) = (i : Int) := by unfold wrap64; omega
  rw [Nat.add_sub_cancel]
  clear hb hd
  go_enter Tryz.func260, Tryz.ntmps260
  go_wp2_with fail
  go_quiet (fail)
  try rw [hg]
  obtain ⟨R, O⟩ := h.step hi nq
  have k0 : ((w.drewN nq).setCell ⟨p, 1, none⟩ (.int .i64 ((i : Int) + 1))).cell? ⟨p, 0, none⟩ = some (.string s) := R.c0
  have k1 : ((w.drewN nq).setCell ⟨p, 1, none⟩ (.int .i64 ((i : Int) + 1))).cell? ⟨p, 1, none⟩ = some (.int .i64 ((i : Int) + 1)) := R.c1
  have HR : Hid (Rdr ((w.drewN nq).setCell ⟨p, 1, none⟩ (.int .i64 ((i : Int) + 1))) p s (i + 1) ∧ Only (fun k => k = p) w ((w.drewN nq).setCell ⟨p, 1, none⟩ (.int .i64 ((i : Int) + 1)))) := ⟨R, O⟩
  clear R O
  go_wp2_with fail
  obtain ⟨W, hW⟩ : ∃ W, W = (w.drewN nq).setCell ⟨p, 1, none⟩ (.int .i64 ((i : Int) + 1)) := ⟨_, rfl⟩
  rw [← hW] at k0 k1 HR ⊢
  clear hW c0 c1 fz
  go_quiet (fail)
  try rw [hg]
  go_wp2
  go_ret2
  exact ⟨rfl, HR.out.1.drewN _, HR.out.2.drewN _⟩
set_option maxRecDepth 10000 in
set_option maxHeartbeats 1000000 in
theorem digit_no {w : World} {p i : Nat} {s : ByteArray} (h : Rdr w p s i) (hd : dgb s i = false) :
    Calls Tryz.prog 260 #[.pointer (some ⟨p, 0, none⟩)] w fun e w' => e = .returned (.tuple #[.int .u64 0, .bool false]) ∧ Rdr w' p s i ∧ Only (fun k => k = p) w w' := by
  have hq := of_decide_eq_false hd
  have c0 := h.c0
  have c1 := h.c1
  have fz := h.fz
  have hl := h.le
  have hs := h.sz
  clear hd
  by_cases hi : i < s.size
  · have hne : ((i : Int) == (s.size : Int)) = false := by simp; omega
    have hg := qbyt_get hi
    obtain ⟨b, hb⟩ : ∃ b, b = qbyt s i := ⟨_, rfl⟩
    rw [← hb] at hg hq
    clear hb
    by_cases h48 : b < 48
    · have h1 : (b : Int) < 48 := by omega
      clear hq
      go_enter Tryz.func260, Tryz.ntmps260
      go_wp2_with fail
      go_quiet (fail)
      try rw [hg]
      go_wp2
      go_ret2
      exact ⟨rfl, h.drewN nq, (Only.refl _ w).drewN nq⟩
    · have h1 : ¬ (b : Int) < 48 := by omega
      have h2 : 57 < (b : Int) := by omega
      clear hq
      go_enter Tryz.func260, Tryz.ntmps260
      go_wp2_with fail
      go_quiet (fail)
      try rw [hg]
      go_wp2
      go_ret2
      exact ⟨rfl, h.drewN nq, (Only.refl _ w).drewN nq⟩
  · have e : i = s.size := by omega
    subst e
    clear hq
    go_enter Tryz.func260, Tryz.ntmps260
    go_wp2_with fail
    go_quiet (fail)
    go_wp2
    go_ret2
    exact ⟨rfl, h.drewN nq, (Only.refl _ w).drewN nq⟩

end Go.Proofs.YtmpkcioeodlbcaaGreatDoor
namespace Go.Proofs.YtmpkcioeodlbcaaGreatDoor
open RowKit
/-- how many digits are next -/
def dN (s : ByteArray) : Nat → Nat → Nat
  | 0, _ => 0
  | f + 1, i => if dgb s i = true then dN s f (i + 1) + 1 else 0
/-- a whole number with the digits that are next behind it -/
def dV (s : ByteArray) : Nat → Nat → Nat → Nat
  | 0, _, z => z
  | f + 1, i, z => if dgb s i = true then dV s f (i + 1) (z * 10 + (qbyt s i - 48)) else z
theorem dN_yes {s : ByteArray} {i f : Nat} (h : dgb s i = true) : dN s (f + 1) i = dN s f (i + 1) + 1 := if_pos h
theorem dN_no {s : ByteArray} {i f : Nat} (h : dgb s i = false) : dN s (f + 1) i = 0 := if_neg (by rw [h]; decide)
theorem dV_yes {s : ByteArray} {i f z : Nat} (h : dgb s i = true) : dV s (f + 1) i z = dV s f (i + 1) (z * 10 + (qbyt s i - 48)) := if_pos h
theorem dV_no {s : ByteArray} {i f z : Nat} (h : dgb s i = false) : dV s (f + 1) i z = z := if_neg (by rw [h]; decide)
def atOf (w : World) (p : Nat) : Nat := match w.cell? ⟨p, 1, none⟩ with | some (.int _ q) => q.toNat | _ => 0
theorem Rdr.at {w : World} {p i : Nat} {s : ByteArray} (h : Rdr w p s i) : atOf w p = i := by unfold atOf; rw [h.c1]; simp
theorem dgb_lt {s : ByteArray} {i : Nat} (h : dgb s i = true) : i < s.size ∧ qbyt s i - 48 ≤ 9 := by
  obtain ⟨h1, h2, h3⟩ := of_decide_eq_true h
  exact ⟨h1, by omega⟩
set_option maxRecDepth 10000 in
set_option maxHeartbeats 1000000 in
theorem digits_any {w : World} {p i base z L : Nat} {s : ByteArray} {v : Value} (h : Rdr w p s i) (hv : Wh w base v z L) (hpv : ¬ Ob v p) (hL : L ≤ 1000) (hbase : base ≤ w.heap.size) :
    Calls Tryz.prog 239 #[.pointer (some ⟨p, 0, none⟩), v] w fun e w' => ∃ v' : Value, e = .returned (.tuple #[v', .int .i64 ((dN s 65 i : Nat) : Int)]) ∧ Wh w' base v' (dV s 65 i z) (L + 64) ∧ Rdr w' p s (i + dN s 65 i) ∧ Only (fun k => Ob v k ∨ k = p) w w' ∧ (∀ k, Ob v' k → Ob v k ∨ w.heap.size ≤ k) := by
  have c1 := h.c1
  have hplt := h.plt
  go_enter Tryz.func239, Tryz.ntmps239
  go_wp2_with fail
  go_loopw [1] (fun vv wr => ∃ (j z0 : Nat) (v0 : Value), v0 = vv ∧ j ≤ 64 ∧ Rdr wr p s (i + j) ∧ Wh wr base v0 z0 (L + j) ∧ dN s (65 - j) (i + j) + j = dN s 65 i ∧ dV s (65 - j) (i + j) z0 = dV s 65 i z ∧ Only (fun k => Ob v k ∨ k = p) w wr ∧ (∀ k, Ob v0 k → Ob v k ∨ w.heap.size ≤ k)) (fun _ wr => 100 - atOf wr p)
  case atStart => exact ⟨0, z, v, rfl, by omega, h, hv, rfl, rfl, Only.refl _ _, fun k hk => .inl hk⟩
  case round =>
    clear hv c1
    obtain ⟨j, z0, v0, rfl, hj, R, hv, hN, hV, hO, hF⟩ := hrel
    have hsz := hO.size
    have hbs : base ≤ wr.heap.size := by omega
    have hle := R.le
    have hs64 := R.sz
    have hpv0 : ¬ Ob v0 p := fun hk => by
      rcases hF p hk with h1 | h1
      · exact hpv h1
      · omega
    obtain ⟨f, hf⟩ : ∃ f, 65 - j = f + 1 := ⟨64 - j, by omega⟩
    rw [hf] at hN hV
    by_cases hd : dgb s (i + j) = true
    · obtain ⟨hlt, hb9⟩ := dgb_lt hd
      rw [dN_yes hd] at hN
      rw [dV_yes hd] at hV
      obtain ⟨m, hm⟩ : ∃ m, m = qbyt s (i + j) - 48 := ⟨_, rfl⟩
      rw [← hm] at hV hb9
      have HM : Hid (m = qbyt s (i + j) - 48) := hm
      have hat := R.at
      have HN : Hid (dN s f (i + j + 1) + 1 + j = dN s 65 i) := hN
      have HV : Hid (dV s f (i + j + 1) (z0 * 10 + m) = dV s 65 i z) := hV
      have HO : Hid (Only (fun k => Ob v k ∨ k = p) w wr) := hO
      have HF : Hid (∀ k, Ob v0 k → Ob v k ∨ w.heap.size ≤ k) := hF
      clear hm hN hV hO hF
      go_wp2_with (first
        | (go_at_call 260; (with_reducible refine (digit_yes R hd).mono ?_); rintro e1 w1 ⟨rfl, k1, k2⟩; rw [← HM.out]; have k3 := k2.size; have hv1 := hv.only k2 (fun k hk hk2 => hpv0 (hk2 ▸ hk)))
        | (go_at_call 261; (with_reducible refine (qtimesI 10 m hv1 (by omega) rfl (by omega) (by omega) (by omega) (by omega) (by omega)).mono ?_); rintro e2 w2 ⟨v2, rfl, q1, q2, q3⟩))
      have R2 := k1.only q2 hpv0
      have O2 : Only (fun k => Ob v k ∨ k = p) w w2 := (HO.out.next k2 (fun i hi => .inl (.inr hi))).next q2 (fun i hi => (HF.out i hi).imp .inl id)
      go_roundw
      case rel =>
        refine ⟨j + 1, z0 * 10 + m, v2, rfl, by omega, R2, q1, ?_, ?_, O2, fun k hk => ?_⟩
        · rw [show 65 - (j + 1) = f by omega]; have := HN.out; show dN s f (i + j + 1) + (j + 1) = _; omega
        · rw [show 65 - (j + 1) = f by omega]; exact HV.out
        · rcases q3 k hk with h1 | h1
          · exact HF.out k h1
          · exact .inr (by omega)
      case measure =>
        rw [hat, R2.at]; omega
    · have hd0 : dgb s (i + j) = false := by simpa using hd
      rw [dN_no hd0] at hN
      rw [dV_no hd0] at hV
      have HN : Hid (j = dN s 65 i) := by show _ = _; omega
      have HV : Hid (z0 = dV s 65 i z) := hV
      have HO : Hid (Only (fun k => Ob v k ∨ k = p) w wr) := hO
      clear hN hV hO
      go_wp2_with (go_at_call 260; (with_reducible refine (digit_no R hd0).mono ?_); rintro e1 w1 ⟨rfl, k1, k2⟩; have c1 := k1.c1)
      go_quiet (fail)
      go_wp2
      go_ret2
      have hv1 := (hv.only k2 (fun k hk hk2 => hpv0 (hk2 ▸ hk))).mono (L' := L + 64) (by omega)
      rw [HV.out] at hv1
      have hr : i + j = i + dN s 65 i := by rw [← HN.out]
      rw [hr] at k1
      refine ⟨_, ?_, hv1, k1.drewN _, (HO.out.next k2 (fun i hi => .inl (.inr hi))).drewN _, hF⟩
      show Ending.returned (Value.tuple #[v0, Value.int IntKind.i64 ((i : Int) + (j : Int) - (i : Int))]) = _
      rw [show (i : Int) + (j : Int) - (i : Int) = ((dN s 65 i : Nat) : Int) by have := HN.out; omega]

end Go.Proofs.YtmpkcioeodlbcaaGreatDoor
namespace Go.Proofs.YtmpkcioeodlbcaaGreatDoor
open RowKit
def xS (s : ByteArray) (i : Nat) : Bool := tkb s i 101 || tkb s i 69
def xB (s : ByteArray) (i : Nat) : Bool := tkb s (i + 1) 45
def x3_Qxp (s : ByteArray) (i : Nat) : Nat := if xB s i = true then i + 2 else tk s (i + 1) 43
def xP (s : ByteArray) (i : Nat) : Int := if xS s i = true then (if xB s i = true then -(dV s 4 (x3_Qxp s i) 0 : Nat) else (dV s 4 (x3_Qxp s i) 0 : Nat)) else 0
def xO (s : ByteArray) (i : Nat) : Bool := if xS s i = true then decide (0 < dN s 4 (x3_Qxp s i)) else true
def xA (s : ByteArray) (i : Nat) : Nat := if xS s i = true then x3_Qxp s i + dN s 4 (x3_Qxp s i) else i
theorem dV_bound {s : ByteArray} : ∀ (f i z : Nat), dV s f i z < (z + 1) * 10 ^ f := by
  intro f
  induction f with
  | zero => intro i z; show z < (z + 1) * 1; omega
  | succ f ih =>
    intro i z
    by_cases h : dgb s i = true
    · rw [dV_yes h]
      have h1 := ih (i + 1) (z * 10 + (qbyt s i - 48))
      have h2 := (dgb_lt h).2
      have h3 : (z * 10 + (qbyt s i - 48) + 1) * 10 ^ f ≤ ((z + 1) * 10) * 10 ^ f := Nat.mul_le_mul_right _ (by omega)
      rw [Nat.pow_succ, Nat.mul_comm (10 ^ f), ← Nat.mul_assoc]
      omega
    · rw [dV_no (by simpa using h)]
      have : (z + 1) * 1 ≤ (z + 1) * 10 ^ (f + 1) := Nat.mul_le_mul_left _ (Nat.pow_pos (by decide))
      omega
theorem dN_le {s : ByteArray} : ∀ (f i : Nat), dN s f i ≤ f := by
  intro f
  induction f with
  | zero => intro i; exact Nat.le_refl _
  | succ f ih =>
    intro i
    by_cases h : dgb s i = true
    · rw [dN_yes h]; have := ih (i + 1); omega
    · rw [dN_no (by simpa using h)]; omega
theorem tk_yes {s : ByteArray} {i c : Nat} (h : tkb s i c = true) : tk s i c = i + 1 := if_pos (of_decide_eq_true h)
theorem tk_no {s : ByteArray} {i c : Nat} (h : tkb s i c = false) : tk s i c = i := if_neg (of_decide_eq_false h)
theorem exp_fin {P Q : Int} {b c : Bool} (h1 : P = Q) (h2 : b = c) : Ending.returned (Value.tuple #[.int .i64 P, .bool b]) = .returned (.tuple #[.int .i64 Q, .bool c]) := by rw [h1, h2]
set_option maxRecDepth 10000 in
set_option maxHeartbeats 2000000 in
theorem exp_any {w : World} {p i : Nat} {s : ByteArray} (h : Rdr w p s i) :
    Calls Tryz.prog 240 #[.pointer (some ⟨p, 0, none⟩)] w fun e w' => e = .returned (.tuple #[.int .i64 (xP s i), .bool (xO s i)]) ∧ Rdr w' p s (xA s i) ∧ Only (fun k => k = p) w w' := by
  by_cases hs : xS s i = true
  · have e1 : xP s i = if xB s i = true then -((dV s 4 (x3_Qxp s i) 0 : Nat) : Int) else ((dV s 4 (x3_Qxp s i) 0 : Nat) : Int) := if_pos hs
    have e2 : xO s i = decide (0 < dN s 4 (x3_Qxp s i)) := if_pos hs
    have e3 : xA s i = x3_Qxp s i + dN s 4 (x3_Qxp s i) := if_pos hs
    rw [e1, e2, e3]
    obtain ⟨a, ha⟩ : ∃ a, x3_Qxp s i = a := ⟨_, rfl⟩
    have HA : Hid (x3_Qxp s i = a) := ha
    obtain ⟨neg, hneg⟩ : ∃ neg, xB s i = neg := ⟨_, rfl⟩
    have HG : Hid (xB s i = neg) := hneg
    rw [ha, hneg]
    clear e1 e2 e3
    -- the two ways to the sign
    have hse : tkb s i 101 = true ∨ (tkb s i 101 = false ∧ tkb s i 69 = true) := by
      unfold xS at hs
      cases h1 : tkb s i 101
      · rw [h1] at hs; exact .inr ⟨rfl, by simpa using hs⟩
      · exact .inl rfl
    clear hs
    rcases hse with h1' | ⟨h1', h2'⟩
    · have h1 : Hid (tkb s i 101 = true) := h1'
      clear h1'
      cases neg
      · have hB : Hid (tkb s (i + 1) 45 = false) := HG.out
        have HA : Hid (tk s (i + 1) 43 = a) := by
          show _ = _
          have := HA.out
          unfold x3_Qxp at this
          rw [HG.out] at this
          exact this
        clear ha hneg
        go_enter Tryz.func240, Tryz.ntmps240
        go_wp2_with (first
          | (go_at_call 218; (with_reducible refine (take_any 101 h (by omega)).mono ?_); rintro e1 w1 ⟨rfl, k1, k2⟩; rw [h1.out]; rw [tk_yes h1.out] at k1)
          | (go_at_call 218; (with_reducible refine (take_any 45 k1 (by omega)).mono ?_); rintro e3 w3 ⟨rfl, q1, q2⟩; rw [hB.out]; rw [tk_no hB.out] at q1)
          | (go_at_call 218; (with_reducible refine (take_any 43 q1 (by omega)).mono ?_); rintro e4 w4 ⟨rfl, q3, q4⟩; rw [HA.out] at q3))
        have R0 : Rdr _ p s a := q3
        have O0 := (k2.trans q2).trans q4
        have d1 := R0.c1
        go_quiet (fail)
        go_wp2_with fail
        go_loopw [5] (fun pv wr => ∃ j z0 : Nat, pv = .int .i64 z0 ∧ j ≤ 4 ∧ z0 < 10 ^ j ∧ Rdr wr p s (a + j) ∧ dN s (4 - j) (a + j) + j = dN s 4 a ∧ dV s (4 - j) (a + j) z0 = dV s 4 a 0 ∧ Only (fun k => k = p) w wr) (fun _ wr => 100 - atOf wr p)
        case atStart => exact ⟨0, 0, rfl, by omega, by decide, R0.drewN _, rfl, rfl, O0.drewN _⟩
        case round =>
          clear d1 R0 O0
          obtain ⟨j, z0, rfl, hj, hz0, R, hN, hV, hO⟩ := hrel
          have hle := R.le
          have hs64 := R.sz
          have hat := R.at
          have d1 := R.c1
          have hz4 : z0 < 10000 := Nat.lt_of_lt_of_le hz0 (Nat.le_trans (Nat.pow_le_pow_right (by decide) hj) (by decide))
          by_cases hj4 : j < 4
          · have hjI : (a : Int) + (j : Int) < (a : Int) + 4 := by omega
            obtain ⟨f, hf⟩ : ∃ f, 4 - j = f + 1 := ⟨3 - j, by omega⟩
            rw [hf] at hN hV
            by_cases hd : dgb s (a + j) = true
            · obtain ⟨hlt, hb9⟩ := dgb_lt hd
              rw [dN_yes hd] at hN
              rw [dV_yes hd] at hV
              obtain ⟨m, hm⟩ : ∃ m, m = qbyt s (a + j) - 48 := ⟨_, rfl⟩
              rw [← hm] at hV hb9
              have HM : Hid (m = qbyt s (a + j) - 48) := hm
              have HN : Hid (dN s f (a + j + 1) + 1 + j = dN s 4 a) := hN
              have HV : Hid (dV s f (a + j + 1) (z0 * 10 + m) = dV s 4 a 0) := hV
              have HZ : Hid (z0 < 10 ^ j) := hz0
              have HO : Hid (Only (fun k => k = p) w wr) := hO
              clear hm hN hV hO hz0
              go_wp2_with (go_at_call 260; (with_reducible refine (digit_yes R hd).mono ?_); rintro e5 w5 ⟨rfl, j1, j2⟩; rw [← HM.out])
              go_roundw
              case rel =>
                refine ⟨j + 1, z0 * 10 + m, congrArg (Value.int .i64) (by omega), by omega, ?_, j1, ?_, ?_, HO.out.trans j2⟩
                · have := HZ.out; rw [Nat.pow_succ]; omega
                · rw [show 4 - (j + 1) = f by omega]; have := HN.out; show dN s f (a + j + 1) + (j + 1) = _; omega
                · rw [show 4 - (j + 1) = f by omega]; exact HV.out
              case measure => rw [hat, j1.at]; omega
            · have hd0 : dgb s (a + j) = false := by simpa using hd
              rw [dN_no hd0] at hN
              rw [dV_no hd0] at hV
              have HN : Hid (dN s 4 a = j) := by show _ = _; omega
              have HV : Hid (dV s 4 a 0 = z0) := hV.symm
              have HO : Hid (Only (fun k => k = p) w wr) := hO
              clear hN hV hO hz0 hj4
              go_wp2_with (go_at_call 260; (with_reducible refine (digit_no R hd0).mono ?_); rintro e5 w5 ⟨rfl, j1, j2⟩; have g1 := j1.c1)
              go_quiet (fail)
              go_wp2
              go_ret2
              rw [HN.out, HV.out]
              exact ⟨exp_fin (by first | rfl | omega | (simp; omega) | simp) (decide_eq_decide.2 (by omega)), j1.drewN _, (HO.out.trans j2).drewN _⟩
          · have e4 : j = 4 := by omega
            subst e4
            have hjI : ¬ (a : Int) + ((4 : Nat) : Int) < (a : Int) + 4 := by omega
            have HN : Hid (dN s 4 a = 4) := by show _ = _; have : dN s (4 - 4) (a + 4) = 0 := rfl; omega
            have HV : Hid (dV s 4 a 0 = z0) := by show _ = _; rw [← hV]; rfl
            have HO : Hid (Only (fun k => k = p) w wr) := hO
            clear hN hV hO hz0
            go_wp2_with fail
            go_quiet (fail)
            go_wp2
            go_ret2
            rw [HN.out, HV.out]
            exact ⟨exp_fin (by first | rfl | omega | (simp; omega) | simp) (decide_eq_decide.2 (by omega)), R.drewN _, HO.out.drewN _⟩
      · have hB : Hid (tkb s (i + 1) 45 = true) := HG.out
        have HA : Hid (i + 2 = a) := by
          show _ = _
          have := HA.out
          unfold x3_Qxp at this
          rw [HG.out] at this
          exact this
        clear ha hneg
        go_enter Tryz.func240, Tryz.ntmps240
        go_wp2_with (first
          | (go_at_call 218; (with_reducible refine (take_any 101 h (by omega)).mono ?_); rintro e1 w1 ⟨rfl, k1, k2⟩; rw [h1.out]; rw [tk_yes h1.out] at k1)
          | (go_at_call 218; (with_reducible refine (take_any 45 k1 (by omega)).mono ?_); rintro e3 w3 ⟨rfl, q1, q2⟩; rw [hB.out]; rw [tk_yes hB.out] at q1))
        have R0 : Rdr _ p s a := HA.out ▸ q1
        have O0 := k2.trans q2
        have d1 := R0.c1
        go_quiet (fail)
        go_wp2_with fail
        go_loopw [5] (fun pv wr => ∃ j z0 : Nat, pv = .int .i64 z0 ∧ j ≤ 4 ∧ z0 < 10 ^ j ∧ Rdr wr p s (a + j) ∧ dN s (4 - j) (a + j) + j = dN s 4 a ∧ dV s (4 - j) (a + j) z0 = dV s 4 a 0 ∧ Only (fun k => k = p) w wr) (fun _ wr => 100 - atOf wr p)
        case atStart => exact ⟨0, 0, rfl, by omega, by decide, R0.drewN _, rfl, rfl, O0.drewN _⟩
        case round =>
          clear d1 R0 O0
          obtain ⟨j, z0, rfl, hj, hz0, R, hN, hV, hO⟩ := hrel
          have hle := R.le
          have hs64 := R.sz
          have hat := R.at
          have d1 := R.c1
          have hz4 : z0 < 10000 := Nat.lt_of_lt_of_le hz0 (Nat.le_trans (Nat.pow_le_pow_right (by decide) hj) (by decide))
          by_cases hj4 : j < 4
          · have hjI : (a : Int) + (j : Int) < (a : Int) + 4 := by omega
            obtain ⟨f, hf⟩ : ∃ f, 4 - j = f + 1 := ⟨3 - j, by omega⟩
            rw [hf] at hN hV
            by_cases hd : dgb s (a + j) = true
            · obtain ⟨hlt, hb9⟩ := dgb_lt hd
              rw [dN_yes hd] at hN
              rw [dV_yes hd] at hV
              obtain ⟨m, hm⟩ : ∃ m, m = qbyt s (a + j) - 48 := ⟨_, rfl⟩
              rw [← hm] at hV hb9
              have HM : Hid (m = qbyt s (a + j) - 48) := hm
              have HN : Hid (dN s f (a + j + 1) + 1 + j = dN s 4 a) := hN
              have HV : Hid (dV s f (a + j + 1) (z0 * 10 + m) = dV s 4 a 0) := hV
              have HZ : Hid (z0 < 10 ^ j) := hz0
              have HO : Hid (Only (fun k => k = p) w wr) := hO
              clear hm hN hV hO hz0
              go_wp2_with (go_at_call 260; (with_reducible refine (digit_yes R hd).mono ?_); rintro e5 w5 ⟨rfl, j1, j2⟩; rw [← HM.out])
              go_roundw
              case rel =>
                refine ⟨j + 1, z0 * 10 + m, congrArg (Value.int .i64) (by omega), by omega, ?_, j1, ?_, ?_, HO.out.trans j2⟩
                · have := HZ.out; rw [Nat.pow_succ]; omega
                · rw [show 4 - (j + 1) = f by omega]; have := HN.out; show dN s f (a + j + 1) + (j + 1) = _; omega
                · rw [show 4 - (j + 1) = f by omega]; exact HV.out
              case measure => rw [hat, j1.at]; omega
            · have hd0 : dgb s (a + j) = false := by simpa using hd
              rw [dN_no hd0] at hN
              rw [dV_no hd0] at hV
              have HN : Hid (dN s 4 a = j) := by show _ = _; omega
              have HV : Hid (dV s 4 a 0 = z0) := hV.symm
              have HO : Hid (Only (fun k => k = p) w wr) := hO
              clear hN hV hO hz0 hj4
              go_wp2_with (go_at_call 260; (with_reducible refine (digit_no R hd0).mono ?_); rintro e5 w5 ⟨rfl, j1, j2⟩; have g1 := j1.c1)
              go_quiet (fail)
              go_wp2
              go_ret2
              rw [HN.out, HV.out]
              exact ⟨exp_fin (by first | rfl | omega | (simp; omega) | simp) (decide_eq_decide.2 (by omega)), j1.drewN _, (HO.out.trans j2).drewN _⟩
          · have e4 : j = 4 := by omega
            subst e4
            have hjI : ¬ (a : Int) + ((4 : Nat) : Int) < (a : Int) + 4 := by omega
            have HN : Hid (dN s 4 a = 4) := by show _ = _; have : dN s (4 - 4) (a + 4) = 0 := rfl; omega
            have HV : Hid (dV s 4 a 0 = z0) := by show _ = _; rw [← hV]; rfl
            have HO : Hid (Only (fun k => k = p) w wr) := hO
            clear hN hV hO hz0
            go_wp2_with fail
            go_quiet (fail)
            go_wp2
            go_ret2
            rw [HN.out, HV.out]
            exact ⟨exp_fin (by first | rfl | omega | (simp; omega) | simp) (decide_eq_decide.2 (by omega)), R.drewN _, HO.out.drewN _⟩
    · have h1 : Hid (tkb s i 101 = false) := h1'
      have h2 : Hid (tkb s i 69 = true) := h2'
      clear h1' h2'
      cases neg
      · have hB : Hid (tkb s (i + 1) 45 = false) := HG.out
        have HA : Hid (tk s (i + 1) 43 = a) := by
          show _ = _
          have := HA.out
          unfold x3_Qxp at this
          rw [HG.out] at this
          exact this
        clear ha hneg
        go_enter Tryz.func240, Tryz.ntmps240
        go_wp2_with (first
          | (go_at_call 218; (with_reducible refine (take_any 101 h (by omega)).mono ?_); rintro e1 w1 ⟨rfl, k1, k2⟩; rw [h1.out]; rw [tk_no h1.out] at k1)
          | (go_at_call 218; (with_reducible refine (take_any 69 k1 (by omega)).mono ?_); rintro e2 w2 ⟨rfl, k3, k4⟩; rw [h2.out]; rw [tk_yes h2.out] at k3)
          | (go_at_call 218; (with_reducible refine (take_any 45 k3 (by omega)).mono ?_); rintro e3 w3 ⟨rfl, q1, q2⟩; rw [hB.out]; rw [tk_no hB.out] at q1)
          | (go_at_call 218; (with_reducible refine (take_any 43 q1 (by omega)).mono ?_); rintro e4 w4 ⟨rfl, q3, q4⟩; rw [HA.out] at q3))
        have R0 : Rdr _ p s a := q3
        have O0 := ((k2.trans k4).trans q2).trans q4
        have d1 := R0.c1
        go_quiet (fail)
        go_wp2_with fail
        go_loopw [5] (fun pv wr => ∃ j z0 : Nat, pv = .int .i64 z0 ∧ j ≤ 4 ∧ z0 < 10 ^ j ∧ Rdr wr p s (a + j) ∧ dN s (4 - j) (a + j) + j = dN s 4 a ∧ dV s (4 - j) (a + j) z0 = dV s 4 a 0 ∧ Only (fun k => k = p) w wr) (fun _ wr => 100 - atOf wr p)
        case atStart => exact ⟨0, 0, rfl, by omega, by decide, R0.drewN _, rfl, rfl, O0.drewN _⟩
        case round =>
          clear d1 R0 O0
          obtain ⟨j, z0, rfl, hj, hz0, R, hN, hV, hO⟩ := hrel
          have hle := R.le
          have hs64 := R.sz
          have hat := R.at
          have d1 := R.c1
          have hz4 : z0 < 10000 := Nat.lt_of_lt_of_le hz0 (Nat.le_trans (Nat.pow_le_pow_right (by decide) hj) (by decide))
          by_cases hj4 : j < 4
          · have hjI : (a : Int) + (j : Int) < (a : Int) + 4 := by omega
            obtain ⟨f, hf⟩ : ∃ f, 4 - j = f + 1 := ⟨3 - j, by omega⟩
            rw [hf] at hN hV
            by_cases hd : dgb s (a + j) = true
            · obtain ⟨hlt, hb9⟩ := dgb_lt hd
              rw [dN_yes hd] at hN
              rw [dV_yes hd] at hV
              obtain ⟨m, hm⟩ : ∃ m, m = qbyt s (a + j) - 48 := ⟨_, rfl⟩
              rw [← hm] at hV hb9
              have HM : Hid (m = qbyt s (a + j) - 48) := hm
              have HN : Hid (dN s f (a + j + 1) + 1 + j = dN s 4 a) := hN
              have HV : Hid (dV s f (a + j + 1) (z0 * 10 + m) = dV s 4 a 0) := hV
              have HZ : Hid (z0 < 10 ^ j) := hz0
              have HO : Hid (Only (fun k => k = p) w wr) := hO
              clear hm hN hV hO hz0
              go_wp2_with (go_at_call 260; (with_reducible refine (digit_yes R hd).mono ?_); rintro e5 w5 ⟨rfl, j1, j2⟩; rw [← HM.out])
              go_roundw
              case rel =>
                refine ⟨j + 1, z0 * 10 + m, congrArg (Value.int .i64) (by omega), by omega, ?_, j1, ?_, ?_, HO.out.trans j2⟩
                · have := HZ.out; rw [Nat.pow_succ]; omega
                · rw [show 4 - (j + 1) = f by omega]; have := HN.out; show dN s f (a + j + 1) + (j + 1) = _; omega
                · rw [show 4 - (j + 1) = f by omega]; exact HV.out
              case measure => rw [hat, j1.at]; omega
            · have hd0 : dgb s (a + j) = false := by simpa using hd
              rw [dN_no hd0] at hN
              rw [dV_no hd0] at hV
              have HN : Hid (dN s 4 a = j) := by show _ = _; omega
              have HV : Hid (dV s 4 a 0 = z0) := hV.symm
              have HO : Hid (Only (fun k => k = p) w wr) := hO
              clear hN hV hO hz0 hj4
              go_wp2_with (go_at_call 260; (with_reducible refine (digit_no R hd0).mono ?_); rintro e5 w5 ⟨rfl, j1, j2⟩; have g1 := j1.c1)
              go_quiet (fail)
              go_wp2
              go_ret2
              rw [HN.out, HV.out]
              exact ⟨exp_fin (by first | rfl | omega | (simp; omega) | simp) (decide_eq_decide.2 (by omega)), j1.drewN _, (HO.out.trans j2).drewN _⟩
          · have e4 : j = 4 := by omega
            subst e4
            have hjI : ¬ (a : Int) + ((4 : Nat) : Int) < (a : Int) + 4 := by omega
            have HN : Hid (dN s 4 a = 4) := by show _ = _; have : dN s (4 - 4) (a + 4) = 0 := rfl; omega
            have HV : Hid (dV s 4 a 0 = z0) := by show _ = _; rw [← hV]; rfl
            have HO : Hid (Only (fun k => k = p) w wr) := hO
            clear hN hV hO hz0
            go_wp2_with fail
            go_quiet (fail)
            go_wp2
            go_ret2
            rw [HN.out, HV.out]
            exact ⟨exp_fin (by first | rfl | omega | (simp; omega) | simp) (decide_eq_decide.2 (by omega)), R.drewN _, HO.out.drewN _⟩
      · have hB : Hid (tkb s (i + 1) 45 = true) := HG.out
        have HA : Hid (i + 2 = a) := by
          show _ = _
          have := HA.out
          unfold x3_Qxp at this
          rw [HG.out] at this
          exact this
        clear ha hneg
        go_enter Tryz.func240, Tryz.ntmps240
        go_wp2_with (first
          | (go_at_call 218; (with_reducible refine (take_any 101 h (by omega)).mono ?_); rintro e1 w1 ⟨rfl, k1, k2⟩; rw [h1.out]; rw [tk_no h1.out] at k1)
          | (go_at_call 218; (with_reducible refine (take_any 69 k1 (by omega)).mono ?_); rintro e2 w2 ⟨rfl, k3, k4⟩; rw [h2.out]; rw [tk_yes h2.out] at k3)
          | (go_at_call 218; (with_reducible refine (take_any 45 k3 (by omega)).mono ?_); rintro e3 w3 ⟨rfl, q1, q2⟩; rw [hB.out]; rw [tk_yes hB.out] at q1))
        have R0 : Rdr _ p s a := HA.out ▸ q1
        have O0 := (k2.trans k4).trans q2
        have d1 := R0.c1
        go_quiet (fail)
        go_wp2_with fail
        go_loopw [5] (fun pv wr => ∃ j z0 : Nat, pv = .int .i64 z0 ∧ j ≤ 4 ∧ z0 < 10 ^ j ∧ Rdr wr p s (a + j) ∧ dN s (4 - j) (a + j) + j = dN s 4 a ∧ dV s (4 - j) (a + j) z0 = dV s 4 a 0 ∧ Only (fun k => k = p) w wr) (fun _ wr => 100 - atOf wr p)
        case atStart => exact ⟨0, 0, rfl, by omega, by decide, R0.drewN _, rfl, rfl, O0.drewN _⟩
        case round =>
          clear d1 R0 O0
          obtain ⟨j, z0, rfl, hj, hz0, R, hN, hV, hO⟩ := hrel
          have hle := R.le
          have hs64 := R.sz
          have hat := R.at
          have d1 := R.c1
          have hz4 : z0 < 10000 := Nat.lt_of_lt_of_le hz0 (Nat.le_trans (Nat.pow_le_pow_right (by decide) hj) (by decide))
          by_cases hj4 : j < 4
          · have hjI : (a : Int) + (j : Int) < (a : Int) + 4 := by omega
            obtain ⟨f, hf⟩ : ∃ f, 4 - j = f + 1 := ⟨3 - j, by omega⟩
            rw [hf] at hN hV
            by_cases hd : dgb s (a + j) = true
            · obtain ⟨hlt, hb9⟩ := dgb_lt hd
              rw [dN_yes hd] at hN
              rw [dV_yes hd] at hV
              obtain ⟨m, hm⟩ : ∃ m, m = qbyt s (a + j) - 48 := ⟨_, rfl⟩
              rw [← hm] at hV hb9
              have HM : Hid (m = qbyt s (a + j) - 48) := hm
              have HN : Hid (dN s f (a + j + 1) + 1 + j = dN s 4 a) := hN
              have HV : Hid (dV s f (a + j + 1) (z0 * 10 + m) = dV s 4 a 0) := hV
              have HZ : Hid (z0 < 10 ^ j) := hz0
              have HO : Hid (Only (fun k => k = p) w wr) := hO
              clear hm hN hV hO hz0
              go_wp2_with (go_at_call 260; (with_reducible refine (digit_yes R hd).mono ?_); rintro e5 w5 ⟨rfl, j1, j2⟩; rw [← HM.out])
              go_roundw
              case rel =>
                refine ⟨j + 1, z0 * 10 + m, congrArg (Value.int .i64) (by omega), by omega, ?_, j1, ?_, ?_, HO.out.trans j2⟩
                · have := HZ.out; rw [Nat.pow_succ]; omega
                · rw [show 4 - (j + 1) = f by omega]; have := HN.out; show dN s f (a + j + 1) + (j + 1) = _; omega
                · rw [show 4 - (j + 1) = f by omega]; exact HV.out
              case measure => rw [hat, j1.at]; omega
            · have hd0 : dgb s (a + j) = false := by simpa using hd
              rw [dN_no hd0] at hN
              rw [dV_no hd0] at hV
              have HN : Hid (dN s 4 a = j) := by show _ = _; omega
              have HV : Hid (dV s 4 a 0 = z0) := hV.symm
              have HO : Hid (Only (fun k => k = p) w wr) := hO
              clear hN hV hO hz0 hj4
              go_wp2_with (go_at_call 260; (with_reducible refine (digit_no R hd0).mono ?_); rintro e5 w5 ⟨rfl, j1, j2⟩; have g1 := j1.c1)
              go_quiet (fail)
              go_wp2
              go_ret2
              rw [HN.out, HV.out]
              exact ⟨exp_fin (by first | rfl | omega | (simp; omega) | simp) (decide_eq_decide.2 (by omega)), j1.drewN _, (HO.out.trans j2).drewN _⟩
          · have e4 : j = 4 := by omega
            subst e4
            have hjI : ¬ (a : Int) + ((4 : Nat) : Int) < (a : Int) + 4 := by omega
            have HN : Hid (dN s 4 a = 4) := by show _ = _; have : dN s (4 - 4) (a + 4) = 0 := rfl; omega
            have HV : Hid (dV s 4 a 0 = z0) := by show _ = _; rw [← hV]; rfl
            have HO : Hid (Only (fun k => k = p) w wr) := hO
            clear hN hV hO hz0
            go_wp2_with fail
            go_quiet (fail)
            go_wp2
            go_ret2
            rw [HN.out, HV.out]
            exact ⟨exp_fin (by first | rfl | omega | (simp; omega) | simp) (decide_eq_decide.2 (by omega)), R.drewN _, HO.out.drewN _⟩
  · have hs0 : xS s i = false := by simpa using hs
    have e1 : xP s i = 0 := if_neg hs
    have e2 : xO s i = true := if_neg hs
    have e3 : xA s i = i := if_neg hs
    rw [e1, e2, e3]
    unfold xS at hs0
    have h1 : Hid (tkb s i 101 = false) := (Bool.or_eq_false_iff.1 hs0).1
    have h2 : Hid (tkb s i 69 = false) := (Bool.or_eq_false_iff.1 hs0).2
    clear e1 e2 e3 hs hs0
    go_enter Tryz.func240, Tryz.ntmps240
    go_wp2_with (first
      | (go_at_call 218; (with_reducible refine (take_any 101 h (by omega)).mono ?_); rintro e1 w1 ⟨rfl, k1, k2⟩; rw [h1.out]; rw [tk_no h1.out] at k1)
      | (go_at_call 218; (with_reducible refine (take_any 69 k1 (by omega)).mono ?_); rintro e2 w2 ⟨rfl, q1, q2⟩; rw [h2.out]; rw [tk_no h2.out] at q1))
    go_ret2
    exact ⟨rfl, q1, k2.trans q2⟩

end Go.Proofs.YtmpkcioeodlbcaaGreatDoor
namespace Go.Proofs.YtmpkcioeodlbcaaGreatDoor
open RowKit
def pfV (c : Nat) : Int := if c = 102 then (-15) else if c = 112 then (-12) else if c = 110 then (-9) else if c = 117 then (-6) else if c = 109 then (-3) else if c = 107 then 3 else if c = 77 then 6 else if c = 71 then 9 else if c = 84 then 12 else 0
def pfB (c : Nat) : Bool := c == 102 || c == 112 || c == 110 || c == 117 || c == 109 || c == 107 || c == 77 || c == 71 || c == 84
theorem pf_bound (c : Nat) : -15 ≤ pfV c ∧ pfV c ≤ 12 := by
  unfold pfV
  repeat' split
  all_goals omega
set_option maxRecDepth 10000 in
set_option maxHeartbeats 1000000 in
theorem Prefix_any (c : Nat) (w : World) : Calls Tryz.prog 262 #[.int .u8 c] w fun e w' => e = .returned (.tuple #[.int .i64 (pfV c), .bool (pfB c)]) ∧ w' = w := by
  by_cases h0 : c = 102
  · subst h0
    go_enter Tryz.func262, Tryz.ntmps262
    go_wp2
    go_ret2
    exact ⟨rfl, rfl⟩
  by_cases h1 : c = 112
  · subst h1
    go_enter Tryz.func262, Tryz.ntmps262
    go_wp2
    go_ret2
    exact ⟨rfl, rfl⟩
  by_cases h2 : c = 110
  · subst h2
    go_enter Tryz.func262, Tryz.ntmps262
    go_wp2
    go_ret2
    exact ⟨rfl, rfl⟩
  by_cases h3 : c = 117
  · subst h3
    go_enter Tryz.func262, Tryz.ntmps262
    go_wp2
    go_ret2
    exact ⟨rfl, rfl⟩
  by_cases h4 : c = 109
  · subst h4
    go_enter Tryz.func262, Tryz.ntmps262
    go_wp2
    go_ret2
    exact ⟨rfl, rfl⟩
  by_cases h5 : c = 107
  · subst h5
    go_enter Tryz.func262, Tryz.ntmps262
    go_wp2
    go_ret2
    exact ⟨rfl, rfl⟩
  by_cases h6 : c = 77
  · subst h6
    go_enter Tryz.func262, Tryz.ntmps262
    go_wp2
    go_ret2
    exact ⟨rfl, rfl⟩
  by_cases h7 : c = 71
  · subst h7
    go_enter Tryz.func262, Tryz.ntmps262
    go_wp2
    go_ret2
    exact ⟨rfl, rfl⟩
  by_cases h8 : c = 84
  · subst h8
    go_enter Tryz.func262, Tryz.ntmps262
    go_wp2
    go_ret2
    exact ⟨rfl, rfl⟩
  have g0 : ((c : Int) == 102) = false := by simp; omega
  have g1 : ((c : Int) == 112) = false := by simp; omega
  have g2 : ((c : Int) == 110) = false := by simp; omega
  have g3 : ((c : Int) == 117) = false := by simp; omega
  have g4 : ((c : Int) == 109) = false := by simp; omega
  have g5 : ((c : Int) == 107) = false := by simp; omega
  have g6 : ((c : Int) == 77) = false := by simp; omega
  have g7 : ((c : Int) == 71) = false := by simp; omega
  have g8 : ((c : Int) == 84) = false := by simp; omega
  have e1 : pfV c = 0 := by unfold pfV; rw [if_neg h0, if_neg h1, if_neg h2, if_neg h3, if_neg h4, if_neg h5, if_neg h6, if_neg h7, if_neg h8]
  have e2 : pfB c = false := by simp [pfB, h0, h1, h2, h3, h4, h5, h6, h7, h8]
  rw [e1, e2]
  clear e1 e2
  go_enter Tryz.func262, Tryz.ntmps262
  go_wp2
  go_ret2
  exact ⟨rfl, rfl⟩
/-- what prefix reads -/
def pxB (s : ByteArray) (i : Nat) : Bool := decide (i < s.size) && pfB (qbyt s i)
def pxV (s : ByteArray) (i : Nat) : Int := if i < s.size then pfV (qbyt s i) else 0
def pxA (s : ByteArray) (i : Nat) : Nat := if pxB s i = true then i + 1 else i
set_option maxRecDepth 10000 in
set_option maxHeartbeats 1000000 in
theorem prefix_any {w : World} {p i : Nat} {s : ByteArray} (h : Rdr w p s i) :
    Calls Tryz.prog 241 #[.pointer (some ⟨p, 0, none⟩)] w fun e w' => e = .returned (.int .i64 (pxV s i)) ∧ Rdr w' p s (pxA s i) ∧ Only (fun k => k = p) w w' := by
  have c0 := h.c0
  have c1 := h.c1
  have fz := h.fz
  have hl := h.le
  have hs := h.sz
  by_cases hi : i < s.size
  · have hne : ((i : Int) == (s.size : Int)) = false := by simp; omega
    have hg := qbyt_get hi
    have e1 : pxV s i = pfV (qbyt s i) := if_pos hi
    rw [e1]
    have HP : Hid (pxB s i = pfB (qbyt s i)) := by show _ = _; unfold pxB; rw [decide_eq_true hi, Bool.true_and]
    obtain ⟨b, hb⟩ : ∃ b, b = qbyt s i := ⟨_, rfl⟩
    rw [← hb] at hg HP ⊢
    clear e1 hb
    obtain ⟨pv, hpv⟩ : ∃ pv, pfV b = pv := ⟨_, rfl⟩
    have HV : Hid (pfV b = pv) := hpv
    rw [hpv]
    clear hpv
    cases hpb : pfB b
    · have HB : Hid (pfB b = false) := hpb
      have e2 : pxA s i = i := if_neg (by rw [HP.out, hpb]; decide)
      rw [e2]
      clear hpb e2
      go_enter Tryz.func241, Tryz.ntmps241
      go_wp2_with fail
      go_quiet (fail)
      go_wp2_with fail
      go_region_with (go_at_call 262; (with_reducible refine (Prefix_any b _).mono ?_); rintro e1 w1 ⟨rfl, rfl⟩; rw [HV.out, HB.out])
      all_goals
        go_wp2
        go_ret
        exact ⟨rfl, h.drewN (nq + 1), (Only.refl _ w).drewN (nq + 1)⟩
    · have HB : Hid (pfB b = true) := hpb
      have e2 : pxA s i = i + 1 := if_pos (by rw [HP.out, hpb])
      rw [e2]
      clear hpb e2
      go_enter Tryz.func241, Tryz.ntmps241
      go_wp2_with fail
      go_quiet (fail)
      go_wp2_with fail
      go_region_with (go_at_call 262; (with_reducible refine (Prefix_any b _).mono ?_); rintro e1 w1 ⟨rfl, rfl⟩; rw [HV.out, HB.out])
      all_goals
        go_wp2
        go_ret
        obtain ⟨R, O⟩ := h.step hi (nq + 1)
        exact ⟨rfl, R, O⟩
  · have e1 : pxV s i = 0 := if_neg hi
    have e2 : pxA s i = i := if_neg (by unfold pxB; rw [decide_eq_false hi, Bool.false_and]; decide)
    have e : i = s.size := by omega
    rw [e1, e2]
    clear e1 e2
    subst e
    go_enter Tryz.func241, Tryz.ntmps241
    go_wp2_with fail
    go_quiet (fail)
    go_wp2
    go_ret
    exact ⟨rfl, h.drewN nq, (Only.refl _ w).drewN nq⟩

end Go.Proofs.YtmpkcioeodlbcaaGreatDoor
namespace Go.Proofs.YtmpkcioeodlbcaaGreatDoor
open RowKit
def cT (s : ByteArray) (i : Nat) : Bool := tkb s (i + dN s 65 i) 46
def cI2 (s : ByteArray) (i : Nat) : Nat := tk s (i + dN s 65 i) 46
def cB (s : ByteArray) (i : Nat) : Nat := if cT s i = true then dN s 65 (cI2 s i) else 0
def cZ (s : ByteArray) (i : Nat) : Nat := if cT s i = true then dV s 65 (cI2 s i) (dV s 65 i 0) else dV s 65 i 0
def cI3 (s : ByteArray) (i : Nat) : Nat := cI2 s i + cB s i
def cSome (s : ByteArray) (i : Nat) : Bool := decide (dN s 65 i + cB s i ≠ 0)
def cOk (s : ByteArray) (i : Nat) : Bool := cSome s i && xO s (cI3 s i)
def cEnd (s : ByteArray) (i : Nat) : Nat := if cSome s i = true then (if xO s (cI3 s i) = true then pxA s (xA s (cI3 s i)) else xA s (cI3 s i)) else cI3 s i
def cP (s : ByteArray) (i : Nat) : Int := xP s (cI3 s i) + pxV s (xA s (cI3 s i)) - (cB s i : Int)
theorem xP_bound (s : ByteArray) (i : Nat) : -10000 < xP s i ∧ xP s i < 10000 := by
  have h := dV_bound (s := s) 4 (x3_Qxp s i) 0
  rw [show (0 + 1) * 10 ^ 4 = 10000 by decide] at h
  unfold xP
  repeat' split
  all_goals omega
theorem px_bound (s : ByteArray) (i : Nat) : -15 ≤ pxV s i ∧ pxV s i ≤ 12 := by
  have := pf_bound (qbyt s i)
  unfold pxV
  split <;> omega
theorem dec_fin {v v' : Value} {P Q : Int} {b c : Bool} (h0 : v = v') (h1 : P = Q) (h2 : b = c) : Ending.returned (Value.tuple #[v, .int .i64 P, .bool b]) = .returned (.tuple #[v', .int .i64 Q, .bool c]) := by rw [h0, h1, h2]
theorem nob_nil {p : Nat} : ¬ Ob (.slice none 0 0) p := fun hk => by simp [Ob, Value.ownBlock] at hk
theorem only_nil {w w' : World} {p : Nat} (h : Only (fun k => Ob (.slice none 0 0) k ∨ k = p) w w') : Only (fun k => k = p) w w' := h.mono (fun _ _ hi => hi.elim (fun q => absurd q nob_nil) id)
theorem fresh_nil {v : Value} {n : Nat} (h : ∀ k, Ob v k → Ob (.slice none 0 0) k ∨ n ≤ k) : ∀ k, Ob v k → n ≤ k := fun k hk => (h k hk).elim (fun q => absurd q nob_nil) id
set_option maxRecDepth 10000 in
set_option maxHeartbeats 2000000 in
theorem dec_any {w : World} {p i : Nat} {s : ByteArray} (h : Rdr w p s i) :
    Calls Tryz.prog 219 #[.pointer (some ⟨p, 0, none⟩)] w fun e w' => ∃ (v' : Value) (P : Int), e = .returned (.tuple #[v', .int .i64 P, .bool (cOk s i)]) ∧ (cOk s i = true → Wh w' w.heap.size v' (cZ s i) 200 ∧ P = cP s i) ∧ Rdr w' p s (cEnd s i) ∧ Only (fun k => k = p) w w' := by
  obtain ⟨n1, hn1⟩ : ∃ n, dN s 65 i = n := ⟨_, rfl⟩
  have HN1 : Hid (dN s 65 i = n1) := hn1
  have hplt := h.plt
  have hnil : Wh w w.heap.size (.slice none 0 0) 0 0 := Wh.nil _ _ _
  have hn65 : n1 ≤ 65 := by rw [← hn1]; exact dN_le _ _
  cases ht : cT s i
  · have HT : Hid (tkb s (i + dN s 65 i) 46 = false) := ht
    have HCB : Hid (cB s i = 0) := if_neg (by rw [ht]; decide)
    have EZ : Hid (cZ s i = dV s 65 i 0) := if_neg (by rw [ht]; decide)
    have E3 : Hid (cI3 s i = tk s (i + dN s 65 i) 46) := by show cI2 s i + cB s i = _; rw [HCB.out]; rfl
    clear ht hn1
    by_cases hz : n1 = 0
    · have ec : cSome s i = false := decide_eq_false (by rw [HN1.out, HCB.out]; omega)
      have eo : cOk s i = false := by unfold cOk; rw [ec]; rfl
      have ee : cEnd s i = cI3 s i := if_neg (by rw [ec]; decide)
      rw [eo, ee]
      clear eo ee ec
      have z1 : n1 = 0 := by omega
      subst z1
      go_enter Tryz.func219, Tryz.ntmps219
      go_wp2_with (first
        | (go_at_call 239; (with_reducible refine (digits_any h hnil nob_nil (by omega) (Nat.le_refl _)).mono ?_); rintro e1 w1 ⟨v1, rfl, k1, k2, k3, k4⟩; rw [HN1.out]; have O1 := only_nil k3; have F1 := fresh_nil k4; clear k3 k4)
        | (go_at_call 218; (with_reducible refine (take_any 46 k2 (by omega)).mono ?_); rintro e2 w2 ⟨rfl, q1, q2⟩; rw [HT.out]; have W2 := k1.only q2 (fun k hk hk2 => by have := F1 k hk; omega); have s2 := O1.size; have s3 := q2.size; have Q1 := q1; rw [← E3.out] at Q1))
      go_ret3
      exact ⟨_, _, rfl, fun hk => absurd hk (by decide), Q1, (O1.trans q2)⟩
    · have hneI : ((n1 : Int) == 0) = false := by simp; omega
      have ec : cSome s i = true := decide_eq_true (by rw [HN1.out, HCB.out]; omega)
      obtain ⟨xp, hxp⟩ : ∃ xp, xP s (cI3 s i) = xp := ⟨_, rfl⟩
      have HXP : Hid (xP s (cI3 s i) = xp) := hxp
      have bx := xP_bound s (cI3 s i)
      rw [hxp] at bx
      obtain ⟨bx1, bx2⟩ := bx
      clear hxp
      cases hx : xO s (cI3 s i)
      · have HX : Hid (xO s (cI3 s i) = false) := hx
        have eo : cOk s i = false := by unfold cOk; rw [ec, hx]; rfl
        have ee : cEnd s i = xA s (cI3 s i) := by unfold cEnd; rw [if_pos ec, if_neg (by rw [hx]; decide)]
        rw [eo, ee]
        clear eo ee ec hx
        go_enter Tryz.func219, Tryz.ntmps219
        go_wp2_with (first
          | (go_at_call 239; (with_reducible refine (digits_any h hnil nob_nil (by omega) (Nat.le_refl _)).mono ?_); rintro e1 w1 ⟨v1, rfl, k1, k2, k3, k4⟩; rw [HN1.out]; have O1 := only_nil k3; have F1 := fresh_nil k4; clear k3 k4)
          | (go_at_call 218; (with_reducible refine (take_any 46 k2 (by omega)).mono ?_); rintro e2 w2 ⟨rfl, q1, q2⟩; rw [HT.out]; have W2 := k1.only q2 (fun k hk hk2 => by have := F1 k hk; omega); have s2 := O1.size; have s3 := q2.size; have Q1 := q1; rw [← E3.out] at Q1)
          | (go_at_call 240; (with_reducible refine (exp_any Q1).mono ?_); rintro e4 w4 ⟨rfl, x1, x2⟩; rw [HXP.out, HX.out]))
        go_ret3
        exact ⟨_, _, rfl, fun hk => absurd hk (by decide), x1, (O1.trans q2).trans x2⟩
      · have HX : Hid (xO s (cI3 s i) = true) := hx
        have eo : cOk s i = true := by unfold cOk; rw [ec, hx]; rfl
        have ee : cEnd s i = pxA s (xA s (cI3 s i)) := by unfold cEnd; rw [if_pos ec, if_pos hx]
        rw [eo, ee]
        clear eo ee ec hx
        obtain ⟨pv, hpv⟩ : ∃ pv, pxV s (xA s (cI3 s i)) = pv := ⟨_, rfl⟩
        have HPV : Hid (pxV s (xA s (cI3 s i)) = pv) := hpv
        have bp := px_bound s (xA s (cI3 s i))
        rw [hpv] at bp
        obtain ⟨bp1, bp2⟩ := bp
        clear hpv
        go_enter Tryz.func219, Tryz.ntmps219
        go_wp2_with (first
          | (go_at_call 239; (with_reducible refine (digits_any h hnil nob_nil (by omega) (Nat.le_refl _)).mono ?_); rintro e1 w1 ⟨v1, rfl, k1, k2, k3, k4⟩; rw [HN1.out]; have O1 := only_nil k3; have F1 := fresh_nil k4; clear k3 k4)
          | (go_at_call 218; (with_reducible refine (take_any 46 k2 (by omega)).mono ?_); rintro e2 w2 ⟨rfl, q1, q2⟩; rw [HT.out]; have W2 := k1.only q2 (fun k hk hk2 => by have := F1 k hk; omega); have s2 := O1.size; have s3 := q2.size; have Q1 := q1; rw [← E3.out] at Q1)
          | (go_at_call 240; (with_reducible refine (exp_any Q1).mono ?_); rintro e4 w4 ⟨rfl, x1, x2⟩; rw [HXP.out, HX.out])
          | (go_at_call 241; (with_reducible refine (prefix_any x1).mono ?_); rintro e5 w5 ⟨rfl, y1, y2⟩; rw [HPV.out]))
        go_ret3
        refine ⟨_, _, dec_fin rfl rfl rfl, fun _ => ⟨?_, ?_⟩, y1, ((O1.trans q2).trans x2).trans y2⟩
        · rw [EZ.out]
          refine ((W2.only x2 (fun k hk hk2 => ?_)).only y2 (fun k hk hk2 => ?_)).mono (by omega)
          all_goals
            have := F1 k hk
            omega
        · unfold cP
          rw [HXP.out, HPV.out, HCB.out]
          try (first | rfl | omega | (unfold wrap64; omega))
  · have HT : Hid (tkb s (i + dN s 65 i) 46 = true) := ht
    obtain ⟨n2, hn2⟩ : ∃ n, dN s 65 (tk s (i + dN s 65 i) 46) = n := ⟨_, rfl⟩
    have HN2 : Hid (dN s 65 (tk s (i + dN s 65 i) 46) = n2) := hn2
    have hn2b : n2 ≤ 65 := by rw [← hn2]; exact dN_le _ _
    have HCB : Hid (cB s i = n2) := by show _ = _; rw [← hn2]; exact if_pos ht
    have EZ : Hid (cZ s i = dV s 65 (tk s (i + dN s 65 i) 46) (dV s 65 i 0)) := if_pos ht
    have E3 : Hid (cI3 s i = tk s (i + dN s 65 i) 46 + dN s 65 (tk s (i + dN s 65 i) 46)) := by show cI2 s i + cB s i = _; rw [HCB.out, ← hn2]; rfl
    clear ht hn1 hn2
    by_cases hz : n1 + n2 = 0
    · have ec : cSome s i = false := decide_eq_false (by rw [HN1.out, HCB.out]; omega)
      have eo : cOk s i = false := by unfold cOk; rw [ec]; rfl
      have ee : cEnd s i = cI3 s i := if_neg (by rw [ec]; decide)
      rw [eo, ee]
      clear eo ee ec
      have z1 : n1 = 0 := by omega
      have z2 : n2 = 0 := by omega
      subst z2
      subst z1
      go_enter Tryz.func219, Tryz.ntmps219
      go_wp2_with (first
        | (go_at_call 239; (with_reducible refine (digits_any h hnil nob_nil (by omega) (Nat.le_refl _)).mono ?_); rintro e1 w1 ⟨v1, rfl, k1, k2, k3, k4⟩; rw [HN1.out]; have O1 := only_nil k3; have F1 := fresh_nil k4; clear k3 k4)
        | (go_at_call 218; (with_reducible refine (take_any 46 k2 (by omega)).mono ?_); rintro e2 w2 ⟨rfl, q1, q2⟩; rw [HT.out]; have W2 := k1.only q2 (fun k hk hk2 => by have := F1 k hk; omega); have s2 := O1.size; have s3 := q2.size)
        | (go_at_call 239; (with_reducible refine (digits_any q1 W2 (fun hk => by have := F1 p hk; omega) (by omega) (by omega)).mono ?_); rintro e3 w3 ⟨v3, rfl, j1, j2, j3, j4⟩; rw [HN2.out]; have O3 : Only (fun k => k = p) w w3 := (O1.trans q2).next j3 (fun i hi => by rcases hi with hi | hi; exact .inr (F1 i hi); exact .inl hi); have F3 : ∀ k, Ob v3 k → w.heap.size ≤ k := (fun k hk => by rcases j4 k hk with hi | hi; exact F1 k hi; omega); rw [← E3.out] at j2))
      go_ret3
      exact ⟨_, _, rfl, fun hk => absurd hk (by decide), j2, O3⟩
    · have hneI : (((n1 : Int) + (n2 : Int)) == 0) = false := by simp; omega
      have ec : cSome s i = true := decide_eq_true (by rw [HN1.out, HCB.out]; omega)
      obtain ⟨xp, hxp⟩ : ∃ xp, xP s (cI3 s i) = xp := ⟨_, rfl⟩
      have HXP : Hid (xP s (cI3 s i) = xp) := hxp
      have bx := xP_bound s (cI3 s i)
      rw [hxp] at bx
      obtain ⟨bx1, bx2⟩ := bx
      clear hxp
      cases hx : xO s (cI3 s i)
      · have HX : Hid (xO s (cI3 s i) = false) := hx
        have eo : cOk s i = false := by unfold cOk; rw [ec, hx]; rfl
        have ee : cEnd s i = xA s (cI3 s i) := by unfold cEnd; rw [if_pos ec, if_neg (by rw [hx]; decide)]
        rw [eo, ee]
        clear eo ee ec hx
        go_enter Tryz.func219, Tryz.ntmps219
        go_wp2_with (first
          | (go_at_call 239; (with_reducible refine (digits_any h hnil nob_nil (by omega) (Nat.le_refl _)).mono ?_); rintro e1 w1 ⟨v1, rfl, k1, k2, k3, k4⟩; rw [HN1.out]; have O1 := only_nil k3; have F1 := fresh_nil k4; clear k3 k4)
          | (go_at_call 218; (with_reducible refine (take_any 46 k2 (by omega)).mono ?_); rintro e2 w2 ⟨rfl, q1, q2⟩; rw [HT.out]; have W2 := k1.only q2 (fun k hk hk2 => by have := F1 k hk; omega); have s2 := O1.size; have s3 := q2.size)
          | (go_at_call 239; (with_reducible refine (digits_any q1 W2 (fun hk => by have := F1 p hk; omega) (by omega) (by omega)).mono ?_); rintro e3 w3 ⟨v3, rfl, j1, j2, j3, j4⟩; rw [HN2.out]; have O3 : Only (fun k => k = p) w w3 := (O1.trans q2).next j3 (fun i hi => by rcases hi with hi | hi; exact .inr (F1 i hi); exact .inl hi); have F3 : ∀ k, Ob v3 k → w.heap.size ≤ k := (fun k hk => by rcases j4 k hk with hi | hi; exact F1 k hi; omega); rw [← E3.out] at j2)
          | (go_at_call 240; (with_reducible refine (exp_any j2).mono ?_); rintro e4 w4 ⟨rfl, x1, x2⟩; rw [HXP.out, HX.out]))
        go_ret3
        exact ⟨_, _, rfl, fun hk => absurd hk (by decide), x1, O3.trans x2⟩
      · have HX : Hid (xO s (cI3 s i) = true) := hx
        have eo : cOk s i = true := by unfold cOk; rw [ec, hx]; rfl
        have ee : cEnd s i = pxA s (xA s (cI3 s i)) := by unfold cEnd; rw [if_pos ec, if_pos hx]
        rw [eo, ee]
        clear eo ee ec hx
        obtain ⟨pv, hpv⟩ : ∃ pv, pxV s (xA s (cI3 s i)) = pv := ⟨_, rfl⟩
        have HPV : Hid (pxV s (xA s (cI3 s i)) = pv) := hpv
        have bp := px_bound s (xA s (cI3 s i))
        rw [hpv] at bp
        obtain ⟨bp1, bp2⟩ := bp
        clear hpv
        go_enter Tryz.func219, Tryz.ntmps219
        go_wp2_with (first
          | (go_at_call 239; (with_reducible refine (digits_any h hnil nob_nil (by omega) (Nat.le_refl _)).mono ?_); rintro e1 w1 ⟨v1, rfl, k1, k2, k3, k4⟩; rw [HN1.out]; have O1 := only_nil k3; have F1 := fresh_nil k4; clear k3 k4)
          | (go_at_call 218; (with_reducible refine (take_any 46 k2 (by omega)).mono ?_); rintro e2 w2 ⟨rfl, q1, q2⟩; rw [HT.out]; have W2 := k1.only q2 (fun k hk hk2 => by have := F1 k hk; omega); have s2 := O1.size; have s3 := q2.size)
          | (go_at_call 239; (with_reducible refine (digits_any q1 W2 (fun hk => by have := F1 p hk; omega) (by omega) (by omega)).mono ?_); rintro e3 w3 ⟨v3, rfl, j1, j2, j3, j4⟩; rw [HN2.out]; have O3 : Only (fun k => k = p) w w3 := (O1.trans q2).next j3 (fun i hi => by rcases hi with hi | hi; exact .inr (F1 i hi); exact .inl hi); have F3 : ∀ k, Ob v3 k → w.heap.size ≤ k := (fun k hk => by rcases j4 k hk with hi | hi; exact F1 k hi; omega); rw [← E3.out] at j2)
          | (go_at_call 240; (with_reducible refine (exp_any j2).mono ?_); rintro e4 w4 ⟨rfl, x1, x2⟩; rw [HXP.out, HX.out])
          | (go_at_call 241; (with_reducible refine (prefix_any x1).mono ?_); rintro e5 w5 ⟨rfl, y1, y2⟩; rw [HPV.out]))
        go_ret3
        refine ⟨_, _, dec_fin rfl rfl rfl, fun _ => ⟨?_, ?_⟩, y1, (O3.trans x2).trans y2⟩
        · rw [EZ.out]
          refine ((j1.only x2 (fun k hk hk2 => ?_)).only y2 (fun k hk hk2 => ?_)).mono (by omega)
          all_goals
            have := F3 k hk
            omega
        · unfold cP
          rw [HXP.out, HPV.out, HCB.out]
          try (first | rfl | omega | (unfold wrap64; omega))

end Go.Proofs.YtmpkcioeodlbcaaGreatDoor
namespace Go.Proofs.YtmpkcioeodlbcaaGreatDoor
set_option linter.unusedVariables false
variable {H : Type} {enc : TypeId × Value → H}
theorem handed_and_laid {a : Assume} {C : Checked} {os : Os} {f : FuncId} {fn : Func} {s : ChangeSpec} {conds : List PathCond} {apart fresh handsOn again : Bool} {X : World → Array Value → Prop}
    (own : ownKnob C.prog.godebug = none) (started : os.Started) (noInit : C.prog.inits.idxOf? f = none) (hfn : C.prog.funcs[f]? = some fn)
    (witness : ∃ (w : World) (tape : Tape) (i : Input), w.os = os ∧ (w.forCall tape i).Shaped C.prog ∧ i.vars = [] ∧ Input.okWide C.prog (w.forCall tape i) .any w.heap.size f i ∧
      ((s.pre enc C.prog fn conds apart (w.forCall tape i).memory i.args ∧ X (w.forCall tape i).memory i.args) ∧ sizedMet enc C.prog fn (OpenSpec.ofChange s) apart (w.forCall tape i).memory i.args) ∧ a.holds C.prog (lone (Frame.enter C.prog f i.args .normal) [] (w.forCall tape i)))
    (contract : ∀ (W : World) (base : Nat) (args : Array Value) (ds gs : List (DataW H)) (before : List MemPlace),
      (∀ (j : Nat) t v, fn.params[j]? = some t → args[j]? = some v → Value.okWide C.prog W .any base t v) →
      DataW.Whole enc C.prog fn.params.toList s.vars apart W args.toList ds gs before →
      (DataW.weightsEach C.prog (fn.params.toList ++ s.plain.varTypes C.prog) (ds ++ gs)).all (· ≤ reachBytes) = true → W.ShapedOpen C.prog → X W.memory args →
      Calls C.prog f args W fun e W' => ∃ v, e = .returned v ∧ s.post enc C.prog fn apart fresh handsOn again W args v W') :
    ReturnsInHanded a C os f .any (fun w args => (s.pre enc C.prog fn conds apart w args ∧ X w args) ∧ sizedMet enc C.prog fn (OpenSpec.ofChange s) apart w args) (s.post enc C.prog fn apart fresh handsOn again) := by
  refine returnsInHanded_of_calls own started noInit witness ?_
  intro w tape i _ hsh _ hok hpre hholds
  obtain ⟨_, _, _, fn', hfn', _, _, _, _, hval⟩ := hok
  have e : fn' = fn := Option.some.inj (hfn'.symm.trans hfn)
  subst e
  obtain ⟨⟨⟨ds, gs, before, hw, hc⟩, hx⟩, hz⟩ := hpre
  have hw' := DataW.Whole.of_heap (w' := w.forCall tape i) (by rfl) hw
  refine (contract (w.forCall tape i) w.heap.size i.args ds gs before hval hw' (hz.weights hw) hsh hx).mono fun e W' ⟨v, he, hp⟩ => ?_
  subst he
  exact ChangeSpec.post_blind hp
theorem laid_next {P : Program} {W : World} {x : String × DataW Unit} {rest : List (String × DataW Unit)} {ps : List MemPlace} (h : DataW.LaidVars P W (x :: rest) ps) : ∃ q, DataW.LaidVars P W rest q := by
  obtain ⟨n, d⟩ := x
  obtain ⟨g', t', cs, fuel, p, q, _, _, _, _, hr, _⟩ := h
  exact ⟨q, hr⟩
theorem tab_laid {P : Program} {W : World} {name : String} {k : IntKind} {zs : List Int} {rest : List (String × DataW Unit)} {g : Nat} {t e : TypeId} {n : Nat} {ps : List MemPlace}
    (hg : P.globalNamed name = some g) (hty : (P.globals[g]?).map (·.type) = some t) (ht : P.underlying t = some (.array n e)) (he : P.underlying e = some (.int k)) (hce : P.cellsOf e = 1) (hct : P.cellsOf t = n)
    (h : DataW.LaidVars P W ((name, Lib.tabData k zs) :: rest) ps) : Lib.TabIs P W name k zs := by
  obtain ⟨g', t', cs, fuel, p, q, hg', ht', hvar, hd, _, _⟩ := h
  obtain rfl := Option.some.inj (hg.symm.trans hg')
  obtain rfl := Option.some.inj (hty.symm.trans ht')
  unfold Lib.TabIs
  rw [hvar, ← Lib.cells_of_tab ht he hce hct hd]
theorem pw_laid {W : World} {ps : List MemPlace} {rest : List (String × DataW Unit)} (h : DataW.LaidVars Tryz.prog W.memory (("internal/strconv.uint64pow10", Rows.laid_internal_strconv_uint64pow10) :: rest) ps) : Pw W := by
  have h1 : Lib.TabIs Tryz.prog W.memory "internal/strconv.uint64pow10" .u64 Lib.pow10Tab := tab_laid (g := 4) (t := 386) (e := 47) (n := 20) (by kernel_rfl) (by kernel_rfl) Tryz.underlying386 Tryz.underlying47 (by kernel_rfl) (by kernel_rfl) h
  exact h1
end Go.Proofs.YtmpkcioeodlbcaaGreatDoor
