/-
  Facts on float64 words as whole numbers: what a word stands for, in units of two to the power -1074; how two words stand to each other; nothing of any program.
-/
import Derived.Laws.FloatArith
import Derived.Laws.BitsAllLaws
namespace Go.Proofs.Ytcakfclfggnmbaa.Fl
open Ieee

def mg (x : Nat) : Nat := x % 9223372036854775808
def ng (x : Nat) : Bool := x / 9223372036854775808 % 2 == 1
def nan (x : Nat) : Bool := decide (9218868437227405312 < mg x)
def fin (x : Nat) : Prop := mg x < 9218868437227405312
def sig (r : Nat) : Nat := if r < 4503599627370496 then r else 4503599627370496 + r % 4503599627370496
def ex (r : Nat) : Nat := r / 4503599627370496 - 1
def sz (r : Nat) : Nat := sig r * 2 ^ ex r
def sgn (s : Bool) (n : Nat) : Int := if s then -(n : Int) else n
def val (x : Nat) : Int := sgn (ng x) (sz (mg x))
def plc (x : Nat) : Int := sgn (ng x) (mg x)

theorem d_sw : Ieee.double.signWeight = 9223372036854775808 := by decide
theorem d_bin : Ieee.double.binade = 4503599627370496 := by decide
theorem d_inf : Ieee.double.infRung = 9218868437227405312 := by decide
theorem d_least : Ieee.double.leastPlace = -1074 := by decide
theorem f64_double : FloatKind.f64.format = Ieee.double := rfl

theorem read_fin (x : Nat) (h : fin x) : Ieee.double.read x = .number (ng x) (sig (mg x)) (-1074 + (ex (mg x) : Int)) := by
  unfold fin at h
  unfold Ieee.Format.read
  simp only [d_sw, d_bin, d_inf, d_least]
  by_cases h1 : x % 9223372036854775808 < 4503599627370496
  · have e0 : ex (x % 9223372036854775808) = 0 := by unfold ex; omega
    simp [h1, sig, mg, ng, e0]
  · unfold mg at h
    simp [h1, h, sig, mg, ng, ex]
theorem read_inf (x : Nat) (h : mg x = 9218868437227405312) : Ieee.double.read x = .infinity (ng x) := by
  unfold mg at h
  unfold Ieee.Format.read
  simp only [d_sw, d_bin, d_inf, d_least, h, ng]
  simp
theorem read_nan (x : Nat) (h : nan x = true) : Ieee.double.read x = .nan (ng x) (mg x - 9218868437227405312) := by
  unfold nan mg at h
  simp only [decide_eq_true_eq] at h
  unfold Ieee.Format.read
  simp only [d_sw, d_bin, d_inf, d_least]
  rw [if_neg (by omega), if_neg (by omega), if_neg (by omega)]
  rfl
theorem kinds (x : Nat) : fin x ∨ mg x = 9218868437227405312 ∨ nan x = true := by
  unfold fin nan; simp only [decide_eq_true_eq]; omega
theorem fin_not_nan {x : Nat} (h : fin x) : nan x = false := by unfold fin at h; unfold nan; simp; omega
theorem inf_not_nan {x : Nat} (h : mg x = 9218868437227405312) : nan x = false := by unfold nan; simp; omega

theorem signed_eq (s : Bool) (m up : Nat) : Ieee.signed s m up = sgn s (m * 2 ^ up) := by
  unfold Ieee.signed sgn; simp [Nat.shiftLeft_eq]
theorem sgn_mul (s : Bool) (m k : Nat) : sgn s (m * k) = sgn s m * (k : Int) := by
  unfold sgn; cases s <;> simp [Int.neg_mul]
theorem compare_mul (a b : Int) (k : Nat) (hk : 0 < k) : compare (a * (k : Int)) (b * (k : Int)) = compare a b := by
  have hk' : (0 : Int) < k := by omega
  rcases Int.lt_trichotomy a b with h | h | h
  · have := (Int.mul_lt_mul_right hk').2 h
    simp [compare, compareOfLessAndEq, h, this]
  · subst h; simp
  · have h2 := (Int.mul_lt_mul_right hk').2 h
    have e1 : ¬ a < b := by omega
    have e2 : ¬ a = b := by omega
    have e3 : ¬ a * (k : Int) < b * (k : Int) := by omega
    have e4 : ¬ a * (k : Int) = b * (k : Int) := by omega
    simp [compare, compareOfLessAndEq, e1, e2, e3, e4]

theorem cmp_lt {a b : Int} (h : a < b) : compare a b = .lt := by simp [compare, compareOfLessAndEq, h]
theorem cmp_gt {a b : Int} (h : b < a) : compare a b = .gt := by
  have h1 : ¬ a < b := by omega
  have h2 : ¬ a = b := by omega
  simp [compare, compareOfLessAndEq, h1, h2]
theorem sig_lt (r : Nat) : sig r < 9007199254740992 := by unfold sig; split <;> omega
theorem ex_succ_le (a b : Nat) (h : a < b) (e : ex a ≠ ex b) : 4503599627370496 ≤ sig b ∧ ex a + 1 ≤ ex b := by
  unfold ex at *; unfold sig; constructor
  · split <;> omega
  · omega
theorem sz_mono {a b : Nat} (h : a < b) : sz a < sz b := by
  unfold sz
  by_cases e : ex a = ex b
  · rw [e]
    refine (Nat.mul_lt_mul_right (Nat.two_pow_pos _)).2 ?_
    unfold ex at e; unfold sig; split <;> split <;> omega
  · obtain ⟨h1, h2⟩ := ex_succ_le a b h e
    have h3 := sig_lt a
    calc sig a * 2 ^ ex a < 9007199254740992 * 2 ^ ex a := (Nat.mul_lt_mul_right (Nat.two_pow_pos _)).2 h3
      _ = 4503599627370496 * 2 ^ (ex a + 1) := by rw [Nat.pow_succ]; omega
      _ ≤ 4503599627370496 * 2 ^ ex b := Nat.mul_le_mul_left _ (Nat.pow_le_pow_right (by omega) h2)
      _ ≤ sig b * 2 ^ ex b := Nat.mul_le_mul_right _ h1
theorem sz_zero : sz 0 = 0 := by decide
theorem sz_inj {a b : Nat} (h : sz a = sz b) : a = b := by
  rcases Nat.lt_trichotomy a b with h1 | h1 | h1
  · have := sz_mono h1; omega
  · exact h1
  · have := sz_mono h1; omega
theorem sz_pos {a : Nat} (h : 0 < a) : 0 < sz a := by have := sz_mono h; rw [sz_zero] at this; exact this

theorem cmp_sgn (s t : Bool) (a b : Nat) : compare (sgn s (sz a)) (sgn t (sz b)) = compare (sgn s a) (sgn t b) := by
  have key : ∀ a b : Int, ∀ c d : Int, ((a < b) ↔ (c < d)) → ((a = b) ↔ (c = d)) → compare a b = compare c d := by
    intro a b c d h1 h2
    simp only [compare, compareOfLessAndEq, h1, h2]
  have ha := fun h => @sz_pos a h
  have hb := fun h => @sz_pos b h
  have ha0 : a = 0 → sz a = 0 := by rintro rfl; exact sz_zero
  have hb0 : b = 0 → sz b = 0 := by rintro rfl; exact sz_zero
  have h1 : a < b → sz a < sz b := sz_mono
  have h2 : b < a → sz b < sz a := sz_mono
  have h3 : a = b → sz a = sz b := by rintro rfl; rfl
  refine key _ _ _ _ ?_ ?_ <;> unfold sgn <;> cases s <;> cases t <;> simp <;> omega

theorem order_fin {x y : Nat} (hx : fin x) (hy : fin y) : Ieee.double.order x y = some (compare (val x) (val y)) := by
  unfold Ieee.Format.order
  rw [read_fin x hx, read_fin y hy]
  unfold Ieee.Datum.order
  simp only [signed_eq]
  congr 1
  have e1 : (-1074 + (ex (mg x) : Int) - min (-1074 + (ex (mg x) : Int)) (-1074 + (ex (mg y) : Int))).toNat = ex (mg x) - min (ex (mg x)) (ex (mg y)) := by omega
  have e2 : (-1074 + (ex (mg y) : Int) - min (-1074 + (ex (mg x) : Int)) (-1074 + (ex (mg y) : Int))).toNat = ex (mg y) - min (ex (mg x)) (ex (mg y)) := by omega
  rw [e1, e2, ← compare_mul _ _ (2 ^ min (ex (mg x)) (ex (mg y))) (Nat.two_pow_pos _), ← sgn_mul, ← sgn_mul, Nat.mul_assoc, Nat.mul_assoc, ← Nat.pow_add, ← Nat.pow_add,
    Nat.sub_add_cancel (Nat.min_le_left _ _), Nat.sub_add_cancel (Nat.min_le_right _ _)]
  rfl

theorem order_eq (x y : Nat) : Ieee.double.order x y = if nan x || nan y then none else some (compare (plc x) (plc y)) := by
  rcases kinds x with hx | hx | hx
  · rcases kinds y with hy | hy | hy
    · simp only [fin_not_nan hx, fin_not_nan hy, Bool.or_false, Bool.false_eq_true, if_false]
      rw [order_fin hx hy]; unfold val plc; rw [cmp_sgn]
    · simp only [fin_not_nan hx, inf_not_nan hy, Bool.or_false, Bool.false_eq_true, if_false]
      unfold Ieee.Format.order; rw [read_fin x hx, read_inf y hy]
      unfold Ieee.Datum.order plc; unfold fin at hx; unfold sgn; rw [hy]
      cases ng x <;> cases ng y <;> simp <;> first | (rw [cmp_lt (by omega)]; done) | (rw [cmp_gt (by omega)]; done)
    · simp only [hy, Bool.or_true, if_true]
      unfold Ieee.Format.order; rw [read_nan y hy, read_fin x hx]; rfl
  · rcases kinds y with hy | hy | hy
    · simp only [fin_not_nan hy, inf_not_nan hx, Bool.or_false, Bool.false_eq_true, if_false]
      unfold Ieee.Format.order; rw [read_fin y hy, read_inf x hx]
      unfold Ieee.Datum.order plc; unfold fin at hy; unfold sgn; rw [hx]
      cases ng x <;> cases ng y <;> simp <;> first | (rw [cmp_lt (by omega)]; done) | (rw [cmp_gt (by omega)]; done)
    · simp only [inf_not_nan hy, inf_not_nan hx, Bool.or_false, Bool.false_eq_true, if_false]
      unfold Ieee.Format.order; rw [read_inf y hy, read_inf x hx]
      unfold Ieee.Datum.order plc sgn; rw [hx, hy]
      cases ng x <;> cases ng y <;> rfl
    · simp only [hy, Bool.or_true, if_true]
      unfold Ieee.Format.order; rw [read_nan y hy, read_inf x hx]; rfl
  · simp only [hx, Bool.true_or, if_true]
    unfold Ieee.Format.order; rw [read_nan x hx]; rfl

theorem order_self (x : Nat) : FloatKind.f64.format.order x x = if nan x then none else some .eq := by
  rw [f64_double, order_eq]; cases nan x <;> simp [compare, compareOfLessAndEq]
theorem order_nan {x : Nat} (h : nan x = true) : FloatKind.f64.format.order x x = none := by rw [order_self, h]; rfl
theorem order_num {x : Nat} (h : nan x = false) : FloatKind.f64.format.order x x = some .eq := by rw [order_self, h]; rfl
theorem order_lt {x y : Nat} (hx : nan x = false) (hy : nan y = false) : (FloatKind.f64.format.order x y == some .lt) = decide (plc x < plc y) := by
  rw [f64_double, order_eq, hx, hy]; simp only [Bool.or_false, Bool.false_eq_true, if_false, compare, compareOfLessAndEq]
  by_cases h : plc x < plc y
  · simp [h]
  · by_cases h2 : plc x = plc y <;> simp [h, h2]
theorem order_eqb {x y : Nat} (hx : nan x = false) (hy : nan y = false) : (FloatKind.f64.format.order x y == some .eq) = decide (plc x = plc y) := by
  rw [f64_double, order_eq, hx, hy]; simp only [Bool.or_false, Bool.false_eq_true, if_false, compare, compareOfLessAndEq]
  by_cases h : plc x < plc y
  · have : ¬ plc x = plc y := by omega
    simp [h, this]
  · by_cases h2 : plc x = plc y <;> simp [h, h2]
theorem order_gt {x y : Nat} (hx : nan x = false) (hy : nan y = false) : (FloatKind.f64.format.order x y == some .gt) = decide (plc y < plc x) := by
  rw [f64_double, order_eq, hx, hy]; simp only [Bool.or_false, Bool.false_eq_true, if_false, compare, compareOfLessAndEq]
  by_cases h : plc x < plc y
  · have : ¬ plc y < plc x := by omega
    simp [h, this]
  · by_cases h2 : plc x = plc y
    · simp [h2]
    · have : plc y < plc x := by omega
      simp [h, h2, this]

theorem neg_of_pos {b : Nat} (h : b < 9223372036854775808) : Op.negFloat .f64 b = b + 9223372036854775808 := by
  show b ^^^ 2 ^ 63 = _
  have h1 := nat_join 63 9223372036854775808 b (by decide) (by omega)
  have h2 : b ^^^ 2 ^ 63 = 9223372036854775808 ||| b := by
    apply Nat.eq_of_testBit_eq
    intro i
    rw [show (9223372036854775808 : Nat) = 2 ^ 63 from rfl, Nat.testBit_xor, Nat.testBit_or, Nat.testBit_two_pow]
    by_cases hi : 63 = i
    · subst hi
      have : b.testBit 63 = false := Nat.testBit_lt_two_pow (by omega)
      simp [this]
    · simp [hi]
  rw [h2, h1]; omega
theorem neg_of_neg {b : Nat} (h1 : 9223372036854775808 ≤ b) (h2 : b < 18446744073709551616) : Op.negFloat .f64 b = b - 9223372036854775808 := by
  have h := neg_of_pos (b := b - 9223372036854775808) (by omega)
  have e : b - 9223372036854775808 + 9223372036854775808 = b := by omega
  rw [e] at h
  have h3 : ∀ c : Nat, Op.negFloat .f64 (Op.negFloat .f64 c) = c := by
    intro c
    show (c ^^^ 2 ^ 63) ^^^ 2 ^ 63 = c
    rw [Nat.xor_assoc, Nat.xor_self, Nat.xor_zero]
  have h4 := h3 (b - 9223372036854775808)
  rw [h] at h4; exact h4

end Go.Proofs.Ytcakfclfggnmbaa.Fl
