/-
  Several texts in one: Fl Ops Cx Bt.
-/
import Derived.Laws.FloatArith
import Derived.Laws.BitsAllLaws
import Derived.WalkKit
import Derived.WalkLawsBesides
import Derived.Laws.Cover3
import Derived.Test.YtmpkcioeodlbcaaGreatDoorChecked
namespace Go.Proofs.YtmpkcioeodlbcaaGreatDoor.Fl
open Ieee
def mg (x : Nat) : Nat := x % 9223372036854775808
def ng (x : Nat) : Bool := x / 9223372036854775808 % 2 == 1
def nan (x : Nat) : Bool := decide (9218868437227405312 < mg x)
def fin (x : Nat) : Prop := mg x < 9218868437227405312
def sig (r : Nat) : Nat := if r < 4503599627370496 then r else 4503599627370496 + r % 4503599627370496
def ex (r : Nat) : Nat := r / 4503599627370496 - 1
def sz (r : Nat) : Nat := sig r * 2 ^ ex r
def sgn (s : Bool) (n : Nat) : Int := if s then -(n : Int) else n
def val (x : Nat) : Int := sgn (ng x) (sz (mg x))
def plc (x : Nat) : Int := sgn (ng x) (mg x)

theorem d_sw : Ieee.double.signWeight = 9223372036854775808 := by decide
theorem d_bin : Ieee.double.binade = 4503599627370496 := by decide
theorem d_inf : Ieee.double.infRung = 9218868437227405312 := by decide
theorem d_least : Ieee.double.leastPlace = -1074 := by decide
theorem f64_double : FloatKind.f64.format = Ieee.double := rfl

theorem read_fin (x : Nat) (h : fin x) : Ieee.double.read x = .number (ng x) (sig (mg x)) (-1074 + (ex (mg x) : Int)) := by
  unfold fin at h
  unfold Ieee.Format.read
  simp only [d_sw, d_bin, d_inf, d_least]
  by_cases h1 : x % 9223372036854775808 < 4503599627370496
  · have e0 : ex (x % 9223372036854775808) = 0 := by unfold ex; omega
    simp [h1, sig, mg, ng, e0]
  · unfold mg at h
    simp [h1, h, sig, mg, ng, ex]
theorem read_inf (x : Nat) (h : mg x = 9218868437227405312) : Ieee.double.read x = .infinity (ng x) := by
  unfold mg at h
  unfold Ieee.Format.read
  simp only [d_sw, d_bin, d_inf, d_least, h, ng]
  simp
theorem read_nan (x : Nat) (h : nan x = true) : Ieee.double.read x = .nan (ng x) (mg x - 9218868437227405312) := by
  unfold nan mg at h
  simp only [decide_eq_true_eq] at h
  unfold Ieee.Format.read
  simp only [d_sw, d_bin, d_inf, d_least]
  rw [if_neg (by omega), if_neg (by omega), if_neg (by omega)]
  rfl
theorem kinds (x : Nat) : fin x ∨ mg x = 9218868437227405312 ∨ nan x = true := by
  unfold fin nan; simp only [decide_eq_true_eq]; omega
theorem fin_not_nan {x : Nat} (h : fin x) : nan x = false := by unfold fin at h; unfold nan; simp; omega
theorem inf_not_nan {x : Nat} (h : mg x = 9218868437227405312) : nan x = false := by unfold nan; simp; omega

theorem signed_eq (s : Bool) (m up : Nat) : Ieee.signed s m up = sgn s (m * 2 ^ up) := by
  unfold Ieee.signed sgn; simp [Nat.shiftLeft_eq]
theorem sgn_mul (s : Bool) (m k : Nat) : sgn s (m * k) = sgn s m * (k : Int) := by
  unfold sgn; cases s <;> simp [Int.neg_mul]
theorem compare_mul (a b : Int) (k : Nat) (hk : 0 < k) : compare (a * (k : Int)) (b * (k : Int)) = compare a b := by
  have hk' : (0 : Int) < k := by omega
  rcases Int.lt_trichotomy a b with h | h | h
  · have := (Int.mul_lt_mul_right hk').2 h
    simp [compare, compareOfLessAndEq, h, this]
  · subst h; simp
  · have h2 := (Int.mul_lt_mul_right hk').2 h
    have e1 : ¬ a < b := by omega
    have e2 : ¬ a = b := by omega
    have e3 : ¬ a * (k : Int) < b * (k : Int) := by omega
    have e4 : ¬ a * (k : Int) = b * (k : Int) := by omega
    simp [compare, compareOfLessAndEq, e1, e2, e3, e4]

theorem cmp_lt {a b : Int} (h : a < b) : compare a b = .lt := by simp [compare, compareOfLessAndEq, h]
theorem cmp_gt {a b : Int} (h : b < a) : compare a b = .gt := by
  have h1 : ¬ a < b := by omega
  have h2 : ¬ a = b := by omega
  simp [compare, compareOfLessAndEq, h1, h2]
theorem sig_lt (r : Nat) : sig r < 9007199254740992 := by unfold sig; split <;> omega
theorem ex_succ_le (a b : Nat) (h : a < b) (e : ex a ≠ ex b) : 4503599627370496 ≤ sig b ∧ ex a + 1 ≤ ex b := by
  unfold ex at *; unfold sig; constructor
  · split <;> omega
  · omega
theorem sz_mono {a b : Nat} (h : a < b) : sz a < sz b := by
  unfold sz
  by_cases e : ex a = ex b
  · rw [e]
    refine (Nat.mul_lt_mul_right (Nat.two_pow_pos _)).2 ?_
    unfold ex at e; unfold sig; split <;> split <;> omega
  · obtain ⟨h1, h2⟩ := ex_succ_le a b h e
    have h3 := sig_lt a
    calc sig a * 2 ^ ex a < 9007199254740992 * 2 ^ ex a := (Nat.mul_lt_mul_right (Nat.two_pow_pos _)).2 h3
      _ = 4503599627370496 * 2 ^ (ex a + 1) := by rw [Nat.pow_succ]; omega
      _ ≤ 4503599627370496 * 2 ^ ex b := Nat.mul_le_mul_left _ (Nat.pow_le_pow_right (by omega) h2)
      _ ≤ sig b * 2 ^ ex b := Nat.mul_le_mul_right _ h1
theorem sz_zero : sz 0 = 0 := by decide
theorem sz_inj {a b : Nat} (h : sz a = sz b) : a = b := by
  rcases Nat.lt_trichotomy a b with h1 | h1 | h1
  · have := sz_mono h1; omega
  · exact h1
  · have := sz_mono h1; omega
theorem sz_pos {a : Nat} (h : 0 < a) : 0 < sz a := by have := sz_mono h; rw [sz_zero] at this; exact this

theorem cmp_sgn (s t : Bool) (a b : Nat) : compare (sgn s (sz a)) (sgn t (sz b)) = compare (sgn s a) (sgn t b) := by
  have key : ∀ a b : Int, ∀ c d : Int, ((a < b) ↔ (c < d)) → ((a = b) ↔ (c = d)) → compare a b = compare c d := by
    intro a b c d h1 h2
    simp only [compare, compareOfLessAndEq, h1, h2]
  have ha := fun h => @sz_pos a h
  have hb := fun h => @sz_pos b h
  have ha0 : a = 0 → sz a = 0 := by rintro rfl; exact sz_zero
  have hb0 : b = 0 → sz b = 0 := by rintro rfl; exact sz_zero
  have h1 : a < b → sz a < sz b := sz_mono
  have h2 : b < a → sz b < sz a := sz_mono
  have h3 : a = b → sz a = sz b := by rintro rfl; rfl
  refine key _ _ _ _ ?_ ?_ <;> unfold sgn <;> cases s <;> cases t <;> simp <;> omega

theorem order_fin {x y : Nat} (hx : fin x) (hy : fin y) : Ieee.double.order x y = some (compare (val x) (val y)) := by
  unfold Ieee.Format.order
  rw [read_fin x hx, read_fin y hy]
  unfold Ieee.Datum.order
  simp only [signed_eq]
  congr 1
  have e1 : (-1074 + (ex (mg x) : Int) - min (-1074 + (ex (mg x) : Int)) (-1074 + (ex (mg y) : Int))).toNat = ex (mg x) - min (ex (mg x)) (ex (mg y)) := by omega
  have e2 : (-1074 + (ex (mg y) : Int) - min (-1074 + (ex (mg x) : Int)) (-1074 + (ex (mg y) : Int))).toNat = ex (mg y) - min (ex (mg x)) (ex (mg y)) := by omega
  rw [e1, e2, ← compare_mul _ _ (2 ^ min (ex (mg x)) (ex (mg y))) (Nat.two_pow_pos _), ← sgn_mul, ← sgn_mul, Nat.mul_assoc, Nat.mul_assoc, ← Nat.pow_add, ← Nat.pow_add,
    Nat.sub_add_cancel (Nat.min_le_left _ _), Nat.sub_add_cancel (Nat.min_le_right _ _)]
  rfl

theorem order_eq (x y : Nat) : Ieee.double.order x y = if nan x || nan y then none else some (compare (plc x) (plc y)) := by
  rcases kinds x with hx | hx | hx
  · rcases kinds y with hy | hy | hy
    · simp only [fin_not_nan hx, fin_not_nan hy, Bool.or_false, Bool.false_eq_true, if_false]
      rw [order_fin hx hy]; unfold val plc; rw [cmp_sgn]
    · simp only [fin_not_nan hx, inf_not_nan hy, Bool.or_false, Bool.false_eq_true, if_false]
      unfold Ieee.Format.order; rw [read_fin x hx, read_inf y hy]
      unfold Ieee.Datum.order plc; unfold fin at hx; unfold sgn; rw [hy]
      cases ng x <;> cases ng y <;> simp <;> first | (rw [cmp_lt (by omega)]; done) | (rw [cmp_gt (by omega)]; done)
    · simp only [hy, Bool.or_true, if_true]
      unfold Ieee.Format.order; rw [read_nan y hy, read_fin x hx]; rfl
  · rcases kinds y with hy | hy | hy
    · simp only [fin_not_nan hy, inf_not_nan hx, Bool.or_false, Bool.false_eq_true, if_false]
      unfold Ieee.Format.order; rw [read_fin y hy, read_inf x hx]
      unfold Ieee.Datum.order plc; unfold fin at hy; unfold sgn; rw [hx]
      cases ng x <;> cases ng y <;> simp <;> first | (rw [cmp_lt (by omega)]; done) | (rw [cmp_gt (by omega)]; done)
    · simp only [inf_not_nan hy, inf_not_nan hx, Bool.or_false, Bool.false_eq_true, if_false]
      unfold Ieee.Format.order; rw [read_inf y hy, read_inf x hx]
      unfold Ieee.Datum.order plc sgn; rw [hx, hy]
      cases ng x <;> cases ng y <;> rfl
    · simp only [hy, Bool.or_true, if_true]
      unfold Ieee.Format.order; rw [read_nan y hy, read_inf x hx]; rfl
  · simp only [hx, Bool.true_or, if_true]
    unfold Ieee.Format.order; rw [read_nan x hx]; rfl

theorem order_self (x : Nat) : FloatKind.f64.format.order x x = if nan x then none else some .eq := by
  rw [f64_double, order_eq]; cases nan x <;> simp [compare, compareOfLessAndEq]
theorem order_nan {x : Nat} (h : nan x = true) : FloatKind.f64.format.order x x = none := by rw [order_self, h]; rfl
theorem order_num {x : Nat} (h : nan x = false) : FloatKind.f64.format.order x x = some .eq := by rw [order_self, h]; rfl
theorem order_lt {x y : Nat} (hx : nan x = false) (hy : nan y = false) : (FloatKind.f64.format.order x y == some .lt) = decide (plc x < plc y) := by
  rw [f64_double, order_eq, hx, hy]; simp only [Bool.or_false, Bool.false_eq_true, if_false, compare, compareOfLessAndEq]
  by_cases h : plc x < plc y
  · simp [h]
  · by_cases h2 : plc x = plc y <;> simp [h, h2]
theorem order_eqb {x y : Nat} (hx : nan x = false) (hy : nan y = false) : (FloatKind.f64.format.order x y == some .eq) = decide (plc x = plc y) := by
  rw [f64_double, order_eq, hx, hy]; simp only [Bool.or_false, Bool.false_eq_true, if_false, compare, compareOfLessAndEq]
  by_cases h : plc x < plc y
  · have : ¬ plc x = plc y := by omega
    simp [h, this]
  · by_cases h2 : plc x = plc y <;> simp [h, h2]
theorem neg_of_pos {b : Nat} (h : b < 9223372036854775808) : Op.negFloat .f64 b = b + 9223372036854775808 := by
  show b ^^^ 2 ^ 63 = _
  have h1 := nat_join 63 9223372036854775808 b (by decide) (by omega)
  have h2 : b ^^^ 2 ^ 63 = 9223372036854775808 ||| b := by
    apply Nat.eq_of_testBit_eq
    intro i
    rw [show (9223372036854775808 : Nat) = 2 ^ 63 from rfl, Nat.testBit_xor, Nat.testBit_or, Nat.testBit_two_pow]
    by_cases hi : 63 = i
    · subst hi
      have : b.testBit 63 = false := Nat.testBit_lt_two_pow (by omega)
      simp [this]
    · simp [hi]
  rw [h2, h1]; omega
theorem neg_of_neg {b : Nat} (h1 : 9223372036854775808 ≤ b) (h2 : b < 18446744073709551616) : Op.negFloat .f64 b = b - 9223372036854775808 := by
  have h := neg_of_pos (b := b - 9223372036854775808) (by omega)
  have e : b - 9223372036854775808 + 9223372036854775808 = b := by omega
  rw [e] at h
  have h3 : ∀ c : Nat, Op.negFloat .f64 (Op.negFloat .f64 c) = c := by
    intro c
    show (c ^^^ 2 ^ 63) ^^^ 2 ^ 63 = c
    rw [Nat.xor_assoc, Nat.xor_self, Nat.xor_zero]
  have h4 := h3 (b - 9223372036854775808)
  rw [h] at h4; exact h4

end Go.Proofs.YtmpkcioeodlbcaaGreatDoor.Fl
namespace Go.Proofs.YtmpkcioeodlbcaaGreatDoor
open Fl
/-- The answer that a word is: itself, or (none) a NaN. -/
def ans (x : Nat) : Option Nat := if nan x then none else some x
/-- x stands for the answer o. -/
def rep (o : Option Nat) (x : Nat) : Prop := x < 18446744073709551616 ∧ ans x = o
theorem rep_ans {x : Nat} (h : x < 18446744073709551616) : rep (ans x) x := ⟨h, rfl⟩
theorem ans_nan {x : Nat} (h : nan x = true) : ans x = none := by unfold ans; rw [h]; rfl
theorem ans_num {x : Nat} (h : nan x = false) : ans x = some x := by unfold ans; rw [h]; rfl
theorem ans_none {x : Nat} (h : ans x = none) : nan x = true := by
  cases hn : nan x
  · rw [ans_num hn] at h; cases h
  · rfl
theorem ans_some {x r : Nat} (h : ans x = some r) : nan x = false ∧ x = r := by
  cases hn : nan x
  · rw [ans_num hn] at h; cases h; exact ⟨rfl, rfl⟩
  · rw [ans_nan hn] at h; cases h
theorem word_mg (s : Bool) {r : Nat} (h : r < 9223372036854775808) : mg (Ieee.double.word s r) = r := by
  unfold Ieee.Format.word mg; rw [d_sw]; split <;> omega
theorem nearest_not_nan (s : Bool) (m : Nat) (p : Int) : nan (Ieee.double.nearest s m p) = false := by
  have key : ∀ r, r ≤ 9218868437227405312 → nan (Ieee.double.word s r) = false := by
    intro r hr; unfold nan; rw [word_mg s (by omega)]; simp; omega
  unfold Ieee.Format.nearest
  split
  · exact key 0 (by omega)
  · refine key _ ?_
    rw [d_inf]; exact Nat.min_le_right _ _
theorem write_not_nan {d : Ieee.Datum} (h : d.isNaN = false) : nan (Ieee.double.write d) = false := by
  cases d with
  | number s m p => exact nearest_not_nan s m p
  | infinity s => unfold Ieee.Format.write nan; rw [d_inf, word_mg s (by omega)]; rfl
  | nan s f => cases h
theorem map_not_nan {o : Option Ieee.Datum} {r : Nat} (ho : ∀ d, o = some d → d.isNaN = false) (h : o.map Ieee.double.write = some r) : nan r = false := by
  cases o with
  | none => cases h
  | some d => cases h; exact write_not_nan (ho d rfl)
theorem sum_not_nan (a b d : Ieee.Datum) (h : a.sum b = some d) : d.isNaN = false := by
  cases a <;> cases b <;> simp [Ieee.Datum.sum] at h
  · subst h; rfl
  · subst h; rfl
  · subst h; rfl
  · rw [← h.2]; rfl
theorem product_not_nan (a b d : Ieee.Datum) (h : a.product b = some d) : d.isNaN = false := by
  cases a <;> cases b <;> simp [Ieee.Datum.product] at h
  · subst h; rfl
  · rw [← h.2]; rfl
  · rw [← h.2]; rfl
  · subst h; rfl
theorem quotient_not_nan (n : Nat) (a b d : Ieee.Datum) (h : a.quotient n b = some d) : d.isNaN = false := by
  cases a <;> cases b <;> simp [Ieee.Datum.quotient] at h
  · split at h
    · split at h
      · cases h
      · cases h; rfl
    · cases h; rfl
  · subst h; rfl
  · subst h; rfl
def fN (o : Option Nat) : Nat := match o with | some _ => 0 | none => 1
def fV (q : Question) (w : World) (o : Option Nat) : Nat := match o with | some r => r | none => q.cut (w.tape w.drawn q)
def addO (x y : Nat) : Option Nat := Ieee.double.add x y
def subO (x y : Nat) : Option Nat := Ieee.double.sub x y
def mulO (x y : Nat) : Option Nat := Ieee.double.mul x y
def divO (x y : Nat) : Option Nat := Ieee.double.div x y
def addV (w : World) (x y : Nat) : Nat := fV (.nanBits .f64 x y) w (addO x y)
def subV (w : World) (x y : Nat) : Nat := fV (.nanBits .f64 x y) w (subO x y)
def mulV (w : World) (x y : Nat) : Nat := fV (.nanBits .f64 x y) w (mulO x y)
def divV (w : World) (x y : Nat) : Nat := fV (.nanBits .f64 x y) w (divO x y)
section
variable {P : Program} (t : TypeId) (x y z : Nat) (w : World)
@[go_sem high] theorem run_fadd : (binOp .add t (.float .f64 x) (.float .f64 y)).run P w = .ok (.float .f64 (addV w x y)) (w.drewN (fN (addO x y))) := by
  unfold addV addO fV fN
  cases h : Ieee.double.add x y with
  | some r => simp [binOp, Op.floatArith, f64_double, h, World.drewN_zero]
  | none => simp [binOp, Op.floatArith, f64_double, h, Question.forced]; rfl
@[go_sem high] theorem run_fsub : (binOp .sub t (.float .f64 x) (.float .f64 y)).run P w = .ok (.float .f64 (subV w x y)) (w.drewN (fN (subO x y))) := by
  unfold subV subO fV fN
  cases h : Ieee.double.sub x y with
  | some r => simp [binOp, Op.floatArith, f64_double, h, World.drewN_zero]
  | none => simp [binOp, Op.floatArith, f64_double, h, Question.forced]; rfl
@[go_sem high] theorem run_fmul : (binOp .mul t (.float .f64 x) (.float .f64 y)).run P w = .ok (.float .f64 (mulV w x y)) (w.drewN (fN (mulO x y))) := by
  unfold mulV mulO fV fN
  cases h : Ieee.double.mul x y with
  | some r => simp [binOp, Op.floatArith, f64_double, h, World.drewN_zero]
  | none => simp [binOp, Op.floatArith, f64_double, h, Question.forced]; rfl
@[go_sem high] theorem run_fdiv : (binOp .quo t (.float .f64 x) (.float .f64 y)).run P w = .ok (.float .f64 (divV w x y)) (w.drewN (fN (divO x y))) := by
  unfold divV divO fV fN
  cases h : Ieee.double.div x y with
  | some r => simp [binOp, Op.floatArith, f64_double, h, World.drewN_zero]
  | none => simp [binOp, Op.floatArith, f64_double, h, Question.forced]; rfl
end
@[go_sem] theorem run_store_float {P : Program} (w : World) (a : Addr) (m : Mode) (k : FloatKind) (b : Nat) : (store a (.float k b) m).run P w = stored P w a (.float k b) m := run_store P w a _ m rfl

theorem cut_nan (x y n : Nat) : (Question.nanBits .f64 x y).cut n < 18446744073709551616 ∧ nan ((Question.nanBits .f64 x y).cut n) = true := by
  have e : (Question.nanBits .f64 x y).cut n = (n % 2) * 9223372036854775808 + 9218868437227405312 + 1 + (n / 2) % 4503599627370495 := rfl
  have h1 : n / 2 % 4503599627370495 < 4503599627370495 := Nat.mod_lt _ (by omega)
  have h2 : n % 2 < 2 := Nat.mod_lt _ (by omega)
  rw [e]; unfold nan mg; simp only [decide_eq_true_eq]
  generalize n / 2 % 4503599627370495 = k at *
  generalize n % 2 = j at *
  omega
theorem rep_fV {o : Option Nat} (h : ∀ r, o = some r → r < 18446744073709551616 ∧ nan r = false) (x y : Nat) (w : World) : rep o (fV (.nanBits .f64 x y) w o) := by
  unfold rep fV
  cases o with
  | some r => exact ⟨(h r rfl).1, ans_num (h r rfl).2⟩
  | none => exact ⟨(cut_nan _ _ _).1, ans_nan (cut_nan _ _ _).2⟩
theorem add_bd {x y r : Nat} (h : addO x y = some r) : r < 18446744073709551616 ∧ nan r = false := ⟨Ieee.double.add_lt h, map_not_nan (sum_not_nan _ _) h⟩
theorem sub_bd {x y r : Nat} (h : subO x y = some r) : r < 18446744073709551616 ∧ nan r = false := ⟨Ieee.double.sub_lt h, map_not_nan (sum_not_nan _ _) h⟩
theorem mul_bd {x y r : Nat} (h : mulO x y = some r) : r < 18446744073709551616 ∧ nan r = false := ⟨Ieee.double.mul_lt h, map_not_nan (product_not_nan _ _) h⟩
theorem div_bd {x y r : Nat} (h : divO x y = some r) : r < 18446744073709551616 ∧ nan r = false := ⟨Ieee.double.div_lt h, map_not_nan (quotient_not_nan _ _ _) h⟩
theorem rep_addV (x y : Nat) (w : World) : rep (addO x y) (addV w x y) := rep_fV (fun _ h => add_bd h) _ _ _
theorem rep_subV (x y : Nat) (w : World) : rep (subO x y) (subV w x y) := rep_fV (fun _ h => sub_bd h) _ _ _
theorem rep_mulV (x y : Nat) (w : World) : rep (mulO x y) (mulV w x y) := rep_fV (fun _ h => mul_bd h) _ _ _
theorem rep_divV (x y : Nat) (w : World) : rep (divO x y) (divV w x y) := rep_fV (fun _ h => div_bd h) _ _ _
/-- Operations on answers. -/
def addA (a b : Option Nat) : Option Nat := a.bind fun x => b.bind fun y => addO x y
def subA (a b : Option Nat) : Option Nat := a.bind fun x => b.bind fun y => subO x y
def mulA (a b : Option Nat) : Option Nat := a.bind fun x => b.bind fun y => mulO x y
theorem add_nan {x y : Nat} (h : nan x = true ∨ nan y = true) : addO x y = none := by
  unfold addO Ieee.Format.add
  rcases h with h | h
  · rw [read_nan x h]; cases Ieee.double.read y <;> rfl
  · rw [read_nan y h]; cases Ieee.double.read x <;> rfl
theorem sub_nan {x y : Nat} (h : nan x = true ∨ nan y = true) : subO x y = none := by
  unfold subO Ieee.Format.sub
  rcases h with h | h
  · rw [read_nan x h]; cases Ieee.double.read y <;> rfl
  · rw [read_nan y h]; cases Ieee.double.read x <;> rfl
theorem mul_nan {x y : Nat} (h : nan x = true ∨ nan y = true) : mulO x y = none := by
  unfold mulO Ieee.Format.mul
  rcases h with h | h
  · rw [read_nan x h]; cases Ieee.double.read y <;> rfl
  · rw [read_nan y h]; cases Ieee.double.read x <;> rfl
theorem addA_of {a b : Option Nat} {x y : Nat} (ha : rep a x) (hb : rep b y) : addA a b = addO x y := by
  obtain ⟨_, rfl⟩ := ha
  obtain ⟨_, rfl⟩ := hb
  unfold addA
  cases hx : nan x
  · cases hy : nan y
    · rw [ans_num hx, ans_num hy]; rfl
    · rw [add_nan (Or.inr hy), ans_num hx, ans_nan hy]; rfl
  · rw [add_nan (Or.inl hx), ans_nan hx]; rfl
theorem subA_of {a b : Option Nat} {x y : Nat} (ha : rep a x) (hb : rep b y) : subA a b = subO x y := by
  obtain ⟨_, rfl⟩ := ha
  obtain ⟨_, rfl⟩ := hb
  unfold subA
  cases hx : nan x
  · cases hy : nan y
    · rw [ans_num hx, ans_num hy]; rfl
    · rw [sub_nan (Or.inr hy), ans_num hx, ans_nan hy]; rfl
  · rw [sub_nan (Or.inl hx), ans_nan hx]; rfl
theorem mulA_of {a b : Option Nat} {x y : Nat} (ha : rep a x) (hb : rep b y) : mulA a b = mulO x y := by
  obtain ⟨_, rfl⟩ := ha
  obtain ⟨_, rfl⟩ := hb
  unfold mulA
  cases hx : nan x
  · cases hy : nan y
    · rw [ans_num hx, ans_num hy]; rfl
    · rw [mul_nan (Or.inr hy), ans_num hx, ans_nan hy]; rfl
  · rw [mul_nan (Or.inl hx), ans_nan hx]; rfl
theorem rep_add {a b : Option Nat} {x y : Nat} (ha : rep a x) (hb : rep b y) (w : World) : rep (addA a b) (addV w x y) := by rw [addA_of ha hb]; exact rep_addV _ _ _
theorem rep_sub {a b : Option Nat} {x y : Nat} (ha : rep a x) (hb : rep b y) (w : World) : rep (subA a b) (subV w x y) := by rw [subA_of ha hb]; exact rep_subV _ _ _
theorem rep_mul {a b : Option Nat} {x y : Nat} (ha : rep a x) (hb : rep b y) (w : World) : rep (mulA a b) (mulV w x y) := by rw [mulA_of ha hb]; exact rep_mulV _ _ _

end Go.Proofs.YtmpkcioeodlbcaaGreatDoor
namespace Go.Proofs.YtmpkcioeodlbcaaGreatDoor
open Fl
def divA (a b : Option Nat) : Option Nat := a.bind fun x => b.bind fun y => divO x y
theorem div_nan {x y : Nat} (h : nan x = true ∨ nan y = true) : divO x y = none := by
  unfold divO Ieee.Format.div
  rcases h with h | h
  · rw [read_nan x h]; cases Ieee.double.read y <;> rfl
  · rw [read_nan y h]; cases Ieee.double.read x <;> rfl
theorem divA_of {a b : Option Nat} {x y : Nat} (ha : rep a x) (hb : rep b y) : divA a b = divO x y := by
  obtain ⟨_, rfl⟩ := ha
  obtain ⟨_, rfl⟩ := hb
  unfold divA
  cases hx : nan x
  · cases hy : nan y
    · rw [ans_num hx, ans_num hy]; rfl
    · rw [div_nan (Or.inr hy), ans_num hx, ans_nan hy]; rfl
  · rw [div_nan (Or.inl hx), ans_nan hx]; rfl
theorem rep_div {a b : Option Nat} {x y : Nat} (ha : rep a x) (hb : rep b y) (w : World) : rep (divA a b) (divV w x y) := by rw [divA_of ha hb]; exact rep_divV _ _ _

/-- The sign turned; the size. -/
def ngW (x : Nat) : Nat := if x < 9223372036854775808 then x + 9223372036854775808 else x - 9223372036854775808
def sizA (a : Option Nat) : Option Nat := a.map mg
theorem mg_mg (x : Nat) : mg (mg x) = mg x := Nat.mod_mod _ _
theorem mg_bd (x : Nat) : mg x < 9223372036854775808 := Nat.mod_lt _ (by omega)
theorem mg_ngW {x : Nat} (h : x < 18446744073709551616) : mg (ngW x) = mg x := by unfold ngW mg; split <;> omega
theorem ng_ngW {x : Nat} (h : x < 18446744073709551616) : ng (ngW x) = !ng x := by
  unfold ngW ng; split
  · have h1 : (x + 9223372036854775808) / 9223372036854775808 % 2 = 1 := by omega
    have h2 : x / 9223372036854775808 % 2 = 0 := by omega
    rw [h1, h2]; rfl
  · have h1 : (x - 9223372036854775808) / 9223372036854775808 % 2 = 0 := by omega
    have h2 : x / 9223372036854775808 % 2 = 1 := by omega
    rw [h1, h2]; rfl
theorem ngW_lt {x : Nat} (h : x < 18446744073709551616) : ngW x < 18446744073709551616 := by unfold ngW; split <;> omega
theorem nan_mg (x : Nat) : nan (mg x) = nan x := by unfold nan; rw [mg_mg]
theorem rep_sz {a : Option Nat} {x : Nat} (ha : rep a x) : rep (sizA a) (mg x) := by
  obtain ⟨h, rfl⟩ := ha
  refine ⟨by have := mg_bd x; omega, ?_⟩
  unfold sizA ans; rw [nan_mg x]; cases nan x <;> rfl
/-- Two answers held against each other. -/
def ordA (a b : Option Nat) : Option Ordering := a.bind fun x => b.bind fun y => Ieee.double.order x y
theorem ordA_of {a b : Option Nat} {x y : Nat} (ha : rep a x) (hb : rep b y) : FloatKind.f64.format.order x y = ordA a b := by
  obtain ⟨_, rfl⟩ := ha
  obtain ⟨_, rfl⟩ := hb
  unfold ordA
  rw [f64_double]
  cases hx : nan x
  · cases hy : nan y
    · rw [ans_num hx, ans_num hy]; rfl
    · rw [ans_num hx, ans_nan hy, order_eq, hy, Bool.or_true]; rfl
  · rw [ans_nan hx, order_eq, hx, Bool.true_or]; rfl

end Go.Proofs.YtmpkcioeodlbcaaGreatDoor
namespace Go.Proofs.YtmpkcioeodlbcaaGreatDoor
open Fl
@[go_sem] theorem run_bits (x : Nat) (w : World) : (callFunc 91 #[.float .f64 x]).run Tryz.prog w = .ok (.value (.int .u64 (x : Int))) w := by
  rw [run_callFunc_extern Tryz.func91 (by kernel_rfl) (by kernel_rfl) (by kernel_rfl) (e := Extern.MathFloatBits.float64bits) (by kernel_rfl)]
  rfl
@[go_sem] theorem run_frombits (x : Int) (w : World) : (callFunc 19 #[.int .u64 x]).run Tryz.prog w = .ok (.value (.float .f64 x.toNat)) w := by
  rw [run_callFunc_extern Tryz.func19 (by kernel_rfl) (by kernel_rfl) (by kernel_rfl) (e := Extern.MathFloatBits.float64frombits) (by kernel_rfl)]
  rfl
@[go_sem] theorem run_negFloat (b : Nat) (w : World) : (Op.unary UnOp.neg (.float .f64 b)).run Tryz.prog w = .ok (.float .f64 (Op.negFloat .f64 b)) w := rfl
def smB (a b : Nat) : Bool := if nan a || nan b then nan a && nan b else a == b
theorem smB_self (x : Nat) : smB x x = true := by unfold smB; cases nan x <;> simp
def eqB (x y : Nat) : Bool := FloatKind.f64.format.order x y == some .eq
def finB (x : Nat) : Bool := decide (mg x < 9218868437227405312)
theorem retf {a b : Nat} (h : a = b) : Ending.returned (.float .f64 a) = .returned (.float .f64 b) := by rw [h]
theorem retb {a b : Bool} (h : a = b) : Ending.returned (.bool a) = .returned (.bool b) := by rw [h]

theorem andNot_sign (x : Nat) (hx : x < 18446744073709551616) : bits BinOp.andNot IntKind.u64 (x : Int) 9223372036854775808 = ((mg x : Nat) : Int) := by
  have h := u64_andNot_nat x 9223372036854775808 hx (by omega)
  have h2 := Nat.and_two_pow_sub_one_eq_mod x 63
  rw [show (2 : Nat) ^ 63 - 1 = 18446744073709551615 - 9223372036854775808 from rfl, show (2 : Nat) ^ 63 = 9223372036854775808 from rfl] at h2
  rw [h2] at h; exact h
theorem and_power (x : Nat) (hx : x < 18446744073709551616) : bits BinOp.and IntKind.u64 (x : Int) 9218868437227405312 = ((mg x / 4503599627370496 * 4503599627370496 : Nat) : Int) := by
  have h := u64_and_nat x 9218868437227405312 hx (by omega)
  have e : x &&& 9218868437227405312 = mg x / 4503599627370496 * 4503599627370496 := by
    have h1 : (9218868437227405312 : Nat) = 2047 <<< 52 := by decide
    have h2 : x &&& 9218868437227405312 = ((x >>> 52) &&& 2047) <<< 52 := by
      rw [h1]
      apply Nat.eq_of_testBit_eq
      intro i
      rw [Nat.testBit_and, Nat.testBit_shiftLeft, Nat.testBit_shiftLeft, Nat.testBit_and, Nat.testBit_shiftRight]
      by_cases hi : 52 ≤ i
      · simp only [hi, decide_true, Bool.true_and, show 52 + (i - 52) = i by omega]
      · simp [hi]
    rw [h2, show (2047 : Nat) = 2 ^ 11 - 1 from rfl, Nat.and_two_pow_sub_one_eq_mod, Nat.shiftRight_eq_div_pow, Nat.shiftLeft_eq]
    unfold mg
    omega
  rw [e] at h; exact h

theorem size_any (x : Nat) (w : World) (hx : x < 18446744073709551616) : Calls Tryz.prog 170 #[.float .f64 x] w fun e w' => e = .returned (.float .f64 (mg x)) ∧ w' = w := by
  have ha := andNot_sign x hx
  go_enter Tryz.func170, Tryz.ntmps170
  go_wp2
  go_ret
  exact ⟨retf (by simp), rfl⟩
theorem finite_any (x : Nat) (w : World) (hx : x < 18446744073709551616) : Calls Tryz.prog 93 #[.float .f64 x] w fun e w' => e = .returned (.bool (finB x)) ∧ w' = w := by
  have ha := and_power x hx
  have hm := mg_bd x
  have hk : (((mg x / 4503599627370496 * 4503599627370496 : Nat) : Int) != 9218868437227405312) = finB x := by
    unfold finB
    by_cases h : mg x < 9218868437227405312
    · rw [decide_eq_true h]; exact bne_iff_ne.2 (by omega)
    · rw [decide_eq_false h]; simp; omega
  go_enter Tryz.func93, Tryz.ntmps93
  go_wp2
  go_ret
  exact ⟨retb hk, rfl⟩
end Go.Proofs.YtmpkcioeodlbcaaGreatDoor
