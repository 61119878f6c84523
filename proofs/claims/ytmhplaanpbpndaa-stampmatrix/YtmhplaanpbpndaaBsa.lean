/-
  Several texts in one: Fl Ops Cx Bt Rn Lk Ts Tp Rg Pt Pa Pd Sg Pe Pf Pg Pl Mr Mono Ldt Tw.
-/
import Derived.Laws.FloatArith
import Derived.Laws.BitsAllLaws
import Derived.WalkKit
import Derived.WalkLawsBesides
import Derived.Laws.Cover3
import Derived.Test.YtmhplaanpbpndaaChecked
import Derived.RegionTactic
import Derived.BigRegion
namespace Go.Proofs.Ytmhplaanpbpndaa.Fl
open Ieee

def mg (x : Nat) : Nat := x % 9223372036854775808
def ng (x : Nat) : Bool := x / 9223372036854775808 % 2 == 1
def nan (x : Nat) : Bool := decide (9218868437227405312 < mg x)
def fin (x : Nat) : Prop := mg x < 9218868437227405312
def sig (r : Nat) : Nat := if r < 4503599627370496 then r else 4503599627370496 + r % 4503599627370496
def ex (r : Nat) : Nat := r / 4503599627370496 - 1
def sz (r : Nat) : Nat := sig r * 2 ^ ex r
def sgn (s : Bool) (n : Nat) : Int := if s then -(n : Int) else n
def val (x : Nat) : Int := sgn (ng x) (sz (mg x))
def plc (x : Nat) : Int := sgn (ng x) (mg x)

theorem d_sw : Ieee.double.signWeight = 9223372036854775808 := by decide
theorem d_bin : Ieee.double.binade = 4503599627370496 := by decide
theorem d_inf : Ieee.double.infRung = 9218868437227405312 := by decide
theorem d_least : Ieee.double.leastPlace = -1074 := by decide
theorem f64_double : FloatKind.f64.format = Ieee.double := rfl

theorem read_fin (x : Nat) (h : fin x) : Ieee.double.read x = .number (ng x) (sig (mg x)) (-1074 + (ex (mg x) : Int)) := by
  unfold fin at h
  unfold Ieee.Format.read
  simp only [d_sw, d_bin, d_inf, d_least]
  by_cases h1 : x % 9223372036854775808 < 4503599627370496
  · have e0 : ex (x % 9223372036854775808) = 0 := by unfold ex; omega
    simp [h1, sig, mg, ng, e0]
  · unfold mg at h
    simp [h1, h, sig, mg, ng, ex]
theorem read_inf (x : Nat) (h : mg x = 9218868437227405312) : Ieee.double.read x = .infinity (ng x) := by
  unfold mg at h
  unfold Ieee.Format.read
  simp only [d_sw, d_bin, d_inf, d_least, h, ng]
  simp
theorem read_nan (x : Nat) (h : nan x = true) : Ieee.double.read x = .nan (ng x) (mg x - 9218868437227405312) := by
  unfold nan mg at h
  simp only [decide_eq_true_eq] at h
  unfold Ieee.Format.read
  simp only [d_sw, d_bin, d_inf, d_least]
  rw [if_neg (by omega), if_neg (by omega), if_neg (by omega)]
  rfl
theorem kinds (x : Nat) : fin x ∨ mg x = 9218868437227405312 ∨ nan x = true := by
  unfold fin nan; simp only [decide_eq_true_eq]; omega
theorem fin_not_nan {x : Nat} (h : fin x) : nan x = false := by unfold fin at h; unfold nan; simp; omega
theorem inf_not_nan {x : Nat} (h : mg x = 9218868437227405312) : nan x = false := by unfold nan; simp; omega

theorem signed_eq (s : Bool) (m up : Nat) : Ieee.signed s m up = sgn s (m * 2 ^ up) := by
  unfold Ieee.signed sgn; simp [Nat.shiftLeft_eq]
theorem sgn_mul (s : Bool) (m k : Nat) : sgn s (m * k) = sgn s m * (k : Int) := by
  unfold sgn; cases s <;> simp [Int.neg_mul]
theorem compare_mul (a b : Int) (k : Nat) (hk : 0 < k) : compare (a * (k : Int)) (b * (k : Int)) = compare a b := by
  have hk' : (0 : Int) < k := by omega
  rcases Int.lt_trichotomy a b with h | h | h
  · have := (Int.mul_lt_mul_right hk').2 h
    simp [compare, compareOfLessAndEq, h, this]
  · subst h; simp
  · have h2 := (Int.mul_lt_mul_right hk').2 h
    have e1 : ¬ a < b := by omega
    have e2 : ¬ a = b := by omega
    have e3 : ¬ a * (k : Int) < b * (k : Int) := by omega
    have e4 : ¬ a * (k : Int) = b * (k : Int) := by omega
    simp [compare, compareOfLessAndEq, e1, e2, e3, e4]

theorem cmp_lt {a b : Int} (h : a < b) : compare a b = .lt := by simp [compare, compareOfLessAndEq, h]
theorem cmp_gt {a b : Int} (h : b < a) : compare a b = .gt := by
  have h1 : ¬ a < b := by omega
  have h2 : ¬ a = b := by omega
  simp [compare, compareOfLessAndEq, h1, h2]
theorem sig_lt (r : Nat) : sig r < 9007199254740992 := by unfold sig; split <;> omega
theorem ex_succ_le (a b : Nat) (h : a < b) (e : ex a ≠ ex b) : 4503599627370496 ≤ sig b ∧ ex a + 1 ≤ ex b := by
  unfold ex at *; unfold sig; constructor
  · split <;> omega
  · omega
theorem sz_mono {a b : Nat} (h : a < b) : sz a < sz b := by
  unfold sz
  by_cases e : ex a = ex b
  · rw [e]
    refine (Nat.mul_lt_mul_right (Nat.two_pow_pos _)).2 ?_
    unfold ex at e; unfold sig; split <;> split <;> omega
  · obtain ⟨h1, h2⟩ := ex_succ_le a b h e
    have h3 := sig_lt a
    calc sig a * 2 ^ ex a < 9007199254740992 * 2 ^ ex a := (Nat.mul_lt_mul_right (Nat.two_pow_pos _)).2 h3
      _ = 4503599627370496 * 2 ^ (ex a + 1) := by rw [Nat.pow_succ]; omega
      _ ≤ 4503599627370496 * 2 ^ ex b := Nat.mul_le_mul_left _ (Nat.pow_le_pow_right (by omega) h2)
      _ ≤ sig b * 2 ^ ex b := Nat.mul_le_mul_right _ h1
theorem sz_zero : sz 0 = 0 := by decide
theorem sz_inj {a b : Nat} (h : sz a = sz b) : a = b := by
  rcases Nat.lt_trichotomy a b with h1 | h1 | h1
  · have := sz_mono h1; omega
  · exact h1
  · have := sz_mono h1; omega
theorem sz_pos {a : Nat} (h : 0 < a) : 0 < sz a := by have := sz_mono h; rw [sz_zero] at this; exact this

theorem cmp_sgn (s t : Bool) (a b : Nat) : compare (sgn s (sz a)) (sgn t (sz b)) = compare (sgn s a) (sgn t b) := by
  have key : ∀ a b : Int, ∀ c d : Int, ((a < b) ↔ (c < d)) → ((a = b) ↔ (c = d)) → compare a b = compare c d := by
    intro a b c d h1 h2
    simp only [compare, compareOfLessAndEq, h1, h2]
  have ha := fun h => @sz_pos a h
  have hb := fun h => @sz_pos b h
  have ha0 : a = 0 → sz a = 0 := by rintro rfl; exact sz_zero
  have hb0 : b = 0 → sz b = 0 := by rintro rfl; exact sz_zero
  have h1 : a < b → sz a < sz b := sz_mono
  have h2 : b < a → sz b < sz a := sz_mono
  have h3 : a = b → sz a = sz b := by rintro rfl; rfl
  refine key _ _ _ _ ?_ ?_ <;> unfold sgn <;> cases s <;> cases t <;> simp <;> omega

theorem order_fin {x y : Nat} (hx : fin x) (hy : fin y) : Ieee.double.order x y = some (compare (val x) (val y)) := by
  unfold Ieee.Format.order
  rw [read_fin x hx, read_fin y hy]
  unfold Ieee.Datum.order
  simp only [signed_eq]
  congr 1
  have e1 : (-1074 + (ex (mg x) : Int) - min (-1074 + (ex (mg x) : Int)) (-1074 + (ex (mg y) : Int))).toNat = ex (mg x) - min (ex (mg x)) (ex (mg y)) := by omega
  have e2 : (-1074 + (ex (mg y) : Int) - min (-1074 + (ex (mg x) : Int)) (-1074 + (ex (mg y) : Int))).toNat = ex (mg y) - min (ex (mg x)) (ex (mg y)) := by omega
  rw [e1, e2, ← compare_mul _ _ (2 ^ min (ex (mg x)) (ex (mg y))) (Nat.two_pow_pos _), ← sgn_mul, ← sgn_mul, Nat.mul_assoc, Nat.mul_assoc, ← Nat.pow_add, ← Nat.pow_add,
    Nat.sub_add_cancel (Nat.min_le_left _ _), Nat.sub_add_cancel (Nat.min_le_right _ _)]
  rfl

theorem order_eq (x y : Nat) : Ieee.double.order x y = if nan x || nan y then none else some (compare (plc x) (plc y)) := by
  rcases kinds x with hx | hx | hx
  · rcases kinds y with hy | hy | hy
    · simp only [fin_not_nan hx, fin_not_nan hy, Bool.or_false, Bool.false_eq_true, if_false]
      rw [order_fin hx hy]; unfold val plc; rw [cmp_sgn]
    · simp only [fin_not_nan hx, inf_not_nan hy, Bool.or_false, Bool.false_eq_true, if_false]
      unfold Ieee.Format.order; rw [read_fin x hx, read_inf y hy]
      unfold Ieee.Datum.order plc; unfold fin at hx; unfold sgn; rw [hy]
      cases ng x <;> cases ng y <;> simp <;> first | (rw [cmp_lt (by omega)]; done) | (rw [cmp_gt (by omega)]; done)
    · simp only [hy, Bool.or_true, if_true]
      unfold Ieee.Format.order; rw [read_nan y hy, read_fin x hx]; rfl
  · rcases kinds y with hy | hy | hy
    · simp only [fin_not_nan hy, inf_not_nan hx, Bool.or_false, Bool.false_eq_true, if_false]
      unfold Ieee.Format.order; rw [read_fin y hy, read_inf x hx]
      unfold Ieee.Datum.order plc; unfold fin at hy; unfold sgn; rw [hx]
      cases ng x <;> cases ng y <;> simp <;> first | (rw [cmp_lt (by omega)]; done) | (rw [cmp_gt (by omega)]; done)
    · simp only [inf_not_nan hy, inf_not_nan hx, Bool.or_false, Bool.false_eq_true, if_false]
      unfold Ieee.Format.order; rw [read_inf y hy, read_inf x hx]
      unfold Ieee.Datum.order plc sgn; rw [hx, hy]
      cases ng x <;> cases ng y <;> rfl
    · simp only [hy, Bool.or_true, if_true]
      unfold Ieee.Format.order; rw [read_nan y hy, read_inf x hx]; rfl
  · simp only [hx, Bool.true_or, if_true]
    unfold Ieee.Format.order; rw [read_nan x hx]; rfl

theorem order_self (x : Nat) : FloatKind.f64.format.order x x = if nan x then none else some .eq := by
  rw [f64_double, order_eq]; cases nan x <;> simp [compare, compareOfLessAndEq]
theorem order_nan {x : Nat} (h : nan x = true) : FloatKind.f64.format.order x x = none := by rw [order_self, h]; rfl
theorem order_num {x : Nat} (h : nan x = false) : FloatKind.f64.format.order x x = some .eq := by rw [order_self, h]; rfl
theorem order_lt {x y : Nat} (hx : nan x = false) (hy : nan y = false) : (FloatKind.f64.format.order x y == some .lt) = decide (plc x < plc y) := by
  rw [f64_double, order_eq, hx, hy]; simp only [Bool.or_false, Bool.false_eq_true, if_false, compare, compareOfLessAndEq]
  by_cases h : plc x < plc y
  · simp [h]
  · by_cases h2 : plc x = plc y <;> simp [h, h2]
theorem order_eqb {x y : Nat} (hx : nan x = false) (hy : nan y = false) : (FloatKind.f64.format.order x y == some .eq) = decide (plc x = plc y) := by
  rw [f64_double, order_eq, hx, hy]; simp only [Bool.or_false, Bool.false_eq_true, if_false, compare, compareOfLessAndEq]
  by_cases h : plc x < plc y
  · have : ¬ plc x = plc y := by omega
    simp [h, this]
  · by_cases h2 : plc x = plc y <;> simp [h, h2]
theorem order_gt {x y : Nat} (hx : nan x = false) (hy : nan y = false) : (FloatKind.f64.format.order x y == some .gt) = decide (plc y < plc x) := by
  rw [f64_double, order_eq, hx, hy]; simp only [Bool.or_false, Bool.false_eq_true, if_false, compare, compareOfLessAndEq]
  by_cases h : plc x < plc y
  · have : ¬ plc y < plc x := by omega
    simp [h, this]
  · by_cases h2 : plc x = plc y
    · simp [h2]
    · have : plc y < plc x := by omega
      simp [h, h2, this]

theorem neg_of_pos {b : Nat} (h : b < 9223372036854775808) : Op.negFloat .f64 b = b + 9223372036854775808 := by
  show b ^^^ 2 ^ 63 = _
  have h1 := nat_join 63 9223372036854775808 b (by decide) (by omega)
  have h2 : b ^^^ 2 ^ 63 = 9223372036854775808 ||| b := by
    apply Nat.eq_of_testBit_eq
    intro i
    rw [show (9223372036854775808 : Nat) = 2 ^ 63 from rfl, Nat.testBit_xor, Nat.testBit_or, Nat.testBit_two_pow]
    by_cases hi : 63 = i
    · subst hi
      have : b.testBit 63 = false := Nat.testBit_lt_two_pow (by omega)
      simp [this]
    · simp [hi]
  rw [h2, h1]; omega
theorem neg_of_neg {b : Nat} (h1 : 9223372036854775808 ≤ b) (h2 : b < 18446744073709551616) : Op.negFloat .f64 b = b - 9223372036854775808 := by
  have h := neg_of_pos (b := b - 9223372036854775808) (by omega)
  have e : b - 9223372036854775808 + 9223372036854775808 = b := by omega
  rw [e] at h
  have h3 : ∀ c : Nat, Op.negFloat .f64 (Op.negFloat .f64 c) = c := by
    intro c
    show (c ^^^ 2 ^ 63) ^^^ 2 ^ 63 = c
    rw [Nat.xor_assoc, Nat.xor_self, Nat.xor_zero]
  have h4 := h3 (b - 9223372036854775808)
  rw [h] at h4; exact h4

end Go.Proofs.Ytmhplaanpbpndaa.Fl

namespace Go.Proofs.Ytmhplaanpbpndaa
open Fl

/-- The answer that a word is: itself, or (none) a NaN. -/
def ans (x : Nat) : Option Nat := if nan x then none else some x
/-- x stands for the answer o. -/
def rep (o : Option Nat) (x : Nat) : Prop := x < 18446744073709551616 ∧ ans x = o
theorem rep_ans {x : Nat} (h : x < 18446744073709551616) : rep (ans x) x := ⟨h, rfl⟩
theorem ans_nan {x : Nat} (h : nan x = true) : ans x = none := by unfold ans; rw [h]; rfl
theorem ans_num {x : Nat} (h : nan x = false) : ans x = some x := by unfold ans; rw [h]; rfl
theorem ans_none {x : Nat} (h : ans x = none) : nan x = true := by
  cases hn : nan x
  · rw [ans_num hn] at h; cases h
  · rfl
theorem ans_some {x r : Nat} (h : ans x = some r) : nan x = false ∧ x = r := by
  cases hn : nan x
  · rw [ans_num hn] at h; cases h; exact ⟨rfl, rfl⟩
  · rw [ans_nan hn] at h; cases h
theorem word_mg (s : Bool) {r : Nat} (h : r < 9223372036854775808) : mg (Ieee.double.word s r) = r := by
  unfold Ieee.Format.word mg; rw [d_sw]; split <;> omega
theorem nearest_not_nan (s : Bool) (m : Nat) (p : Int) : nan (Ieee.double.nearest s m p) = false := by
  have key : ∀ r, r ≤ 9218868437227405312 → nan (Ieee.double.word s r) = false := by
    intro r hr; unfold nan; rw [word_mg s (by omega)]; simp; omega
  unfold Ieee.Format.nearest
  split
  · exact key 0 (by omega)
  · refine key _ ?_
    rw [d_inf]; exact Nat.min_le_right _ _
theorem write_not_nan {d : Ieee.Datum} (h : d.isNaN = false) : nan (Ieee.double.write d) = false := by
  cases d with
  | number s m p => exact nearest_not_nan s m p
  | infinity s => unfold Ieee.Format.write nan; rw [d_inf, word_mg s (by omega)]; rfl
  | nan s f => cases h
theorem map_not_nan {o : Option Ieee.Datum} {r : Nat} (ho : ∀ d, o = some d → d.isNaN = false) (h : o.map Ieee.double.write = some r) : nan r = false := by
  cases o with
  | none => cases h
  | some d => cases h; exact write_not_nan (ho d rfl)
theorem sum_not_nan (a b d : Ieee.Datum) (h : a.sum b = some d) : d.isNaN = false := by
  cases a <;> cases b <;> simp [Ieee.Datum.sum] at h
  · subst h; rfl
  · subst h; rfl
  · subst h; rfl
  · rw [← h.2]; rfl
theorem product_not_nan (a b d : Ieee.Datum) (h : a.product b = some d) : d.isNaN = false := by
  cases a <;> cases b <;> simp [Ieee.Datum.product] at h
  · subst h; rfl
  · rw [← h.2]; rfl
  · rw [← h.2]; rfl
  · subst h; rfl
theorem quotient_not_nan (n : Nat) (a b d : Ieee.Datum) (h : a.quotient n b = some d) : d.isNaN = false := by
  cases a <;> cases b <;> simp [Ieee.Datum.quotient] at h
  · split at h
    · split at h
      · cases h
      · cases h; rfl
    · cases h; rfl
  · subst h; rfl
  · subst h; rfl
def fN (o : Option Nat) : Nat := match o with | some _ => 0 | none => 1
def fV (q : Question) (w : World) (o : Option Nat) : Nat := match o with | some r => r | none => q.cut (w.tape w.drawn q)
def addO (x y : Nat) : Option Nat := Ieee.double.add x y
def subO (x y : Nat) : Option Nat := Ieee.double.sub x y
def mulO (x y : Nat) : Option Nat := Ieee.double.mul x y
def divO (x y : Nat) : Option Nat := Ieee.double.div x y
def fmaO (x y z : Nat) : Option Nat := Ieee.double.fma x y z
def addV (w : World) (x y : Nat) : Nat := fV (.nanBits .f64 x y) w (addO x y)
def subV (w : World) (x y : Nat) : Nat := fV (.nanBits .f64 x y) w (subO x y)
def mulV (w : World) (x y : Nat) : Nat := fV (.nanBits .f64 x y) w (mulO x y)
def divV (w : World) (x y : Nat) : Nat := fV (.nanBits .f64 x y) w (divO x y)
def fmaQ (x y z : Nat) : Question := if Extern.MathFMA.isNaN x then .nanBits .f64 x y else if Extern.MathFMA.isNaN y then .nanBits .f64 y z else .nanBits .f64 z z
def fmaV (w : World) (x y z : Nat) : Nat := fV (fmaQ x y z) w (fmaO x y z)

section
variable {P : Program} (t : TypeId) (x y z : Nat) (w : World)
theorem run_choose_nan : (choose (.nanBits .f64 x y)).run P w = .ok ((Question.nanBits .f64 x y).cut (w.tape w.drawn (.nanBits .f64 x y))) (w.drewN 1) := by
  rw [run_choose_drew]; rfl
@[go_sem high] theorem run_fadd : (binOp .add t (.float .f64 x) (.float .f64 y)).run P w = .ok (.float .f64 (addV w x y)) (w.drewN (fN (addO x y))) := by
  unfold addV addO fV fN
  cases h : Ieee.double.add x y with
  | some r => simp [binOp, Op.floatArith, f64_double, h, World.drewN_zero]
  | none => simp [binOp, Op.floatArith, f64_double, h, Question.forced]; rfl
@[go_sem high] theorem run_fsub : (binOp .sub t (.float .f64 x) (.float .f64 y)).run P w = .ok (.float .f64 (subV w x y)) (w.drewN (fN (subO x y))) := by
  unfold subV subO fV fN
  cases h : Ieee.double.sub x y with
  | some r => simp [binOp, Op.floatArith, f64_double, h, World.drewN_zero]
  | none => simp [binOp, Op.floatArith, f64_double, h, Question.forced]; rfl
@[go_sem high] theorem run_fmul : (binOp .mul t (.float .f64 x) (.float .f64 y)).run P w = .ok (.float .f64 (mulV w x y)) (w.drewN (fN (mulO x y))) := by
  unfold mulV mulO fV fN
  cases h : Ieee.double.mul x y with
  | some r => simp [binOp, Op.floatArith, f64_double, h, World.drewN_zero]
  | none => simp [binOp, Op.floatArith, f64_double, h, Question.forced]; rfl
@[go_sem high] theorem run_fdiv : (binOp .quo t (.float .f64 x) (.float .f64 y)).run P w = .ok (.float .f64 (divV w x y)) (w.drewN (fN (divO x y))) := by
  unfold divV divO fV fN
  cases h : Ieee.double.div x y with
  | some r => simp [binOp, Op.floatArith, f64_double, h, World.drewN_zero]
  | none => simp [binOp, Op.floatArith, f64_double, h, Question.forced]; rfl
theorem run_ffma : (Extern.MathFMA.fma #[.float .f64 x, .float .f64 y, .float .f64 z]).run P w = .ok (.float .f64 (fmaV w x y z)) (w.drewN (fN (fmaO x y z))) := by
  unfold fmaV fmaO fV fN fmaQ
  cases h : Ieee.double.fma x y z with
  | some r =>
    change Sem.run P (match Ieee.double.fma x y z with
      | some r => pure (Value.float .f64 r)
      | none => do
        let (a, b) := if Extern.MathFMA.isNaN x then (x, y) else if Extern.MathFMA.isNaN y then (y, z) else (z, z)
        pure (Value.float .f64 (← choose (.nanBits .f64 a b)))) w = _
    rw [h]; rfl
  | none =>
    change Sem.run P (match Ieee.double.fma x y z with
      | some r => pure (Value.float .f64 r)
      | none => do
        let (a, b) := if Extern.MathFMA.isNaN x then (x, y) else if Extern.MathFMA.isNaN y then (y, z) else (z, z)
        pure (Value.float .f64 (← choose (.nanBits .f64 a b)))) w = _
    rw [h]
    by_cases h1 : Extern.MathFMA.isNaN x
    · simp only [h1, if_true, Sem.run_bind, Sem.run_pure, Result.andThen_ok, run_choose_nan]
    · by_cases h2 : Extern.MathFMA.isNaN y
      · simp only [h1, h2, if_true, Sem.run_bind, Sem.run_pure, Result.andThen_ok, run_choose_nan]
        simp
      · simp only [h1, h2, Sem.run_bind, Sem.run_pure, Result.andThen_ok, run_choose_nan]
        simp
end

@[go_sem] theorem run_store_float {P : Program} (w : World) (a : Addr) (m : Mode) (k : FloatKind) (b : Nat) : (store a (.float k b) m).run P w = stored P w a (.float k b) m := run_store P w a _ m rfl

theorem cut_nan (x y n : Nat) : (Question.nanBits .f64 x y).cut n < 18446744073709551616 ∧ nan ((Question.nanBits .f64 x y).cut n) = true := by
  have e : (Question.nanBits .f64 x y).cut n = (n % 2) * 9223372036854775808 + 9218868437227405312 + 1 + (n / 2) % 4503599627370495 := rfl
  have h1 : n / 2 % 4503599627370495 < 4503599627370495 := Nat.mod_lt _ (by omega)
  have h2 : n % 2 < 2 := Nat.mod_lt _ (by omega)
  rw [e]; unfold nan mg; simp only [decide_eq_true_eq]
  generalize n / 2 % 4503599627370495 = k at *
  generalize n % 2 = j at *
  omega
theorem rep_fV {o : Option Nat} (h : ∀ r, o = some r → r < 18446744073709551616 ∧ nan r = false) (x y : Nat) (w : World) : rep o (fV (.nanBits .f64 x y) w o) := by
  unfold rep fV
  cases o with
  | some r => exact ⟨(h r rfl).1, ans_num (h r rfl).2⟩
  | none => exact ⟨(cut_nan _ _ _).1, ans_nan (cut_nan _ _ _).2⟩
theorem add_bd {x y r : Nat} (h : addO x y = some r) : r < 18446744073709551616 ∧ nan r = false := ⟨Ieee.double.add_lt h, map_not_nan (sum_not_nan _ _) h⟩
theorem sub_bd {x y r : Nat} (h : subO x y = some r) : r < 18446744073709551616 ∧ nan r = false := ⟨Ieee.double.sub_lt h, map_not_nan (sum_not_nan _ _) h⟩
theorem mul_bd {x y r : Nat} (h : mulO x y = some r) : r < 18446744073709551616 ∧ nan r = false := ⟨Ieee.double.mul_lt h, map_not_nan (product_not_nan _ _) h⟩
theorem div_bd {x y r : Nat} (h : divO x y = some r) : r < 18446744073709551616 ∧ nan r = false := ⟨Ieee.double.div_lt h, map_not_nan (quotient_not_nan _ _ _) h⟩
theorem fma_bd {x y z r : Nat} (h : fmaO x y z = some r) : r < 18446744073709551616 ∧ nan r = false := by
  refine ⟨Ieee.double.fma_lt h, map_not_nan ?_ h⟩
  intro d hd
  cases hp : (Ieee.double.read x).product (Ieee.double.read y) with
  | none => rw [hp] at hd; cases hd
  | some p => rw [hp] at hd; exact sum_not_nan _ _ _ hd
theorem rep_addV (x y : Nat) (w : World) : rep (addO x y) (addV w x y) := rep_fV (fun _ h => add_bd h) _ _ _
theorem rep_subV (x y : Nat) (w : World) : rep (subO x y) (subV w x y) := rep_fV (fun _ h => sub_bd h) _ _ _
theorem rep_mulV (x y : Nat) (w : World) : rep (mulO x y) (mulV w x y) := rep_fV (fun _ h => mul_bd h) _ _ _
theorem rep_divV (x y : Nat) (w : World) : rep (divO x y) (divV w x y) := rep_fV (fun _ h => div_bd h) _ _ _
theorem rep_fmaV (x y z : Nat) (w : World) : rep (fmaO x y z) (fmaV w x y z) := by
  unfold fmaV fmaQ; split
  · exact rep_fV (fun _ h => fma_bd h) _ _ _
  · split <;> exact rep_fV (fun _ h => fma_bd h) _ _ _

/-- Operations on answers. -/
def addA (a b : Option Nat) : Option Nat := a.bind fun x => b.bind fun y => addO x y
def subA (a b : Option Nat) : Option Nat := a.bind fun x => b.bind fun y => subO x y
def mulA (a b : Option Nat) : Option Nat := a.bind fun x => b.bind fun y => mulO x y
theorem add_nan {x y : Nat} (h : nan x = true ∨ nan y = true) : addO x y = none := by
  unfold addO Ieee.Format.add
  rcases h with h | h
  · rw [read_nan x h]; cases Ieee.double.read y <;> rfl
  · rw [read_nan y h]; cases Ieee.double.read x <;> rfl
theorem sub_nan {x y : Nat} (h : nan x = true ∨ nan y = true) : subO x y = none := by
  unfold subO Ieee.Format.sub
  rcases h with h | h
  · rw [read_nan x h]; cases Ieee.double.read y <;> rfl
  · rw [read_nan y h]; cases Ieee.double.read x <;> rfl
theorem mul_nan {x y : Nat} (h : nan x = true ∨ nan y = true) : mulO x y = none := by
  unfold mulO Ieee.Format.mul
  rcases h with h | h
  · rw [read_nan x h]; cases Ieee.double.read y <;> rfl
  · rw [read_nan y h]; cases Ieee.double.read x <;> rfl
theorem addA_of {a b : Option Nat} {x y : Nat} (ha : rep a x) (hb : rep b y) : addA a b = addO x y := by
  obtain ⟨_, rfl⟩ := ha
  obtain ⟨_, rfl⟩ := hb
  unfold addA
  cases hx : nan x
  · cases hy : nan y
    · rw [ans_num hx, ans_num hy]; rfl
    · rw [add_nan (Or.inr hy), ans_num hx, ans_nan hy]; rfl
  · rw [add_nan (Or.inl hx), ans_nan hx]; rfl
theorem subA_of {a b : Option Nat} {x y : Nat} (ha : rep a x) (hb : rep b y) : subA a b = subO x y := by
  obtain ⟨_, rfl⟩ := ha
  obtain ⟨_, rfl⟩ := hb
  unfold subA
  cases hx : nan x
  · cases hy : nan y
    · rw [ans_num hx, ans_num hy]; rfl
    · rw [sub_nan (Or.inr hy), ans_num hx, ans_nan hy]; rfl
  · rw [sub_nan (Or.inl hx), ans_nan hx]; rfl
theorem mulA_of {a b : Option Nat} {x y : Nat} (ha : rep a x) (hb : rep b y) : mulA a b = mulO x y := by
  obtain ⟨_, rfl⟩ := ha
  obtain ⟨_, rfl⟩ := hb
  unfold mulA
  cases hx : nan x
  · cases hy : nan y
    · rw [ans_num hx, ans_num hy]; rfl
    · rw [mul_nan (Or.inr hy), ans_num hx, ans_nan hy]; rfl
  · rw [mul_nan (Or.inl hx), ans_nan hx]; rfl
theorem rep_add {a b : Option Nat} {x y : Nat} (ha : rep a x) (hb : rep b y) (w : World) : rep (addA a b) (addV w x y) := by rw [addA_of ha hb]; exact rep_addV _ _ _
theorem rep_sub {a b : Option Nat} {x y : Nat} (ha : rep a x) (hb : rep b y) (w : World) : rep (subA a b) (subV w x y) := by rw [subA_of ha hb]; exact rep_subV _ _ _
theorem rep_mul {a b : Option Nat} {x y : Nat} (ha : rep a x) (hb : rep b y) (w : World) : rep (mulA a b) (mulV w x y) := by rw [mulA_of ha hb]; exact rep_mulV _ _ _

/-- What TwoSum tells. -/
def tsS (a b : Option Nat) : Option Nat := addA a b
def tsE (a b : Option Nat) : Option Nat :=
  addA (subA a (subA (tsS a b) (subA (tsS a b) a))) (subA b (subA (tsS a b) a))

end Go.Proofs.Ytmhplaanpbpndaa

namespace Go.Proofs.Ytmhplaanpbpndaa
open Fl

def divA (a b : Option Nat) : Option Nat := a.bind fun x => b.bind fun y => divO x y
theorem div_nan {x y : Nat} (h : nan x = true ∨ nan y = true) : divO x y = none := by
  unfold divO Ieee.Format.div
  rcases h with h | h
  · rw [read_nan x h]; cases Ieee.double.read y <;> rfl
  · rw [read_nan y h]; cases Ieee.double.read x <;> rfl
theorem divA_of {a b : Option Nat} {x y : Nat} (ha : rep a x) (hb : rep b y) : divA a b = divO x y := by
  obtain ⟨_, rfl⟩ := ha
  obtain ⟨_, rfl⟩ := hb
  unfold divA
  cases hx : nan x
  · cases hy : nan y
    · rw [ans_num hx, ans_num hy]; rfl
    · rw [div_nan (Or.inr hy), ans_num hx, ans_nan hy]; rfl
  · rw [div_nan (Or.inl hx), ans_nan hx]; rfl
theorem rep_div {a b : Option Nat} {x y : Nat} (ha : rep a x) (hb : rep b y) (w : World) : rep (divA a b) (divV w x y) := by rw [divA_of ha hb]; exact rep_divV _ _ _

/-- The root. -/
def sqrtO (x : Nat) : Option Nat := Ieee.double.sqrt x
def sqrtV (w : World) (x : Nat) : Nat := fV (.nanBits .f64 x x) w (sqrtO x)
def sqrtA (a : Option Nat) : Option Nat := a.bind sqrtO
theorem root_not_nan (n : Nat) (a d : Ieee.Datum) (h : a.root n = some d) : d.isNaN = false := by
  cases a with
  | nan s f => cases h
  | infinity s =>
    cases s
    · cases h; rfl
    · cases h
  | number s m i =>
    change (if m = 0 then some (Ieee.Datum.number s m i) else if s = true then none else some (Ieee.Datum.number false _ _)) = some d at h
    by_cases h0 : m = 0
    · rw [if_pos h0] at h; cases h; rfl
    · rw [if_neg h0] at h
      cases s
      · rw [if_neg (by decide)] at h; cases h; rfl
      · rw [if_pos rfl] at h; cases h
theorem sqrt_bd {x r : Nat} (h : sqrtO x = some r) : r < 18446744073709551616 ∧ nan r = false := ⟨Ieee.double.sqrt_lt h, map_not_nan (root_not_nan _ _) h⟩
theorem sqrt_nan {x : Nat} (h : nan x = true) : sqrtO x = none := by
  unfold sqrtO Ieee.Format.sqrt; rw [read_nan x h]; rfl
theorem rep_sqrtV (x : Nat) (w : World) : rep (sqrtO x) (sqrtV w x) := rep_fV (fun _ h => sqrt_bd h) _ _ _
theorem sqrtA_of {a : Option Nat} {x : Nat} (ha : rep a x) : sqrtA a = sqrtO x := by
  obtain ⟨_, rfl⟩ := ha
  unfold sqrtA
  cases hx : nan x
  · rw [ans_num hx]; rfl
  · rw [sqrt_nan hx, ans_nan hx]; rfl
theorem rep_sqrt {a : Option Nat} {x : Nat} (ha : rep a x) (w : World) : rep (sqrtA a) (sqrtV w x) := by rw [sqrtA_of ha]; exact rep_sqrtV _ _
theorem run_fsqrt {P : Program} (x : Nat) (w : World) : (Extern.MathSqrt.sqrt #[.float .f64 x]).run P w = .ok (.float .f64 (sqrtV w x)) (w.drewN (fN (sqrtO x))) := by
  unfold sqrtV sqrtO fV fN
  cases h : Ieee.double.sqrt x with
  | some r =>
    change Sem.run P (match Ieee.double.sqrt x with
      | some r => pure (Value.float .f64 r)
      | none => do pure (Value.float .f64 (← choose (.nanBits .f64 x x)))) w = _
    rw [h]; rfl
  | none =>
    change Sem.run P (match Ieee.double.sqrt x with
      | some r => pure (Value.float .f64 r)
      | none => do pure (Value.float .f64 (← choose (.nanBits .f64 x x)))) w = _
    rw [h]
    simp only [Sem.run_bind, Sem.run_pure, Result.andThen_ok, run_choose_nan]

/-- The sign turned; the size. -/
def ngW (x : Nat) : Nat := if x < 9223372036854775808 then x + 9223372036854775808 else x - 9223372036854775808
def negA (a : Option Nat) : Option Nat := a.map ngW
def sizA (a : Option Nat) : Option Nat := a.map mg
theorem mg_mg (x : Nat) : mg (mg x) = mg x := Nat.mod_mod _ _
theorem mg_bd (x : Nat) : mg x < 9223372036854775808 := Nat.mod_lt _ (by omega)
theorem mg_ngW {x : Nat} (h : x < 18446744073709551616) : mg (ngW x) = mg x := by unfold ngW mg; split <;> omega
theorem ng_ngW {x : Nat} (h : x < 18446744073709551616) : ng (ngW x) = !ng x := by
  unfold ngW ng; split
  · have h1 : (x + 9223372036854775808) / 9223372036854775808 % 2 = 1 := by omega
    have h2 : x / 9223372036854775808 % 2 = 0 := by omega
    rw [h1, h2]; rfl
  · have h1 : (x - 9223372036854775808) / 9223372036854775808 % 2 = 0 := by omega
    have h2 : x / 9223372036854775808 % 2 = 1 := by omega
    rw [h1, h2]; rfl
theorem ngW_lt {x : Nat} (h : x < 18446744073709551616) : ngW x < 18446744073709551616 := by unfold ngW; split <;> omega
theorem ngW_ngW {x : Nat} (h : x < 18446744073709551616) : ngW (ngW x) = x := by unfold ngW; split <;> split <;> omega
theorem nan_ngW {x : Nat} (h : x < 18446744073709551616) : nan (ngW x) = nan x := by unfold nan; rw [mg_ngW h]
theorem nan_mg (x : Nat) : nan (mg x) = nan x := by unfold nan; rw [mg_mg]
theorem rep_ng {a : Option Nat} {x : Nat} (ha : rep a x) : rep (negA a) (ngW x) := by
  obtain ⟨h, rfl⟩ := ha
  refine ⟨ngW_lt h, ?_⟩
  unfold negA ans; rw [nan_ngW h]; cases nan x <;> rfl
theorem rep_sz {a : Option Nat} {x : Nat} (ha : rep a x) : rep (sizA a) (mg x) := by
  obtain ⟨h, rfl⟩ := ha
  refine ⟨by have := mg_bd x; omega, ?_⟩
  unfold sizA ans; rw [nan_mg x]; cases nan x <;> rfl
theorem xor_sign (x : Nat) (hx : x < 18446744073709551616) : bits BinOp.xor IntKind.u64 (x : Int) 9223372036854775808 = ((ngW x : Nat) : Int) := by
  have h := u64_xor_nat x 9223372036854775808 hx (by omega)
  have e : x ^^^ 9223372036854775808 = ngW x := by
    unfold ngW
    split
    · exact neg_of_pos ‹_›
    · exact neg_of_neg (by omega) hx
  rw [e] at h; exact h

/-- Two answers held against each other. -/
def ordA (a b : Option Nat) : Option Ordering := a.bind fun x => b.bind fun y => Ieee.double.order x y
theorem ordA_of {a b : Option Nat} {x y : Nat} (ha : rep a x) (hb : rep b y) : FloatKind.f64.format.order x y = ordA a b := by
  obtain ⟨_, rfl⟩ := ha
  obtain ⟨_, rfl⟩ := hb
  unfold ordA
  rw [f64_double]
  cases hx : nan x
  · cases hy : nan y
    · rw [ans_num hx, ans_num hy]; rfl
    · rw [ans_num hx, ans_nan hy, order_eq, hy, Bool.or_true]; rfl
  · rw [ans_nan hx, order_eq, hx, Bool.true_or]; rfl

/-- Are two words the same: their bits, or both NaN? -/
theorem same_of {a : Option Nat} {x y : Nat} (hx : rep a x) (hy : rep a y) : nan x = nan y ∧ (nan x = false → x = y) := by
  obtain ⟨_, hx⟩ := hx
  obtain ⟨_, hy⟩ := hy
  cases a with
  | none => rw [ans_none hx, ans_none hy]; exact ⟨rfl, fun h => by cases h⟩
  | some r =>
    obtain ⟨h1, rfl⟩ := ans_some hx
    obtain ⟨h2, rfl⟩ := ans_some hy
    exact ⟨rfl, fun _ => rfl⟩

end Go.Proofs.Ytmhplaanpbpndaa

namespace Go.Proofs.Ytmhplaanpbpndaa
open Fl

@[go_sem] theorem run_bits (x : Nat) (w : World) : (callFunc 67 #[.float .f64 x]).run Try.prog w = .ok (.value (.int .u64 (x : Int))) w := by
  rw [run_callFunc_extern Try.func67 (by kernel_rfl) (by kernel_rfl) (by kernel_rfl) (e := Extern.MathFloatBits.float64bits) (by kernel_rfl)]
  rfl
@[go_sem] theorem run_frombits (x : Int) (w : World) : (callFunc 7 #[.int .u64 x]).run Try.prog w = .ok (.value (.float .f64 x.toNat)) w := by
  rw [run_callFunc_extern Try.func7 (by kernel_rfl) (by kernel_rfl) (by kernel_rfl) (e := Extern.MathFloatBits.float64frombits) (by kernel_rfl)]
  rfl
@[go_sem] theorem run_negFloat (b : Nat) (w : World) : (Op.unary UnOp.neg (.float .f64 b)).run Try.prog w = .ok (.float .f64 (Op.negFloat .f64 b)) w := rfl
def smB (a b : Nat) : Bool := if nan a || nan b then nan a && nan b else a == b
theorem smB_of {a : Option Nat} {x y : Nat} (hx : rep a x) (hy : rep a y) : smB x y = true := by
  obtain ⟨h1, h2⟩ := same_of hx hy
  unfold smB
  rw [← h1]
  cases hn : nan x
  · rw [h2 hn]; simp
  · simp
theorem smB_self (x : Nat) : smB x x = true := by unfold smB; cases nan x <;> simp
theorem smB_comm (x y : Nat) : smB x y = smB y x := by
  unfold smB
  cases hx : nan x <;> cases hy : nan y <;> simp
  exact Bool.eq_iff_iff.2 ⟨fun h => by simp at *; exact h.symm, fun h => by simp at *; exact h.symm⟩
def eqB (x y : Nat) : Bool := FloatKind.f64.format.order x y == some .eq
def finB (x : Nat) : Bool := decide (mg x < 9218868437227405312)
def infB (x : Nat) : Bool := decide (mg x = 9218868437227405312)
def zeB (x : Nat) : Bool := decide (mg x = 0)
theorem retf {a b : Nat} (h : a = b) : Ending.returned (.float .f64 a) = .returned (.float .f64 b) := by rw [h]
theorem retb {a b : Bool} (h : a = b) : Ending.returned (.bool a) = .returned (.bool b) := by rw [h]

theorem andNot_sign (x : Nat) (hx : x < 18446744073709551616) : bits BinOp.andNot IntKind.u64 (x : Int) 9223372036854775808 = ((mg x : Nat) : Int) := by
  have h := u64_andNot_nat x 9223372036854775808 hx (by omega)
  have h2 := Nat.and_two_pow_sub_one_eq_mod x 63
  rw [show (2 : Nat) ^ 63 - 1 = 18446744073709551615 - 9223372036854775808 from rfl, show (2 : Nat) ^ 63 = 9223372036854775808 from rfl] at h2
  rw [h2] at h; exact h
theorem and_power (x : Nat) (hx : x < 18446744073709551616) : bits BinOp.and IntKind.u64 (x : Int) 9218868437227405312 = ((mg x / 4503599627370496 * 4503599627370496 : Nat) : Int) := by
  have h := u64_and_nat x 9218868437227405312 hx (by omega)
  have e : x &&& 9218868437227405312 = mg x / 4503599627370496 * 4503599627370496 := by
    have h1 : (9218868437227405312 : Nat) = 2047 <<< 52 := by decide
    have h2 : x &&& 9218868437227405312 = ((x >>> 52) &&& 2047) <<< 52 := by
      rw [h1]
      apply Nat.eq_of_testBit_eq
      intro i
      rw [Nat.testBit_and, Nat.testBit_shiftLeft, Nat.testBit_shiftLeft, Nat.testBit_and, Nat.testBit_shiftRight]
      by_cases hi : 52 ≤ i
      · simp only [hi, decide_true, Bool.true_and, show 52 + (i - 52) = i by omega]
      · simp [hi]
    rw [h2, show (2047 : Nat) = 2 ^ 11 - 1 from rfl, Nat.and_two_pow_sub_one_eq_mod, Nat.shiftRight_eq_div_pow, Nat.shiftLeft_eq]
    unfold mg
    omega
  rw [e] at h; exact h

theorem finite_any (x : Nat) (w : World) (hx : x < 18446744073709551616) : Calls Try.prog 73 #[.float .f64 x] w fun e w' => e = .returned (.bool (finB x)) ∧ w' = w := by
  have ha := and_power x hx
  have hm := mg_bd x
  have hk : (((mg x / 4503599627370496 * 4503599627370496 : Nat) : Int) != 9218868437227405312) = finB x := by
    unfold finB
    by_cases h : mg x < 9218868437227405312
    · rw [decide_eq_true h]; exact bne_iff_ne.2 (by omega)
    · rw [decide_eq_false h]; simp; omega
  go_enter Try.func73, Try.ntmps73
  go_wp2
  go_ret
  exact ⟨retb hk, rfl⟩
end Go.Proofs.Ytmhplaanpbpndaa

namespace Go.Proofs.Ytmhplaanpbpndaa.Fl

/-- n over two to the d, to the nearest, ties to even -/
def rne (n d : Nat) : Nat := n / 2 ^ d + (if 2 ^ d < 2 * (n % 2 ^ d) ∨ (2 ^ d = 2 * (n % 2 ^ d) ∧ n / 2 ^ d % 2 = 1) then 1 else 0)
def dig (n : Nat) : Nat := n.log2 - 52
def rn (n : Nat) : Nat := rne n (dig n) * 2 ^ dig n
def rnI (v : Int) : Int := if v < 0 then -(rn v.natAbs : Int) else rn v.natAbs
def Rp (v : Int) : Prop := ∃ m e : Nat, v.natAbs = m * 2 ^ e ∧ m < 9007199254740992
def RpN (n : Nat) : Prop := ∃ m e : Nat, n = m * 2 ^ e ∧ m < 9007199254740992

theorem rne_near (n d : Nat) : 2 * rne n d * 2 ^ d ≤ 2 * n + 2 ^ d ∧ 2 * n ≤ 2 * rne n d * 2 ^ d + 2 ^ d := by
  have h := Nat.div_add_mod n (2 ^ d)
  have hlt : n % 2 ^ d < 2 ^ d := Nat.mod_lt _ (Nat.two_pow_pos _)
  unfold rne
  generalize n / 2 ^ d = q at *
  generalize n % 2 ^ d = r at *
  generalize 2 ^ d = p at *
  split
  · have e : 2 * (q + 1) * p = 2 * (p * q) + 2 * p := by rw [Nat.mul_assoc, Nat.add_mul, Nat.mul_comm q p, Nat.mul_add]; omega
    rw [e]; omega
  · have e : 2 * (q + 0) * p = 2 * (p * q) := by rw [Nat.add_zero, Nat.mul_assoc, Nat.mul_comm q p]
    rw [e]; omega
theorem rne_exact (n d : Nat) (h : 2 ^ d ∣ n) : rne n d * 2 ^ d = n := by
  have h0 : n % 2 ^ d = 0 := Nat.mod_eq_zero_of_dvd h
  have hp : 0 < 2 ^ d := Nat.two_pow_pos _
  unfold rne; rw [h0, if_neg (by omega), Nat.add_zero]
  exact Nat.div_mul_cancel h
theorem log2_bd {n : Nat} (h : 0 < n) : 2 ^ n.log2 ≤ n ∧ n < 2 ^ (n.log2 + 1) := ⟨Nat.log2_self_le (by omega), Nat.lt_log2_self⟩
theorem dig_zero {n : Nat} (h : n < 9007199254740992) : dig n = 0 := by
  unfold dig
  by_cases h0 : n = 0
  · subst h0; simp
  · have h1 := (log2_bd (by omega : 0 < n)).1
    have : n.log2 < 53 := by
      rcases Nat.lt_or_ge n.log2 53 with h2 | h2
      · exact h2
      · have := Nat.pow_le_pow_right (n := 2) (by omega) h2
        have e : (2 : Nat) ^ 53 = 9007199254740992 := by decide
        omega
    omega
theorem dig_pos {n : Nat} (h : 9007199254740992 ≤ n) : 0 < dig n ∧ 4503599627370496 * 2 ^ dig n ≤ n ∧ n < 9007199254740992 * 2 ^ dig n := by
  have h1 := log2_bd (by omega : 0 < n)
  have hk : 53 ≤ n.log2 := by
    rcases Nat.lt_or_ge n.log2 53 with h2 | h2
    · have := Nat.pow_le_pow_right (n := 2) (by omega) (by omega : n.log2 + 1 ≤ 53)
      have e : (2 : Nat) ^ 53 = 9007199254740992 := by decide
      omega
    · exact h2
  have e1 : (2 : Nat) ^ n.log2 = 4503599627370496 * 2 ^ dig n := by
    rw [show (4503599627370496 : Nat) = 2 ^ 52 by decide, ← Nat.pow_add]; unfold dig; congr 1; omega
  have e2 : (2 : Nat) ^ (n.log2 + 1) = 9007199254740992 * 2 ^ dig n := by rw [Nat.pow_succ, e1]; omega
  unfold dig at *
  omega
theorem rn_small {n : Nat} (h : n < 9007199254740992) : rn n = n := by
  unfold rn; rw [dig_zero h]; exact rne_exact n 0 (by simp)
theorem rn_half {n : Nat} : 2 * rn n ≤ 2 * n + 2 ^ dig n ∧ 2 * n ≤ 2 * rn n + 2 ^ dig n := by
  have := rne_near n (dig n); unfold rn; rw [← Nat.mul_assoc]; exact this
theorem rne_bd {n : Nat} (h : 9007199254740992 ≤ n) : 4503599627370496 ≤ rne n (dig n) ∧ rne n (dig n) ≤ 9007199254740992 := by
  obtain ⟨h0, h1, h2⟩ := dig_pos h
  have hq1 : 4503599627370496 ≤ n / 2 ^ dig n := (Nat.le_div_iff_mul_le (Nat.two_pow_pos _)).2 h1
  have hq2 : n / 2 ^ dig n < 9007199254740992 := (Nat.div_lt_iff_lt_mul (Nat.two_pow_pos _)).2 h2
  unfold rne; split <;> omega
theorem rn_rep (n : Nat) : RpN (rn n) := by
  by_cases h : n < 9007199254740992
  · rw [rn_small h]; exact ⟨n, 0, by simp, h⟩
  · have hb := rne_bd (by omega : 9007199254740992 ≤ n)
    unfold rn
    rcases Nat.lt_or_ge (rne n (dig n)) 9007199254740992 with h1 | h1
    · exact ⟨_, _, rfl, h1⟩
    · have : rne n (dig n) = 9007199254740992 := by omega
      rw [this]
      exact ⟨4503599627370496, dig n + 1, by rw [Nat.pow_succ]; omega, by omega⟩
theorem rep_dvd {f d : Nat} (h : RpN f) (hf : 4503599627370496 * 2 ^ d ≤ f) : 2 ^ d ∣ f := by
  obtain ⟨m, e, rfl, hm⟩ := h
  rcases Nat.lt_or_ge e d with h1 | h1
  · exfalso
    have h2 : 2 ^ (e + 1) ≤ 2 ^ d := Nat.pow_le_pow_right (by omega) h1
    have h3 : m * 2 ^ e < 9007199254740992 * 2 ^ e := (Nat.mul_lt_mul_right (Nat.two_pow_pos _)).2 hm
    rw [Nat.pow_succ] at h2
    have h4 : 4503599627370496 * (2 ^ e * 2) ≤ 4503599627370496 * 2 ^ d := Nat.mul_le_mul_left _ h2
    omega
  · exact Nat.dvd_trans (Nat.pow_dvd_pow 2 h1) (Nat.dvd_mul_left _ _)
/-- rounding goes to the nearest -/
theorem rn_near (n f : Nat) (hf : RpN f) : (f ≤ n → f ≤ rn n ∧ 2 * n ≤ rn n + n + (n - f) ∧ rn n ≤ n + (n - f)) ∧ (n ≤ f → rn n ≤ f ∧ n ≤ rn n + (f - n)) := by
  by_cases h : n < 9007199254740992
  · rw [rn_small h]; constructor <;> intro _ <;> omega
  · have hn : 9007199254740992 ≤ n := by omega
    obtain ⟨h0, h1, h2⟩ := dig_pos hn
    obtain ⟨n1, n2⟩ := @rn_half n
    -- multiples of 2^dig: the nearest one
    have key : ∀ g, 2 ^ dig n ∣ g → (g ≤ n → g ≤ rn n ∧ rn n ≤ n + (n - g)) ∧ (n ≤ g → rn n ≤ g ∧ n ≤ rn n + (g - n)) := by
      intro g hg
      have hr : 2 ^ dig n ∣ rn n := by unfold rn; exact Nat.dvd_mul_left _ _
      obtain ⟨i, rfl⟩ := hg
      obtain ⟨j, hj⟩ := hr
      rw [hj] at n1 n2 ⊢
      have hp : 0 < 2 ^ dig n := Nat.two_pow_pos _
      generalize 2 ^ dig n = p at *
      constructor
      · intro hi
        have hij : i ≤ j := by
          rcases Nat.lt_or_ge j i with h | h
          · have := Nat.mul_le_mul_left p h
            rw [Nat.mul_succ] at this
            -- then 2n ≤ 2 p j + p and p i ≤ n with i ≥ j+1: p j + p ≤ n, so 2 p j + 2p ≤ 2 n ≤ 2 p j + p
            omega
          · exact h
        have := Nat.mul_le_mul_left p hij
        rcases Nat.eq_or_lt_of_le hij with h | h
        · subst h; omega
        · have := Nat.mul_le_mul_left p h
          rw [Nat.mul_succ] at this
          omega
      · intro hi
        have hij : j ≤ i := by
          rcases Nat.lt_or_ge i j with h | h
          · have := Nat.mul_le_mul_left p h
            rw [Nat.mul_succ] at this
            omega
          · exact h
        have := Nat.mul_le_mul_left p hij
        rcases Nat.eq_or_lt_of_le hij with h | h
        · subst h; omega
        · have := Nat.mul_le_mul_left p h
          rw [Nat.mul_succ] at this
          omega
    have low := key (4503599627370496 * 2 ^ dig n) (Nat.dvd_mul_left _ _)
    have high := key (9007199254740992 * 2 ^ dig n) (Nat.dvd_mul_left _ _)
    rcases Nat.lt_or_ge f (4503599627370496 * 2 ^ dig n) with h3 | h3
    · have := low.1 h1; constructor <;> intro _ <;> omega
    · rcases Nat.lt_or_ge f (9007199254740992 * 2 ^ dig n) with h4 | h4
      · have := key f (rep_dvd hf h3); constructor <;> intro hh
        · have := this.1 hh; omega
        · have := this.2 hh; omega
      · have := high.2 (by omega); constructor <;> intro _ <;> omega
theorem rn_exact {n : Nat} (h : RpN n) : rn n = n := by
  have := rn_near n n h; have h1 := this.1 (Nat.le_refl _); have h2 := this.2 (Nat.le_refl _); omega
theorem rn_dvd {n g : Nat} (h : 2 ^ g ∣ n) : 2 ^ g ∣ rn n := by
  rcases Nat.lt_or_ge (dig n) g with h1 | h1
  · have : rn n = n := rne_exact n (dig n) (Nat.dvd_trans (Nat.pow_dvd_pow 2 (by omega)) h)
    rw [this]; exact h
  · unfold rn; exact Nat.dvd_trans (Nat.pow_dvd_pow 2 h1) (Nat.dvd_mul_left _ _)
theorem rn_rel (n : Nat) : 9007199254740992 * (rn n) ≤ 9007199254740992 * n + n ∧ 9007199254740992 * n ≤ 9007199254740992 * rn n + n := by
  by_cases h : n < 9007199254740992
  · rw [rn_small h]; omega
  · obtain ⟨h0, h1, h2⟩ := dig_pos (by omega : 9007199254740992 ≤ n)
    obtain ⟨n1, n2⟩ := @rn_half n
    omega

theorem Rp.nat {v : Int} (h : Rp v) : RpN v.natAbs := h
theorem rp_zero : RpN 0 := ⟨0, 0, by simp, by omega⟩
theorem Rp.neg {v : Int} (h : Rp v) : Rp (-v) := by obtain ⟨m, e, h1, h2⟩ := h; exact ⟨m, e, by rw [Int.natAbs_neg]; exact h1, h2⟩
theorem rnI_neg (v : Int) : rnI (-v) = -rnI v := by
  unfold rnI; rw [Int.natAbs_neg]
  rcases Int.lt_trichotomy v 0 with h | h | h
  · rw [if_neg (by omega), if_pos h]; omega
  · subst h; simp; have : rn 0 = 0 := rn_small (by omega); rw [this]; rfl
  · rw [if_pos (by omega), if_neg (by omega)]
theorem rnI_rep (v : Int) : Rp (rnI v) := by
  have h := rn_rep v.natAbs
  obtain ⟨m, e, h1, h2⟩ := h
  refine ⟨m, e, ?_, h2⟩
  unfold rnI; split <;> omega
theorem rnI_near (v f : Int) (hf : Rp f) : (v - rnI v).natAbs ≤ (v - f).natAbs ∧ (f ≤ v → f ≤ rnI v) ∧ (v ≤ f → rnI v ≤ f) := by
  have h0 := rn_near v.natAbs 0 rp_zero
  have h1 := rn_near v.natAbs f.natAbs hf.nat
  have h0' := h0.1 (Nat.zero_le _)
  unfold rnI
  by_cases hv : v < 0
  · rw [if_pos hv]
    by_cases hs : f < 0
    · rcases Nat.le_total f.natAbs v.natAbs with hh | hh
      · have := h1.1 hh; omega
      · have := h1.2 hh; omega
    · omega
  · rw [if_neg hv]
    by_cases hs : f < 0
    · omega
    · rcases Nat.le_total f.natAbs v.natAbs with hh | hh
      · have := h1.1 hh; omega
      · have := h1.2 hh; omega
theorem rnI_exact {v : Int} (h : Rp v) : rnI v = v := by have := rnI_near v v h; omega
theorem rnI_rel (v : Int) : 9007199254740992 * (v - rnI v).natAbs ≤ v.natAbs := by
  have h := rn_rel v.natAbs
  unfold rnI; split <;> omega
/-- a multiple of two to the g, no greater than 53 digits of it: representable -/
theorem rp_of {v c : Int} {m g : Nat} (hc : c.natAbs = m * 2 ^ g) (hm : m < 9007199254740992) (hd : (2 ^ g : Nat) ∣ v.natAbs) (hv : v.natAbs ≤ c.natAbs) : Rp v := by
  obtain ⟨k, hk⟩ := hd
  refine ⟨k, g, by rw [hk, Nat.mul_comm], ?_⟩
  have : k * 2 ^ g ≤ m * 2 ^ g := by rw [← hc, Nat.mul_comm k, ← hk]; exact hv
  have := Nat.le_of_mul_le_mul_right this (Nat.two_pow_pos g)
  omega
theorem dvd_natAbs_add {a b : Int} {p : Nat} (ha : p ∣ a.natAbs) (hb : p ∣ b.natAbs) : p ∣ (a + b).natAbs := by
  rw [← Int.ofNat_dvd_left] at ha hb ⊢; exact Int.dvd_add ha hb
theorem dvd_natAbs_sub {a b : Int} {p : Nat} (ha : p ∣ a.natAbs) (hb : p ∣ b.natAbs) : p ∣ (a - b).natAbs := by
  rw [← Int.ofNat_dvd_left] at ha hb ⊢; exact Int.dvd_sub ha hb
/-- two representable numbers have a common grain, which one of them fills -/
theorem grain {a b : Int} (ha : Rp a) (hb : Rp b) : ∃ g : Nat, 2 ^ g ∣ a.natAbs ∧ 2 ^ g ∣ b.natAbs ∧ ((∃ m, a.natAbs = m * 2 ^ g ∧ m < 9007199254740992) ∨ (∃ m, b.natAbs = m * 2 ^ g ∧ m < 9007199254740992)) := by
  obtain ⟨m, e, h1, h2⟩ := ha
  obtain ⟨n, f, h3, h4⟩ := hb
  rcases Nat.le_total e f with h | h
  · exact ⟨e, by rw [h1]; exact Nat.dvd_mul_left _ _, by rw [h3]; exact Nat.dvd_trans (Nat.pow_dvd_pow 2 h) (Nat.dvd_mul_left _ _), .inl ⟨m, h1, h2⟩⟩
  · exact ⟨f, by rw [h1]; exact Nat.dvd_trans (Nat.pow_dvd_pow 2 h) (Nat.dvd_mul_left _ _), by rw [h3]; exact Nat.dvd_mul_left _ _, .inr ⟨n, h3, h4⟩⟩
theorem rnI_dvd {v : Int} {g : Nat} (h : 2 ^ g ∣ v.natAbs) : 2 ^ g ∣ (rnI v).natAbs := by
  have := rn_dvd h
  have e : (rnI v).natAbs = rn v.natAbs := by unfold rnI; split <;> omega
  rw [e]; exact this
/-- a difference no greater than either of both -/
theorem sterb {x y : Int} (hx : Rp x) (hy : Rp y) (h1 : (x - y).natAbs ≤ x.natAbs) (h2 : (x - y).natAbs ≤ y.natAbs) : Rp (x - y) := by
  obtain ⟨g, d1, d2, ⟨m, h3, h4⟩ | ⟨m, h3, h4⟩⟩ := grain hx hy
  · exact rp_of h3 h4 (dvd_natAbs_sub d1 d2) h1
  · exact rp_of h3 h4 (dvd_natAbs_sub d1 d2) h2
/-- the error of a sum is representable -/
theorem err_rep {a b : Int} (ha : Rp a) (hb : Rp b) : Rp (a + b - rnI (a + b)) := by
  have n1 := (rnI_near (a + b) a ha).1
  have n2 := (rnI_near (a + b) b hb).1
  obtain ⟨g, d1, d2, ⟨m, h3, h4⟩ | ⟨m, h3, h4⟩⟩ := grain ha hb
  · exact rp_of h3 h4 (dvd_natAbs_sub (dvd_natAbs_add d1 d2) (rnI_dvd (dvd_natAbs_add d1 d2))) (by omega)
  · exact rp_of h3 h4 (dvd_natAbs_sub (dvd_natAbs_add d1 d2) (rnI_dvd (dvd_natAbs_add d1 d2))) (by omega)
theorem rp_double {a : Int} (h : Rp a) : Rp (2 * a) := by
  obtain ⟨m, e, h1, h2⟩ := h
  exact ⟨m, e + 1, by rw [Int.natAbs_mul, h1, Nat.pow_succ, Nat.mul_comm (2 ^ e) 2, ← Nat.mul_assoc, ← Nat.mul_assoc, Nat.mul_comm m 2]; rfl, h2⟩
theorem rp_half {a : Int} (h : Rp a) (hl : 9007199254740992 ≤ a.natAbs) : ∃ c, a = 2 * c ∧ Rp c := by
  obtain ⟨m, e, h1, h2⟩ := h
  cases e with
  | zero => rw [Nat.pow_zero, Nat.mul_one] at h1; omega
  | succ e =>
    have h3 : a.natAbs = 2 * (m * 2 ^ e) := by rw [h1, Nat.pow_succ, ← Nat.mul_assoc, Nat.mul_comm]
    generalize hk : m * 2 ^ e = k at h3
    rcases Int.lt_or_le a 0 with h | h
    · exact ⟨-(k : Int), by omega, m, e, by rw [hk]; omega, h2⟩
    · exact ⟨(k : Int), by omega, m, e, by rw [hk]; omega, h2⟩
theorem small_exact {v : Int} (h : v.natAbs < 9007199254740992) : rnI v = v := rnI_exact ⟨v.natAbs, 0, by simp, h⟩
/-- what a sum is more than its greater part is representable -/
theorem fast {a b : Int} (ha : Rp a) (hb : Rp b) (h : b.natAbs ≤ a.natAbs) : Rp (rnI (a + b) - a) := by
  by_cases hs : (a + b).natAbs ≤ b.natAbs
  · have e : a + b = a - (-b) := by omega
    have := sterb ha hb.neg (by omega) (by omega)
    rw [← e] at this
    rw [rnI_exact this]
    have e2 : a + b - a = b := by omega
    rw [e2]; exact hb
  · by_cases hex : rnI (a + b) = a + b
    · rw [hex]
      have e2 : a + b - a = b := by omega
      rw [e2]; exact hb
    · have hl : 9007199254740992 ≤ (a + b).natAbs := by
        rcases Nat.lt_or_ge (a + b).natAbs 9007199254740992 with h3 | h3
        · exact absurd (small_exact h3) hex
        · exact h3
      have n1 := rnI_near (a + b) a ha
      have n2 := rnI_near (a + b) (2 * a) (rp_double ha)
      by_cases hsame : (0 ≤ a ∧ 0 ≤ b) ∨ (a ≤ 0 ∧ b ≤ 0)
      · refine sterb (rnI_rep _) ha ?_ ?_ <;> omega
      · have hal : 9007199254740992 ≤ a.natAbs := by omega
        obtain ⟨c, hc, hcr⟩ := rp_half ha hal
        have n3 := rnI_near (a + b) c hcr
        refine sterb (rnI_rep _) ha ?_ ?_ <;> omega
/-- THE SUM WITH ITS ERROR -/
theorem two_sum {a b : Int} (ha : Rp a) (hb : Rp b) :
    rnI (rnI (a - rnI (rnI (a + b) - rnI (rnI (a + b) - a))) + rnI (b - rnI (rnI (a + b) - a))) = a + b - rnI (a + b) := by
  have hE := err_rep ha hb
  generalize hs : rnI (a + b) = s at *
  have hsr : Rp s := by rw [← hs]; exact rnI_rep _
  by_cases h : b.natAbs ≤ a.natAbs
  · have hf := fast ha hb h
    rw [hs] at hf
    rw [rnI_exact hf]
    have e1 : s - (s - a) = a := by omega
    rw [e1, rnI_exact ha]
    have e2 : a - a = 0 := by omega
    have e3 : b - (s - a) = a + b - s := by omega
    rw [e2, e3, rnI_exact hE, small_exact (v := 0) (by decide)]
    have e4 : 0 + (a + b - s) = a + b - s := by omega
    rw [e4, rnI_exact hE]
  · by_cases hx : s.natAbs < a.natAbs
    · have n1 := rnI_near (a + b) a ha
      have n2 := rnI_near (a + b) (-a) ha.neg
      rw [hs] at n1 n2
      have hab : (a + b).natAbs ≤ a.natAbs := by omega
      have e : a + b = a - (-b) := by omega
      have hr := sterb ha hb.neg (by omega) (by omega)
      rw [← e] at hr
      have hsx : s = a + b := by rw [← hs]; exact rnI_exact hr
      have e1 : s - a = b := by omega
      rw [e1, rnI_exact hb]
      have e2 : s - b = a := by omega
      rw [e2, rnI_exact ha]
      have e3 : a - a = 0 := by omega
      have e4 : b - b = 0 := by omega
      rw [e3, e4, small_exact (v := 0) (by decide)]
      have e5 : a + b - s = 0 := by omega
      rw [e5]; exact small_exact (by decide)
    · have hfa := fast hsr ha.neg (by rw [Int.natAbs_neg]; omega)
      have ee := err_rep hsr ha.neg
      have e0 : s + -a = s - a := by omega
      rw [e0] at hfa ee
      have nt := (rnI_near (s - a) b hb).1
      have rel := rnI_rel (a + b)
      rw [hs] at rel
      generalize ht : rnI (s - a) = t at *
      have htr : Rp t := by rw [← ht]; exact rnI_rep _
      have h1 : Rp (s - t) := by have := hfa.neg; have e : -(t - s) = s - t := by omega
                                 rw [e] at this; exact this
      rw [rnI_exact h1]
      have e1 : a - (s - t) = -(s - a - t) := by omega
      rw [e1, rnI_exact ee.neg]
      have h2 : Rp (b - t) := sterb hb htr (by omega) (by omega)
      rw [rnI_exact h2]
      have e2 : -(s - a - t) + (b - t) = a + b - s := by omega
      rw [e2, rnI_exact hE]

end Go.Proofs.Ytmhplaanpbpndaa.Fl

namespace Go.Proofs.Ytmhplaanpbpndaa.Fl

theorem log2_mul (m p : Nat) (h : 0 < m) : (m * 2 ^ p).log2 = m.log2 + p := by
  have h1 := log2_bd h
  have hp : 0 < 2 ^ p := Nat.two_pow_pos _
  refine (Nat.log2_eq_iff (Nat.mul_ne_zero (by omega) (by omega))).2 ⟨?_, ?_⟩
  · rw [Nat.pow_add]; exact Nat.mul_le_mul_right _ h1.1
  · rw [show m.log2 + p + 1 = (m.log2 + 1) + p by omega, Nat.pow_add]; exact (Nat.mul_lt_mul_right hp).2 h1.2
theorem more_if (p r q : Nat) : (decide (p < 2 * r) || (p == 2 * r && q % 2 == 1)).toNat = if p < 2 * r ∨ (p = 2 * r ∧ q % 2 = 1) then 1 else 0 := by
  by_cases h1 : p < 2 * r
  · simp [h1]
  · by_cases h2 : p = 2 * r
    · by_cases h3 : q % 2 = 1
      · simp [h2, h3]
      · have h4 : (q % 2 == 1) = false := by simpa using h3
        rw [h4]; simp [h3, h1]
    · have h4 : (p == 2 * r) = false := by simpa using h2
      rw [h4]; simp [h2, h1]
theorem sz_le {a b : Nat} (h : a ≤ b) : sz a ≤ sz b := by
  rcases Nat.eq_or_lt_of_le h with h1 | h1
  · rw [h1]; exact Nat.le_refl _
  · exact Nat.le_of_lt (sz_mono h1)
theorem cut_rne (s : Bool) (n d : Nat) : Ieee.Toward.even.cut s n d = rne n d := by
  have key : Ieee.Toward.even.cut s n d = rne n (min d (n.log2 + 2)) := by
    unfold Ieee.Toward.cut rne
    simp only [Nat.shiftLeft_eq, Nat.one_mul]
    congr 1
    generalize 2 ^ min d (n.log2 + 2) = p
    exact more_if p (n % p) (n / p)
  rw [key]
  rcases Nat.le_total d (n.log2 + 2) with h | h
  · rw [Nat.min_eq_left h]
  · rw [Nat.min_eq_right h]
    have z : ∀ e, n.log2 + 2 ≤ e → rne n e = 0 := by
      intro e he
      have h1 : n < 2 ^ (n.log2 + 1) := Nat.lt_log2_self
      have h2 : 2 ^ (n.log2 + 1 + 1) ≤ 2 ^ e := Nat.pow_le_pow_right (by omega) he
      rw [Nat.pow_succ] at h2
      unfold rne
      rw [Nat.div_eq_of_lt (by omega), Nat.mod_eq_of_lt (by omega), if_neg (by omega)]
    rw [z _ (Nat.le_refl _), z _ h]
theorem rne_scale (m p d : Nat) (h : p ≤ d) : rne (m * 2 ^ p) d = rne m (d - p) := by
  have hd : 2 ^ d = 2 ^ (d - p) * 2 ^ p := by rw [← Nat.pow_add]; congr 1; omega
  have hp : 0 < 2 ^ p := Nat.two_pow_pos _
  have h1 : m * 2 ^ p / 2 ^ d = m / 2 ^ (d - p) := by rw [hd]; exact Nat.mul_div_mul_right _ _ hp
  have h2 : m * 2 ^ p % 2 ^ d = m % 2 ^ (d - p) * 2 ^ p := by rw [hd]; exact Nat.mul_mod_mul_right _ _ _
  unfold rne
  rw [h1, h2]
  congr 1
  have e1 : (2 ^ d < 2 * (m % 2 ^ (d - p) * 2 ^ p)) ↔ (2 ^ (d - p) < 2 * (m % 2 ^ (d - p))) := by
    rw [hd, ← Nat.mul_assoc]; exact Nat.mul_lt_mul_right hp
  have e2 : (2 ^ d = 2 * (m % 2 ^ (d - p) * 2 ^ p)) ↔ (2 ^ (d - p) = 2 * (m % 2 ^ (d - p))) := by
    rw [hd, ← Nat.mul_assoc]; exact ⟨fun h => Nat.eq_of_mul_eq_mul_right hp h, fun h => congrArg (· * 2 ^ p) h⟩
  simp only [e1, e2]
/-- the place in the row of words of a rounded whole number -/
def rung (n : Nat) : Nat := dig n * 4503599627370496 + rne n (dig n)
theorem nearest_eq (s : Bool) (m p : Nat) : Ieee.double.nearest s m (-1074 + (p : Int)) = Ieee.double.word s (min (rung (m * 2 ^ p)) 9218868437227405312) := by
  by_cases h0 : m = 0
  · subst h0
    have e : rung (0 * 2 ^ p) = 0 := by rw [Nat.zero_mul]; decide
    unfold Ieee.Format.nearest; rw [if_pos rfl, e]; rfl
  · have hm : 0 < m := by omega
    unfold Ieee.Format.nearest
    rw [if_neg h0]
    simp only [d_least, d_bin, d_inf, cut_rne, Nat.shiftLeft_eq]
    have hf : (Ieee.double.fractionBits : Int) = 52 := rfl
    have hlast : max (-1074 + (p : Int) + (m.log2 : Int) - (Ieee.double.fractionBits : Int)) (-1074) = -1074 + (dig (m * 2 ^ p) : Int) := by
      unfold dig; rw [log2_mul m p hm, hf]; omega
    rw [hlast]
    have e1 : (-1074 + (dig (m * 2 ^ p) : Int) - -1074).toNat = dig (m * 2 ^ p) := by omega
    have e2 : (-1074 + (p : Int) - (-1074 + (dig (m * 2 ^ p) : Int))).toNat = p - dig (m * 2 ^ p) := by omega
    have e3 : (-1074 + (dig (m * 2 ^ p) : Int) - (-1074 + (p : Int))).toNat = dig (m * 2 ^ p) - p := by omega
    rw [e1, e2, e3]
    unfold rung
    generalize hd : dig (m * 2 ^ p) = d
    congr 3
    rcases Nat.le_total p d with h | h
    · rw [Nat.sub_eq_zero_of_le h, Nat.pow_zero, Nat.mul_one, rne_scale m p d h]
    · rw [Nat.sub_eq_zero_of_le h]
      have e4 : m * 2 ^ p = m * 2 ^ (p - d) * 2 ^ d := by rw [Nat.mul_assoc, ← Nat.pow_add]; congr 2; omega
      rw [e4, rne_scale _ d d (Nat.le_refl _), Nat.sub_self]
theorem sz_rung (n : Nat) : sz (rung n) = rn n := by
  unfold rung rn
  by_cases h : n < 9007199254740992
  · rw [dig_zero h]
    have e : rne n 0 = n := by have := rne_exact n 0 (by simp); simpa using this
    rw [e]; unfold sz sig ex
    simp only [Nat.zero_mul, Nat.zero_add, Nat.pow_zero, Nat.mul_one]
    have e2 : n / 4503599627370496 - 1 = 0 := by omega
    rw [e2, Nat.pow_zero, Nat.mul_one]
    split <;> omega
  · have hb := rne_bd (by omega : 9007199254740992 ≤ n)
    have hd := (dig_pos (by omega : 9007199254740992 ≤ n)).1
    generalize dig n = d at *
    generalize rne n d = k at *
    unfold sz sig ex
    rw [if_neg (by omega)]
    rcases Nat.lt_or_ge k 9007199254740992 with h1 | h1
    · have e1 : (d * 4503599627370496 + k) / 4503599627370496 - 1 = d := by omega
      have e2 : (d * 4503599627370496 + k) % 4503599627370496 = k - 4503599627370496 := by omega
      have e3 : 4503599627370496 + (k - 4503599627370496) = k := by omega
      rw [e1, e2, e3]
    · have e1 : (d * 4503599627370496 + k) / 4503599627370496 - 1 = d + 1 := by omega
      have e2 : (d * 4503599627370496 + k) % 4503599627370496 = 0 := by omega
      have e3 : k = 9007199254740992 := by omega
      rw [e1, e2, e3, Nat.pow_succ]; omega
def szI : Nat := sz 9218868437227405312
theorem rung_lt {n : Nat} (h : rn n < szI) : rung n < 9218868437227405312 := by
  rcases Nat.lt_or_ge (rung n) 9218868437227405312 with h1 | h1
  · exact h1
  · exfalso
    rw [← sz_rung] at h
    unfold szI at h
    exact Nat.not_lt.2 (sz_le h1) h
theorem word_ng (s : Bool) {r : Nat} (h : r < 9223372036854775808) : ng (Ieee.double.word s r) = s := by
  unfold Ieee.Format.word ng; rw [d_sw]
  cases s
  · have : r / 9223372036854775808 = 0 := by omega
    simp [this]
  · have : (9223372036854775808 + r) / 9223372036854775808 = 1 := by omega
    simp [this]
theorem word_val (s : Bool) {r : Nat} (h : r < 9223372036854775808) : val (Ieee.double.word s r) = sgn s (sz r) := by
  unfold val; rw [word_ng s h, word_mg s h]
theorem word_lt (s : Bool) {r : Nat} (h : r < 9223372036854775808) : Ieee.double.word s r < 18446744073709551616 := by
  unfold Ieee.Format.word; rw [d_sw]; split <;> omega
/-- writing a finite number -/
theorem nearest_val (s : Bool) (m p : Nat) (h : rn (m * 2 ^ p) < szI) :
    fin (Ieee.double.nearest s m (-1074 + (p : Int))) ∧ val (Ieee.double.nearest s m (-1074 + (p : Int))) = sgn s (rn (m * 2 ^ p)) := by
  have hr := rung_lt h
  rw [nearest_eq, Nat.min_eq_left (by omega)]
  refine ⟨?_, by rw [word_val s (by omega), sz_rung]⟩
  unfold fin; rw [word_mg s (by omega)]; exact hr
theorem sgn_abs (s : Bool) (n : Nat) : (sgn s n).natAbs = n := by unfold sgn; split <;> omega
theorem val_rep (x : Nat) : Rp (val x) := by
  exact ⟨sig (mg x), ex (mg x), sgn_abs _ _, sig_lt _⟩
theorem sgn_rn (v : Int) (s : Bool) (h : v ≠ 0 → s = decide (v < 0)) : sgn s (rn v.natAbs) = rnI v := by
  by_cases hv : v = 0
  · subst hv
    have : rn 0 = 0 := rn_small (by omega)
    unfold rnI sgn; simp [this]
  · rw [h hv]; unfold rnI sgn; by_cases h2 : v < 0 <;> simp [h2]
/-- the sum of two numbers, written -/
theorem sum_write (s t : Bool) (m n p q : Nat) (h : rn (sgn s (m * 2 ^ p) + sgn t (n * 2 ^ q)).natAbs < szI) :
    ∃ r, (((Ieee.Datum.number s m (-1074 + (p : Int))).sum (.number t n (-1074 + (q : Int)))).map Ieee.double.write) = some r ∧ fin r ∧ val r = rnI (sgn s (m * 2 ^ p) + sgn t (n * 2 ^ q)) := by
  unfold Ieee.Datum.sum
  simp only [signed_eq, Option.map_some]
  have e1 : (-1074 + (p : Int) - min (-1074 + (p : Int)) (-1074 + (q : Int))).toNat = p - min p q := by omega
  have e2 : (-1074 + (q : Int) - min (-1074 + (p : Int)) (-1074 + (q : Int))).toNat = q - min p q := by omega
  have e3 : min (-1074 + (p : Int)) (-1074 + (q : Int)) = -1074 + ((min p q : Nat) : Int) := by omega
  rw [e1, e2, e3]
  have e4 : (sgn s (m * 2 ^ (p - min p q)) + sgn t (n * 2 ^ (q - min p q))) * ((2 ^ min p q : Nat) : Int) = sgn s (m * 2 ^ p) + sgn t (n * 2 ^ q) := by
    rw [Int.add_mul, ← sgn_mul, ← sgn_mul, Nat.mul_assoc, Nat.mul_assoc, ← Nat.pow_add, ← Nat.pow_add, Nat.sub_add_cancel (Nat.min_le_left _ _), Nat.sub_add_cancel (Nat.min_le_right _ _)]
  generalize hT : sgn s (m * 2 ^ (p - min p q)) + sgn t (n * 2 ^ (q - min p q)) = T at *
  have hk : 0 < 2 ^ min p q := Nat.two_pow_pos _
  have e5 : (sgn s (m * 2 ^ p) + sgn t (n * 2 ^ q)).natAbs = T.natAbs * 2 ^ min p q := by rw [← e4, Int.natAbs_mul]; rfl
  rw [e5] at h
  generalize hS : (if T = 0 then s && t else decide (T < 0)) = S
  obtain ⟨h1, h2⟩ := nearest_val S T.natAbs (min p q) h
  refine ⟨_, rfl, h1, ?_⟩
  show val (Ieee.double.nearest S T.natAbs (-1074 + ((min p q : Nat) : Int))) = _
  rw [h2, ← e5, sgn_rn]
  intro hne
  rw [← hS, ← e4]
  have hT0 : T ≠ 0 := by intro h; apply hne; rw [← e4, h]; simp
  rw [if_neg hT0]
  congr 1
  have hk' : (0 : Int) < ((2 ^ min p q : Nat) : Int) := by omega
  rw [eq_iff_iff]
  constructor
  · intro h; exact Int.mul_neg_of_neg_of_pos h hk'
  · intro h
    rcases Int.lt_or_le T 0 with h3 | h3
    · exact h3
    · exact absurd (Int.mul_nonneg h3 (Int.le_of_lt hk')) (by omega)
theorem add_fin {x y : Nat} (hx : fin x) (hy : fin y) (h : rn (val x + val y).natAbs < szI) :
    ∃ r, addO x y = some r ∧ fin r ∧ val r = rnI (val x + val y) := by
  unfold addO Ieee.Format.add
  rw [read_fin x hx, read_fin y hy]
  exact sum_write _ _ _ _ _ _ h
theorem sgn_not (s : Bool) (n : Nat) : sgn (!s) n = -sgn s n := by unfold sgn; cases s <;> simp
theorem sub_fin {x y : Nat} (hx : fin x) (hy : fin y) (h : rn (val x - val y).natAbs < szI) :
    ∃ r, subO x y = some r ∧ fin r ∧ val r = rnI (val x - val y) := by
  unfold subO Ieee.Format.sub
  rw [read_fin x hx, read_fin y hy]
  have e : val x - val y = sgn (ng x) (sig (mg x) * 2 ^ ex (mg x)) + sgn (!ng y) (sig (mg y) * 2 ^ ex (mg y)) := by rw [sgn_not]; unfold val sz; omega
  rw [e] at h ⊢
  exact sum_write _ _ _ _ _ _ h

end Go.Proofs.Ytmhplaanpbpndaa.Fl

namespace Go.Proofs.Ytmhplaanpbpndaa.Fl

def HE : Nat := 2096
def HH : Nat := 2 ^ HE
theorem szI_HH : szI = 4 * HH := by
  have e1 : sig 9218868437227405312 = 2 ^ 52 := by decide
  have e2 : ex 9218868437227405312 = HE - 50 := by decide
  have e3 : 52 + (HE - 50) = HE + 2 := by decide
  unfold szI sz HH
  rw [e1, e2, ← Nat.pow_add, e3, Nat.pow_add, Nat.mul_comm]
theorem HH_pos : 0 < HH := Nat.two_pow_pos _
theorem rp_HH (k : Nat) (hk : k < 9007199254740992) (s : Bool) : Rp (sgn s (k * HH)) := ⟨k, HE, by rw [sgn_abs]; rfl, hk⟩
theorem rn_abs (v : Int) : (rnI v).natAbs = rn v.natAbs := by unfold rnI; split <;> omega
/-- no more than k times: so is the rounded one -/
theorem rn_le {v : Int} (k : Nat) (hk : k < 9007199254740992) (h : v.natAbs ≤ k * HH) : (rnI v).natAbs ≤ k * HH := by
  have h1 := rnI_near v (sgn false (k * HH)) (rp_HH k hk false)
  have h2 := rnI_near v (sgn true (k * HH)) (rp_HH k hk true)
  unfold sgn at h1 h2
  simp only [Bool.false_eq_true, if_false, if_true] at h1 h2
  generalize k * HH = b at *
  omega
theorem rn_lt {v : Int} (h : v.natAbs ≤ 3 * HH) : rn v.natAbs < szI := by
  have := rn_le 3 (by omega) h
  rw [rn_abs] at this
  rw [szI_HH]; have := HH_pos; omega
theorem ans_fin {x : Nat} (h : fin x) : ans x = some x := ans_num (fin_not_nan h)
theorem ts_exact {a b : Nat} (ha : fin a) (hb : fin b) (la : (val a).natAbs ≤ HH) (lb : (val b).natAbs ≤ HH) :
    ∃ s e, tsS (ans a) (ans b) = some s ∧ tsE (ans a) (ans b) = some e ∧ fin s ∧ fin e ∧ val s = rnI (val a + val b) ∧ val s + val e = val a + val b := by
  have ra := val_rep a
  have rb := val_rep b
  obtain ⟨s, hs, fs, vs⟩ := add_fin ha hb (rn_lt (by omega))
  have S : tsS (ans a) (ans b) = some s := by rw [ans_fin ha, ans_fin hb]; exact hs
  have ls : (val s).natAbs ≤ 2 * HH := by rw [vs]; exact rn_le 2 (by omega) (by omega)
  have n1 := (rnI_near (val a + val b) (val a) ra).1
  have n2 := (rnI_near (val a + val b) (val b) rb).1
  rw [← vs] at n1 n2
  have b1 : (val s - val a).natAbs ≤ 3 * HH := by clear vs; omega
  obtain ⟨t, ht, ft, vt⟩ := sub_fin fs ha (rn_lt b1)
  have n3 := (rnI_near (val s - val a) (val b) rb).1
  rw [← vt] at n3
  have b2 : (val s - val t).natAbs ≤ 3 * HH := by clear vs vt; omega
  obtain ⟨u, hu, fu, vu⟩ := sub_fin fs ft (rn_lt b2)
  have n4 := (rnI_near (val s - val t) (val a) ra).1
  rw [← vu] at n4
  have b3 : (val a - val u).natAbs ≤ 3 * HH := by clear vs vt vu; omega
  have b4 : (val b - val t).natAbs ≤ 3 * HH := by clear vs vt vu; omega
  have b5 : (val a + val b - val s).natAbs < 4 * HH := by clear vs vt vu; have := HH_pos; omega
  obtain ⟨v, hv, fv, vv⟩ := sub_fin ha fu (rn_lt b3)
  obtain ⟨w, hw, fw, vw⟩ := sub_fin hb ft (rn_lt b4)
  have T := two_sum ra rb
  rw [← vs, ← vt, ← vu, ← vv, ← vw] at T
  have l5 : rn (val v + val w).natAbs < szI := by rw [← rn_abs, T, szI_HH]; exact b5
  obtain ⟨e, he, fe, ve⟩ := add_fin fv fw l5
  have ve2 : val s + val e = val a + val b := by rw [ve, T]; clear vs vt vu vv vw ve T; omega
  refine ⟨s, e, S, ?_, fs, fe, vs, ve2⟩
  unfold tsE
  rw [S, ans_fin ha, ans_fin hb]
  show addA (subA (some a) (subA (some s) (subA (some s) (some a)))) (subA (some b) (subA (some s) (some a))) = some e
  have h1 : subA (some s) (some a) = some t := ht
  have h2 : subA (some s) (some t) = some u := hu
  have h3 : subA (some a) (some u) = some v := hv
  have h4 : subA (some b) (some t) = some w := hw
  rw [h1, h2, h3, h4]; exact he

end Go.Proofs.Ytmhplaanpbpndaa.Fl

namespace Go.Proofs.Ytmhplaanpbpndaa.Fl

theorem neg_bd {b : Nat} (h : b < 18446744073709551616) : Op.negFloat .f64 b < 18446744073709551616 := by
  rcases Nat.lt_or_ge b 9223372036854775808 with h1 | h1
  · rw [neg_of_pos h1]; omega
  · rw [neg_of_neg h1 h]; omega
theorem neg_mg {b : Nat} (h : b < 18446744073709551616) : mg (Op.negFloat .f64 b) = mg b := by
  rcases Nat.lt_or_ge b 9223372036854775808 with h1 | h1
  · rw [neg_of_pos h1]; unfold mg; omega
  · rw [neg_of_neg h1 h]; unfold mg; omega
theorem neg_ng {b : Nat} (h : b < 18446744073709551616) : ng (Op.negFloat .f64 b) = !ng b := by
  rcases Nat.lt_or_ge b 9223372036854775808 with h1 | h1
  · rw [neg_of_pos h1]; unfold ng
    have e1 : (b + 9223372036854775808) / 9223372036854775808 = 1 := by omega
    have e2 : b / 9223372036854775808 = 0 := by omega
    rw [e1, e2]; rfl
  · rw [neg_of_neg h1 h]; unfold ng
    have e1 : (b - 9223372036854775808) / 9223372036854775808 = 0 := by omega
    have e2 : b / 9223372036854775808 = 1 := by omega
    rw [e1, e2]; rfl
theorem neg_fin {b : Nat} (h : b < 18446744073709551616) (hf : fin b) : fin (Op.negFloat .f64 b) := by unfold fin; rw [neg_mg h]; exact hf
theorem neg_val {b : Nat} (h : b < 18446744073709551616) : val (Op.negFloat .f64 b) = -val b := by unfold val; rw [neg_mg h, neg_ng h, sgn_not]
theorem sz_top (d : Nat) : sz ((d + 2) * 4503599627370496) = 4503599627370496 * 2 ^ (d + 1) := by
  unfold sz sig ex
  rw [if_neg (by omega)]
  have e1 : (d + 2) * 4503599627370496 / 4503599627370496 - 1 = d + 1 := by omega
  have e2 : (d + 2) * 4503599627370496 % 4503599627370496 = 0 := by omega
  rw [e1, e2]
/-- far below: the product of two small ones is small -/
theorem nearest_small (s : Bool) (m q : Nat) (hq : 1 ≤ q) (hm : m < 2 ^ 106) : (val (Ieee.double.nearest s m (-1074 - (q : Int)))).natAbs ≤ 2 ^ 105 := by
  by_cases h0 : m = 0
  · subst h0
    have e : Ieee.double.nearest s 0 (-1074 - (q : Int)) = Ieee.double.word s 0 := by unfold Ieee.Format.nearest; rw [if_pos rfl]
    rw [e, word_val s (by omega), sgn_abs, sz_zero]; omega
  · have hlog : m.log2 ≤ 105 := by
      have h1 := (log2_bd (by omega : 0 < m)).1
      rcases Nat.lt_or_ge m.log2 106 with h2 | h2
      · omega
      · have := Nat.pow_le_pow_right (n := 2) (by omega) h2; omega
    have key : ∃ r, Ieee.double.nearest s m (-1074 - (q : Int)) = Ieee.double.word s (min r 9218868437227405312) ∧ sz r ≤ 2 ^ 105 := by
      unfold Ieee.Format.nearest
      rw [if_neg h0]
      simp only [d_least, d_bin, d_inf, cut_rne, Nat.shiftLeft_eq]
      have hf : (Ieee.double.fractionBits : Int) = 52 := rfl
      rw [hf]
      refine ⟨_, rfl, ?_⟩
      have e2 : (-1074 - (q : Int) - max (-1074 - (q : Int) + (m.log2 : Int) - 52) (-1074)).toNat = 0 := by omega
      have e1 : (max (-1074 - (q : Int) + (m.log2 : Int) - 52) (-1074) - -1074).toNat = m.log2 - 52 - q := by omega
      have e3 : (max (-1074 - (q : Int) + (m.log2 : Int) - 52) (-1074) - (-1074 - (q : Int))).toNat = max (m.log2 - 52) q := by omega
      rw [e1, e2, e3, Nat.pow_zero, Nat.mul_one]
      have hk : rne m (max (m.log2 - 52) q) ≤ 9007199254740992 := by
        have h1 : m < 2 ^ (m.log2 + 1) := Nat.lt_log2_self
        have h2 : 2 ^ (m.log2 + 1) ≤ 2 ^ (53 + max (m.log2 - 52) q) := Nat.pow_le_pow_right (by omega) (by omega)
        rw [Nat.pow_add 2 53, show (2 : Nat) ^ 53 = 9007199254740992 by decide] at h2
        have h3 : m / 2 ^ max (m.log2 - 52) q < 9007199254740992 := (Nat.div_lt_iff_lt_mul (Nat.two_pow_pos _)).2 (by omega)
        unfold rne; split <;> omega
      have h4 : sz ((m.log2 - 52 - q) * 4503599627370496 + rne m (max (m.log2 - 52) q)) ≤ sz ((m.log2 - 52 - q + 2) * 4503599627370496) := sz_le (by omega)
      rw [sz_top] at h4
      have h5 : 2 ^ (m.log2 - 52 - q + 1) ≤ 2 ^ 53 := Nat.pow_le_pow_right (by omega) (by omega)
      have h6 : (4503599627370496 : Nat) * 2 ^ 53 = 2 ^ 105 := by decide
      have h7 := Nat.mul_le_mul_left 4503599627370496 h5
      omega
    obtain ⟨r, h1, h2⟩ := key
    rw [h1, word_val s (by omega), sgn_abs]
    exact Nat.le_trans (sz_le (Nat.min_le_left _ _)) h2
theorem sgn_xor (s t : Bool) (m n : Nat) : sgn (s ^^ t) (m * n) = sgn s m * sgn t n := by
  unfold sgn; cases s <;> cases t <;> simp [Int.neg_mul, Int.mul_neg]
theorem fin_nearest {s : Bool} {m p : Nat} (h : fin (Ieee.double.nearest s m (-1074 + (p : Int)))) : rn (m * 2 ^ p) < szI := by
  rw [nearest_eq] at h
  unfold fin at h
  rw [word_mg s (by omega)] at h
  have h1 : rung (m * 2 ^ p) < 9218868437227405312 := by omega
  rw [← sz_rung]; unfold szI; exact sz_mono h1
theorem mul_eq {a b : Nat} (ha : fin a) (hb : fin b) : mulO a b = some (Ieee.double.nearest (ng a ^^ ng b) (sig (mg a) * sig (mg b)) (-1074 + (ex (mg a) : Int) + (-1074 + (ex (mg b) : Int)))) := by
  unfold mulO Ieee.Format.mul; rw [read_fin a ha, read_fin b hb]; rfl
theorem fma_eq {a b c : Nat} (ha : fin a) (hb : fin b) (hc : fin c) : fmaO a b c = (((Ieee.Datum.number (ng a ^^ ng b) (sig (mg a) * sig (mg b)) (-1074 + (ex (mg a) : Int) + (-1074 + (ex (mg b) : Int)))).sum (.number (ng c) (sig (mg c)) (-1074 + (ex (mg c) : Int)))).map Ieee.double.write) := by
  unfold fmaO Ieee.Format.fma; rw [read_fin a ha, read_fin b hb, read_fin c hc]; rfl
theorem sig_zero {r : Nat} (h : sz r = 0) : sig r = 0 := by
  unfold sz at h
  rcases Nat.mul_eq_zero.1 h with h1 | h1
  · exact h1
  · have := Nat.two_pow_pos (ex r); omega
theorem sum_zero (s t : Bool) (i j : Int) : ∃ S k, (Ieee.Datum.number s 0 i).sum (.number t 0 j) = some (.number S 0 k) := by
  have z : ∀ u : Bool, sgn u 0 = 0 := by intro u; unfold sgn; cases u <;> rfl
  unfold Ieee.Datum.sum
  simp only [signed_eq, Nat.zero_mul, z]
  exact ⟨_, _, rfl⟩
theorem val_word_zero (s : Bool) : val (Ieee.double.word s 0) = 0 := by rw [word_val s (by omega), sz_zero]; unfold sgn; simp
theorem fin_word_zero (s : Bool) : fin (Ieee.double.word s 0) := by unfold fin; rw [word_mg s (by omega)]; omega
/-- 1074, kept shut -/
def K74 : Nat := 1074
theorem sgn_dec (S : Bool) (n : Nat) (h : sgn S n ≠ 0) : S = decide (sgn S n < 0) := by
  unfold sgn at *; cases S <;> simp at * <;> omega
theorem tp_exact {a b p : Nat} (ha : fin a) (hb : fin b) (hp : mulO a b = some p) (fp : fin p) (hbig : 2 ^ 106 ≤ (val p).natAbs ∨ val a = 0 ∨ val b = 0) :
    ∃ e, fmaO a b (Op.negFloat .f64 p) = some e ∧ fin e ∧ (val p + val e) * ((2 ^ K74 : Nat) : Int) = val a * val b := by
  have pl := (mul_bd hp).1
  have fn := neg_fin pl fp
  rw [fma_eq ha hb fn]
  rw [mul_eq ha hb] at hp
  have hV : val a * val b = sgn (ng a ^^ ng b) (sig (mg a) * 2 ^ ex (mg a) * (sig (mg b) * 2 ^ ex (mg b))) := by rw [sgn_xor]; rfl
  by_cases hz : val a = 0 ∨ val b = 0
  · have hm : sig (mg a) * sig (mg b) = 0 := by
      rcases hz with h | h
      · have : sz (mg a) = 0 := by have := congrArg Int.natAbs h; unfold val at this; rw [sgn_abs] at this; exact this
        rw [sig_zero this, Nat.zero_mul]
      · have : sz (mg b) = 0 := by have := congrArg Int.natAbs h; unfold val at this; rw [sgn_abs] at this; exact this
        rw [sig_zero this, Nat.mul_zero]
    rw [hm] at hp ⊢
    have hp0 : p = Ieee.double.word (ng a ^^ ng b) 0 := by
      have := Option.some.inj hp
      rw [← this]; unfold Ieee.Format.nearest; rw [if_pos rfl]
    have vp : val p = 0 := by rw [hp0]; exact val_word_zero _
    have vn : val (Op.negFloat .f64 p) = 0 := by rw [neg_val pl, vp]; rfl
    have sn : sig (mg (Op.negFloat .f64 p)) = 0 := by
      have := congrArg Int.natAbs vn; unfold val at this; rw [sgn_abs] at this; exact sig_zero this
    rw [sn]
    obtain ⟨S, k, hk⟩ := sum_zero (ng a ^^ ng b) (ng (Op.negFloat .f64 p)) (-1074 + (ex (mg a) : Int) + (-1074 + (ex (mg b) : Int))) (-1074 + (ex (mg (Op.negFloat .f64 p)) : Int))
    rw [hk]
    have hw : Ieee.double.write (.number S 0 k) = Ieee.double.word S 0 := by show Ieee.double.nearest S 0 k = _; unfold Ieee.Format.nearest; rw [if_pos rfl]
    refine ⟨_, rfl, by rw [hw]; exact fin_word_zero _, ?_⟩
    rw [hw, val_word_zero, vp]
    rcases hz with h | h <;> rw [h] <;> simp
  · have hbig' : 2 ^ 106 ≤ (val p).natAbs := by rcases hbig with h | h; exact h; exact absurd h hz
    have hmm : sig (mg a) * sig (mg b) < 2 ^ 106 := by
      have h1 := sig_lt (mg a); have h2 := sig_lt (mg b)
      have e : (2 : Nat) ^ 106 = 9007199254740992 * 9007199254740992 := by decide
      rw [e]
      exact Nat.mul_lt_mul'' h1 h2
    have hge : 1074 ≤ ex (mg a) + ex (mg b) := by
      rcases Nat.lt_or_ge (ex (mg a) + ex (mg b)) 1074 with h | h
      · exfalso
        have e : (-1074 + (ex (mg a) : Int) + (-1074 + (ex (mg b) : Int))) = -1074 - ((1074 - (ex (mg a) + ex (mg b)) : Nat) : Int) := by omega
        rw [e] at hp
        have hs := nearest_small (ng a ^^ ng b) (sig (mg a) * sig (mg b)) (1074 - (ex (mg a) + ex (mg b))) (by omega) hmm
        rw [Option.some.inj hp] at hs
        have : (2 : Nat) ^ 105 < 2 ^ 106 := by decide
        omega
      · exact h
    obtain ⟨q, hq⟩ : ∃ q, ex (mg a) + ex (mg b) = 1074 + q := ⟨_, (Nat.add_sub_cancel' hge).symm⟩
    have ep : (-1074 + (ex (mg a) : Int) + (-1074 + (ex (mg b) : Int))) = -1074 + (q : Int) := by omega
    rw [ep] at hp ⊢
    have hV2 : val a * val b = sgn (ng a ^^ ng b) (sig (mg a) * sig (mg b) * 2 ^ q) * ((2 ^ K74 : Nat) : Int) := by
      rw [hV, ← sgn_mul]
      refine congrArg (sgn _) ?_
      have e : 2 ^ ex (mg a) * 2 ^ ex (mg b) = 2 ^ q * 2 ^ K74 := by rw [← Nat.pow_add, ← Nat.pow_add, hq, Nat.add_comm]; rfl
      calc sig (mg a) * 2 ^ ex (mg a) * (sig (mg b) * 2 ^ ex (mg b)) = sig (mg a) * sig (mg b) * (2 ^ ex (mg a) * 2 ^ ex (mg b)) := by
            rw [Nat.mul_assoc, Nat.mul_assoc, Nat.mul_left_comm (2 ^ ex (mg a))]
        _ = sig (mg a) * sig (mg b) * 2 ^ q * 2 ^ K74 := by rw [e, Nat.mul_assoc (sig (mg a) * sig (mg b))]
    generalize hM : sig (mg a) * sig (mg b) = M at *
    generalize hS : (ng a ^^ ng b) = S at *
    have hpe := Option.some.inj hp
    have hrn : rn (M * 2 ^ q) < szI := by rw [← hpe] at fp; exact fin_nearest fp
    have hvp := (nearest_val S M q hrn).2
    rw [hpe] at hvp
    have hrI : val p = rnI (sgn S (M * 2 ^ q)) := by
      rw [hvp, ← sgn_rn (sgn S (M * 2 ^ q)) S, sgn_abs]
      exact sgn_dec S _
    have hrel := rnI_rel (sgn S (M * 2 ^ q))
    rw [← hrI, sgn_abs] at hrel
    have hd : 2 ^ q ∣ (sgn S (M * 2 ^ q) - val p).natAbs := by
      refine dvd_natAbs_sub (by rw [sgn_abs]; exact Nat.dvd_mul_left _ _) ?_
      rw [hrI]; exact rnI_dvd (by rw [sgn_abs]; exact Nat.dvd_mul_left _ _)
    have hrp : Rp (sgn S (M * 2 ^ q) - val p) := by
      obtain ⟨k, hk⟩ := hd
      refine ⟨k, q, by rw [hk, Nat.mul_comm], ?_⟩
      rw [hk] at hrel
      have h2 : 2 ^ q * (9007199254740992 * k) ≤ 2 ^ q * M := by rw [Nat.mul_left_comm, Nat.mul_comm (2 ^ q) M]; exact hrel
      have h3 := Nat.le_of_mul_le_mul_left h2 (Nat.two_pow_pos q)
      have e : (2 : Nat) ^ 106 = 9007199254740992 * 9007199254740992 := by decide
      rw [e] at hmm
      omega
    have hsum : sgn S (M * 2 ^ q) + sgn (ng (Op.negFloat .f64 p)) (sig (mg (Op.negFloat .f64 p)) * 2 ^ ex (mg (Op.negFloat .f64 p))) = sgn S (M * 2 ^ q) - val p := by
      have := neg_val pl; unfold val sz at this ⊢; omega
    have hlt : rn (sgn S (M * 2 ^ q) - val p).natAbs < szI := by
      rw [← rn_abs, rnI_exact hrp]
      have hvl : (val p).natAbs < szI := by rw [hvp, sgn_abs]; exact hrn
      have hMa : (sgn S (M * 2 ^ q)).natAbs = M * 2 ^ q := sgn_abs _ _
      generalize sgn S (M * 2 ^ q) = V at *
      clear hrI hV2 hV hvp
      omega
    obtain ⟨e, he, fe, ve⟩ := sum_write S (ng (Op.negFloat .f64 p)) M (sig (mg (Op.negFloat .f64 p))) q (ex (mg (Op.negFloat .f64 p))) (by rw [hsum]; exact hlt)
    refine ⟨e, he, fe, ?_⟩
    rw [hV2, ve, hsum, rnI_exact hrp]
    refine congrArg (· * ((2 ^ K74 : Nat) : Int)) ?_
    omega

end Go.Proofs.Ytmhplaanpbpndaa.Fl

namespace Go.Proofs.Ytmhplaanpbpndaa.Fl

/-- the place of the last digit that is kept -/
def lowD (n : Nat) : Nat := max (n.log2 - 52) 1126
def rung2 (n : Nat) : Nat := (lowD n - 1126) * 4503599627370496 + rne n (lowD n)
theorem nearest2_eq (s : Bool) (m p : Nat) (hm : 0 < m) : Ieee.double.nearest s m (-2200 + (p : Int)) = Ieee.double.word s (min (rung2 (m * 2 ^ p)) 9218868437227405312) := by
  unfold Ieee.Format.nearest
  rw [if_neg (by omega)]
  simp only [d_least, d_bin, d_inf, cut_rne, Nat.shiftLeft_eq]
  have hf : (Ieee.double.fractionBits : Int) = 52 := rfl
  have hlast : max (-2200 + (p : Int) + (m.log2 : Int) - (Ieee.double.fractionBits : Int)) (-1074) = -2200 + (lowD (m * 2 ^ p) : Int) := by
    unfold lowD; rw [log2_mul m p hm, hf]; omega
  rw [hlast]
  have hl : 1126 ≤ lowD (m * 2 ^ p) := Nat.le_max_right _ _
  have e1 : (-2200 + (lowD (m * 2 ^ p) : Int) - -1074).toNat = lowD (m * 2 ^ p) - 1126 := by omega
  have e2 : (-2200 + (p : Int) - (-2200 + (lowD (m * 2 ^ p) : Int))).toNat = p - lowD (m * 2 ^ p) := by omega
  have e3 : (-2200 + (lowD (m * 2 ^ p) : Int) - (-2200 + (p : Int))).toNat = lowD (m * 2 ^ p) - p := by omega
  rw [e1, e2, e3]
  unfold rung2
  generalize lowD (m * 2 ^ p) = d
  have key : rne (m * 2 ^ (p - d)) (d - p) = rne (m * 2 ^ p) d := by
    rcases Nat.le_total p d with h | h
    · rw [Nat.sub_eq_zero_of_le h, Nat.pow_zero, Nat.mul_one, rne_scale m p d h]
    · rw [Nat.sub_eq_zero_of_le h]
      have e4 : m * 2 ^ p = m * 2 ^ (p - d) * 2 ^ d := by rw [Nat.mul_assoc, ← Nat.pow_add]; congr 2; omega
      rw [e4, rne_scale _ d d (Nat.le_refl _), Nat.sub_self]
  rw [key]
/-- 1126, kept shut -/
def K26g : Nat := 1126
/-- a whole number of two to the power -1074 -/
theorem rung2_of (N : Nat) : rung2 (N * 2 ^ K26g) = rung N ∨ N = 0 := by
  rcases Nat.eq_zero_or_pos N with h | h
  · exact .inr h
  · left
    have hl : lowD (N * 2 ^ K26g) = dig N + K26g := by unfold lowD dig; rw [log2_mul N K26g h]; unfold K26g; omega
    unfold rung2 rung
    rw [hl, rne_scale N K26g (dig N + K26g) (by omega), Nat.add_sub_cancel]
    unfold K26g; omega
theorem rne_le {n d : Nat} (h : n < 9007199254740992 * 2 ^ d) : rne n d ≤ 9007199254740992 := by
  have h3 : n / 2 ^ d < 9007199254740992 := (Nat.div_lt_iff_lt_mul (Nat.two_pow_pos _)).2 h
  unfold rne; split <;> omega
theorem low_bd (n : Nat) : n < 9007199254740992 * 2 ^ lowD n := by
  have h1 : n < 2 ^ (n.log2 + 1) := Nat.lt_log2_self
  have h2 : 2 ^ (n.log2 + 1) ≤ 2 ^ (53 + lowD n) := Nat.pow_le_pow_right (by omega) (by unfold lowD; omega)
  rw [Nat.pow_add 2 53, show (2 : Nat) ^ 53 = 9007199254740992 by decide] at h2
  omega
theorem rne_le2 (n : Nat) : rne n (lowD n) ≤ 9007199254740992 := rne_le (low_bd n)
theorem rne_ge2 {n : Nat} (hl : 1126 < lowD n) : 4503599627370496 ≤ rne n (lowD n) := by
  have hk : lowD n = n.log2 - 52 := by unfold lowD at *; omega
  have hn : 0 < n := by
    rcases Nat.eq_zero_or_pos n with h | h
    · subst h; unfold lowD at hl; simp at hl
    · exact h
  have h1 := (log2_bd hn).1
  have h2 : 4503599627370496 * 2 ^ lowD n ≤ n := by
    have e : 2 ^ n.log2 = 4503599627370496 * 2 ^ lowD n := by
      rw [show (4503599627370496 : Nat) = 2 ^ 52 by decide, ← Nat.pow_add]; congr 1; omega
    omega
  have h3 : 4503599627370496 ≤ n / 2 ^ lowD n := (Nat.le_div_iff_mul_le (Nat.two_pow_pos _)).2 h2
  unfold rne; split <;> omega
theorem rne_whole (a d : Nat) : rne (a * 2 ^ d) d = a := by
  have := rne_exact (a * 2 ^ d) d (Nat.dvd_mul_left _ _)
  exact Nat.eq_of_mul_eq_mul_right (Nat.two_pow_pos d) this
/-- a number of 53 digits and its place -/
theorem rung_of {m D : Nat} (h : m ≤ 9007199254740992) (h2 : 4503599627370496 ≤ m ∨ D = 0) : rung (m * 2 ^ D) = D * 4503599627370496 + m := by
  rcases Nat.eq_or_lt_of_le h with h3 | h3
  · subst h3
    have e : 9007199254740992 * 2 ^ D = 4503599627370496 * 2 ^ (D + 1) := by rw [Nat.pow_succ]; omega
    have hd : dig (9007199254740992 * 2 ^ D) = D + 1 := by
      unfold dig; rw [log2_mul _ D (by omega), show (9007199254740992 : Nat).log2 = 53 by decide]; omega
    unfold rung
    rw [hd, e, rne_whole]; omega
  · rcases h2 with h2 | h2
    · have hlog : m.log2 = 52 := (Nat.log2_eq_iff (by omega)).2 ⟨by rw [show (2 : Nat) ^ 52 = 4503599627370496 by decide]; exact h2, by rw [show (2 : Nat) ^ (52 + 1) = 9007199254740992 by decide]; exact h3⟩
      have hd : dig (m * 2 ^ D) = D := by unfold dig; rw [log2_mul _ D (by omega), hlog]; omega
      unfold rung
      rw [hd, rne_whole]
    · subst h2
      unfold rung
      rw [Nat.pow_zero, Nat.mul_one, dig_zero h3]
      have := rne_whole m 0
      rw [Nat.pow_zero, Nat.mul_one] at this
      rw [this]
theorem rung2_parts (n : Nat) : rung2 n = rung (rne n (lowD n) * 2 ^ (lowD n - 1126)) := by
  rw [rung_of (rne_le2 n)]
  · rfl
  · rcases Nat.lt_or_ge 1126 (lowD n) with h | h
    · exact .inl (rne_ge2 h)
    · exact .inr (by omega)

end Go.Proofs.Ytmhplaanpbpndaa.Fl

namespace Go.Proofs.Ytmhplaanpbpndaa
open Fl

theorem retc {a b c d : Nat} (h : a = b) (h2 : c = d) : Ending.returned (.complex .f64 a c) = .returned (.complex .f64 b d) := by rw [h, h2]

theorem natCast_beq (a b : Nat) : ((a : Int) == (b : Int)) = (a == b) := by rw [Bool.eq_iff_iff]; simp; omega

section small
variable (a b c d : Nat) (w : World)
theorem apart_any : Calls Try.prog 101 #[.complex .f64 a b] w fun e w' => e = .returned (.tuple #[.float .f64 a, .float .f64 b]) ∧ w' = w := by
  go_enter Try.func101, Try.ntmps101
  go_wp2
  go_ret2
  exact ⟨rfl, rfl⟩
theorem of_any : Calls Try.prog 98 #[.float .f64 a, .float .f64 b] w fun e w' => e = .returned (.complex .f64 a b) ∧ w' = w := by
  go_enter Try.func98, Try.ntmps98
  go_wp2
  go_ret
  exact ⟨rfl, rfl⟩
theorem fin_any (ha : a < 18446744073709551616) (hb : b < 18446744073709551616) : Calls Try.prog 50 #[.complex .f64 a b] w fun e w' => e = .returned (.bool (finB a && finB b)) ∧ w' = w := by
  cases h1 : finB a <;> cases h2 : finB b
  all_goals
    go_enter Try.func50, Try.ntmps50
    go_wp2_with (first | (go_at_call 73; refine (finite_any _ _ (by assumption)).mono ?_; rintro e w' ⟨rfl, rfl⟩))
    go_ret
    exact ⟨rfl, rfl⟩
end small

end Go.Proofs.Ytmhplaanpbpndaa

namespace Go.Proofs.Ytmhplaanpbpndaa
open Fl

/-- Products, quotients. -/
def mulRe (A B C D : Option Nat) : Option Nat := subA (mulA A C) (mulA B D)
def mulIm (A B C D : Option Nat) : Option Nat := addA (mulA A D) (mulA B C)
def geA (C D : Option Nat) : Bool := ordA C D == some .gt || ordA C D == some .eq
def divRe1 (A B C D : Option Nat) : Option Nat := divA (addA A (mulA B (divA D C))) (addA C (mulA D (divA D C)))
def divIm1 (A B C D : Option Nat) : Option Nat := divA (subA B (mulA A (divA D C))) (addA C (mulA D (divA D C)))
def divRe2 (A B C D : Option Nat) : Option Nat := divA (addA (mulA A (divA C D)) B) (addA (mulA C (divA C D)) D)
def divIm2 (A B C D : Option Nat) : Option Nat := divA (subA (mulA B (divA C D)) A) (addA (mulA C (divA C D)) D)
def divRe (A B C D : Option Nat) : Option Nat := if geA (sizA C) (sizA D) then divRe1 A B C D else divRe2 A B C D
def divIm (A B C D : Option Nat) : Option Nat := if geA (sizA C) (sizA D) then divIm1 A B C D else divIm2 A B C D

theorem sub_self_fin {x : Nat} (hf : fin x) (W : World) : FloatKind.f64.format.order (subV W x x) 0 = some .eq := by
  have e0 : val x - val x = 0 := by omega
  obtain ⟨r, hr, fr, vr⟩ := sub_fin hf hf (by rw [e0]; exact rn_lt (by simp))
  have hv : subV W x x = r := by unfold subV fV; rw [hr]
  rw [hv]
  rw [e0, small_exact (by decide)] at vr
  have h1 : sz (mg r) = 0 := by have := congrArg Int.natAbs vr; unfold val at this; rw [sgn_abs] at this; exact this
  have h2 : mg r = 0 := by
    rcases Nat.eq_zero_or_pos (mg r) with h | h
    · exact h
    · have := sz_pos h; omega
  have h3 : plc r = 0 := by unfold plc; rw [h2]; unfold sgn; split <;> rfl
  rw [f64_double, order_eq, fin_not_nan fr, show nan 0 = false from by decide, h3]
  rfl
theorem sub_self_not {x : Nat} (hf : ¬ fin x) (W : World) : FloatKind.f64.format.order (subV W x x) 0 = none := by
  have hn : subO x x = none := by
    rcases kinds x with h | h | h
    · exact absurd h hf
    · unfold subO Ieee.Format.sub; rw [read_inf x h]; cases ng x <;> rfl
    · exact sub_nan (Or.inl h)
  have := (rep_subV x x W).2
  rw [hn] at this
  rw [f64_double, order_eq, ans_none this]; rfl

section one
variable (a b c d : Nat) (w : World)
theorem rfinR_any : Calls Try.prog 58 #[.float .f64 a] w fun e w' => ∃ n, e = .returned (.bool (finB a)) ∧ w' = w.drewN n := by
  by_cases hf : fin a
  · have h1 := sub_self_fin hf
    have h2 : finB a = true := decide_eq_true hf
    go_enter Try.func58, Try.ntmps58
    go_wp2
    go_ret
    exact ⟨_, by rw [h2]; rfl, rfl⟩
  · have h1 := sub_self_not hf
    have h2 : finB a = false := decide_eq_false hf
    go_enter Try.func58, Try.ntmps58
    go_wp2
    go_ret
    exact ⟨_, by rw [h2]; rfl, rfl⟩
theorem rfin_any : Calls Try.prog 84 #[.complex .f64 a b] w fun e w' => ∃ n, e = .returned (.bool (finB a && finB b)) ∧ w' = w.drewN n := by
  cases h1 : finB a <;> cases h2 : finB b
  all_goals
    go_enter Try.func84, Try.ntmps84
    go_wp2_with (first | (go_at_call 58; refine (rfinR_any _ _).mono ?_; rintro e w' ⟨n, rfl, rfl⟩))
    go_ret
    first | exact ⟨_, rfl, rfl⟩ | exact ⟨_, rfl, World.drewN_drewN _ _ _⟩
end one

section two
variable {A B C D X : Option Nat} {a b c d x : Nat} (w : World) (ha : rep A a) (hb : rep B b) (hc : rep C c) (hd : rep D d) (hx : rep X x)
include ha hb
include hc hd
theorem add_any : Calls Try.prog 94 #[.complex .f64 a b, .complex .f64 c d] w fun e w' => ∃ re im n, e = .returned (.complex .f64 re im) ∧ rep (addA A C) re ∧ rep (addA B D) im ∧ w' = w.drewN n := by
  go_enter Try.func94, Try.ntmps94
  go_wp2_with (first | (go_at_call 101; refine (apart_any _ _ _).mono ?_; rintro e w' ⟨rfl, rfl⟩))
  go_ret
  exact ⟨_, _, _, rfl, rep_add ha hc _, rep_add hb hd _, rfl⟩
theorem radd_any : Calls Try.prog 83 #[.complex .f64 a b, .complex .f64 c d] w fun e w' => ∃ re im n, e = .returned (.complex .f64 re im) ∧ rep (addA A C) re ∧ rep (addA B D) im ∧ w' = w.drewN n := by
  go_enter Try.func83, Try.ntmps83
  go_wp2_with (first | (go_at_call 98; refine (of_any _ _ _).mono ?_; rintro e w' ⟨rfl, rfl⟩))
  go_ret
  exact ⟨_, _, _, rfl, rep_add ha hc _, rep_add hb hd _, rfl⟩
theorem sub_any : Calls Try.prog 95 #[.complex .f64 a b, .complex .f64 c d] w fun e w' => ∃ re im n, e = .returned (.complex .f64 re im) ∧ rep (subA A C) re ∧ rep (subA B D) im ∧ w' = w.drewN n := by
  go_enter Try.func95, Try.ntmps95
  go_wp2_with (first | (go_at_call 101; refine (apart_any _ _ _).mono ?_; rintro e w' ⟨rfl, rfl⟩))
  go_ret
  exact ⟨_, _, _, rfl, rep_sub ha hc _, rep_sub hb hd _, rfl⟩
theorem rsub_any : Calls Try.prog 85 #[.complex .f64 a b, .complex .f64 c d] w fun e w' => ∃ re im n, e = .returned (.complex .f64 re im) ∧ rep (subA A C) re ∧ rep (subA B D) im ∧ w' = w.drewN n := by
  go_enter Try.func85, Try.ntmps85
  go_wp2_with (first | (go_at_call 98; refine (of_any _ _ _).mono ?_; rintro e w' ⟨rfl, rfl⟩))
  go_ret
  exact ⟨_, _, _, rfl, rep_sub ha hc _, rep_sub hb hd _, rfl⟩
end two

end Go.Proofs.Ytmhplaanpbpndaa

namespace Go.Proofs.Ytmhplaanpbpndaa
open Fl

section two
variable {A B C D X : Option Nat} {a b c d x : Nat} (w : World) (ha : rep A a) (hb : rep B b) (hc : rep C c) (hd : rep D d) (hx : rep X x)
include ha hb hc hd
end two

end Go.Proofs.Ytmhplaanpbpndaa

namespace Go.Proofs.Ytmhplaanpbpndaa
open Fl

theorem nearest_word (m : Nat) (p : Int) : ∃ r, r ≤ 9218868437227405312 ∧ ∀ s, Ieee.double.nearest s m p = Ieee.double.word s r := by
  by_cases h : m = 0
  · exact ⟨0, by omega, fun s => by unfold Ieee.Format.nearest; rw [if_pos h]⟩
  · refine ⟨min ((max (p + (m.log2 : Int) - (Ieee.double.fractionBits : Int)) Ieee.double.leastPlace - Ieee.double.leastPlace).toNat * Ieee.double.binade + Ieee.Toward.even.cut false (m <<< (p - max (p + (m.log2 : Int) - (Ieee.double.fractionBits : Int)) Ieee.double.leastPlace).toNat) (max (p + (m.log2 : Int) - (Ieee.double.fractionBits : Int)) Ieee.double.leastPlace - p).toNat) Ieee.double.infRung, ?_, fun s => by unfold Ieee.Format.nearest; rw [if_neg h]; rfl⟩
    exact Nat.min_le_right _ _
theorem word_not (s : Bool) {r : Nat} (h : r < 9223372036854775808) : Ieee.double.word (!s) r = ngW (Ieee.double.word s r) := by
  unfold Ieee.Format.word ngW; rw [d_sw]
  cases s
  · simp only [Bool.not_false, if_true, Bool.false_eq_true, if_false]; rw [if_pos h]; omega
  · simp only [Bool.not_true, if_true, Bool.false_eq_true, if_false]; rw [if_neg (by omega)]; omega
theorem write_opp {d : Ieee.Datum} (h : d.isNaN = false) : Ieee.double.write d.opposite = ngW (Ieee.double.write d) := by
  cases d with
  | number s m p =>
    obtain ⟨r, hr, e⟩ := nearest_word m p
    show Ieee.double.nearest (!s) m p = ngW (Ieee.double.nearest s m p)
    rw [e, e, word_not s (by omega)]
  | infinity s => exact word_not s (by rw [d_inf]; omega)
  | nan s f => cases h
theorem ng_write {d : Ieee.Datum} (h : d.isNaN = false) : ng (Ieee.double.write d) = d.neg := by
  cases d with
  | number s m p =>
    obtain ⟨r, hr, e⟩ := nearest_word m p
    show ng (Ieee.double.nearest s m p) = s
    rw [e, word_ng s (by omega)]
  | infinity s => exact word_ng s (by rw [d_inf]; omega)
  | nan s f => cases h
theorem read_ngW {x : Nat} (h : x < 18446744073709551616) : Ieee.double.read (ngW x) = (Ieee.double.read x).opposite := by
  have h1 := mg_ngW h
  have h2 := ng_ngW h
  rcases kinds x with hx | hx | hx
  · have hf : fin (ngW x) := by unfold fin; rw [h1]; exact hx
    rw [read_fin _ hf, read_fin _ hx, h1, h2]; rfl
  · rw [read_inf _ (h1.trans hx), read_inf _ hx, h2]; rfl
  · rw [read_nan _ ((nan_ngW h).trans hx), read_nan _ hx, h1, h2]; rfl

theorem xor_not (s t : Bool) : ((!s) ^^ t) = !(s ^^ t) := by cases s <;> cases t <;> rfl
theorem xor_not' (s t : Bool) : (s ^^ !t) = !(s ^^ t) := by cases s <;> cases t <;> rfl
theorem product_opp (a b : Ieee.Datum) : a.opposite.product b = (a.product b).map Ieee.Datum.opposite := by
  cases a <;> cases b <;> simp [Ieee.Datum.opposite, Ieee.Datum.product]
  all_goals split <;> rfl
theorem product_opp' (a b : Ieee.Datum) : a.product b.opposite = (a.product b).map Ieee.Datum.opposite := by
  cases a <;> cases b <;> simp [Ieee.Datum.opposite, Ieee.Datum.product]
  all_goals split <;> rfl
theorem product_comm (a b : Ieee.Datum) : a.product b = b.product a := by
  cases a <;> cases b <;> simp [Ieee.Datum.product, Bool.xor_comm, Nat.mul_comm, Int.add_comm]
theorem sum_comm (a b : Ieee.Datum) : a.sum b = b.sum a := by
  cases a <;> cases b <;> simp only [Ieee.Datum.sum]
  · rw [Int.min_comm, Int.add_comm, Bool.and_comm]
  · rename_i s t
    cases s <;> cases t <;> rfl
theorem quotient_opp (n : Nat) (a b : Ieee.Datum) : a.opposite.quotient n b = (a.quotient n b).map Ieee.Datum.opposite := by
  cases a <;> cases b <;> simp only [Ieee.Datum.opposite, Ieee.Datum.quotient, xor_not] <;> try rfl
  split
  · split <;> rfl
  · rfl
theorem quotient_opp' (n : Nat) (a b : Ieee.Datum) : a.quotient n b.opposite = (a.quotient n b).map Ieee.Datum.opposite := by
  cases a <;> cases b <;> simp only [Ieee.Datum.opposite, Ieee.Datum.quotient, xor_not'] <;> try rfl
  split
  · split <;> rfl
  · rfl
theorem map_opp {o : Option Ieee.Datum} (h : ∀ d, o = some d → d.isNaN = false) : (o.map Ieee.Datum.opposite).map Ieee.double.write = (o.map Ieee.double.write).map ngW := by
  cases o with
  | none => rfl
  | some d => simp only [Option.map_some]; rw [write_opp (h d rfl)]
theorem mulO_ng {x : Nat} (hx : x < 18446744073709551616) (y : Nat) : mulO (ngW x) y = (mulO x y).map ngW := by
  unfold mulO Ieee.Format.mul; rw [read_ngW hx, product_opp, map_opp (product_not_nan _ _)]
theorem mulO_comm (x y : Nat) : mulO x y = mulO y x := by unfold mulO Ieee.Format.mul; rw [product_comm]
theorem addO_comm (x y : Nat) : addO x y = addO y x := by unfold addO Ieee.Format.add; rw [sum_comm]
theorem subO_add (x : Nat) {y : Nat} (hy : y < 18446744073709551616) : subO x y = addO x (ngW y) := by
  unfold subO addO Ieee.Format.sub Ieee.Format.add; rw [read_ngW hy]
theorem divO_ng {x : Nat} (hx : x < 18446744073709551616) (y : Nat) : divO (ngW x) y = (divO x y).map ngW := by
  unfold divO Ieee.Format.div; rw [read_ngW hx, quotient_opp, map_opp (quotient_not_nan _ _ _)]
theorem divO_ng' (x : Nat) {y : Nat} (hy : y < 18446744073709551616) : divO x (ngW y) = (divO x y).map ngW := by
  unfold divO Ieee.Format.div; rw [read_ngW hy, quotient_opp', map_opp (quotient_not_nan _ _ _)]

/-- Two answers are equal, or noughts both. -/
def eqz (A B : Option Nat) : Prop := A = B ∨ ∃ x y, A = some x ∧ B = some y ∧ mg x = 0 ∧ mg y = 0
theorem eqz.refl (A : Option Nat) : eqz A A := Or.inl rfl
theorem mg_word_zero (s : Bool) : mg (Ieee.double.word s 0) = 0 := word_mg s (by omega)
theorem nearest_zero (s : Bool) (p : Int) : Ieee.double.nearest s 0 p = Ieee.double.word s 0 := by unfold Ieee.Format.nearest; rw [if_pos rfl]
theorem sum_opp (a b : Ieee.Datum) : eqz ((a.opposite.sum b.opposite).map Ieee.double.write) (((a.sum b).map Ieee.double.write).map ngW) := by
  have key : ∀ o : Option Ieee.Datum, (∀ d, o = some d → d.isNaN = false) → a.opposite.sum b.opposite = o.map Ieee.Datum.opposite → o = a.sum b →
      eqz ((a.opposite.sum b.opposite).map Ieee.double.write) (((a.sum b).map Ieee.double.write).map ngW) := by
    intro o hn h1 h2
    left; rw [h1, ← h2, map_opp hn]
  have hk := sum_not_nan a b
  cases a with
  | nan s f => cases b <;> exact key none (fun _ h => by cases h) rfl rfl
  | infinity s =>
    cases b with
    | nan t g => exact key none (fun _ h => by cases h) rfl rfl
    | infinity t => cases s <;> cases t <;> exact key _ hk rfl rfl
    | number t n j => exact key _ hk rfl rfl
  | number s m i =>
    cases b with
    | nan t g => exact key none (fun _ h => by cases h) rfl rfl
    | infinity t => exact key _ hk rfl rfl
    | number t n j =>
      have hs : ∀ (s : Bool) (m up : Nat), Ieee.signed (!s) m up = -Ieee.signed s m up := by
        intro s m up; rw [signed_eq, signed_eq, sgn_not]
      show eqz (some (Ieee.double.write _)) (some (ngW (Ieee.double.write _)))
      simp only [hs]
      generalize Ieee.signed s m (i - min i j).toNat = u
      generalize Ieee.signed t n (j - min i j).toNat = v
      by_cases h0 : u + v = 0
      · right
        have h1 : -u + -v = 0 := by omega
        refine ⟨_, _, rfl, rfl, ?_, ?_⟩
        · rw [if_pos h1, h1]
          show mg (Ieee.double.nearest _ 0 _) = 0
          rw [nearest_zero, mg_word_zero]
        · rw [if_pos h0, h0]
          show mg (ngW (Ieee.double.nearest _ 0 _)) = 0
          rw [nearest_zero, mg_ngW (word_lt _ (by omega)), mg_word_zero]
      · left
        have h1 : ¬ -u + -v = 0 := by omega
        rw [if_neg h1, if_neg h0, ← write_opp rfl]
        have e1 : (-u + -v).natAbs = (u + v).natAbs := by omega
        have e2 : decide (-u + -v < 0) = !decide (u + v < 0) := by
          by_cases h : u + v < 0
          · rw [decide_eq_true h, decide_eq_false (by omega)]; rfl
          · rw [decide_eq_false h, decide_eq_true (by omega)]; rfl
        rw [e1, e2]; rfl
theorem addO_ng {x y : Nat} (hx : x < 18446744073709551616) (hy : y < 18446744073709551616) : eqz (addO (ngW x) (ngW y)) ((addO x y).map ngW) := by
  unfold addO Ieee.Format.add; rw [read_ngW hx, read_ngW hy]; exact sum_opp _ _

/-- An answer's word is a word, and no NaN. -/
def bdA (A : Option Nat) : Prop := ∀ x, A = some x → x < 18446744073709551616 ∧ nan x = false
theorem rep.bd {A : Option Nat} {x : Nat} (h : rep A x) : bdA A := by
  obtain ⟨h1, rfl⟩ := h
  intro y hy
  obtain ⟨h2, rfl⟩ := ans_some hy
  exact ⟨h1, h2⟩
theorem bd_addA (A B : Option Nat) : bdA (addA A B) := by
  intro x h; unfold addA at h
  cases A with
  | none => cases h
  | some a => cases B with
    | none => cases h
    | some b => exact add_bd h
theorem bd_subA (A B : Option Nat) : bdA (subA A B) := by
  intro x h; unfold subA at h
  cases A with
  | none => cases h
  | some a => cases B with
    | none => cases h
    | some b => exact sub_bd h
theorem bd_mulA (A B : Option Nat) : bdA (mulA A B) := by
  intro x h; unfold mulA at h
  cases A with
  | none => cases h
  | some a => cases B with
    | none => cases h
    | some b => exact mul_bd h
theorem bd_divA (A B : Option Nat) : bdA (divA A B) := by
  intro x h; unfold divA at h
  cases A with
  | none => cases h
  | some a => cases B with
    | none => cases h
    | some b => exact div_bd h
theorem bd_sqrtA (A : Option Nat) : bdA (sqrtA A) := by
  intro x h; unfold sqrtA at h
  cases A with
  | none => cases h
  | some a => exact sqrt_bd h
theorem bd_negA {A : Option Nat} (hA : bdA A) : bdA (negA A) := by
  intro x h; unfold negA at h
  cases A with
  | none => cases h
  | some a =>
    obtain ⟨h1, h2⟩ := hA a rfl
    cases h; exact ⟨ngW_lt h1, by rw [nan_ngW h1]; exact h2⟩
theorem bd_sizA {A : Option Nat} (hA : bdA A) : bdA (sizA A) := by
  intro x h; unfold sizA at h
  cases A with
  | none => cases h
  | some a =>
    obtain ⟨h1, h2⟩ := hA a rfl
    cases h; exact ⟨by have := mg_bd a; omega, by rw [nan_mg]; exact h2⟩

theorem mulA_ng {A : Option Nat} (hA : bdA A) (B : Option Nat) : mulA (negA A) B = negA (mulA A B) := by
  cases A with
  | none => rfl
  | some a => cases B with
    | none => rfl
    | some b => exact mulO_ng (hA a rfl).1 b
theorem mulA_comm (A B : Option Nat) : mulA A B = mulA B A := by
  cases A with
  | none => cases B <;> rfl
  | some a => cases B with
    | none => rfl
    | some b => exact mulO_comm a b
theorem addA_comm (A B : Option Nat) : addA A B = addA B A := by
  cases A with
  | none => cases B <;> rfl
  | some a => cases B with
    | none => rfl
    | some b => exact addO_comm a b
theorem mulA_ng' (A : Option Nat) {B : Option Nat} (hB : bdA B) : mulA A (negA B) = negA (mulA A B) := by rw [mulA_comm, mulA_ng hB, mulA_comm]
theorem divA_ng {A : Option Nat} (hA : bdA A) (B : Option Nat) : divA (negA A) B = negA (divA A B) := by
  cases A with
  | none => rfl
  | some a => cases B with
    | none => rfl
    | some b => exact divO_ng (hA a rfl).1 b
theorem divA_ng' (A : Option Nat) {B : Option Nat} (hB : bdA B) : divA A (negA B) = negA (divA A B) := by
  cases A with
  | none => rfl
  | some a => cases B with
    | none => rfl
    | some b => exact divO_ng' a (hB b rfl).1
theorem subA_add (A : Option Nat) {B : Option Nat} (hB : bdA B) : subA A B = addA A (negA B) := by
  cases A with
  | none => rfl
  | some a => cases B with
    | none => rfl
    | some b => exact subO_add a (hB b rfl).1
theorem negA_negA {A : Option Nat} (hA : bdA A) : negA (negA A) = A := by
  cases A with
  | none => rfl
  | some a => show some (ngW (ngW a)) = _; rw [ngW_ngW (hA a rfl).1]
theorem addA_ng {A B : Option Nat} (hA : bdA A) (hB : bdA B) : eqz (addA (negA A) (negA B)) (negA (addA A B)) := by
  cases A with
  | none => exact Or.inl rfl
  | some a => cases B with
    | none => exact Or.inl rfl
    | some b => exact addO_ng (hA a rfl).1 (hB b rfl).1
theorem subA_ng {A B : Option Nat} (hA : bdA A) (hB : bdA B) : eqz (subA (negA A) (negA B)) (negA (subA A B)) := by
  rw [subA_add _ (bd_negA hB), subA_add _ hB]; exact addA_ng hA (bd_negA hB)
theorem sizA_ng {A : Option Nat} (hA : bdA A) : sizA (negA A) = sizA A := by
  cases A with
  | none => rfl
  | some a => show some (mg (ngW a)) = some (mg a); rw [mg_ngW (hA a rfl).1]

theorem eqz.neg {A B : Option Nat} (h : eqz A B) (hA : bdA A) (hB : bdA B) : eqz (negA A) (negA B) := by
  rcases h with rfl | ⟨x, y, rfl, rfl, h1, h2⟩
  · exact Or.inl rfl
  · exact Or.inr ⟨_, _, rfl, rfl, by rw [mg_ngW (hA x rfl).1]; exact h1, by rw [mg_ngW (hB y rfl).1]; exact h2⟩
theorem fin_zero {x : Nat} (h : mg x = 0) : fin x := by unfold fin; omega
theorem read_zero {x : Nat} (h : mg x = 0) : Ieee.double.read x = .number (ng x) 0 (-1074) := by
  rw [read_fin x (fin_zero h), h]; rfl
theorem div_zero_eqz {x y : Nat} (hx : mg x = 0) (hy : mg y = 0) (t : Nat) : eqz (divO x t) (divO y t) := by
  unfold divO Ieee.Format.div
  rw [read_zero hx, read_zero hy]
  cases Ieee.double.read t with
  | nan s f => exact Or.inl rfl
  | infinity s => exact Or.inr ⟨_, _, rfl, rfl, by show mg (Ieee.double.nearest _ 0 _) = 0; rw [nearest_zero, mg_word_zero], by show mg (Ieee.double.nearest _ 0 _) = 0; rw [nearest_zero, mg_word_zero]⟩
  | number s n p =>
    by_cases hn : n = 0
    · left; simp only [Ieee.Datum.quotient, hn, if_true]
    · right
      refine ⟨_, _, by simp only [Ieee.Datum.quotient, hn, if_false]; rfl, by simp only [Ieee.Datum.quotient, hn, if_false]; rfl, ?_, ?_⟩
      · simp only [Nat.zero_shiftLeft, Nat.zero_div, Nat.zero_mod]
        show mg (Ieee.double.nearest _ 0 _) = 0
        rw [nearest_zero, mg_word_zero]
      · simp only [Nat.zero_shiftLeft, Nat.zero_div, Nat.zero_mod]
        show mg (Ieee.double.nearest _ 0 _) = 0
        rw [nearest_zero, mg_word_zero]
theorem eqz.div {A B : Option Nat} (h : eqz A B) (T : Option Nat) : eqz (divA A T) (divA B T) := by
  rcases h with rfl | ⟨x, y, rfl, rfl, h1, h2⟩
  · exact Or.inl rfl
  · cases T with
    | none => exact Or.inl rfl
    | some t => exact div_zero_eqz h1 h2 t
theorem plc_of_zero {x : Nat} (h : mg x = 0) : plc x = 0 := by unfold plc; rw [h]; unfold sgn; split <;> rfl
theorem eqz.order {A B : Option Nat} {x y : Nat} (h : eqz A B) (hx : rep A x) (hy : rep B y) (hn : nan x = false) : FloatKind.f64.format.order x y = some .eq := by
  rw [f64_double, order_eq, hn]
  rcases h with rfl | ⟨u, v, rfl, rfl, h1, h2⟩
  · obtain ⟨e1, e2⟩ := same_of hx hy
    rw [← e2 hn, hn]; simp
  · obtain ⟨_, rfl⟩ := ans_some hx.2
    obtain ⟨hv, rfl⟩ := ans_some hy.2
    rw [hv, plc_of_zero h1, plc_of_zero h2]; rfl

/-- Signs of what comes of words without one. -/
def posA (A : Option Nat) : Prop := ∀ x, A = some x → ng x = false
theorem map_pos {o : Option Ieee.Datum} {r : Nat} (hn : ∀ d, o = some d → d.isNaN = false) (ho : ∀ d, o = some d → d.neg = false) (h : o.map Ieee.double.write = some r) : ng r = false := by
  cases o with
  | none => cases h
  | some d => cases h; rw [ng_write (hn d rfl)]; exact ho d rfl
theorem neg_read (x : Nat) : (Ieee.double.read x).neg = ng x := by
  rcases kinds x with h | h | h
  · rw [read_fin x h]; rfl
  · rw [read_inf x h]; rfl
  · rw [read_nan x h]; rfl
theorem sum_pos {a b d : Ieee.Datum} (ha : a.neg = false) (hb : b.neg = false) (h : a.sum b = some d) : d.neg = false := by
  cases a with
  | nan s f => cases b <;> cases h
  | infinity s =>
    cases b with
    | nan t g => cases h
    | infinity t =>
      change s = false at ha
      change t = false at hb
      subst ha hb; cases h; rfl
    | number t n j => cases h; exact ha
  | number s m i =>
    cases b with
    | nan t g => cases h
    | infinity t => cases h; exact hb
    | number t n j =>
      cases h
      change s = false at ha
      change t = false at hb
      subst ha hb
      have hs : ∀ m up : Nat, 0 ≤ Ieee.signed false m up := fun m up => by rw [signed_eq]; unfold sgn; exact Int.natCast_nonneg _
      have h1 := hs m (i - min i j).toNat
      have h2 := hs n (j - min i j).toNat
      show (if _ then (false && false) else _) = false
      split
      · rfl
      · exact decide_eq_false (by omega)
theorem pos_addO {x y r : Nat} (hx : ng x = false) (hy : ng y = false) (h : addO x y = some r) : ng r = false :=
  map_pos (sum_not_nan _ _) (fun d hd => sum_pos (by rw [neg_read]; exact hx) (by rw [neg_read]; exact hy) hd) h
theorem product_neg {a b d : Ieee.Datum} (h : a.product b = some d) : d.neg = (a.neg ^^ b.neg) := by
  cases a <;> cases b <;> simp [Ieee.Datum.product] at h
  · subst h; rfl
  · rw [← h.2]; exact Bool.xor_comm _ _
  · rw [← h.2]; rfl
  · subst h; rfl
theorem quotient_neg {n : Nat} {a b d : Ieee.Datum} (h : a.quotient n b = some d) : d.neg = (a.neg ^^ b.neg) := by
  cases a <;> cases b <;> simp [Ieee.Datum.quotient] at h
  · split at h
    · split at h
      · cases h
      · cases h; rfl
    · cases h; rfl
  · subst h; rfl
  · subst h; rfl
theorem ng_mulO {x y r : Nat} (h : mulO x y = some r) : ng r = (ng x ^^ ng y) := by
  unfold mulO Ieee.Format.mul at h
  cases hp : (Ieee.double.read x).product (Ieee.double.read y) with
  | none => rw [hp] at h; cases h
  | some d =>
    rw [hp] at h; cases h
    rw [ng_write (product_not_nan _ _ _ hp), product_neg hp, neg_read, neg_read]
theorem ng_divO {x y r : Nat} (h : divO x y = some r) : ng r = (ng x ^^ ng y) := by
  unfold divO Ieee.Format.div at h
  cases hp : (Ieee.double.read x).quotient (Ieee.double.fractionBits + 2) (Ieee.double.read y) with
  | none => rw [hp] at h; cases h
  | some d =>
    rw [hp] at h; cases h
    rw [ng_write (quotient_not_nan _ _ _ _ hp), quotient_neg hp, neg_read, neg_read]
theorem root_neg {n : Nat} {a d : Ieee.Datum} (ha : a.neg = false) (h : a.root n = some d) : d.neg = false := by
  cases a with
  | nan s f => cases h
  | infinity s =>
    cases s
    · cases h; rfl
    · cases h
  | number s m i =>
    change s = false at ha
    subst ha
    change (if m = 0 then some (Ieee.Datum.number false m i) else if false = true then none else some (Ieee.Datum.number false _ _)) = some d at h
    by_cases h0 : m = 0
    · rw [if_pos h0] at h; cases h; rfl
    · rw [if_neg h0, if_neg (by decide)] at h; cases h; rfl
theorem pos_sqrtO {x r : Nat} (hx : ng x = false) (h : sqrtO x = some r) : ng r = false :=
  map_pos (root_not_nan _ _) (fun d hd => root_neg (by rw [neg_read]; exact hx) hd) h
theorem pos_addA {A B : Option Nat} (hA : posA A) (hB : posA B) : posA (addA A B) := by
  intro x h; unfold addA at h
  cases A with
  | none => cases h
  | some a => cases B with
    | none => cases h
    | some b => exact pos_addO (hA a rfl) (hB b rfl) h
theorem pos_mulA {A B : Option Nat} (hA : posA A) (hB : posA B) : posA (mulA A B) := by
  intro x h; unfold mulA at h
  cases A with
  | none => cases h
  | some a => cases B with
    | none => cases h
    | some b => rw [ng_mulO h, hA a rfl, hB b rfl]; rfl
theorem pos_divA {A B : Option Nat} (hA : posA A) (hB : posA B) : posA (divA A B) := by
  intro x h; unfold divA at h
  cases A with
  | none => cases h
  | some a => cases B with
    | none => cases h
    | some b => rw [ng_divO h, hA a rfl, hB b rfl]; rfl
theorem pos_sqrtA {A : Option Nat} (hA : posA A) : posA (sqrtA A) := by
  intro x h; unfold sqrtA at h
  cases A with
  | none => cases h
  | some a => exact pos_sqrtO (hA a rfl) h
theorem pos_sizA (A : Option Nat) : posA (sizA A) := by
  intro x h; unfold sizA at h
  cases A with
  | none => cases h
  | some a =>
    cases h
    have := mg_bd a
    unfold ng
    rw [Nat.div_eq_of_lt this]; rfl
theorem pos_num {x : Nat} (h : ng x = false) : posA (some x) := fun y hy => by cases hy; exact h
theorem posA.neg {A : Option Nat} (hA : bdA A) (h : ∀ x, A = some x → ng x = true) : posA (negA A) := by
  intro x hx; unfold negA at hx
  cases A with
  | none => cases hx
  | some a => cases hx; rw [ng_ngW (hA a rfl).1, h a rfl]; rfl

end Go.Proofs.Ytmhplaanpbpndaa

namespace Go.Proofs.Ytmhplaanpbpndaa
open Fl

def infA (A : Option Nat) : Bool := match A with | some x => infB x | none => false
def zeA (A : Option Nat) : Bool := match A with | some x => zeB x | none => false
def ltA (A B : Option Nat) : Bool := ordA A B == some .lt
def hyp (G L : Option Nat) : Option Nat := mulA G (sqrtA (addA (some 4607182418800017408) (mulA (divA L G) (divA L G))))
def absG (A B : Option Nat) : Option Nat := if ltA (sizA A) (sizA B) then hyp (sizA B) (sizA A) else hyp (sizA A) (sizA B)
def absA (A B : Option Nat) : Option Nat := if infA A || infA B then some 9218868437227405312 else if zeA A && zeA B then some 0 else absG A B

theorem infA_of {A : Option Nat} {x : Nat} (h : rep A x) : infB x = infA A := by
  obtain ⟨_, rfl⟩ := h
  cases hn : nan x
  · rw [ans_num hn]; rfl
  · rw [ans_nan hn]; unfold infB; exact decide_eq_false (fun h => by rw [inf_not_nan h] at hn; cases hn)
theorem zeB_nan {x : Nat} (h : nan x = true) : zeB x = false := by
  unfold zeB; unfold nan at h; simp at h; simp; omega
theorem zeA_of {A : Option Nat} {x : Nat} (h : rep A x) : zeB x = zeA A := by
  obtain ⟨_, rfl⟩ := h
  cases hn : nan x
  · rw [ans_num hn]; rfl
  · rw [ans_nan hn]; exact zeB_nan hn
theorem nan_0 : nan 0 = false := by decide
theorem nan_inf : nan 9218868437227405312 = false := by decide
theorem plc_0 : plc 0 = 0 := by decide
theorem eqB_zero (x : Nat) : eqB x 0 = zeB x := by
  unfold eqB
  cases hn : nan x
  · rw [order_eqb hn nan_0, plc_0]
    unfold zeB plc sgn
    cases ng x <;> simp
  · rw [f64_double, order_eq, hn, zeB_nan hn]; rfl
theorem plc_mg (x : Nat) : plc (mg x) = mg x := by
  have h := mg_bd x
  have h2 : ng (mg x) = false := by unfold ng; rw [Nat.div_eq_of_lt h]; rfl
  unfold plc; rw [h2, mg_mg]; rfl
theorem zeB_mg (x : Nat) : zeB (mg x) = zeB x := by unfold zeB; rw [mg_mg]
theorem infB_mg (x : Nat) : infB (mg x) = infB x := by unfold infB; rw [mg_mg]
theorem eqB_inf (x : Nat) : eqB (mg x) 9218868437227405312 = infB x := by
  unfold eqB
  cases hn : nan x
  · rw [order_eqb (by rw [nan_mg]; exact hn) nan_inf, plc_mg, show plc 9218868437227405312 = 9218868437227405312 from by decide]
    unfold infB
    by_cases h : mg x = 9218868437227405312
    · rw [decide_eq_true h, h]; rfl
    · rw [decide_eq_false h, decide_eq_false (by omega)]
  · rw [f64_double, order_eq, nan_mg, hn]
    unfold infB; exact (decide_eq_false (fun h => by rw [inf_not_nan h] at hn; cases hn)).symm
theorem ordA_swap (A B : Option Nat) : (ordA B A == some .gt) = ltA A B := by
  unfold ltA ordA
  cases A with
  | none => cases B <;> rfl
  | some x =>
    cases B with
    | none => rfl
    | some y =>
      show (Ieee.double.order y x == some .gt) = (Ieee.double.order x y == some .lt)
      rw [order_eq, order_eq, Bool.or_comm]
      split
      · rfl
      · generalize plc x = u
        generalize plc y = v
        simp only [compare, compareOfLessAndEq]
        rcases Int.lt_trichotomy u v with h | h | h
        · have h1 : ¬ v < u := by omega
          have h2 : ¬ v = u := by omega
          simp [h, h1, h2]
        · subst h; simp
        · have h1 : ¬ u < v := by omega
          have h2 : ¬ u = v := by omega
          simp [h, h1, h2]
theorem rep_num {x : Nat} (h : x < 18446744073709551616) (hn : nan x = false) : rep (some x) x := ⟨h, ans_num hn⟩
theorem rep_one : rep (some 4607182418800017408) 4607182418800017408 := rep_num (by decide) (by decide)
theorem rep_two : rep (some 4611686018427387904) 4611686018427387904 := rep_num (by decide) (by decide)
theorem rep_0 : rep (some 0) 0 := rep_num (by decide) (by decide)
theorem rep_inf : rep (some 9218868437227405312) 9218868437227405312 := rep_num (by decide) (by decide)

section two
variable {A B X : Option Nat} {a b x : Nat} (w : World) (ha : rep A a) (hb : rep B b) (hx : rep X x)
include ha hb
end two

end Go.Proofs.Ytmhplaanpbpndaa

namespace Go.Proofs.Ytmhplaanpbpndaa
open Fl

def sgA (A : Option Nat) : Bool := match A with | some x => ng x | none => false
def sqU (A B : Option Nat) : Option Nat := sqrtA (addA (divA (absA A B) (some 4611686018427387904)) (divA A (some 4611686018427387904)))
def sqV (A B : Option Nat) : Option Nat := sqrtA (subA (divA (absA A B) (some 4611686018427387904)) (divA A (some 4611686018427387904)))
def sqRe (A B : Option Nat) : Option Nat :=
  if A.isNone || B.isNone then none else if zeA A && zeA B then some 0
  else if geA A (some 0) then sqU A B else sizA (divA B (mulA (some 4611686018427387904) (sqV A B)))
def sqIm (A B : Option Nat) : Option Nat :=
  if A.isNone || B.isNone then none else if zeA A && zeA B then B
  else if geA A (some 0) then divA B (mulA (some 4611686018427387904) (sqU A B)) else (if sgA B then negA (sqV A B) else sqV A B)

theorem isNone_of {A : Option Nat} {x : Nat} (h : rep A x) : A.isNone = nan x := by
  obtain ⟨_, rfl⟩ := h
  cases hn : nan x
  · rw [ans_num hn]; rfl
  · rw [ans_nan hn]; rfl
theorem pos_hyp (G L : Option Nat) (hG : posA G) (hL : posA L) : posA (hyp G L) := by
  unfold hyp
  exact pos_mulA hG (pos_sqrtA (pos_addA (pos_num (by decide)) (pos_mulA (pos_divA hL hG) (pos_divA hL hG))))
theorem pos_absA (A B : Option Nat) : posA (absA A B) := by
  unfold absA
  split
  · exact pos_num (by decide)
  · split
    · exact pos_num (by decide)
    · unfold absG
      split
      · exact pos_hyp _ _ (pos_sizA _) (pos_sizA _)
      · exact pos_hyp _ _ (pos_sizA _) (pos_sizA _)
/-- A number that is not above or equal to 0, and no NaN, has the sign. -/
theorem ng_of_lt {A : Option Nat} {x : Nat} (h : rep A x) (hn : nan x = false) (hg : geA A (some 0) = false) : ng x = true := by
  obtain ⟨_, rfl⟩ := h
  rw [ans_num hn] at hg
  have e : ordA (some x) (some 0) = Ieee.double.order x 0 := rfl
  unfold geA at hg
  rw [e, ← f64_double, order_gt hn nan_0, order_eqb hn nan_0, plc_0] at hg
  cases hs : ng x
  · have h1 : 0 ≤ plc x := by unfold plc; rw [hs]; unfold sgn; exact Int.natCast_nonneg _
    simp at hg; omega
  · rfl
theorem pos_sqV {A B : Option Nat} {x : Nat} (h : rep A x) (hn : nan x = false) (hg : geA A (some 0) = false) : posA (sqV A B) := by
  unfold sqV
  rw [subA_add _ (bd_divA _ _)]
  refine pos_sqrtA (pos_addA (pos_divA (pos_absA _ _) (pos_num (by decide))) ?_)
  refine posA.neg (bd_divA _ _) ?_
  have hs := ng_of_lt h hn hg
  obtain ⟨_, rfl⟩ := h
  intro y hy
  rw [ans_num hn] at hy
  rw [ng_divO hy, hs]; rfl

/-- A word's size with another word's sign. -/
def csW (v i : Nat) : Nat := if ng i then mg v + 9223372036854775808 else mg v
theorem rep_cs {V : Option Nat} {v : Nat} (h : rep V v) (hp : posA V) (i : Nat) : rep (if ng i then negA V else V) (csW v i) := by
  have h1 := rep_ng h
  have hl := h.1
  cases hV : nan v
  · have hs : ng v = false := by
      obtain ⟨_, rfl⟩ := h
      exact hp v (ans_num hV)
    have hv : mg v = v := by
      unfold ng at hs; unfold mg
      have h3 : ¬ v / 9223372036854775808 % 2 = 1 := by intro hc; rw [hc] at hs; exact absurd hs (by decide)
      omega
    have hlt : v < 9223372036854775808 := by rw [← hv]; exact mg_bd v
    unfold csW; rw [hv]
    cases ng i
    · exact h
    · simp only [if_true]
      have : ngW v = v + 9223372036854775808 := by unfold ngW; rw [if_pos hlt]
      rw [← this]; exact h1
  · have hm := mg_bd v
    have hc : nan (csW v i) = true := by
      unfold csW nan
      unfold nan at hV
      split
      · rw [show mg (mg v + 9223372036854775808) = mg v from by unfold mg; omega]; exact hV
      · rw [mg_mg]; exact hV
    have hcl : csW v i < 18446744073709551616 := by unfold csW; split <;> omega
    have hn : V = none := by rw [← h.2]; exact ans_nan hV
    subst hn
    cases ng i
    · exact ⟨hcl, ans_nan hc⟩
    · exact ⟨hcl, ans_nan hc⟩
theorem and_sign (x : Nat) (hx : x < 18446744073709551616) : bits BinOp.and IntKind.u64 (x : Int) 9223372036854775808 = ((x / 9223372036854775808 % 2 * 9223372036854775808 : Nat) : Int) := by
  have h := u64_and_nat x 9223372036854775808 hx (by omega)
  have h2 := nat_bit 63 x
  rw [show (2 : Nat) ^ 63 = 9223372036854775808 from rfl] at h2
  rw [h2] at h; exact h
section two
variable {A B : Option Nat} {a b : Nat} (w : World) (ha : rep A a) (hb : rep B b)
include ha hb
end two

end Go.Proofs.Ytmhplaanpbpndaa

namespace Go.Proofs.Ytmhplaanpbpndaa
open Fl

section two
variable {A B : Option Nat} {a b : Nat} (w : World) (ha : rep A a) (hb : rep B b)
include ha hb
end two

end Go.Proofs.Ytmhplaanpbpndaa

namespace Go.Proofs.Ytmhplaanpbpndaa
open Fl RowKit

theorem rep_is {o : Option Nat} {x c : Nat} (h : rep o x) (e : o = some c) : x = c := by
  obtain ⟨_, h⟩ := h
  rw [e] at h
  exact (ans_some h).2
theorem drewN_drewN (w : World) (a b : Nat) : (w.drewN a).drewN b = w.drewN (a + b) := by simp
theorem below_drewN {n : Nat} {w w' : World} (h : Below n w w') (k : Nat) : Below n w (w'.drewN k) := by
  obtain ⟨h1, h2, h3, h4, h5⟩ := h
  exact ⟨h1, h2, h3, h4, h5⟩
theorem bt {a b c : World} (h : Below a.heap.size a b) (k : Below b.heap.size b c) : Below a.heap.size a c := h.trans (k.mono h.size)
theorem below_self (w : World) : Below w.heap.size w w := Below.refl _ _
theorem oeq (x : Nat) (h : nan x = false) : FloatKind.f64.format.order x x = some .eq := order_num h

end Go.Proofs.Ytmhplaanpbpndaa

namespace Go.Proofs.Ytmhplaanpbpndaa
open Fl

theorem eqz.order' {A B : Option Nat} {x y : Nat} (h : eqz A B) (hx : rep A x) (hy : rep B y) (hn : nan y = false) : eqB x y = true := by
  have hnx : nan x = false := by
    rcases h with rfl | ⟨u, v, rfl, rfl, h1, h2⟩
    · rw [(same_of hx hy).1]; exact hn
    · exact (ans_some hx.2).1
  unfold eqB; rw [h.order hx hy hnx]; rfl

theorem mulRe_conj {A B C D : Option Nat} (hB : bdA B) (hD : bdA D) : mulRe A (negA B) C (negA D) = mulRe A B C D := by
  unfold mulRe; rw [mulA_ng hB, mulA_ng' _ hD, negA_negA (bd_mulA _ _)]
theorem mulRe_conjz {A B C D : Option Nat} (hB : bdA B) (hD : bdA D) : eqz (mulRe A (negA B) C (negA D)) (mulRe A B C D) := Or.inl (mulRe_conj hB hD)
theorem mulIm_conj {A B C D : Option Nat} (hB : bdA B) (hD : bdA D) : eqz (mulIm A (negA B) C (negA D)) (negA (mulIm A B C D)) := by
  unfold mulIm; rw [mulA_ng hB, mulA_ng' _ hD]; exact addA_ng (bd_mulA _ _) (bd_mulA _ _)
theorem mulRe_comm (A B C D : Option Nat) : mulRe C D A B = mulRe A B C D := by unfold mulRe; rw [mulA_comm C A, mulA_comm D B]
theorem mulIm_comm (A B C D : Option Nat) : mulIm C D A B = mulIm A B C D := by unfold mulIm; rw [mulA_comm C B, mulA_comm D A, addA_comm]
theorem geA_conj {C D : Option Nat} (hD : bdA D) : geA (sizA C) (sizA (negA D)) = geA (sizA C) (sizA D) := by rw [sizA_ng hD]
theorem sum_opp_same {a b : Ieee.Datum} (hs : a.neg = b.neg) (hab : ∀ s t, a = .infinity s → b = .infinity t → s = t) : a.opposite.sum b.opposite = (a.sum b).map Ieee.Datum.opposite := by
  cases a with
  | nan s f => cases b <;> rfl
  | infinity s =>
    cases b with
    | nan t g => rfl
    | infinity t => cases s <;> cases t <;> rfl
    | number t n j => rfl
  | number s m i =>
    cases b with
    | nan t g => rfl
    | infinity t => rfl
    | number t n j =>
      change s = t at hs
      subst hs
      have hk : ∀ (s : Bool) (m up : Nat), Ieee.signed (!s) m up = -Ieee.signed s m up := by
        intro s m up; rw [signed_eq, signed_eq, sgn_not]
      show some (Ieee.Datum.number _ _ _) = some (Ieee.Datum.number _ _ _)
      simp only [hk]
      generalize Ieee.signed s m (i - min i j).toNat = u
      generalize Ieee.signed s n (j - min i j).toNat = v
      congr 2
      · by_cases h0 : u + v = 0
        · rw [if_pos (by omega), if_pos h0]; cases s <;> rfl
        · rw [if_neg (by omega), if_neg h0]
          by_cases h : u + v < 0
          · rw [decide_eq_true h, decide_eq_false (by omega)]; rfl
          · rw [decide_eq_false h, decide_eq_true (by omega)]; rfl
      · omega
theorem addO_ng_same {x y : Nat} (hx : x < 18446744073709551616) (hy : y < 18446744073709551616) (hs : ng x = ng y) : addO (ngW x) (ngW y) = (addO x y).map ngW := by
  unfold addO Ieee.Format.add
  rw [read_ngW hx, read_ngW hy, sum_opp_same (by rw [neg_read, neg_read]; exact hs) ?_, map_opp (sum_not_nan _ _)]
  intro s t h1 h2
  have e1 := neg_read x
  have e2 := neg_read y
  rw [h1] at e1
  rw [h2] at e2
  exact e1.trans (hs.trans e2.symm)
theorem addA_ng_same {A B : Option Nat} (hA : bdA A) (hB : bdA B) (hs : ∀ x y, A = some x → B = some y → ng x = ng y) : addA (negA A) (negA B) = negA (addA A B) := by
  cases A with
  | none => rfl
  | some a => cases B with
    | none => rfl
    | some b => exact addO_ng_same (hA a rfl).1 (hB b rfl).1 (hs a b rfl rfl)
theorem cr_sign (C D : Option Nat) : ∀ x y, mulA C (divA C D) = some x → D = some y → ng x = ng y := by
  intro x y h1 h2
  subst h2
  cases C with
  | none => cases h1
  | some c =>
    cases hr : divA (some c) (some y) with
    | none => rw [hr] at h1; cases h1
    | some r =>
      rw [hr] at h1
      rw [ng_mulO h1, ng_divO hr]
      cases ng c <;> cases ng y <;> rfl
theorem divRe_conj {A B C D : Option Nat} (hB : bdA B) (hD : bdA D) : eqz (divRe A (negA B) C (negA D)) (divRe A B C D) := by
  unfold divRe; rw [geA_conj hD]
  split
  · left; unfold divRe1; rw [divA_ng hD, mulA_ng hB, mulA_ng' _ (bd_divA _ _), negA_negA (bd_mulA _ _), mulA_ng hD, mulA_ng' _ (bd_divA _ _), negA_negA (bd_mulA _ _)]
  · unfold divRe2
    rw [divA_ng' _ hD, mulA_ng' _ (bd_divA _ _), mulA_ng' _ (bd_divA _ _), addA_ng_same (bd_mulA _ _) hD (cr_sign C D), divA_ng' _ (bd_addA _ _)]
    have h := (addA_ng (bd_mulA A (divA C D)) hB).div (addA (mulA C (divA C D)) D)
    rw [divA_ng (bd_addA _ _)] at h
    have h2 := h.neg (bd_divA _ _) (bd_negA (bd_divA _ _))
    rw [negA_negA (bd_divA _ _)] at h2
    exact h2
theorem divIm_conj {A B C D : Option Nat} (hB : bdA B) (hD : bdA D) : eqz (divIm A (negA B) C (negA D)) (negA (divIm A B C D)) := by
  unfold divIm; rw [geA_conj hD]
  split
  · unfold divIm1
    rw [divA_ng hD, mulA_ng' _ (bd_divA _ _), mulA_ng hD, mulA_ng' _ (bd_divA _ _), negA_negA (bd_mulA _ _), ← divA_ng (bd_subA _ _)]
    exact (subA_ng hB (bd_mulA _ _)).div _
  · unfold divIm2
    rw [divA_ng' _ hD, mulA_ng' _ (bd_divA _ _), mulA_ng' _ (bd_divA _ _), mulA_ng hB, negA_negA (bd_mulA _ _)]
    left
    rw [addA_ng_same (bd_mulA _ _) hD (cr_sign C D), divA_ng' _ (bd_addA _ _)]

theorem absA_conj {A B : Option Nat} (hB : bdA B) : absA A (negA B) = absA A B := by
  have h1 : infA (negA B) = infA B := by
    cases B with
    | none => rfl
    | some b => show infB (ngW b) = infB b; unfold infB; rw [mg_ngW (hB b rfl).1]
  have h2 : zeA (negA B) = zeA B := by
    cases B with
    | none => rfl
    | some b => show zeB (ngW b) = zeB b; unfold zeB; rw [mg_ngW (hB b rfl).1]
  unfold absA absG; rw [h1, h2, sizA_ng hB]
theorem zeA_neg {B : Option Nat} (hB : bdA B) : zeA (negA B) = zeA B := by
  cases B with
  | none => rfl
  | some b => show zeB (ngW b) = zeB b; unfold zeB; rw [mg_ngW (hB b rfl).1]
theorem sgA_neg {b : Nat} (hb : b < 18446744073709551616) : sgA (negA (some b)) = !sgA (some b) := ng_ngW hb
theorem sqRe_conj {A B : Option Nat} (hB : bdA B) : sqRe A (negA B) = sqRe A B := by
  have hn : (negA B).isNone = B.isNone := by cases B <;> rfl
  unfold sqRe sqU sqV; rw [hn, zeA_neg hB, absA_conj hB, divA_ng hB, sizA_ng (bd_divA _ _)]
theorem sqIm_conj {A B : Option Nat} (hB : bdA B) : sqIm A (negA B) = negA (sqIm A B) := by
  have hn : (negA B).isNone = B.isNone := by cases B <;> rfl
  have hv : bdA (sqV A B) := bd_sqrtA _
  have hu : sqU A (negA B) = sqU A B := by unfold sqU; rw [absA_conj hB]
  have hw : sqV A (negA B) = sqV A B := by unfold sqV; rw [absA_conj hB]
  unfold sqIm; rw [hn, zeA_neg hB, hu, hw, divA_ng hB]
  cases B with
  | none => cases A <;> rfl
  | some b =>
    rw [sgA_neg (hB b rfl).1]
    split
    · rfl
    · split
      · rfl
      · split
        · rfl
        · cases sgA (some b)
          · rfl
          · show sqV A (some b) = negA (negA (sqV A (some b))); rw [negA_negA hv]

/-- A finite number times 1. -/
theorem nearest_shift (s : Bool) (m k : Nat) (p : Int) : Ieee.double.nearest s (m * 2 ^ k) (p - (k : Int)) = Ieee.double.nearest s m p := by
  by_cases h0 : m = 0
  · subst h0; rw [Nat.zero_mul, nearest_zero, nearest_zero]
  · have hm : 0 < m := by omega
    have hmk : ¬ m * 2 ^ k = 0 := Nat.ne_of_gt (Nat.mul_pos hm (Nat.two_pow_pos _))
    unfold Ieee.Format.nearest
    rw [if_neg h0, if_neg hmk]
    simp only [d_least, d_bin, d_inf, cut_rne, Nat.shiftLeft_eq, log2_mul m k hm]
    have hl : p - (k : Int) + ((m.log2 + k : Nat) : Int) - (Ieee.double.fractionBits : Int) = p + (m.log2 : Int) - (Ieee.double.fractionBits : Int) := by omega
    rw [hl]
    generalize max (p + (m.log2 : Int) - (Ieee.double.fractionBits : Int)) (-1074) = L
    congr 3
    rcases Int.lt_or_le (p - (k : Int)) L with h1 | h1
    · rcases Int.lt_or_le p L with h2 | h2
      · have e1 : (p - (k : Int) - L).toNat = 0 := by omega
        have e2 : (p - L).toNat = 0 := by omega
        have e3 : (L - (p - (k : Int))).toNat = (L - p).toNat + k := by omega
        rw [e1, e2, e3, Nat.pow_zero, Nat.mul_one, Nat.mul_one, rne_scale m k _ (by omega), Nat.add_sub_cancel]
      · have e1 : (p - (k : Int) - L).toNat = 0 := by omega
        have e3 : (L - p).toNat = 0 := by omega
        have e4 : k = (p - L).toNat + (L - (p - (k : Int))).toNat := by omega
        rw [e1, e3, Nat.pow_zero, Nat.mul_one]
        generalize (L - (p - (k : Int))).toNat = d at *
        rw [e4, Nat.pow_add, ← Nat.mul_assoc, rne_scale _ d d (Nat.le_refl _), Nat.sub_self]
    · have e1 : (L - (p - (k : Int))).toNat = 0 := by omega
      have e2 : (L - p).toNat = 0 := by omega
      have e3 : (p - L).toNat = k + (p - (k : Int) - L).toNat := by omega
      rw [e1, e2, e3, Nat.pow_add, Nat.mul_assoc]
theorem rung_sz (r : Nat) : rung (sz r) = r := by
  apply sz_inj
  rw [sz_rung]
  exact rn_exact ⟨sig r, ex r, rfl, sig_lt r⟩
theorem word_self {x : Nat} (h : x < 18446744073709551616) : Ieee.double.word (ng x) (mg x) = x := by
  unfold Ieee.Format.word ng mg; rw [d_sw]
  rcases Nat.mod_two_eq_zero_or_one (x / 9223372036854775808) with h2 | h2
  · rw [h2]; simp only [show ((0 : Nat) == 1) = false from rfl, Bool.false_eq_true, if_false]; omega
  · rw [h2]; simp only [beq_self_eq_true, if_true]; omega
theorem nearest_read {x : Nat} (hx : fin x) (h : x < 18446744073709551616) : Ieee.double.nearest (ng x) (sig (mg x)) (-1074 + (ex (mg x) : Int)) = x := by
  rw [nearest_eq]
  have e : sig (mg x) * 2 ^ ex (mg x) = sz (mg x) := rfl
  rw [e, rung_sz, Nat.min_eq_left (by unfold fin at hx; omega), word_self h]
theorem mul_one {x : Nat} (hx : fin x) (h : x < 18446744073709551616) : mulO x 4607182418800017408 = some x := by
  rw [mul_eq hx (by unfold fin; decide)]
  have e1 : ng 4607182418800017408 = false := by decide
  have e2 : sig (mg 4607182418800017408) = 2 ^ 52 := by decide
  have e3 : ex (mg 4607182418800017408) = 1022 := by decide
  rw [e1, e2, e3, Bool.xor_false]
  have e4 : (-1074 + (ex (mg x) : Int) + (-1074 + ((1022 : Nat) : Int))) = -1074 + (ex (mg x) : Int) - ((52 : Nat) : Int) := by omega
  rw [e4, nearest_shift, nearest_read hx h]
theorem mul_zero {x : Nat} (hx : fin x) : ∃ z, mulO x 0 = some z ∧ mg z = 0 := by
  rw [mul_eq hx (by unfold fin; decide)]
  have e2 : sig (mg 0) = 0 := by decide
  rw [e2, Nat.mul_zero, nearest_zero]
  exact ⟨_, rfl, mg_word_zero _⟩
theorem val_zero {z : Nat} (h : mg z = 0) : val z = 0 := by unfold val; rw [h, sz_zero]; unfold sgn; split <;> rfl
theorem val_lt {x : Nat} (hx : fin x) : (val x).natAbs < szI := by unfold val; rw [sgn_abs]; exact sz_mono hx
theorem val_inj_plc {x y : Nat} (h : val x = val y) : plc x = plc y := by
  have h1 : sz (mg x) = sz (mg y) := by
    have := congrArg Int.natAbs h
    unfold val at this; rw [sgn_abs, sgn_abs] at this; exact this
  have h2 := sz_inj h1
  unfold val at h
  unfold plc
  rw [h2] at h ⊢
  rcases Nat.eq_zero_or_pos (mg y) with h0 | h0
  · rw [h0]; unfold sgn; split <;> split <;> rfl
  · have := sz_pos h0
    unfold sgn at *
    split at h <;> split at h <;> simp_all <;> omega
theorem eqB_val {x y : Nat} (hx : fin x) (hy : fin y) (h : val x = val y) : eqB x y = true := by
  unfold eqB
  rw [order_eqb (fin_not_nan hx) (fin_not_nan hy)]
  exact decide_eq_true (val_inj_plc h)
theorem sub_zero {x z : Nat} (hx : fin x) (hz : mg z = 0) : ∃ r, subO x z = some r ∧ fin r ∧ val r = val x := by
  have hv : val x - val z = val x := by rw [val_zero hz]; omega
  have hr : rnI (val x) = val x := rnI_exact (val_rep x)
  obtain ⟨r, h1, h2, h3⟩ := sub_fin hx (fin_zero hz) (by rw [hv, ← rn_abs, hr]; exact val_lt hx)
  exact ⟨r, h1, h2, by rw [h3, hv, hr]⟩
theorem zero_add {x z : Nat} (hx : fin x) (hz : mg z = 0) : ∃ r, addO z x = some r ∧ fin r ∧ val r = val x := by
  have hv : val z + val x = val x := by rw [val_zero hz]; omega
  have hr : rnI (val x) = val x := rnI_exact (val_rep x)
  obtain ⟨r, h1, h2, h3⟩ := add_fin (fin_zero hz) hx (by rw [hv, ← rn_abs, hr]; exact val_lt hx)
  exact ⟨r, h1, h2, by rw [h3, hv, hr]⟩
theorem times_one {x y re im : Nat} (hx : fin x) (hy : fin y) (lx : x < 18446744073709551616) (ly : y < 18446744073709551616)
    (h1 : rep (mulRe (ans x) (ans y) (some 4607182418800017408) (some 0)) re) (h2 : rep (mulIm (ans x) (ans y) (some 4607182418800017408) (some 0)) im) : eqB re x = true ∧ eqB im y = true := by
  obtain ⟨z1, e1, m1⟩ := mul_zero hy
  obtain ⟨z2, e2, m2⟩ := mul_zero hx
  obtain ⟨r1, f1, g1, v1⟩ := sub_zero hx m1
  obtain ⟨r2, f2, g2, v2⟩ := zero_add hy m2
  have k1 : mulRe (ans x) (ans y) (some 4607182418800017408) (some 0) = some r1 := by
    rw [ans_fin hx, ans_fin hy]
    show subA (mulO x 4607182418800017408) (mulO y 0) = _
    rw [mul_one hx lx, e1]; exact f1
  have k2 : mulIm (ans x) (ans y) (some 4607182418800017408) (some 0) = some r2 := by
    rw [ans_fin hx, ans_fin hy]
    show addA (mulO x 0) (mulO y 4607182418800017408) = _
    rw [mul_one hy ly, e2]; exact f2
  rw [k1] at h1
  rw [k2] at h2
  obtain ⟨_, rfl⟩ := ans_some h1.2
  obtain ⟨_, rfl⟩ := ans_some h2.2
  exact ⟨eqB_val g1 hx v1, eqB_val g2 hy v2⟩

/-- A nought's sign in a numerator: no more than a nought's sign in the answer. -/
theorem eqz.trans {A B C : Option Nat} (h : eqz A B) (k : eqz B C) : eqz A C := by
  rcases h with rfl | ⟨x, y, rfl, rfl, h1, h2⟩
  · exact k
  · rcases k with rfl | ⟨u, v, hu, rfl, k1, k2⟩
    · exact Or.inr ⟨x, y, rfl, rfl, h1, h2⟩
    · exact Or.inr ⟨x, v, rfl, rfl, h1, k2⟩
theorem sum_zero_eqz (s t : Bool) (i : Int) (b : Ieee.Datum) : eqz (((Ieee.Datum.number s 0 i).sum b).map Ieee.double.write) (((Ieee.Datum.number t 0 i).sum b).map Ieee.double.write) := by
  cases b with
  | nan u g => exact Or.inl rfl
  | infinity u => exact Or.inl rfl
  | number u n j =>
    have hz : ∀ (s : Bool) (up : Nat), Ieee.signed s 0 up = 0 := by
      intro s up; rw [signed_eq, Nat.zero_mul]; unfold sgn; split <;> rfl
    show eqz (some (Ieee.double.write _)) (some (Ieee.double.write _))
    simp only [hz]
    generalize Ieee.signed u n (j - min i j).toNat = v
    by_cases h0 : 0 + v = 0
    · right
      refine ⟨_, _, rfl, rfl, ?_, ?_⟩
      · rw [if_pos h0, h0]
        show mg (Ieee.double.nearest _ 0 _) = 0
        rw [nearest_zero, mg_word_zero]
      · rw [if_pos h0, h0]
        show mg (Ieee.double.nearest _ 0 _) = 0
        rw [nearest_zero, mg_word_zero]
    · left; rw [if_neg h0, if_neg h0]
theorem eqz.add' {A B : Option Nat} (h : eqz A B) (X : Option Nat) : eqz (addA A X) (addA B X) := by
  rcases h with rfl | ⟨x, y, rfl, rfl, h1, h2⟩
  · exact Or.inl rfl
  · cases X with
    | none => exact Or.inl rfl
    | some t =>
      show eqz (addO x t) (addO y t)
      unfold addO Ieee.Format.add; rw [read_zero h1, read_zero h2]; exact sum_zero_eqz _ _ _ _
theorem eqz.add {A B : Option Nat} (h : eqz A B) (X : Option Nat) : eqz (addA X A) (addA X B) := by
  rw [addA_comm X A, addA_comm X B]; exact h.add' X
theorem eqz.sub' {A B : Option Nat} (h : eqz A B) {X : Option Nat} (hX : bdA X) : eqz (subA A X) (subA B X) := by
  rw [subA_add _ hX, subA_add _ hX]; exact h.add' _
theorem eqz.sub {A B : Option Nat} (h : eqz A B) (hA : bdA A) (hB : bdA B) (X : Option Nat) : eqz (subA X A) (subA X B) := by
  rw [subA_add _ hA, subA_add _ hB]; exact (h.neg hA hB).add _
theorem zero_mul {t : Nat} {z : Nat} (h : mulO 0 t = some z) : mg z = 0 := by
  unfold mulO Ieee.Format.mul at h
  rw [read_zero (by decide : mg 0 = 0)] at h
  cases hr : Ieee.double.read t with
  | nan s f => rw [hr] at h; cases h
  | infinity s => rw [hr] at h; cases h
  | number s n p =>
    rw [hr] at h
    cases h
    show mg (Ieee.double.nearest _ (0 * n) _) = 0
    rw [Nat.zero_mul, nearest_zero, mg_word_zero]
theorem bd_0 : bdA (some 0) := fun x h => by cases h; exact ⟨by decide, by decide⟩
theorem bd_1 : bdA (some 4607182418800017408) := fun x h => by cases h; exact ⟨by decide, by decide⟩
theorem zero_eqz : eqz (some 0) (negA (some 0)) := Or.inr ⟨_, _, rfl, rfl, by decide, by decide⟩
theorem mul_zero_eqz (R : Option Nat) : eqz (mulA (some 0) R) (mulA (negA (some 0)) R) := by
  rw [mulA_ng bd_0]
  cases R with
  | none => exact Or.inl rfl
  | some r =>
    cases h : mulA (some 0) (some r) with
    | none => exact Or.inl rfl
    | some z => exact Or.inr ⟨_, _, rfl, rfl, zero_mul h, by rw [mg_ngW (bd_mulA _ _ _ h).1]; exact zero_mul h⟩
theorem divRe_zero (A C D : Option Nat) : eqz (divRe A (some 0) C D) (divRe A (negA (some 0)) C D) := by
  unfold divRe
  split
  · unfold divRe1; exact ((mul_zero_eqz _).add _).div _
  · unfold divRe2; exact (zero_eqz.add _).div _
theorem divIm_zero {A : Option Nat} (hA : bdA A) (C D : Option Nat) : eqz (divIm A (some 0) C D) (divIm A (negA (some 0)) C D) := by
  unfold divIm
  split
  · unfold divIm1; exact (zero_eqz.sub' (bd_mulA _ _)).div _
  · unfold divIm2; exact ((mul_zero_eqz _).sub' hA).div _
theorem invRe_conj {A B : Option Nat} (hB : bdA B) : eqz (divRe (some 4607182418800017408) (some 0) A (negA B)) (divRe (some 4607182418800017408) (some 0) A B) :=
  (divRe_zero _ _ _).trans (divRe_conj bd_0 hB)
theorem invIm_conj {A B : Option Nat} (hB : bdA B) : eqz (divIm (some 4607182418800017408) (some 0) A (negA B)) (negA (divIm (some 4607182418800017408) (some 0) A B)) :=
  (divIm_zero bd_1 _ _).trans (divIm_conj bd_0 hB)

end Go.Proofs.Ytmhplaanpbpndaa

namespace Go.Proofs.Ytmhplaanpbpndaa
open Fl

theorem rne_mono {n n' : Nat} (d : Nat) (h : n ≤ n') : rne n d ≤ rne n' d := by
  unfold rne
  have hp := Nat.two_pow_pos d
  have e1 := Nat.div_add_mod n (2 ^ d)
  have e2 := Nat.div_add_mod n' (2 ^ d)
  have h1 := Nat.mod_lt n hp
  have h2 := Nat.mod_lt n' hp
  have hd : n / 2 ^ d ≤ n' / 2 ^ d := Nat.div_le_div_right h
  rcases Nat.lt_or_ge (n / 2 ^ d) (n' / 2 ^ d) with hlt | hge
  · split <;> split <;> omega
  · have he : n / 2 ^ d = n' / 2 ^ d := by omega
    rw [he] at e1 ⊢
    generalize n' / 2 ^ d = q at *
    generalize n % 2 ^ d = r at *
    generalize n' % 2 ^ d = r' at *
    generalize 2 ^ d * q = y at *
    have hr : r ≤ r' := by omega
    split <;> split <;> omega
theorem rne_le {n d : Nat} (h : n < 2 ^ (d + 53)) : rne n d ≤ 2 ^ 53 := by
  unfold rne
  have : n / 2 ^ d < 2 ^ 53 := by
    rw [Nat.div_lt_iff_lt_mul (Nat.two_pow_pos _), Nat.mul_comm, ← Nat.pow_add]; exact h
  split <;> omega
theorem rne_ge {n d : Nat} (h : 2 ^ (d + 52) ≤ n) : 2 ^ 52 ≤ rne n d := by
  unfold rne
  have : 2 ^ 52 ≤ n / 2 ^ d := by
    rw [Nat.le_div_iff_mul_le (Nat.two_pow_pos _), Nat.mul_comm, ← Nat.pow_add]; exact h
  omega
theorem word_false (r : Nat) : Ieee.double.word false r = r := rfl
/-- The rung nearest to m times 2 to the power p. -/
def nr (m : Nat) (p : Int) : Nat := Ieee.double.nearest false m p
theorem nr_shift (m k : Nat) (p : Int) : nr (m * 2 ^ k) (p - (k : Int)) = nr m p := nearest_shift false m k p
theorem nr_zero (p : Int) : nr 0 p = 0 := nearest_zero false p
theorem nr_eq1 {m : Nat} (h : ¬ m = 0) (p : Int) : Ieee.double.nearest false m p = Ieee.double.word false (min ((max (p + (m.log2 : Int) - (Ieee.double.fractionBits : Int)) Ieee.double.leastPlace - Ieee.double.leastPlace).toNat * Ieee.double.binade + Ieee.Toward.even.cut false (m <<< (p - max (p + (m.log2 : Int) - (Ieee.double.fractionBits : Int)) Ieee.double.leastPlace).toNat) (max (p + (m.log2 : Int) - (Ieee.double.fractionBits : Int)) Ieee.double.leastPlace - p).toNat) Ieee.double.infRung) := by
  unfold Ieee.Format.nearest; rw [if_neg h]
theorem nr_eq {m : Nat} (h : 0 < m) {p L : Int} (hL : L = max (p + (m.log2 : Int) - 52) (-1074)) : nr m p = min ((L + 1074).toNat * 4503599627370496 + rne (m * 2 ^ (p - L).toNat) (L - p).toNat) 9218868437227405312 := by
  unfold nr
  rw [nr_eq1 (by omega)]
  have hf : (Ieee.double.fractionBits : Int) = 52 := rfl
  rw [hf, d_least, ← hL, d_bin, d_inf, word_false, cut_rne, Nat.shiftLeft_eq]
  have hk : L - -1074 = L + 1074 := by omega
  rw [hk]
theorem nr_mono {m m' : Nat} (p : Int) (h : m ≤ m') : nr m p ≤ nr m' p := by
  rcases Nat.eq_zero_or_pos m with h0 | h0
  · subst h0; rw [nr_zero]; exact Nat.zero_le _
  · have h0' : 0 < m' := by omega
    have hl : m.log2 ≤ m'.log2 := by
      have b1 := (log2_bd h0).1
      have b2 := (log2_bd h0').2
      have : 2 ^ m.log2 < 2 ^ (m'.log2 + 1) := by omega
      have := (Nat.pow_lt_pow_iff_right (by omega : 1 < 2)).1 this
      omega
    have bm := log2_bd h0
    have bm' := log2_bd h0'
    obtain ⟨L, hL⟩ : ∃ L, L = max (p + (m.log2 : Int) - 52) (-1074) := ⟨_, rfl⟩
    obtain ⟨L', hL'⟩ : ∃ L', L' = max (p + (m'.log2 : Int) - 52) (-1074) := ⟨_, rfl⟩
    rw [nr_eq h0 hL, nr_eq h0' hL']
    have hLL : L ≤ L' := by omega
    have key : (L + 1074).toNat * 4503599627370496 + rne (m * 2 ^ (p - L).toNat) (L - p).toNat ≤ (L' + 1074).toNat * 4503599627370496 + rne (m' * 2 ^ (p - L').toNat) (L' - p).toNat := by
      rcases Int.lt_or_le L L' with hlt | hge
      · have k1 : rne (m * 2 ^ (p - L).toNat) (L - p).toNat ≤ 2 ^ 53 := by
          apply rne_le
          have h1 : m * 2 ^ (p - L).toNat < 2 ^ (m.log2 + 1) * 2 ^ (p - L).toNat := (Nat.mul_lt_mul_right (Nat.two_pow_pos _)).2 bm.2
          rw [← Nat.pow_add] at h1
          refine Nat.lt_of_lt_of_le h1 (Nat.pow_le_pow_right (by omega) ?_)
          omega
        have k2 : 2 ^ 52 ≤ rne (m' * 2 ^ (p - L').toNat) (L' - p).toNat := by
          apply rne_ge
          have h1 : 2 ^ m'.log2 * 2 ^ (p - L').toNat ≤ m' * 2 ^ (p - L').toNat := Nat.mul_le_mul_right _ bm'.1
          rw [← Nat.pow_add] at h1
          refine Nat.le_trans (Nat.pow_le_pow_right (by omega) ?_) h1
          omega
        have k3 : (L + 1074).toNat + 1 ≤ (L' + 1074).toNat := by omega
        have e53 : (2 : Nat) ^ 53 = 9007199254740992 := by decide
        have e52 : (2 : Nat) ^ 52 = 4503599627370496 := by decide
        rw [e53] at k1
        rw [e52] at k2
        have k4 : ((L + 1074).toNat + 1) * 4503599627370496 ≤ (L' + 1074).toNat * 4503599627370496 := Nat.mul_le_mul_right _ k3
        omega
      · have he : L = L' := by omega
        rw [he]
        exact Nat.add_le_add_left (rne_mono (L' - p).toNat (Nat.mul_le_mul_right (2 ^ (p - L').toNat) h)) _
    exact Nat.le_min.2 ⟨Nat.le_trans (Nat.min_le_left _ _) key, Nat.min_le_right _ _⟩
theorem nr_le {m m' k : Nat} {p p' : Int} (hp : p' = p + (k : Int)) (h : m ≤ m' * 2 ^ k) : nr m p ≤ nr m' p' := by
  have : nr m' p' = nr (m' * 2 ^ k) p := by rw [← nr_shift m' k p']; congr 1; omega
  rw [this]; exact nr_mono p h
theorem nr_ge {m m' k : Nat} {p p' : Int} (hp : p' = p + (k : Int)) (h : m' * 2 ^ k ≤ m) : nr m' p' ≤ nr m p := by
  have : nr m' p' = nr (m' * 2 ^ k) p := by rw [← nr_shift m' k p']; congr 1; omega
  rw [this]; exact nr_mono p h
theorem nr_sz {r : Nat} (h : r ≤ 9218868437227405312) : nr (sz r) (-1074) = r := by
  have e := nearest_eq false (sz r) 0
  rw [Nat.pow_zero, Nat.mul_one, rung_sz, Nat.min_eq_left h, word_false] at e
  have e0 : (-1074 + ((0 : Nat) : Int)) = -1074 := by omega
  rw [e0] at e
  unfold nr
  exact e
theorem nr_lim (m : Nat) (p : Int) : nr m p ≤ 9218868437227405312 := by
  rcases Nat.eq_zero_or_pos m with h0 | h0
  · subst h0; rw [nr_zero]; omega
  · rw [nr_eq h0 rfl]; exact Nat.min_le_right _ _

/-- Words without a sign. -/
def pos (x : Nat) : Prop := x < 9218868437227405312
theorem pos.fin {x : Nat} (h : pos x) : fin x := by unfold pos at h; unfold Fl.fin mg; omega
theorem pos.mg {x : Nat} (h : pos x) : mg x = x := by unfold pos at h; unfold Fl.mg; omega
theorem pos.ng {x : Nat} (h : pos x) : ng x = false := by
  unfold pos at h; unfold Fl.ng; rw [Nat.div_eq_of_lt (by omega)]; rfl
theorem pos.read {x : Nat} (h : pos x) : Ieee.double.read x = .number false (sig x) (-1074 + (ex x : Int)) := by
  rw [read_fin x h.fin, h.ng, h.mg]
theorem mul_pos {x y : Nat} (hx : pos x) (hy : pos y) : mulO x y = some (nr (sz x * sz y) (-2148)) := by
  unfold mulO Ieee.Format.mul
  rw [hx.read, hy.read]
  show some (Ieee.double.nearest false (sig x * sig y) (-1074 + (ex x : Int) + (-1074 + (ex y : Int)))) = _
  rw [← nearest_shift false _ (ex x + ex y)]
  unfold nr sz
  congr 2
  · rw [Nat.pow_add]; ac_rfl
  · omega
theorem add_pos {x y : Nat} (hx : pos x) (hy : pos y) : addO x y = some (nr (sz x + sz y) (-1074)) := by
  unfold addO Ieee.Format.add
  rw [hx.read, hy.read]
  simp only [Ieee.Datum.sum, signed_eq, Option.map_some]
  obtain ⟨b, hb⟩ : ∃ b : Nat, b = min (ex x) (ex y) := ⟨_, rfl⟩
  have e1 : min (-1074 + (ex x : Int)) (-1074 + (ex y : Int)) = -1074 + (b : Int) := by omega
  have e2 : (-1074 + (ex x : Int) - (-1074 + (b : Int))).toNat = ex x - b := by omega
  have e3 : (-1074 + (ex y : Int) - (-1074 + (b : Int))).toNat = ex y - b := by omega
  rw [e1, e2, e3]
  have e4 : sgn false (sig x * 2 ^ (ex x - b)) + sgn false (sig y * 2 ^ (ex y - b)) = ((sig x * 2 ^ (ex x - b) + sig y * 2 ^ (ex y - b) : Nat) : Int) := by unfold sgn; simp
  rw [e4]
  obtain ⟨T, hT⟩ : ∃ T : Nat, T = sig x * 2 ^ (ex x - b) + sig y * 2 ^ (ex y - b) := ⟨_, rfl⟩
  rw [← hT]
  have e5 : (if ((T : Nat) : Int) = 0 then (false && false) else decide (((T : Nat) : Int) < 0)) = false := by
    split
    · rfl
    · exact decide_eq_false (by omega)
  rw [e5]
  show some (Ieee.double.nearest false ((T : Int).natAbs) (-1074 + (b : Int))) = _
  rw [Int.natAbs_natCast, ← nearest_shift false T b]
  unfold nr
  congr 2
  · rw [hT, Nat.add_mul, Nat.mul_assoc, Nat.mul_assoc, ← Nat.pow_add, ← Nat.pow_add, Nat.sub_add_cancel (by omega), Nat.sub_add_cancel (by omega)]; rfl
  · omega

/-- A quotient of a lesser by a greater, held against C times 2 to the power -52. -/
theorem log2_sz {x : Nat} (h : 0 < sig x) : (sz x).log2 = (sig x).log2 + ex x := log2_mul (sig x) (ex x) h
theorem log2_le {m m' : Nat} (h0 : 0 < m) (h : m ≤ m') : m.log2 ≤ m'.log2 := by
  have b1 := (log2_bd h0).1
  have b2 := (log2_bd (by omega : 0 < m')).2
  have : 2 ^ m.log2 < 2 ^ (m'.log2 + 1) := by omega
  have := (Nat.pow_lt_pow_iff_right (by omega : 1 < 2)).1 this
  omega
theorem div_pos {l g C : Nat} (hl : pos l) (hg : pos g) (h0 : 0 < sz g) (hle : sz l ≤ sz g) (hC : sz l * 2 ^ 52 ≤ C * sz g) : ∃ W, divO l g = some W ∧ W ≤ nr C (-52) := by
  unfold divO Ieee.Format.div
  rw [hl.read, hg.read]
  have hn : 0 < sig g := by
    rcases Nat.eq_zero_or_pos (sig g) with h | h
    · unfold sz at h0; rw [h, Nat.zero_mul] at h0; omega
    · exact h
  have hn0 : ¬ sig g = 0 := by omega
  simp only [Ieee.Datum.quotient, hn0, if_false, Option.map_some]
  refine ⟨_, rfl, ?_⟩
  obtain ⟨M, hM⟩ : ∃ M : Nat, M = Ieee.double.fractionBits + 2 + (sig g).log2 - (sig l).log2 := ⟨_, rfl⟩
  rw [← hM, Nat.shiftLeft_eq]
  show nr _ _ ≤ _
  rcases Nat.eq_zero_or_pos (sig l) with hz | hz
  · rw [hz, Nat.zero_mul, Nat.zero_div, Nat.zero_mod]
    show nr 0 _ ≤ _
    rw [nr_zero]; exact Nat.zero_le _
  · have hlog := log2_le (by unfold sz; exact Nat.mul_pos hz (Nat.two_pow_pos _)) hle
    rw [log2_sz hz, log2_sz hn] at hlog
    have hM54 : M = 54 + (sig g).log2 - (sig l).log2 := hM
    obtain ⟨H, hH⟩ : ∃ H : Nat, H + ex l + 52 = M + ex g := ⟨M + ex g - (ex l + 52), by omega⟩
    have hpl : (-52 : Int) = -1074 + (ex l : Int) - (-1074 + (ex g : Int)) - (M : Int) - 1 + ((H + 1 : Nat) : Int) := by clear hC hle; omega
    have hbig : sig l * 2 ^ M ≤ C * 2 ^ H * sig g := by
      have h1 : sig l * 2 ^ M * 2 ^ (ex l + 52) ≤ C * 2 ^ H * sig g * 2 ^ (ex l + 52) := by
        have h2 := Nat.mul_le_mul_right (2 ^ M) hC
        have e1 : 2 ^ (ex l + 52) = 2 ^ ex l * 2 ^ 52 := Nat.pow_add _ _ _
        have e2 : 2 ^ M * 2 ^ ex g = 2 ^ H * (2 ^ ex l * 2 ^ 52) := by
          have e3 : M + ex g = H + (ex l + 52) := by clear h2 hC hle e1; omega
          rw [← e1, ← Nat.pow_add, ← Nat.pow_add, e3]
        rw [e1]
        unfold sz at h2
        generalize 2 ^ ex l = a at *
        generalize 2 ^ ex g = b at *
        generalize 2 ^ M = c at *
        generalize 2 ^ H = d at *
        generalize (2 : Nat) ^ 52 = f at *
        generalize sig l = u at *
        generalize sig g = v at *
        have r1 : u * c * (a * f) = u * a * f * c := by simp only [Nat.mul_comm, Nat.mul_left_comm]
        have r2 : C * d * v * (a * f) = C * v * (d * (a * f)) := by simp only [Nat.mul_comm, Nat.mul_left_comm]
        have r3 : C * (v * b) * c = C * v * (c * b) := by simp only [Nat.mul_comm, Nat.mul_left_comm]
        rw [r1, r2, ← e2, ← r3]; exact h2
      exact Nat.le_of_mul_le_mul_right h1 (Nat.two_pow_pos _)
    refine nr_le (k := H + 1) hpl ?_
    · clear hpl hH hM hM54 hlog hC hle h0 hz
      generalize sig l * 2 ^ M = D at *
      generalize sig g = n at *
      have e1 := Nat.div_add_mod D n
      rw [Nat.pow_succ, ← Nat.mul_assoc]
      generalize C * 2 ^ H = Y at *
      by_cases hr : D % n = 0
      · have hb : (D % n != 0) = false := by rw [hr]; rfl
        rw [hb]
        have : D / n ≤ Y := Nat.div_le_of_le_mul (by rw [Nat.mul_comm]; exact hbig)
        show 2 * (D / n) + 0 ≤ Y * 2
        omega
      · have hb : (D % n != 0) = true := by exact bne_iff_ne.2 hr
        rw [hb]
        have : D / n < Y := by
          rw [Nat.div_lt_iff_lt_mul hn]
          rcases Nat.lt_or_ge D (Y * n) with h | h
          · exact h
          · exfalso
            have hD : D = Y * n := by omega
            rw [hD, Nat.mul_mod_left] at hr
            exact hr rfl
        show 2 * (D / n) + 1 ≤ Y * 2
        omega

/-- The whole root. -/
theorem root_from (n todo : Nat) : ∀ root, root * root ≤ n → n < (root + 2 ^ todo) * (root + 2 ^ todo) → Ieee.Datum.rootFrom n todo root * Ieee.Datum.rootFrom n todo root ≤ n ∧ n < (Ieee.Datum.rootFrom n todo root + 1) * (Ieee.Datum.rootFrom n todo root + 1) := by
  induction todo with
  | zero =>
    intro root h1 h2
    rw [Nat.pow_zero] at h2
    exact ⟨h1, h2⟩
  | succ t ih =>
    intro root h1 h2
    show Ieee.Datum.rootFrom n t (if (root + 1 <<< t) * (root + 1 <<< t) ≤ n then root + 1 <<< t else root) * Ieee.Datum.rootFrom n t (if (root + 1 <<< t) * (root + 1 <<< t) ≤ n then root + 1 <<< t else root) ≤ n ∧ n < (Ieee.Datum.rootFrom n t (if (root + 1 <<< t) * (root + 1 <<< t) ≤ n then root + 1 <<< t else root) + 1) * (Ieee.Datum.rootFrom n t (if (root + 1 <<< t) * (root + 1 <<< t) ≤ n then root + 1 <<< t else root) + 1)
    rw [Nat.shiftLeft_eq, Nat.one_mul]
    split
    · rename_i h
      refine ih _ h ?_
      have e : root + 2 ^ t + 2 ^ t = root + 2 ^ (t + 1) := by rw [Nat.pow_succ]; omega
      rw [e]; exact h2
    · rename_i h
      exact ih _ h1 (by omega)
theorem root_whole {n : Nat} (h : 0 < n) : Ieee.Datum.rootFrom n (n.log2 / 2 + 1) 0 * Ieee.Datum.rootFrom n (n.log2 / 2 + 1) 0 ≤ n ∧ n < (Ieee.Datum.rootFrom n (n.log2 / 2 + 1) 0 + 1) * (Ieee.Datum.rootFrom n (n.log2 / 2 + 1) 0 + 1) := by
  refine root_from n _ 0 (by simp) ?_
  rw [Nat.zero_add, ← Nat.pow_add]
  exact Nat.lt_of_lt_of_le (log2_bd h).2 (Nat.pow_le_pow_right (by omega) (by omega))

end Go.Proofs.Ytmhplaanpbpndaa

namespace Go.Proofs.Ytmhplaanpbpndaa
open Fl RowKit

def infC (x : Nat) : Bool := mg x == 9218868437227405312
theorem plc_max : plc 9218868437227405311 = 9218868437227405311 := by decide
theorem gt_max (x : Nat) : (FloatKind.f64.format.order (mg x) 9218868437227405311 == some .gt) = infC x := by
  cases hn : nan x
  · rw [order_gt (by rw [nan_mg]; exact hn) (by decide), plc_mg, plc_max]
    have := (by unfold nan at hn; simpa using hn : ¬ 9218868437227405312 < mg x)
    unfold infC; rw [Bool.eq_iff_iff]; simp; omega
  · rw [f64_double, order_eq, nan_mg, hn]
    have := (by unfold nan at hn; simpa using hn : 9218868437227405312 < mg x)
    unfold infC; rw [Bool.eq_iff_iff]; simp; omega
theorem nan_zero : nan 0 = false := by decide
theorem plc_zero : plc 0 = 0 := by decide
theorem mulV_of {x y s : Nat} (h : mulO x y = some s) (W : World) : mulV W x y = s := by unfold mulV fV; rw [h]
theorem pow_le_of {a b : Nat} (h : a ≤ b) : 2 ^ a ≤ 2 ^ b := Nat.pow_le_pow_right (by omega) h
theorem and_i64 (E : Nat) (h : E < 2048) : bits BinOp.and IntKind.i64 (E : Int) 2047 = (E : Int) := by
  show IntKind.i64.wrap ((BitVec.ofInt 64 (E : Int) &&& BitVec.ofInt 64 ((2047 : Nat) : Int)).toNat : Int) = _
  rw [BitVec.toNat_and, ofInt_u64 E (by omega), ofInt_u64 2047 (by omega), nat_mask11, Nat.mod_eq_of_lt h, IntKind.wrap_i64]
  omega
theorem fwords (m : Nat) (hm : 0 < m) (hm2 : m ≤ 9007199254740992) : ∃ E f, floatOfInt .f64 (m : Int) = E * 4503599627370496 + f ∧ f < 4503599627370496 ∧ 1023 ≤ E ∧ E ≤ 1076 ∧ (4503599627370496 + f) * 2 ^ (E - 1) = m * 2 ^ K74 := by
  have e0 : floatOfInt .f64 (m : Int) = Ieee.double.nearest false m (-1074 + ((K74 : Nat) : Int)) := by
    show Ieee.double.nearest (decide ((m : Int) < 0)) (m : Int).natAbs 0 = _
    have h1 : decide ((m : Int) < 0) = false := by simp
    have h2 : (m : Int).natAbs = m := Int.natAbs_natCast m
    have h3 : (0 : Int) = -1074 + ((K74 : Nat) : Int) := by decide
    rw [h1, h2, ← h3]
  have hrep : RpN (m * 2 ^ K74) := by
    rcases Nat.eq_or_lt_of_le hm2 with h | h
    · exact ⟨4503599627370496, K74 + 1, by rw [h, Nat.pow_succ]; omega, by omega⟩
    · exact ⟨m, K74, rfl, h⟩
  have hF := sz_rung (m * 2 ^ K74)
  rw [rn_exact hrep] at hF
  generalize hG : rung (m * 2 ^ K74) = G at hF
  have hKK : K74 = 1074 := rfl
  -- the size lies between two to the 1074 and two to the 1127
  have hlo : 2 ^ K74 ≤ sz G := by rw [hF]; exact Nat.le_mul_of_pos_left _ hm
  have hhi : sz G ≤ 2 ^ (K74 + 53) := by
    rw [hF, Nat.pow_add, Nat.mul_comm (2 ^ K74), show (2 : Nat) ^ 53 = 9007199254740992 by decide]; exact Nat.mul_le_mul_right _ hm2
  have sE : ∀ E : Nat, 1 ≤ E → sz (E * 4503599627370496) = 2 ^ (52 + (E - 1)) := by
    intro E hE
    unfold sz sig ex
    rw [if_neg (by omega), Nat.mul_mod_left, Nat.mul_div_cancel _ (by omega), Nat.pow_add]
  have sE1 : ∀ E : Nat, 1 ≤ E → E ≤ 1023 → sz (E * 4503599627370496) ≤ 2 ^ K74 := by intro E h1 h2; rw [sE E h1]; exact pow_le_of (by rw [hKK]; omega)
  have sE2 : ∀ E : Nat, 1076 ≤ E → 2 ^ (K74 + 53) ≤ sz (E * 4503599627370496) := by intro E h1; rw [sE E (by omega)]; exact pow_le_of (by rw [hKK]; omega)
  have g1 : 1023 * 4503599627370496 ≤ G := by
    rcases Nat.lt_or_ge G (1023 * 4503599627370496) with h | h
    · have h1 := sE1 1023 (by omega) (by omega)
      exact absurd (Nat.lt_of_lt_of_le (sz_mono h) h1) (Nat.not_lt.2 hlo)
    · exact h
  have g2 : G ≤ 1076 * 4503599627370496 := by
    rcases Nat.lt_or_ge (1076 * 4503599627370496) G with h | h
    · have h1 := sE2 1076 (by omega)
      exact absurd (Nat.lt_of_le_of_lt h1 (sz_mono h)) (Nat.not_lt.2 hhi)
    · exact h
  refine ⟨G / 4503599627370496, G % 4503599627370496, ?_, Nat.mod_lt _ (by omega), by omega, by omega, ?_⟩
  · rw [e0, nearest_eq, hG, Nat.min_eq_left (by omega)]
    show G = _; omega
  · have : sz G = (4503599627370496 + G % 4503599627370496) * 2 ^ (G / 4503599627370496 - 1) := by
      unfold sz sig ex; rw [if_neg (by omega)]
    rw [← this]; exact hF
/-- a word by its fields -/
theorem fields {E f : Nat} (hf : f < 4503599627370496) (hE : 1 ≤ E) (hE2 : E ≤ 2046) : fin (E * 4503599627370496 + f) ∧ ng (E * 4503599627370496 + f) = false ∧ mg (E * 4503599627370496 + f) = E * 4503599627370496 + f ∧ sig (E * 4503599627370496 + f) = 4503599627370496 + f ∧ ex (E * 4503599627370496 + f) = E - 1 := by
  have h1 : mg (E * 4503599627370496 + f) = E * 4503599627370496 + f := by unfold mg; omega
  refine ⟨by unfold fin; rw [h1]; omega, ?_, h1, ?_, ?_⟩
  · have : (E * 4503599627370496 + f) / 9223372036854775808 = 0 := by omega
    unfold ng; rw [this]; rfl
  · unfold sig; rw [if_neg (by omega)]; omega
  · unfold ex; omega
/-- times a power of two -/
theorem mul_two {c k G N : Nat} (hc : fin c) (hcn : ng c = false) (hcs : sig (mg c) = 2 ^ 52) (hck : ex (mg c) = k) (hG : fin G) (hGn : ng G = false) (hGs : 0 < sig (mg G))
    (hN : 2 ^ 52 * sig (mg G) * 2 ^ (52 + k + ex (mg G)) = N * 2 ^ K26g) (hN2 : rung N < 9218868437227405312) : mulO c G = some (rung N) := by
  rw [mul_eq hc hG, hcn, hGn, hcs, hck]
  have e : (-1074 + (k : Int) + (-1074 + (ex (mg G) : Int))) = -2200 + ((52 + k + ex (mg G) : Nat) : Int) := by omega
  rw [e, nearest2_eq _ _ _ (Nat.mul_pos (by decide) hGs), hN]
  rcases rung2_of N with h | h
  · rw [h, Nat.min_eq_left (by omega)]; rfl
  · exfalso
    rw [h, Nat.zero_mul] at hN
    have h1 : 0 < 2 ^ 52 * sig (mg G) := Nat.mul_pos (by decide) hGs
    have h2 : 0 < 2 ^ (52 + k + ex (mg G)) := Nat.two_pow_pos _
    have := Nat.mul_pos h1 h2
    omega


theorem and_low (F : Nat) (hF : F < 9223372036854775808) : F &&& 9227875636482146303 = F % 4503599627370496 := by
  have e : (9227875636482146303 : Nat) = 9223372036854775808 ||| 4503599627370495 := by decide
  have h1 := nat_bit 63 F
  rw [show (2 : Nat) ^ 63 = 9223372036854775808 by decide, Nat.div_eq_of_lt hF] at h1
  have h2 := Nat.and_two_pow_sub_one_eq_mod F 52
  rw [show (2 : Nat) ^ 52 - 1 = 4503599627370495 by decide, show (2 : Nat) ^ 52 = 4503599627370496 by decide] at h2
  rw [e, Nat.and_or_distrib_left, h1, h2]; simp
theorem ldbits (E f X : Nat) (hf : f < 4503599627370496) (hE : E < 2048) (hX : X < 2048) :
    (bits BinOp.or IntKind.u64 (bits BinOp.andNot IntKind.u64 ((E * 4503599627370496 + f : Nat) : Int) 9218868437227405312) ((X : Int) * 4503599627370496)).toNat = X * 4503599627370496 + f := by
  have h1 := u64_andNot_nat (E * 4503599627370496 + f) 9218868437227405312 (by omega) (by omega)
  have e1 : (E * 4503599627370496 + f) &&& (18446744073709551615 - 9218868437227405312) = f := by
    rw [show (18446744073709551615 - 9218868437227405312 : Nat) = 9227875636482146303 by decide, and_low _ (by omega)]; omega
  rw [e1] at h1
  have h2 := u64_or_nat f (X * 4503599627370496) (by omega) (by omega)
  have e2 : f ||| (X * 4503599627370496) = X * 4503599627370496 + f := by
    rw [Nat.or_comm]
    exact nat_join 52 (X * 4503599627370496) f (by rw [show (2 : Nat) ^ 52 = 4503599627370496 by decide]; omega) (by rw [show (2 : Nat) ^ 52 = 4503599627370496 by decide]; exact hf)
  rw [e2] at h2
  have h3 : bits BinOp.andNot IntKind.u64 ((E * 4503599627370496 + f : Nat) : Int) 9218868437227405312 = (f : Int) := h1
  have h4 : ((X : Int) * 4503599627370496) = ((X * 4503599627370496 : Nat) : Int) := by omega
  rw [h3, h4, h2]; exact Int.toNat_natCast _

theorem one_fields : fin 4607182418800017408 ∧ ng 4607182418800017408 = false ∧ sig (mg 4607182418800017408) = 2 ^ 52 ∧ ex (mg 4607182418800017408) = 1022 := ⟨by unfold fin; decide, by decide, by decide, by decide⟩
theorem tiny_fields : fin 4368491638549381120 ∧ ng 4368491638549381120 = false ∧ sig (mg 4368491638549381120) = 2 ^ 52 ∧ ex (mg 4368491638549381120) = 969 := ⟨by unfold fin; decide, by decide, by decide, by decide⟩
end Go.Proofs.Ytmhplaanpbpndaa

namespace Go.Proofs.Ytmhplaanpbpndaa
open Fl

theorem nearest_nr (s : Bool) (m : Nat) (p : Int) : Ieee.double.nearest s m p = Ieee.double.word s (nr m p) := by
  obtain ⟨r, hr, e⟩ := nearest_word m p
  unfold nr
  rw [e, e, word_false]
theorem nr_bd (m : Nat) (p : Int) : nr m p < 9223372036854775808 := by have := nr_lim m p; omega
theorem mul_gen {x y : Nat} (hx : fin x) (hy : fin y) : mulO x y = some (Ieee.double.word (ng x ^^ ng y) (nr (sz (mg x) * sz (mg y)) (-2148))) := by
  rw [mul_eq hx hy, nearest_nr, ← nr_shift _ (ex (mg x) + ex (mg y))]
  have e1 : sig (mg x) * sig (mg y) * 2 ^ (ex (mg x) + ex (mg y)) = sz (mg x) * sz (mg y) := by unfold sz; rw [Nat.pow_add]; ac_rfl
  have e2 : (-1074 + (ex (mg x) : Int) + (-1074 + (ex (mg y) : Int)) - ((ex (mg x) + ex (mg y) : Nat) : Int)) = -2148 := by omega
  rw [e1, e2]
def dq (l g : Nat) : Nat := nr (2 * (sig l * 2 ^ (54 + (sig g).log2 - (sig l).log2) / sig g) + (sig l * 2 ^ (54 + (sig g).log2 - (sig l).log2) % sig g != 0).toNat) ((ex l : Int) - (ex g : Int) - ((54 + (sig g).log2 - (sig l).log2 : Nat) : Int) - 1)
theorem div_gen {x y : Nat} (hx : fin x) (hy : fin y) (h0 : ¬ sig (mg y) = 0) : divO x y = some (Ieee.double.word (ng x ^^ ng y) (dq (mg x) (mg y))) := by
  unfold divO Ieee.Format.div dq
  rw [read_fin x hx, read_fin y hy]
  simp only [Ieee.Datum.quotient, h0, if_false, Option.map_some, Nat.shiftLeft_eq]
  have e0 : Ieee.double.fractionBits + 2 + (sig (mg y)).log2 - (sig (mg x)).log2 = 54 + (sig (mg y)).log2 - (sig (mg x)).log2 := rfl
  rw [e0]
  generalize 54 + (sig (mg y)).log2 - (sig (mg x)).log2 = M
  have e1 : (-1074 + (ex (mg x) : Int) - (-1074 + (ex (mg y) : Int)) - (M : Int) - 1) = (ex (mg x) : Int) - (ex (mg y) : Int) - (M : Int) - 1 := by omega
  rw [e1]
  show some (Ieee.double.nearest _ _ _) = _
  rw [nearest_nr]
theorem add_gen {x y : Nat} (hx : fin x) (hy : fin y) : addO x y = some (Ieee.double.word (if val x + val y = 0 then (ng x && ng y) else decide (val x + val y < 0)) (nr (val x + val y).natAbs (-1074))) := by
  unfold addO Ieee.Format.add
  rw [read_fin x hx, read_fin y hy]
  simp only [Ieee.Datum.sum, signed_eq, Option.map_some]
  obtain ⟨b, hb⟩ : ∃ b : Nat, b = min (ex (mg x)) (ex (mg y)) := ⟨_, rfl⟩
  have e1 : min (-1074 + (ex (mg x) : Int)) (-1074 + (ex (mg y) : Int)) = -1074 + (b : Int) := by omega
  have e2 : (-1074 + (ex (mg x) : Int) - (-1074 + (b : Int))).toNat = ex (mg x) - b := by omega
  have e3 : (-1074 + (ex (mg y) : Int) - (-1074 + (b : Int))).toNat = ex (mg y) - b := by omega
  rw [e1, e2, e3]
  have v1 : val x = sgn (ng x) (sig (mg x) * 2 ^ (ex (mg x) - b)) * ((2 ^ b : Nat) : Int) := by
    unfold val sz; rw [← sgn_mul, Nat.mul_assoc, ← Nat.pow_add, Nat.sub_add_cancel (by omega)]
  have v2 : val y = sgn (ng y) (sig (mg y) * 2 ^ (ex (mg y) - b)) * ((2 ^ b : Nat) : Int) := by
    unfold val sz; rw [← sgn_mul, Nat.mul_assoc, ← Nat.pow_add, Nat.sub_add_cancel (by omega)]
  generalize sgn (ng x) (sig (mg x) * 2 ^ (ex (mg x) - b)) = u at *
  generalize sgn (ng y) (sig (mg y) * 2 ^ (ex (mg y) - b)) = v at *
  have hv : val x + val y = (u + v) * ((2 ^ b : Nat) : Int) := by rw [v1, v2, Int.add_mul]
  have hp : (0 : Int) < ((2 ^ b : Nat) : Int) := by have := Nat.two_pow_pos b; omega
  have c1 : (val x + val y = 0) ↔ (u + v = 0) := by
    rw [hv]; constructor
    · intro h; rcases Int.mul_eq_zero.1 h with h | h
      · exact h
      · omega
    · intro h; rw [h, Int.zero_mul]
  have c2 : (val x + val y < 0) ↔ (u + v < 0) := by
    rw [hv]; constructor
    · intro h
      rcases Int.lt_or_le (u + v) 0 with h1 | h1
      · exact h1
      · have := Int.mul_nonneg h1 (Int.le_of_lt hp); omega
    · intro h; exact Int.mul_neg_of_neg_of_pos h hp
  have c3 : (val x + val y).natAbs = (u + v).natAbs * 2 ^ b := by rw [hv, Int.natAbs_mul, Int.natAbs_natCast]
  show some (Ieee.double.nearest _ _ _) = _
  rw [nearest_nr, c3, ← nr_shift _ b]
  have e4 : (-1074 + (b : Int) - (b : Int)) = -1074 := by omega
  rw [e4]
  congr 2
  by_cases h0 : u + v = 0
  · rw [if_pos h0, if_pos (c1.2 h0)]
  · rw [if_neg h0, if_neg (fun h => h0 (c1.1 h))]
    by_cases h1 : u + v < 0
    · rw [decide_eq_true h1, decide_eq_true (c2.2 h1)]
    · rw [decide_eq_false h1, decide_eq_false (fun h => h1 (c2.1 h))]

/-- Rounding and powers of two. -/
theorem rn_hom (n j : Nat) : rn (n * 2 ^ j) = rn n * 2 ^ j := by
  rcases Nat.eq_zero_or_pos n with h0 | h0
  · subst h0; rw [Nat.zero_mul]; have : rn 0 = 0 := by decide
    rw [this, Nat.zero_mul]
  · rcases Nat.lt_or_ge n 9007199254740992 with h | h
    · rw [rn_small h]; exact rn_exact ⟨n, j, rfl, h⟩
    · have hd := (dig_pos h).1
      have hl : (n * 2 ^ j).log2 = n.log2 + j := log2_mul n j h0
      have e : dig (n * 2 ^ j) = dig n + j := by unfold dig at *; rw [hl]; omega
      unfold rn
      rw [e, rne_scale n j (dig n + j) (by omega), Nat.add_sub_cancel, Nat.pow_add, Nat.mul_assoc]
theorem nr_unit {n : Nat} (h : rn n < szI) : nr n (-1074) < 9218868437227405312 ∧ sz (nr n (-1074)) = rn n := by
  have e := nearest_eq false n 0
  have hl : rung n < 9218868437227405312 := rung_lt h
  rw [Nat.pow_zero, Nat.mul_one, Nat.min_eq_left (Nat.le_of_lt hl), word_false] at e
  have e0 : (-1074 + ((0 : Nat) : Int)) = -1074 := by omega
  rw [e0] at e
  have e2 : nr n (-1074) = rung n := by unfold nr; exact e
  rw [e2]
  exact ⟨hl, sz_rung n⟩
/-- Above the least normal ones a power of two moves the rung. -/
theorem nr_up {m : Nat} (h : 0 < m) {p : Int} (e : Nat) (hn : -1074 ≤ p + (m.log2 : Int) - 52) (hi : nr m (p + (e : Int)) < 9218868437227405312) : nr m (p + (e : Int)) = nr m p + e * 4503599627370496 ∧ 4503599627370496 ≤ nr m p := by
  have hb := log2_bd h
  have h1 := nr_eq h (p := p) (L := p + (m.log2 : Int) - 52) (by omega)
  have h2 := nr_eq h (p := p + (e : Int)) (L := p + (e : Int) + (m.log2 : Int) - 52) (by omega)
  have e1 : (p + (e : Int) - (p + (e : Int) + (m.log2 : Int) - 52)) = (p - (p + (m.log2 : Int) - 52)) := by omega
  have e2 : (p + (e : Int) + (m.log2 : Int) - 52 - (p + (e : Int))) = (p + (m.log2 : Int) - 52 - p) := by omega
  have e3 : (p + (e : Int) + (m.log2 : Int) - 52 + 1074).toNat = (p + (m.log2 : Int) - 52 + 1074).toNat + e := by omega
  rw [e1, e2, e3] at h2
  have hge : 4503599627370496 ≤ rne (m * 2 ^ (p - (p + (m.log2 : Int) - 52)).toNat) (p + (m.log2 : Int) - 52 - p).toNat := by
    have e52 : (2 : Nat) ^ 52 = 4503599627370496 := by decide
    rw [← e52]
    apply rne_ge
    have h3 : 2 ^ m.log2 * 2 ^ (p - (p + (m.log2 : Int) - 52)).toNat ≤ m * 2 ^ (p - (p + (m.log2 : Int) - 52)).toNat := Nat.mul_le_mul_right _ hb.1
    rw [← Nat.pow_add] at h3
    refine Nat.le_trans (Nat.pow_le_pow_right (by omega) ?_) h3
    omega
  generalize rne (m * 2 ^ (p - (p + (m.log2 : Int) - 52)).toNat) (p + (m.log2 : Int) - 52 - p).toNat = Q at *
  generalize (p + (m.log2 : Int) - 52 + 1074).toNat = c at *
  rw [h2] at hi ⊢
  rw [h1]
  have k1 : (c + e) * 4503599627370496 + Q < 9218868437227405312 := by
    rcases Nat.lt_or_ge ((c + e) * 4503599627370496 + Q) 9218868437227405312 with h | h
    · exact h
    · rw [Nat.min_eq_right h] at hi; exact absurd hi (Nat.lt_irrefl _)
  have k2 : (c + e) * 4503599627370496 + Q = c * 4503599627370496 + Q + e * 4503599627370496 := by rw [Nat.add_mul, Nat.add_right_comm]
  have k3 : c * 4503599627370496 + Q < 9218868437227405312 := Nat.lt_of_le_of_lt (by rw [k2]; exact Nat.le_add_right _ _) k1
  rw [Nat.min_eq_left (Nat.le_of_lt k1), Nat.min_eq_left (Nat.le_of_lt k3), k2]
  exact ⟨rfl, Nat.le_trans hge (Nat.le_add_left _ _)⟩
theorem sz_up {r : Nat} (e : Nat) (h : 4503599627370496 ≤ r) : sz (r + e * 4503599627370496) = sz r * 2 ^ e := by
  have h1 : sig (r + e * 4503599627370496) = sig r := by unfold sig; rw [if_neg (by omega), if_neg (by omega)]; omega
  have h2 : ex (r + e * 4503599627370496) = ex r + e := by unfold ex; omega
  unfold sz; rw [h1, h2, Nat.pow_add, Nat.mul_assoc]

/-- x' is x times 2 to the power k - 128. -/
def sc (k x x' : Nat) : Prop := fin x ∧ fin x' ∧ ng x' = ng x ∧ sz (mg x') * 2 ^ 128 = sz (mg x) * 2 ^ k
theorem sc.val {k x x' : Nat} (h : sc k x x') : val x' * ((2 ^ 128 : Nat) : Int) = val x * ((2 ^ k : Nat) : Int) := by
  obtain ⟨_, _, h3, h4⟩ := h
  unfold Fl.val; rw [h3, ← sgn_mul, ← sgn_mul, h4]
theorem sc.uniq {k x y y' : Nat} (h : sc k x y) (h' : sc k x y') : Fl.val y = Fl.val y' := by
  have h1 := h.2.2.2.trans h'.2.2.2.symm
  have h2 := Nat.eq_of_mul_eq_mul_right (Nat.two_pow_pos 128) h1
  unfold Fl.val; rw [h.2.2.1, h'.2.2.1, h2]
theorem sc.ng {k x x' : Nat} (h : sc k x x') (hx : x < 18446744073709551616) (hx' : x' < 18446744073709551616) : sc k (ngW x) (ngW x') := by
  obtain ⟨h1, h2, h3, h4⟩ := h
  refine ⟨by unfold Fl.fin; rw [mg_ngW hx]; exact h1, by unfold Fl.fin; rw [mg_ngW hx']; exact h2, by rw [ng_ngW hx, ng_ngW hx', h3], by rw [mg_ngW hx, mg_ngW hx']; exact h4⟩
theorem sc_word {k a b : Nat} (s : Bool) (ha : a < 9218868437227405312) (hb : b < 9218868437227405312) (h : sz b * 2 ^ 128 = sz a * 2 ^ k) : sc k (Ieee.double.word s a) (Ieee.double.word s b) := by
  have m1 := word_mg s (r := a) (by omega)
  have m2 := word_mg s (r := b) (by omega)
  refine ⟨by unfold Fl.fin; rw [m1]; exact ha, by unfold Fl.fin; rw [m2]; exact hb, by rw [word_ng s (by omega), word_ng s (by omega)], by rw [m1, m2]; exact h⟩
theorem sc_add {k x x' y y' : Nat} (hx : sc k x x') (hy : sc k y y') (b : rn (val x + val y).natAbs < szI) (b' : rn (val x' + val y').natAbs < szI) :
    ∃ r r', addO x y = some r ∧ addO x' y' = some r' ∧ sc k r r' ∧ val r = rnI (val x + val y) := by
  have e1 := add_gen hx.1 hy.1
  have e2 := add_gen hx.2.1 hy.2.1
  have hv : (val x' + val y') * ((2 ^ 128 : Nat) : Int) = (val x + val y) * ((2 ^ k : Nat) : Int) := by rw [Int.add_mul, Int.add_mul, hx.val, hy.val]
  have p1 : (0 : Int) < ((2 ^ 128 : Nat) : Int) := by have := Nat.two_pow_pos 128; omega
  have p2 : (0 : Int) < ((2 ^ k : Nat) : Int) := by have := Nat.two_pow_pos k; omega
  have hs : (if val x' + val y' = 0 then (ng x' && ng y') else decide (val x' + val y' < 0)) = (if val x + val y = 0 then (ng x && ng y) else decide (val x + val y < 0)) := by
    rw [hx.2.2.1, hy.2.2.1]
    generalize val x' + val y' = a at *
    generalize val x + val y = c at *
    have c1 : a = 0 ↔ c = 0 := by
      constructor
      · intro h; rw [h, Int.zero_mul] at hv; rcases Int.mul_eq_zero.1 hv.symm with h | h
        · exact h
        · omega
      · intro h; rw [h, Int.zero_mul] at hv; rcases Int.mul_eq_zero.1 hv with h | h
        · exact h
        · omega
    have c2 : a < 0 ↔ c < 0 := by
      constructor
      · intro h
        have := Int.mul_neg_of_neg_of_pos h p1
        rw [hv] at this
        rcases Int.lt_or_le c 0 with h1 | h1
        · exact h1
        · have := Int.mul_nonneg h1 (Int.le_of_lt p2); omega
      · intro h
        have := Int.mul_neg_of_neg_of_pos h p2
        rw [← hv] at this
        rcases Int.lt_or_le a 0 with h1 | h1
        · exact h1
        · have := Int.mul_nonneg h1 (Int.le_of_lt p1); omega
    by_cases h0 : c = 0
    · rw [if_pos h0, if_pos (c1.2 h0)]
    · rw [if_neg h0, if_neg (fun h => h0 (c1.1 h))]
      by_cases h1 : c < 0
      · rw [decide_eq_true h1, decide_eq_true (c2.2 h1)]
      · rw [decide_eq_false h1, decide_eq_false (fun h => h1 (c2.1 h))]
  rw [hs] at e2
  obtain ⟨l1, z1⟩ := nr_unit b
  obtain ⟨l2, z2⟩ := nr_unit b'
  have hn : (val x' + val y').natAbs * 2 ^ 128 = (val x + val y).natAbs * 2 ^ k := by
    have := congrArg Int.natAbs hv
    rw [Int.natAbs_mul, Int.natAbs_mul, Int.natAbs_natCast, Int.natAbs_natCast] at this
    exact this
  refine ⟨_, _, e1, e2, sc_word _ l1 l2 ?_, ?_⟩
  · rw [z1, z2, ← rn_hom, ← rn_hom, hn]
  · rw [word_val _ (by omega), z1]
    exact sgn_rn _ _ (fun h => by rw [if_neg h])
end Go.Proofs.Ytmhplaanpbpndaa
