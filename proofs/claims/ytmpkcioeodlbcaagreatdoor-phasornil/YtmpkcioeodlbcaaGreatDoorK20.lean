/-
  Several texts in one: Bt Pt Pa Pd Pe Pl Mr Mono Ldt Tw Plc Ela Tu Tw0 Ya Yb.
-/
import Derived.Test.YtmpkcioeodlbcaaGreatDoorChecked
import Derived.Test.YtmpkcioeodlbcaaGreatDoorK19
import Derived.WalkKit
import Derived.WalkLawsBesides
import Derived.Test.YtmpkcioeodlbcaaGreatDoorK18
import Derived.RegionTactic
import Derived.BigRegion
namespace Go.Proofs.YtmpkcioeodlbcaaGreatDoor
open Fl
@[go_sem] theorem run_bits (x : Nat) (w : World) : (callFunc 91 #[.float .f64 x]).run Tryz.prog w = .ok (.value (.int .u64 (x : Int))) w := by
  rw [run_callFunc_extern Tryz.func91 (by kernel_rfl) (by kernel_rfl) (by kernel_rfl) (e := Extern.MathFloatBits.float64bits) (by kernel_rfl)]
  rfl
@[go_sem] theorem run_frombits (x : Int) (w : World) : (callFunc 19 #[.int .u64 x]).run Tryz.prog w = .ok (.value (.float .f64 x.toNat)) w := by
  rw [run_callFunc_extern Tryz.func19 (by kernel_rfl) (by kernel_rfl) (by kernel_rfl) (e := Extern.MathFloatBits.float64frombits) (by kernel_rfl)]
  rfl
@[go_sem] theorem run_negFloat (b : Nat) (w : World) : (Op.unary UnOp.neg (.float .f64 b)).run Tryz.prog w = .ok (.float .f64 (Op.negFloat .f64 b)) w := rfl
def smB (a b : Nat) : Bool := if nan a || nan b then nan a && nan b else a == b
theorem smB_self (x : Nat) : smB x x = true := by unfold smB; cases nan x <;> simp
def eqB (x y : Nat) : Bool := FloatKind.f64.format.order x y == some .eq
def finB (x : Nat) : Bool := decide (mg x < 9218868437227405312)
theorem retf {a b : Nat} (h : a = b) : Ending.returned (.float .f64 a) = .returned (.float .f64 b) := by rw [h]
theorem retb {a b : Bool} (h : a = b) : Ending.returned (.bool a) = .returned (.bool b) := by rw [h]

theorem andNot_sign (x : Nat) (hx : x < 18446744073709551616) : bits BinOp.andNot IntKind.u64 (x : Int) 9223372036854775808 = ((mg x : Nat) : Int) := by
  have h := u64_andNot_nat x 9223372036854775808 hx (by omega)
  have h2 := Nat.and_two_pow_sub_one_eq_mod x 63
  rw [show (2 : Nat) ^ 63 - 1 = 18446744073709551615 - 9223372036854775808 from rfl, show (2 : Nat) ^ 63 = 9223372036854775808 from rfl] at h2
  rw [h2] at h; exact h
theorem and_power (x : Nat) (hx : x < 18446744073709551616) : bits BinOp.and IntKind.u64 (x : Int) 9218868437227405312 = ((mg x / 4503599627370496 * 4503599627370496 : Nat) : Int) := by
  have h := u64_and_nat x 9218868437227405312 hx (by omega)
  have e : x &&& 9218868437227405312 = mg x / 4503599627370496 * 4503599627370496 := by
    have h1 : (9218868437227405312 : Nat) = 2047 <<< 52 := by decide
    have h2 : x &&& 9218868437227405312 = ((x >>> 52) &&& 2047) <<< 52 := by
      rw [h1]
      apply Nat.eq_of_testBit_eq
      intro i
      rw [Nat.testBit_and, Nat.testBit_shiftLeft, Nat.testBit_shiftLeft, Nat.testBit_and, Nat.testBit_shiftRight]
      by_cases hi : 52 ≤ i
      · simp only [hi, decide_true, Bool.true_and, show 52 + (i - 52) = i by omega]
      · simp [hi]
    rw [h2, show (2047 : Nat) = 2 ^ 11 - 1 from rfl, Nat.and_two_pow_sub_one_eq_mod, Nat.shiftRight_eq_div_pow, Nat.shiftLeft_eq]
    unfold mg
    omega
  rw [e] at h; exact h

theorem size_any (x : Nat) (w : World) (hx : x < 18446744073709551616) : Calls Tryz.prog 170 #[.float .f64 x] w fun e w' => e = .returned (.float .f64 (mg x)) ∧ w' = w := by
  have ha := andNot_sign x hx
  go_enter Tryz.func170, Tryz.ntmps170
  go_wp2
  go_ret
  exact ⟨retf (by simp), rfl⟩
theorem finite_any (x : Nat) (w : World) (hx : x < 18446744073709551616) : Calls Tryz.prog 93 #[.float .f64 x] w fun e w' => e = .returned (.bool (finB x)) ∧ w' = w := by
  have ha := and_power x hx
  have hm := mg_bd x
  have hk : (((mg x / 4503599627370496 * 4503599627370496 : Nat) : Int) != 9218868437227405312) = finB x := by
    unfold finB
    by_cases h : mg x < 9218868437227405312
    · rw [decide_eq_true h]; exact bne_iff_ne.2 (by omega)
    · rw [decide_eq_false h]; simp; omega
  go_enter Tryz.func93, Tryz.ntmps93
  go_wp2
  go_ret
  exact ⟨retb hk, rfl⟩
end Go.Proofs.YtmpkcioeodlbcaaGreatDoor
namespace Go.Proofs.YtmpkcioeodlbcaaGreatDoor
open Fl
theorem retc {a b c d : Nat} (h : a = b) (h2 : c = d) : Ending.returned (.complex .f64 a c) = .returned (.complex .f64 b d) := by rw [h, h2]

section small
variable (a b c d : Nat) (w : World)
theorem apart_any : Calls Tryz.prog 89 #[.complex .f64 a b] w fun e w' => e = .returned (.tuple #[.float .f64 a, .float .f64 b]) ∧ w' = w := by
  go_enter Tryz.func89, Tryz.ntmps89
  go_wp2
  go_ret2
  exact ⟨rfl, rfl⟩
theorem fin_any (ha : a < 18446744073709551616) (hb : b < 18446744073709551616) : Calls Tryz.prog 59 #[.complex .f64 a b] w fun e w' => e = .returned (.bool (finB a && finB b)) ∧ w' = w := by
  cases h1 : finB a <;> cases h2 : finB b
  all_goals
    go_enter Tryz.func59, Tryz.ntmps59
    go_wp2_with (first | (go_at_call 93; refine (finite_any _ _ (by assumption)).mono ?_; rintro e w' ⟨rfl, rfl⟩))
    go_ret
    exact ⟨rfl, rfl⟩
end small
end Go.Proofs.YtmpkcioeodlbcaaGreatDoor
namespace Go.Proofs.YtmpkcioeodlbcaaGreatDoor
open Fl
/-- Products, quotients. -/
def mulRe (A B C D : Option Nat) : Option Nat := subA (mulA A C) (mulA B D)
def mulIm (A B C D : Option Nat) : Option Nat := addA (mulA A D) (mulA B C)
def geA (C D : Option Nat) : Bool := ordA C D == some .gt || ordA C D == some .eq
def divRe1 (A B C D : Option Nat) : Option Nat := divA (addA A (mulA B (divA D C))) (addA C (mulA D (divA D C)))
def divIm1 (A B C D : Option Nat) : Option Nat := divA (subA B (mulA A (divA D C))) (addA C (mulA D (divA D C)))
def divRe2 (A B C D : Option Nat) : Option Nat := divA (addA (mulA A (divA C D)) B) (addA (mulA C (divA C D)) D)
def divIm2 (A B C D : Option Nat) : Option Nat := divA (subA (mulA B (divA C D)) A) (addA (mulA C (divA C D)) D)
def divRe (A B C D : Option Nat) : Option Nat := if geA (sizA C) (sizA D) then divRe1 A B C D else divRe2 A B C D
def divIm (A B C D : Option Nat) : Option Nat := if geA (sizA C) (sizA D) then divIm1 A B C D else divIm2 A B C D

section one
variable (a b c d : Nat) (w : World)
end one
section two
variable {A B C D X : Option Nat} {a b c d x : Nat} (w : World) (ha : rep A a) (hb : rep B b) (hc : rep C c) (hd : rep D d) (hx : rep X x)
include ha hb
include hc hd
theorem add_any : Calls Tryz.prog 129 #[.complex .f64 a b, .complex .f64 c d] w fun e w' => ∃ re im n, e = .returned (.complex .f64 re im) ∧ rep (addA A C) re ∧ rep (addA B D) im ∧ w' = w.drewN n := by
  go_enter Tryz.func129, Tryz.ntmps129
  go_wp2_with (first | (go_at_call 89; refine (apart_any _ _ _).mono ?_; rintro e w' ⟨rfl, rfl⟩))
  go_ret
  exact ⟨_, _, _, rfl, rep_add ha hc _, rep_add hb hd _, rfl⟩
theorem sub_any : Calls Tryz.prog 47 #[.complex .f64 a b, .complex .f64 c d] w fun e w' => ∃ re im n, e = .returned (.complex .f64 re im) ∧ rep (subA A C) re ∧ rep (subA B D) im ∧ w' = w.drewN n := by
  go_enter Tryz.func47, Tryz.ntmps47
  go_wp2_with (first | (go_at_call 89; refine (apart_any _ _ _).mono ?_; rintro e w' ⟨rfl, rfl⟩))
  go_ret
  exact ⟨_, _, _, rfl, rep_sub ha hc _, rep_sub hb hd _, rfl⟩
theorem mul_any : Calls Tryz.prog 215 #[.complex .f64 a b, .complex .f64 c d] w fun e w' => ∃ re im n, e = .returned (.complex .f64 re im) ∧ rep (mulRe A B C D) re ∧ rep (mulIm A B C D) im ∧ w' = w.drewN n := by
  go_enter Tryz.func215, Tryz.ntmps215
  go_wp2_with (first | (go_at_call 89; refine (apart_any _ _ _).mono ?_; rintro e w' ⟨rfl, rfl⟩))
  go_ret
  exact ⟨_, _, _, rfl, rep_sub (rep_mul ha hc _) (rep_mul hb hd _) _, rep_add (rep_mul ha hd _) (rep_mul hb hc _) _, rfl⟩
end two
end Go.Proofs.YtmpkcioeodlbcaaGreatDoor
namespace Go.Proofs.YtmpkcioeodlbcaaGreatDoor
open Fl
section two
variable {A B C D X : Option Nat} {a b c d x : Nat} (w : World) (ha : rep A a) (hb : rep B b) (hc : rep C c) (hd : rep D d) (hx : rep X x)
include ha hb hc hd
set_option maxHeartbeats 1000000 in
theorem div_any : Calls Tryz.prog 188 #[.complex .f64 a b, .complex .f64 c d] w fun e w' => ∃ re im n, e = .returned (.complex .f64 re im) ∧ rep (divRe A B C D) re ∧ rep (divIm A B C D) im ∧ w' = w.drewN n := by
  have lc := hc.1
  have ld := hd.1
  have ho := ordA_of (rep_sz hc) (rep_sz hd)
  have h1 := fun W => rep_div hd hc W
  have h2 := fun W => rep_div hc hd W
  cases e1 : (ordA (sizA C) (sizA D) == some Ordering.gt)
  · cases e2 : (ordA (sizA C) (sizA D) == some Ordering.eq)
    · have hg : geA (sizA C) (sizA D) = false := by unfold geA; rw [e1, e2]; rfl
      go_enter Tryz.func188, Tryz.ntmps188
      go_wp2_with (first
      | (go_at_call 89; refine (apart_any _ _ _).mono ?_; rintro e w' ⟨rfl, rfl⟩)
      | (go_at_call 170; refine (size_any _ _ (by assumption)).mono ?_; rintro e w' ⟨rfl, rfl⟩))
      go_ret
      refine ⟨_, _, _, rfl, ?_, ?_, rfl⟩
      · simp only [divRe, divRe2, hg, Bool.false_eq_true, if_false]
        exact rep_div (rep_add (rep_mul ha (h2 _) _) hb _) (rep_add (rep_mul hc (h2 _) _) hd _) _
      · simp only [divIm, divIm2, hg, Bool.false_eq_true, if_false]
        exact rep_div (rep_sub (rep_mul hb (h2 _) _) ha _) (rep_add (rep_mul hc (h2 _) _) hd _) _
    · have hg : geA (sizA C) (sizA D) = true := by unfold geA; rw [e1, e2]; rfl
      go_enter Tryz.func188, Tryz.ntmps188
      go_wp2_with (first
      | (go_at_call 89; refine (apart_any _ _ _).mono ?_; rintro e w' ⟨rfl, rfl⟩)
      | (go_at_call 170; refine (size_any _ _ (by assumption)).mono ?_; rintro e w' ⟨rfl, rfl⟩))
      go_ret
      refine ⟨_, _, _, rfl, ?_, ?_, rfl⟩
      · simp only [divRe, divRe1, hg, if_true]
        exact rep_div (rep_add ha (rep_mul hb (h1 _) _) _) (rep_add hc (rep_mul hd (h1 _) _) _) _
      · simp only [divIm, divIm1, hg, if_true]
        exact rep_div (rep_sub hb (rep_mul ha (h1 _) _) _) (rep_add hc (rep_mul hd (h1 _) _) _) _
  · have hg : geA (sizA C) (sizA D) = true := by unfold geA; rw [e1]; rfl
    go_enter Tryz.func188, Tryz.ntmps188
    go_wp2_with (first
      | (go_at_call 89; refine (apart_any _ _ _).mono ?_; rintro e w' ⟨rfl, rfl⟩)
      | (go_at_call 170; refine (size_any _ _ (by assumption)).mono ?_; rintro e w' ⟨rfl, rfl⟩))
    go_ret
    refine ⟨_, _, _, rfl, ?_, ?_, rfl⟩
    · simp only [divRe, divRe1, hg, if_true]
      exact rep_div (rep_add ha (rep_mul hb (h1 _) _) _) (rep_add hc (rep_mul hd (h1 _) _) _) _
    · simp only [divIm, divIm1, hg, if_true]
      exact rep_div (rep_sub hb (rep_mul ha (h1 _) _) _) (rep_add hc (rep_mul hd (h1 _) _) _) _
end two
end Go.Proofs.YtmpkcioeodlbcaaGreatDoor
namespace Go.Proofs.YtmpkcioeodlbcaaGreatDoor
open Fl
theorem plc_mg (x : Nat) : plc (mg x) = mg x := by
  have h := mg_bd x
  have h2 : ng (mg x) = false := by unfold ng; rw [Nat.div_eq_of_lt h]; rfl
  unfold plc; rw [h2, mg_mg]; rfl
theorem rep_num {x : Nat} (h : x < 18446744073709551616) (hn : nan x = false) : rep (some x) x := ⟨h, ans_num hn⟩
theorem rep_0 : rep (some 0) 0 := rep_num (by decide) (by decide)
section two
variable {A B X : Option Nat} {a b x : Nat} (w : World) (ha : rep A a) (hb : rep B b) (hx : rep X x)
include ha hb
theorem size1_any : Calls Tryz.prog 130 #[.complex .f64 a b] w fun e w' => ∃ r n, e = .returned (.float .f64 r) ∧ rep (addA (sizA A) (sizA B)) r ∧ w' = w.drewN n := by
  have la := ha.1
  have lb := hb.1
  go_enter Tryz.func130, Tryz.ntmps130
  go_wp2_with (first
    | (go_at_call 89; refine (apart_any _ _ _).mono ?_; rintro e w' ⟨rfl, rfl⟩)
    | (go_at_call 170; refine (size_any _ _ (by assumption)).mono ?_; rintro e w' ⟨rfl, rfl⟩))
  go_ret
  exact ⟨_, _, rfl, rep_add (rep_sz ha) (rep_sz hb) _, rfl⟩
include hx in
theorem scale_any : Calls Tryz.prog 199 #[.float .f64 x, .complex .f64 a b] w fun e w' => ∃ re im n, e = .returned (.complex .f64 re im) ∧ rep (mulA X A) re ∧ rep (mulA X B) im ∧ w' = w.drewN n := by
  go_enter Tryz.func199, Tryz.ntmps199
  go_wp2_with (first
    | (go_at_call 89; refine (apart_any _ _ _).mono ?_; rintro e w' ⟨rfl, rfl⟩))
  go_ret
  exact ⟨_, _, _, rfl, rep_mul hx ha _, rep_mul hx hb _, rfl⟩
end two
end Go.Proofs.YtmpkcioeodlbcaaGreatDoor
namespace Go.Proofs.YtmpkcioeodlbcaaGreatDoor
open Fl RowKit
theorem rep_is {o : Option Nat} {x c : Nat} (h : rep o x) (e : o = some c) : x = c := by
  obtain ⟨_, h⟩ := h
  rw [e] at h
  exact (ans_some h).2
theorem drewN_drewN (w : World) (a b : Nat) : (w.drewN a).drewN b = w.drewN (a + b) := by simp
theorem below_drewN {n : Nat} {w w' : World} (h : Below n w w') (k : Nat) : Below n w (w'.drewN k) := by
  obtain ⟨h1, h2, h3, h4, h5⟩ := h
  exact ⟨h1, h2, h3, h4, h5⟩
theorem bt {a b c : World} (h : Below a.heap.size a b) (k : Below b.heap.size b c) : Below a.heap.size a c := h.trans (k.mono h.size)
theorem below_self (w : World) : Below w.heap.size w w := Below.refl _ _
end Go.Proofs.YtmpkcioeodlbcaaGreatDoor
namespace Go.Proofs.YtmpkcioeodlbcaaGreatDoor
open Fl
/-- A finite number times 1. -/
theorem nearest_shift (s : Bool) (m k : Nat) (p : Int) : Ieee.double.nearest s (m * 2 ^ k) (p - (k : Int)) = Ieee.double.nearest s m p := by
  by_cases h0 : m = 0
  · subst h0; rw [Nat.zero_mul, nearest_zero, nearest_zero]
  · have hm : 0 < m := by omega
    have hmk : ¬ m * 2 ^ k = 0 := Nat.ne_of_gt (Nat.mul_pos hm (Nat.two_pow_pos _))
    unfold Ieee.Format.nearest
    rw [if_neg h0, if_neg hmk]
    simp only [d_least, d_bin, d_inf, cut_rne, Nat.shiftLeft_eq, log2_mul m k hm]
    have hl : p - (k : Int) + ((m.log2 + k : Nat) : Int) - (Ieee.double.fractionBits : Int) = p + (m.log2 : Int) - (Ieee.double.fractionBits : Int) := by omega
    rw [hl]
    generalize max (p + (m.log2 : Int) - (Ieee.double.fractionBits : Int)) (-1074) = L
    congr 3
    rcases Int.lt_or_le (p - (k : Int)) L with h1 | h1
    · rcases Int.lt_or_le p L with h2 | h2
      · have e1 : (p - (k : Int) - L).toNat = 0 := by omega
        have e2 : (p - L).toNat = 0 := by omega
        have e3 : (L - (p - (k : Int))).toNat = (L - p).toNat + k := by omega
        rw [e1, e2, e3, Nat.pow_zero, Nat.mul_one, Nat.mul_one, rne_scale m k _ (by omega), Nat.add_sub_cancel]
      · have e1 : (p - (k : Int) - L).toNat = 0 := by omega
        have e3 : (L - p).toNat = 0 := by omega
        have e4 : k = (p - L).toNat + (L - (p - (k : Int))).toNat := by omega
        rw [e1, e3, Nat.pow_zero, Nat.mul_one]
        generalize (L - (p - (k : Int))).toNat = d at *
        rw [e4, Nat.pow_add, ← Nat.mul_assoc, rne_scale _ d d (Nat.le_refl _), Nat.sub_self]
    · have e1 : (L - (p - (k : Int))).toNat = 0 := by omega
      have e2 : (L - p).toNat = 0 := by omega
      have e3 : (p - L).toNat = k + (p - (k : Int) - L).toNat := by omega
      rw [e1, e2, e3, Nat.pow_add, Nat.mul_assoc]
theorem rung_sz (r : Nat) : rung (sz r) = r := by
  apply sz_inj
  rw [sz_rung]
  exact rn_exact ⟨sig r, ex r, rfl, sig_lt r⟩
theorem word_self {x : Nat} (h : x < 18446744073709551616) : Ieee.double.word (ng x) (mg x) = x := by
  unfold Ieee.Format.word ng mg; rw [d_sw]
  rcases Nat.mod_two_eq_zero_or_one (x / 9223372036854775808) with h2 | h2
  · rw [h2]; simp only [show ((0 : Nat) == 1) = false from rfl, Bool.false_eq_true, if_false]; omega
  · rw [h2]; simp only [beq_self_eq_true, if_true]; omega
theorem nearest_read {x : Nat} (hx : fin x) (h : x < 18446744073709551616) : Ieee.double.nearest (ng x) (sig (mg x)) (-1074 + (ex (mg x) : Int)) = x := by
  rw [nearest_eq]
  have e : sig (mg x) * 2 ^ ex (mg x) = sz (mg x) := rfl
  rw [e, rung_sz, Nat.min_eq_left (by unfold fin at hx; omega), word_self h]
theorem mul_one {x : Nat} (hx : fin x) (h : x < 18446744073709551616) : mulO x 4607182418800017408 = some x := by
  rw [mul_eq hx (by unfold fin; decide)]
  have e1 : ng 4607182418800017408 = false := by decide
  have e2 : sig (mg 4607182418800017408) = 2 ^ 52 := by decide
  have e3 : ex (mg 4607182418800017408) = 1022 := by decide
  rw [e1, e2, e3, Bool.xor_false]
  have e4 : (-1074 + (ex (mg x) : Int) + (-1074 + ((1022 : Nat) : Int))) = -1074 + (ex (mg x) : Int) - ((52 : Nat) : Int) := by omega
  rw [e4, nearest_shift, nearest_read hx h]
theorem mul_zero {x : Nat} (hx : fin x) : ∃ z, mulO x 0 = some z ∧ mg z = 0 := by
  rw [mul_eq hx (by unfold fin; decide)]
  have e2 : sig (mg 0) = 0 := by decide
  rw [e2, Nat.mul_zero, nearest_zero]
  exact ⟨_, rfl, mg_word_zero _⟩
theorem val_zero {z : Nat} (h : mg z = 0) : val z = 0 := by unfold val; rw [h, sz_zero]; unfold sgn; split <;> rfl
theorem val_lt {x : Nat} (hx : fin x) : (val x).natAbs < szI := by unfold val; rw [sgn_abs]; exact sz_mono hx
theorem val_inj_plc {x y : Nat} (h : val x = val y) : plc x = plc y := by
  have h1 : sz (mg x) = sz (mg y) := by
    have := congrArg Int.natAbs h
    unfold val at this; rw [sgn_abs, sgn_abs] at this; exact this
  have h2 := sz_inj h1
  unfold val at h
  unfold plc
  rw [h2] at h ⊢
  rcases Nat.eq_zero_or_pos (mg y) with h0 | h0
  · rw [h0]; unfold sgn; split <;> split <;> rfl
  · have := sz_pos h0
    unfold sgn at *
    split at h <;> split at h <;> simp_all <;> omega
theorem eqB_val {x y : Nat} (hx : fin x) (hy : fin y) (h : val x = val y) : eqB x y = true := by
  unfold eqB
  rw [order_eqb (fin_not_nan hx) (fin_not_nan hy)]
  exact decide_eq_true (val_inj_plc h)
theorem sub_zero {x z : Nat} (hx : fin x) (hz : mg z = 0) : ∃ r, subO x z = some r ∧ fin r ∧ val r = val x := by
  have hv : val x - val z = val x := by rw [val_zero hz]; omega
  have hr : rnI (val x) = val x := rnI_exact (val_rep x)
  obtain ⟨r, h1, h2, h3⟩ := sub_fin hx (fin_zero hz) (by rw [hv, ← rn_abs, hr]; exact val_lt hx)
  exact ⟨r, h1, h2, by rw [h3, hv, hr]⟩
theorem zero_add {x z : Nat} (hx : fin x) (hz : mg z = 0) : ∃ r, addO z x = some r ∧ fin r ∧ val r = val x := by
  have hv : val z + val x = val x := by rw [val_zero hz]; omega
  have hr : rnI (val x) = val x := rnI_exact (val_rep x)
  obtain ⟨r, h1, h2, h3⟩ := add_fin (fin_zero hz) hx (by rw [hv, ← rn_abs, hr]; exact val_lt hx)
  exact ⟨r, h1, h2, by rw [h3, hv, hr]⟩
theorem times_one {x y re im : Nat} (hx : fin x) (hy : fin y) (lx : x < 18446744073709551616) (ly : y < 18446744073709551616)
    (h1 : rep (mulRe (ans x) (ans y) (some 4607182418800017408) (some 0)) re) (h2 : rep (mulIm (ans x) (ans y) (some 4607182418800017408) (some 0)) im) : eqB re x = true ∧ eqB im y = true := by
  obtain ⟨z1, e1, m1⟩ := mul_zero hy
  obtain ⟨z2, e2, m2⟩ := mul_zero hx
  obtain ⟨r1, f1, g1, v1⟩ := sub_zero hx m1
  obtain ⟨r2, f2, g2, v2⟩ := zero_add hy m2
  have k1 : mulRe (ans x) (ans y) (some 4607182418800017408) (some 0) = some r1 := by
    rw [ans_fin hx, ans_fin hy]
    show subA (mulO x 4607182418800017408) (mulO y 0) = _
    rw [mul_one hx lx, e1]; exact f1
  have k2 : mulIm (ans x) (ans y) (some 4607182418800017408) (some 0) = some r2 := by
    rw [ans_fin hx, ans_fin hy]
    show addA (mulO x 0) (mulO y 4607182418800017408) = _
    rw [mul_one hy ly, e2]; exact f2
  rw [k1] at h1
  rw [k2] at h2
  obtain ⟨_, rfl⟩ := ans_some h1.2
  obtain ⟨_, rfl⟩ := ans_some h2.2
  exact ⟨eqB_val g1 hx v1, eqB_val g2 hy v2⟩

theorem zero_mul {t : Nat} {z : Nat} (h : mulO 0 t = some z) : mg z = 0 := by
  unfold mulO Ieee.Format.mul at h
  rw [read_zero (by decide : mg 0 = 0)] at h
  cases hr : Ieee.double.read t with
  | nan s f => rw [hr] at h; cases h
  | infinity s => rw [hr] at h; cases h
  | number s n p =>
    rw [hr] at h
    cases h
    show mg (Ieee.double.nearest _ (0 * n) _) = 0
    rw [Nat.zero_mul, nearest_zero, mg_word_zero]
end Go.Proofs.YtmpkcioeodlbcaaGreatDoor
namespace Go.Proofs.YtmpkcioeodlbcaaGreatDoor
open Fl
theorem word_false (r : Nat) : Ieee.double.word false r = r := rfl
/-- The rung nearest to m times 2 to the power p. -/
def nr (m : Nat) (p : Int) : Nat := Ieee.double.nearest false m p
theorem nr_shift (m k : Nat) (p : Int) : nr (m * 2 ^ k) (p - (k : Int)) = nr m p := nearest_shift false m k p
theorem nr_zero (p : Int) : nr 0 p = 0 := nearest_zero false p
theorem nr_eq1 {m : Nat} (h : ¬ m = 0) (p : Int) : Ieee.double.nearest false m p = Ieee.double.word false (min ((max (p + (m.log2 : Int) - (Ieee.double.fractionBits : Int)) Ieee.double.leastPlace - Ieee.double.leastPlace).toNat * Ieee.double.binade + Ieee.Toward.even.cut false (m <<< (p - max (p + (m.log2 : Int) - (Ieee.double.fractionBits : Int)) Ieee.double.leastPlace).toNat) (max (p + (m.log2 : Int) - (Ieee.double.fractionBits : Int)) Ieee.double.leastPlace - p).toNat) Ieee.double.infRung) := by
  unfold Ieee.Format.nearest; rw [if_neg h]
theorem nr_eq {m : Nat} (h : 0 < m) {p L : Int} (hL : L = max (p + (m.log2 : Int) - 52) (-1074)) : nr m p = min ((L + 1074).toNat * 4503599627370496 + rne (m * 2 ^ (p - L).toNat) (L - p).toNat) 9218868437227405312 := by
  unfold nr
  rw [nr_eq1 (by omega)]
  have hf : (Ieee.double.fractionBits : Int) = 52 := rfl
  rw [hf, d_least, ← hL, d_bin, d_inf, word_false, cut_rne, Nat.shiftLeft_eq]
  have hk : L - -1074 = L + 1074 := by omega
  rw [hk]
theorem nr_lim (m : Nat) (p : Int) : nr m p ≤ 9218868437227405312 := by
  rcases Nat.eq_zero_or_pos m with h0 | h0
  · subst h0; rw [nr_zero]; omega
  · rw [nr_eq h0 rfl]; exact Nat.min_le_right _ _

/-- Words without a sign. -/
def pos (x : Nat) : Prop := x < 9218868437227405312
theorem pos.fin {x : Nat} (h : pos x) : fin x := by unfold pos at h; unfold Fl.fin mg; omega
theorem pos.mg {x : Nat} (h : pos x) : mg x = x := by unfold pos at h; unfold Fl.mg; omega
theorem pos.ng {x : Nat} (h : pos x) : ng x = false := by
  unfold pos at h; unfold Fl.ng; rw [Nat.div_eq_of_lt (by omega)]; rfl
theorem pos.read {x : Nat} (h : pos x) : Ieee.double.read x = .number false (sig x) (-1074 + (ex x : Int)) := by
  rw [read_fin x h.fin, h.ng, h.mg]
theorem mul_pos {x y : Nat} (hx : pos x) (hy : pos y) : mulO x y = some (nr (sz x * sz y) (-2148)) := by
  unfold mulO Ieee.Format.mul
  rw [hx.read, hy.read]
  show some (Ieee.double.nearest false (sig x * sig y) (-1074 + (ex x : Int) + (-1074 + (ex y : Int)))) = _
  rw [← nearest_shift false _ (ex x + ex y)]
  unfold nr sz
  congr 2
  · rw [Nat.pow_add]; ac_rfl
  · omega
theorem add_pos {x y : Nat} (hx : pos x) (hy : pos y) : addO x y = some (nr (sz x + sz y) (-1074)) := by
  unfold addO Ieee.Format.add
  rw [hx.read, hy.read]
  simp only [Ieee.Datum.sum, signed_eq, Option.map_some]
  obtain ⟨b, hb⟩ : ∃ b : Nat, b = min (ex x) (ex y) := ⟨_, rfl⟩
  have e1 : min (-1074 + (ex x : Int)) (-1074 + (ex y : Int)) = -1074 + (b : Int) := by omega
  have e2 : (-1074 + (ex x : Int) - (-1074 + (b : Int))).toNat = ex x - b := by omega
  have e3 : (-1074 + (ex y : Int) - (-1074 + (b : Int))).toNat = ex y - b := by omega
  rw [e1, e2, e3]
  have e4 : sgn false (sig x * 2 ^ (ex x - b)) + sgn false (sig y * 2 ^ (ex y - b)) = ((sig x * 2 ^ (ex x - b) + sig y * 2 ^ (ex y - b) : Nat) : Int) := by unfold sgn; simp
  rw [e4]
  obtain ⟨T, hT⟩ : ∃ T : Nat, T = sig x * 2 ^ (ex x - b) + sig y * 2 ^ (ex y - b) := ⟨_, rfl⟩
  rw [← hT]
  have e5 : (if ((T : Nat) : Int) = 0 then (false && false) else decide (((T : Nat) : Int) < 0)) = false := by
    split
    · rfl
    · exact decide_eq_false (by omega)
  rw [e5]
  show some (Ieee.double.nearest false ((T : Int).natAbs) (-1074 + (b : Int))) = _
  rw [Int.natAbs_natCast, ← nearest_shift false T b]
  unfold nr
  congr 2
  · rw [hT, Nat.add_mul, Nat.mul_assoc, Nat.mul_assoc, ← Nat.pow_add, ← Nat.pow_add, Nat.sub_add_cancel (by omega), Nat.sub_add_cancel (by omega)]; rfl
  · omega

end Go.Proofs.YtmpkcioeodlbcaaGreatDoor
namespace Go.Proofs.YtmpkcioeodlbcaaGreatDoor
open Fl RowKit
theorem nan_zero : nan 0 = false := by decide
theorem plc_zero : plc 0 = 0 := by decide
theorem mulV_of {x y s : Nat} (h : mulO x y = some s) (W : World) : mulV W x y = s := by unfold mulV fV; rw [h]
end Go.Proofs.YtmpkcioeodlbcaaGreatDoor
namespace Go.Proofs.YtmpkcioeodlbcaaGreatDoor
open Fl
theorem nearest_nr (s : Bool) (m : Nat) (p : Int) : Ieee.double.nearest s m p = Ieee.double.word s (nr m p) := by
  obtain ⟨r, hr, e⟩ := nearest_word m p
  unfold nr
  rw [e, e, word_false]
theorem mul_gen {x y : Nat} (hx : fin x) (hy : fin y) : mulO x y = some (Ieee.double.word (ng x ^^ ng y) (nr (sz (mg x) * sz (mg y)) (-2148))) := by
  rw [mul_eq hx hy, nearest_nr, ← nr_shift _ (ex (mg x) + ex (mg y))]
  have e1 : sig (mg x) * sig (mg y) * 2 ^ (ex (mg x) + ex (mg y)) = sz (mg x) * sz (mg y) := by unfold sz; rw [Nat.pow_add]; ac_rfl
  have e2 : (-1074 + (ex (mg x) : Int) + (-1074 + (ex (mg y) : Int)) - ((ex (mg x) + ex (mg y) : Nat) : Int)) = -2148 := by omega
  rw [e1, e2]
def dq (l g : Nat) : Nat := nr (2 * (sig l * 2 ^ (54 + (sig g).log2 - (sig l).log2) / sig g) + (sig l * 2 ^ (54 + (sig g).log2 - (sig l).log2) % sig g != 0).toNat) ((ex l : Int) - (ex g : Int) - ((54 + (sig g).log2 - (sig l).log2 : Nat) : Int) - 1)
theorem div_gen {x y : Nat} (hx : fin x) (hy : fin y) (h0 : ¬ sig (mg y) = 0) : divO x y = some (Ieee.double.word (ng x ^^ ng y) (dq (mg x) (mg y))) := by
  unfold divO Ieee.Format.div dq
  rw [read_fin x hx, read_fin y hy]
  simp only [Ieee.Datum.quotient, h0, if_false, Option.map_some, Nat.shiftLeft_eq]
  have e0 : Ieee.double.fractionBits + 2 + (sig (mg y)).log2 - (sig (mg x)).log2 = 54 + (sig (mg y)).log2 - (sig (mg x)).log2 := rfl
  rw [e0]
  generalize 54 + (sig (mg y)).log2 - (sig (mg x)).log2 = M
  have e1 : (-1074 + (ex (mg x) : Int) - (-1074 + (ex (mg y) : Int)) - (M : Int) - 1) = (ex (mg x) : Int) - (ex (mg y) : Int) - (M : Int) - 1 := by omega
  rw [e1]
  show some (Ieee.double.nearest _ _ _) = _
  rw [nearest_nr]
/-- x' is x times 2 to the power k - 128. -/
def sc (k x x' : Nat) : Prop := fin x ∧ fin x' ∧ ng x' = ng x ∧ sz (mg x') * 2 ^ 128 = sz (mg x) * 2 ^ k
theorem sc.val {k x x' : Nat} (h : sc k x x') : val x' * ((2 ^ 128 : Nat) : Int) = val x * ((2 ^ k : Nat) : Int) := by
  obtain ⟨_, _, h3, h4⟩ := h
  unfold Fl.val; rw [h3, ← sgn_mul, ← sgn_mul, h4]
theorem sc.ng {k x x' : Nat} (h : sc k x x') (hx : x < 18446744073709551616) (hx' : x' < 18446744073709551616) : sc k (ngW x) (ngW x') := by
  obtain ⟨h1, h2, h3, h4⟩ := h
  refine ⟨by unfold Fl.fin; rw [mg_ngW hx]; exact h1, by unfold Fl.fin; rw [mg_ngW hx']; exact h2, by rw [ng_ngW hx, ng_ngW hx', h3], by rw [mg_ngW hx, mg_ngW hx']; exact h4⟩
end Go.Proofs.YtmpkcioeodlbcaaGreatDoor
namespace Go.Proofs.YtmpkcioeodlbcaaGreatDoor
open Fl
def kdB (x : Nat) : Int := if nan x then 4 else if mg x = 9218868437227405312 then 3 else if 4503599627370496 ≤ mg x then 2 else if 0 < mg x then 1 else 0
theorem and_pow (x : Nat) (hx : x < 18446744073709551616) : bits BinOp.and IntKind.u64 ((x : Int) / 4503599627370496) 2047 = ((mg x / 4503599627370496 : Nat) : Int) := by
  have h := u64_and_nat (x / 4503599627370496) 2047 (by omega) (by omega)
  rw [nat_mask11] at h
  have e : x / 4503599627370496 % 2048 = mg x / 4503599627370496 := by unfold mg; omega
  rw [e] at h; rw [← h]; congr 1
theorem and_frac (x : Nat) (hx : x < 18446744073709551616) : bits BinOp.and IntKind.u64 (x : Int) 4503599627370495 = ((mg x % 4503599627370496 : Nat) : Int) := by
  have h := u64_and_nat x 4503599627370495 hx (by omega)
  have h2 := Nat.and_two_pow_sub_one_eq_mod x 52
  rw [show (2 : Nat) ^ 52 - 1 = 4503599627370495 from rfl, show (2 : Nat) ^ 52 = 4503599627370496 from rfl] at h2
  rw [h2] at h
  have e : x % 4503599627370496 = mg x % 4503599627370496 := by unfold mg; omega
  rw [e] at h; exact h
theorem kd_4 {x : Nat} (h : nan x = true) : kdB x = 4 := by unfold kdB; rw [h]; rfl
theorem kd_3 {x : Nat} (hn : nan x = false) (h : mg x = 9218868437227405312) : kdB x = 3 := by unfold kdB; rw [hn, if_neg (by simp), if_pos h]
theorem kd_2 {x : Nat} (hn : nan x = false) (h : 4503599627370496 ≤ mg x) (h2 : mg x < 9218868437227405312) : kdB x = 2 := by unfold kdB; rw [hn, if_neg (by simp), if_neg (by omega), if_pos h]
theorem kd_1 {x : Nat} (hn : nan x = false) (h : 0 < mg x) (h2 : mg x < 4503599627370496) : kdB x = 1 := by unfold kdB; rw [hn, if_neg (by simp), if_neg (by omega), if_neg (by omega), if_pos h]
theorem kd_0 {x : Nat} (hn : nan x = false) (h : mg x = 0) : kdB x = 0 := by unfold kdB; rw [hn, if_neg (by simp), if_neg (by omega), if_neg (by omega), if_neg (by omega)]
theorem ret1 {a b : Int} (h : a = b) : Ending.returned (.int .i64 a) = .returned (.int .i64 b) := by rw [h]
theorem not_nan {x : Nat} (h : nan x = false) : mg x ≤ 9218868437227405312 := by unfold nan at h; simp at h; exact h
theorem kind_any (x : Nat) (w : World) (hx : x < 18446744073709551616) :
    Calls Tryz.prog 111 #[.float .f64 x] w fun e w' => e = .returned (.int .i64 (kdB x)) ∧ w' = w := by
  have hp := and_pow x hx
  have hf := and_frac x hx
  cases hn : nan x
  · have h0 := order_num hn
    have hl := not_nan hn
    rcases Nat.lt_or_ge (mg x) 9218868437227405312 with h1 | h1
    · rcases Nat.lt_or_ge (mg x) 4503599627370496 with h2 | h2
      · rcases Nat.eq_zero_or_pos (mg x) with h3 | h3
        · have t1 : (((mg x / 4503599627370496 : Nat) : Int) == 2047) = false := by simp; omega
          have t2 : (((mg x / 4503599627370496 : Nat) : Int) != 0) = false := by simp; omega
          have t3 : (((mg x % 4503599627370496 : Nat) : Int) != 0) = false := by simp; omega
          have e0 := kd_0 hn h3
          clear h1 h2 h3 hl
          go_enter Tryz.func111, Tryz.ntmps111
          go_wp2
          go_ret
          first | exact ⟨ret1 e0.symm, rfl⟩ | exact ⟨rfl, rfl⟩
        · have t1 : (((mg x / 4503599627370496 : Nat) : Int) == 2047) = false := by simp; omega
          have t2 : (((mg x / 4503599627370496 : Nat) : Int) != 0) = false := by simp; omega
          have t3 : (((mg x % 4503599627370496 : Nat) : Int) != 0) = true := by simp; omega
          have e0 := kd_1 hn h3 h2
          clear h1 h2 h3 hl
          go_enter Tryz.func111, Tryz.ntmps111
          go_wp2
          go_ret
          first | exact ⟨ret1 e0.symm, rfl⟩ | exact ⟨rfl, rfl⟩
      · have t1 : (((mg x / 4503599627370496 : Nat) : Int) == 2047) = false := by simp; omega
        have t2 : (((mg x / 4503599627370496 : Nat) : Int) != 0) = true := by simp; omega
        have e0 := kd_2 hn h2 h1
        clear h1 h2 hl
        go_enter Tryz.func111, Tryz.ntmps111
        go_wp2
        go_ret
        first | exact ⟨ret1 e0.symm, rfl⟩ | exact ⟨rfl, rfl⟩
    · have t1 : (((mg x / 4503599627370496 : Nat) : Int) == 2047) = true := by simp; omega
      have e0 := kd_3 hn (by omega)
      clear h1 hl
      go_enter Tryz.func111, Tryz.ntmps111
      go_wp2
      go_ret
      first | exact ⟨ret1 e0.symm, rfl⟩ | exact ⟨rfl, rfl⟩
  · have h0 := order_nan hn
    have e0 := kd_4 hn
    go_enter Tryz.func111, Tryz.ntmps111
    go_wp2
    go_ret
    first | exact ⟨ret1 e0.symm, rfl⟩ | exact ⟨rfl, rfl⟩
end Go.Proofs.YtmpkcioeodlbcaaGreatDoor
namespace Go.Proofs.YtmpkcioeodlbcaaGreatDoor
open Fl RowKit
/-- a byte of a text (0 outside it) -/
def byt (s : ByteArray) (i : Nat) : Nat := (s.data.getD i 0).toNat
theorem byt_get {s : ByteArray} {i : Nat} (h : i < s.size) : (s[i]'h).toNat = byt s i := by
  have h2 : i < s.data.size := h
  show (s.data[i]'h2).toNat = (s.data.getD i 0).toNat
  rw [Array.getD_eq_getD_getElem?, Array.getElem?_eq_getElem h2]; rfl
theorem byt_lt (s : ByteArray) (i : Nat) : byt s i < 256 := UInt8.toNat_lt _
/-- a byte of which nodes are made -/
def chB (c : Nat) : Bool := decide (97 ≤ c ∧ c ≤ 122 ∨ 48 ≤ c ∧ c ≤ 57 ∨ c = 95)
theorem chB_yes {c : Nat} (h : 97 ≤ c ∧ c ≤ 122 ∨ 48 ≤ c ∧ c ≤ 57 ∨ c = 95) : chB c = true := decide_eq_true h
theorem chB_no {c : Nat} (h : ¬ (97 ≤ c ∧ c ≤ 122 ∨ 48 ≤ c ∧ c ≤ 57 ∨ c = 95)) : chB c = false := decide_eq_false h
/-- are all bytes from a place on such? -/
def plF (s : ByteArray) (k : Nat) : Bool := decide (∀ i, i < s.size → k ≤ i → chB (byt s i) = true)
theorem plF_no {s : ByteArray} {k i : Nat} (hi : i < s.size) (hk : k ≤ i) (h : chB (byt s i) = false) : plF s k = false :=
  decide_eq_false (fun q => by rw [q i hi hk] at h; cases h)
theorem plF_yes {s : ByteArray} {k : Nat} (h : ∀ i, i < s.size → k ≤ i → chB (byt s i) = true) : plF s k = true := decide_eq_true h

set_option maxRecDepth 1000000 in
theorem plain_any (s : ByteArray) (w : World) :
    Calls Tryz.prog 198 #[.string s] w fun e w' => e = .returned (.bool (plF s 0)) ∧ Below w.heap.size w w' := by
  have HB : Hid (∀ pos, Below w.heap.size w (w.iter s pos)) := fun pos => (Below.refl _ _).alloc (Nat.le_refl _) _
  go_enter Tryz.func198, Tryz.ntmps198
  go_wp2
  go_loopw [4] (fun _ w' => ∃ pos : Nat, w' = w.iter s pos ∧ pos ≤ s.size ∧ ∀ i, i < pos → chB (byt s i) = true) (fun _ w' => s.size - w'.iterPos w.heap.size)
  case atStart => exact ⟨0, rfl, Nat.zero_le _, fun i hi => absurd hi (by omega)⟩
  case round =>
    obtain ⟨pos, rfl, hle, hall⟩ := hrel
    have HA : Hid (∀ i, i < pos → chB (byt s i) = true) := hall
    clear hall
    by_cases hp : pos < s.size
    · by_cases ha : (s[pos]'hp).toNat < 128
      · have hnx : ∀ ty, (Instr.next (.pointer (some ⟨w.heap.size, 0, none⟩)) true ty).run Tryz.prog (w.iter s pos) = _ := fun ty => run_next_ascii w s pos ty hp ha
        have hg := byt_get hp
        obtain ⟨c, hc⟩ : ∃ c, c = byt s pos := ⟨_, rfl⟩
        rw [hg] at hnx ha
        rw [← hc] at hnx ha
        have HC : Hid (c = byt s pos) := hc
        clear hc hg
        rcases (show (97 ≤ c ∧ c ≤ 122) ∨ (48 ≤ c ∧ c ≤ 57) ∨ c = 95 ∨ c < 48 ∨ (57 < c ∧ c < 95) ∨ c = 96 ∨ 122 < c from by omega) with hU | hU | hU | hU | hU | hU | hU
        · obtain ⟨h1, h2⟩ := hU
          go_wp2
          go_roundw
          case rel =>
            refine ⟨pos + 1, rfl, by omega, fun i hi => ?_⟩
            rcases Nat.lt_succ_iff_lt_or_eq.1 hi with h | rfl
            · exact HA.out i h
            · rw [← HC.out]; exact chB_yes (by omega)
          case measure => simp; omega
        · obtain ⟨h1, h2⟩ := hU
          go_wp2
          go_roundw
          case rel =>
            refine ⟨pos + 1, rfl, by omega, fun i hi => ?_⟩
            rcases Nat.lt_succ_iff_lt_or_eq.1 hi with h | rfl
            · exact HA.out i h
            · rw [← HC.out]; exact chB_yes (by omega)
          case measure => simp; omega
        · subst hU
          go_wp2
          go_roundw
          case rel =>
            refine ⟨pos + 1, rfl, by omega, fun i hi => ?_⟩
            rcases Nat.lt_succ_iff_lt_or_eq.1 hi with h | rfl
            · exact HA.out i h
            · rw [← HC.out]; exact chB_yes (by omega)
          case measure => simp; omega
        · have hne : ((c : Int) == 95) = false := by simp; omega
          go_wp2
          go_ret
          exact ⟨retb (plF_no hp (Nat.zero_le _) (by rw [← HC.out]; exact chB_no (by omega))).symm, HB.out _⟩
        · have hne : ((c : Int) == 95) = false := by simp; omega
          obtain ⟨h1, h2⟩ := hU
          go_wp2
          go_ret
          exact ⟨retb (plF_no hp (Nat.zero_le _) (by rw [← HC.out]; exact chB_no (by omega))).symm, HB.out _⟩
        · subst hU
          go_wp2
          go_ret
          exact ⟨retb (plF_no hp (Nat.zero_le _) (by rw [← HC.out]; exact chB_no (by omega))).symm, HB.out _⟩
        · have hne : ((c : Int) == 95) = false := by simp; omega
          go_wp2
          go_ret
          exact ⟨retb (plF_no hp (Nat.zero_le _) (by rw [← HC.out]; exact chB_no (by omega))).symm, HB.out _⟩
      · have hnx : ∀ ty, (Instr.next (.pointer (some ⟨w.heap.size, 0, none⟩)) true ty).run Tryz.prog (w.iter s pos) = _ := fun ty => run_next_any w s pos ty hp
        have hhi := (decode_high s pos hp (by omega)).1
        obtain ⟨c, hc⟩ : ∃ c, c = (Utf8.decode s pos).1 := ⟨_, rfl⟩
        rw [← hc] at hnx hhi
        clear hc
        have hne : ((c : Int) == 95) = false := by simp; omega
        have HC : Hid (¬ byt s pos < 128) := by rw [← byt_get hp]; exact ha
        clear ha
        go_wp2
        go_ret
        exact ⟨retb (plF_no hp (Nat.zero_le _) (chB_no (by have := HC.out; omega))).symm, HB.out _⟩
    · have hnx : ∀ ty, (Instr.next (.pointer (some ⟨w.heap.size, 0, none⟩)) true ty).run Tryz.prog (w.iter s pos) = _ := fun ty => run_next_end w s pos ty hp
      go_wp2
      go_ret
      exact ⟨retb (plF_yes (fun i hi _ => HA.out i (by omega))).symm, HB.out _⟩

/-- is a text a node? -/
def ndF (s : ByteArray) : Bool := decide (0 < s.size ∧ s.size ≤ 16) && plF s 0
theorem nd_in {s : ByteArray} (h1 : 0 < s.size) (h2 : s.size ≤ 16) : ndF s = plF s 0 := by unfold ndF; rw [decide_eq_true ⟨h1, h2⟩]; rfl
theorem nd_out {s : ByteArray} (h : ¬ (0 < s.size ∧ s.size ≤ 16)) : ndF s = false := by unfold ndF; rw [decide_eq_false h]; rfl
theorem node_any (s : ByteArray) (w : World) (hs : s.size ≤ 140737488351232) :
    Calls Tryz.prog 156 #[.string s] w fun e w' => e = .returned (.bool (ndF s)) ∧ Below w.heap.size w w' := by
  rcases (show s.size = 0 ∨ (0 < s.size ∧ s.size ≤ 16) ∨ 16 < s.size from by omega) with h | h | h
  · go_enter Tryz.func156, Tryz.ntmps156
    go_wp2_with fail
    go_ret
    exact ⟨retb (nd_out (by omega)).symm, Below.refl _ _⟩
  · obtain ⟨h1, h2⟩ := h
    rw [nd_in h1 h2]
    go_enter Tryz.func156, Tryz.ntmps156
    go_wp2_with (first | (go_at_call 198; (with_reducible refine (plain_any _ _).mono ?_); rintro e w' ⟨rfl, hb⟩; (have HB : Hid (Below w.heap.size w w') := hb); clear hb))
    go_ret
    exact ⟨rfl, HB.out⟩
  · go_enter Tryz.func156, Tryz.ntmps156
    go_wp2_with fail
    go_ret
    exact ⟨retb (nd_out (by omega)).symm, Below.refl _ _⟩
end Go.Proofs.YtmpkcioeodlbcaaGreatDoor
namespace Go.Proofs.YtmpkcioeodlbcaaGreatDoor
open Fl RowKit
/-- The word of the cosine of k steps, 0 to 6; of 0 to 23. -/
def cK (k : Int) : Nat := if k = 0 then 4607182418800017408 else if k = 1 then 4606875505927962389 else if k = 2 then 4605975682916830378 else if k = 3 then 4604544271217802189 else if k = 4 then 4602678819172646912 else if k = 5 then 4598334089338226320 else 0
def cw (k : Int) : Nat := if k ≤ 6 then cK k else if k ≤ 12 then ngW (cK (12 - k)) else if k < 18 then ngW (cK (k - 12)) else cK (24 - k)

theorem tconst_bits (k : Int) (w : World) (h0 : 0 ≤ k) (h1 : k ≤ 6) : Calls Tryz.prog 282 #[.int .i64 k] w fun e w' => e = .returned (.int .u64 ((cK k : Nat) : Int)) ∧ w' = w := by
  have hk : k = 0 ∨ k = 1 ∨ k = 2 ∨ k = 3 ∨ k = 4 ∨ k = 5 ∨ k = 6 := by omega
  rcases hk with rfl | rfl | rfl | rfl | rfl | rfl | rfl
  all_goals
    go_enter Tryz.func282, Tryz.ntmps282
    go_wp2
    go_ret
    exact ⟨rfl, rfl⟩
theorem tconst (k : Int) (w : World) (h0 : 0 ≤ k) (h1 : k ≤ 6) : Calls Tryz.prog 253 #[.int .i64 k] w fun e w' => e = .returned (.float .f64 (cK k)) ∧ w' = w := by
  go_enter Tryz.func253, Tryz.ntmps253
  go_wp2_with (first | (go_at_call 282; refine (tconst_bits _ _ h0 h1).mono ?_; rintro e w' ⟨rfl, rfl⟩))
  go_ret
  exact ⟨rfl, rfl⟩
theorem tcosine (k : Int) (w : World) (h0 : 0 ≤ k) (h1 : k < 24) : Calls Tryz.prog 225 #[.int .i64 k] w fun e w' => e = .returned (.float .f64 (cw k)) ∧ w' = w := by
  have hk : k = 0 ∨ k = 1 ∨ k = 2 ∨ k = 3 ∨ k = 4 ∨ k = 5 ∨ k = 6 ∨ k = 7 ∨ k = 8 ∨ k = 9 ∨ k = 10 ∨ k = 11 ∨ k = 12 ∨ k = 13 ∨ k = 14 ∨ k = 15 ∨ k = 16 ∨ k = 17 ∨ k = 18 ∨ k = 19 ∨ k = 20 ∨ k = 21 ∨ k = 22 ∨ k = 23 := by omega
  rcases hk with rfl | rfl | rfl | rfl | rfl | rfl | rfl | rfl | rfl | rfl | rfl | rfl | rfl | rfl | rfl | rfl | rfl | rfl | rfl | rfl | rfl | rfl | rfl | rfl
  all_goals
    go_enter Tryz.func225, Tryz.ntmps225
    go_wp2_with (first | (go_at_call 253; refine (tconst _ _ (by decide) (by decide)).mono ?_; rintro e w' ⟨rfl, rfl⟩))
    go_ret
    exact ⟨retf (by kernel_rfl), rfl⟩

end Go.Proofs.YtmpkcioeodlbcaaGreatDoor
namespace Go.Proofs.YtmpkcioeodlbcaaGreatDoor
open Fl RowKit
set_option linter.unusedVariables false
theorem within_any (k : Int) (w : World) (h0 : -9223372036854775808 ≤ k) (h1 : k < 9223372036854775808) : Calls Tryz.prog 224 #[.int .i64 k] w fun e w' => e = .returned (.int .i64 (k % 24)) ∧ w' = w := by
  have hb := Int.emod_nonneg k (show (24 : Int) ≠ 0 by decide)
  have hl := Int.emod_lt_of_pos k (show (0 : Int) < 24 by decide)
  by_cases hn : k.tmod 24 < 0
  · have ht : k % 24 = k.tmod 24 + 24 := by rw [Int.tmod_eq_emod] at *; split at hn <;> split <;> omega
    have ht2 := Int.lt_tmod_of_pos k (show (0 : Int) < 24 by decide)
    go_enter Tryz.func224, Tryz.ntmps224
    go_wp2
    go_ret
    exact ⟨by rw [ht]; rfl, rfl⟩
  · have ht : k % 24 = k.tmod 24 := by rw [Int.tmod_eq_emod] at *; split at hn <;> split <;> omega
    go_enter Tryz.func224, Tryz.ntmps224
    go_wp2
    go_ret
    exact ⟨rfl, rfl⟩

/-- The parts of the number at k steps. -/
def rtR (k : Int) : Nat := cw (k % 24)
def rtI (k : Int) : Nat := cw ((k - 6) % 24)
theorem root_any (k : Int) (w : World) (h0 : -9223372036854775808 ≤ k) (h1 : k < 9223372036854775808) : Calls Tryz.prog 200 #[.int .i64 k] w fun e w' => e = .returned (.complex .f64 (rtR k) (rtI k)) ∧ w' = w := by
  have hb := Int.emod_nonneg k (show (24 : Int) ≠ 0 by decide)
  have hl := Int.emod_lt_of_pos k (show (0 : Int) < 24 by decide)
  go_enter Tryz.func200, Tryz.ntmps200
  go_wp2_with (first
    | (go_at_call 224; refine (within_any _ _ (by omega) (by omega)).mono ?_; rintro e w' ⟨rfl, rfl⟩)
    | (go_at_call 225; refine (tcosine _ _ (by omega) (by omega)).mono ?_; rintro e w' ⟨rfl, rfl⟩))
  go_ret
  exact ⟨retc rfl rfl, rfl⟩

end Go.Proofs.YtmpkcioeodlbcaaGreatDoor
namespace Go.Proofs.YtmpkcioeodlbcaaGreatDoor
open Fl RowKit
def iat (zs : List Int) (k : Nat) : Int := zs.getD k 0
theorem iat_lt {zs : List Int} {k : Nat} (h : k < zs.length) : zs[k]? = some (iat zs k) := by simp [iat, List.getD_eq_getElem?_getD, h]
end Go.Proofs.YtmpkcioeodlbcaaGreatDoor
namespace Go.Proofs.YtmpkcioeodlbcaaGreatDoor
open Fl RowKit
/-- two places exchanged -/
def sw (zs : List Int) (i j : Nat) : List Int := (zs.set i (iat zs j)).set j (iat zs i)
/-- counts -/
def cl (x : Int) : List Int → Nat
  | [] => 0
  | y :: l => (if y < x then 1 else 0) + cl x l
end Go.Proofs.YtmpkcioeodlbcaaGreatDoor
