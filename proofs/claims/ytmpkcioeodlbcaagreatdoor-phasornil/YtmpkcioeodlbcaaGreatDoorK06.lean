/-
  Several texts in one: Bt Pt Pa Pd Pe Pl Mr Mono Ldt Gnr Gda Tw Gdc Gdd Qz Qbt Qpa Plc Ela Tu Tw0 Tk WRoots Ya Yb.
-/
import Derived.Test.YtmpkcioeodlbcaaGreatDoorChecked
import Derived.Test.YtmpkcioeodlbcaaGreatDoorK05
import Derived.WalkKit
import Derived.WalkLawsBesides
import Derived.RegionTactic
import Derived.BigRegion
import Derived.Test.YtmpkcioeodlbcaaGreatDoorK01
import Derived.Deep.RegionHeldLaw
import Derived.Deep.AppendLies
import Derived.Laws.BitsAllLaws
import Derived.Test.YtmpkcioeodlbcaaGreatDoorK04
import Derived.Deep.RegionWith
namespace Go.Proofs.YtmpkcioeodlbcaaGreatDoor
open Fl
@[go_sem] theorem run_bits (x : Nat) (w : World) : (callFunc 91 #[.float .f64 x]).run Tryz.prog w = .ok (.value (.int .u64 (x : Int))) w := by
  rw [run_callFunc_extern Tryz.func91 (by kernel_rfl) (by kernel_rfl) (by kernel_rfl) (e := Extern.MathFloatBits.float64bits) (by kernel_rfl)]
  rfl
@[go_sem] theorem run_frombits (x : Int) (w : World) : (callFunc 19 #[.int .u64 x]).run Tryz.prog w = .ok (.value (.float .f64 x.toNat)) w := by
  rw [run_callFunc_extern Tryz.func19 (by kernel_rfl) (by kernel_rfl) (by kernel_rfl) (e := Extern.MathFloatBits.float64frombits) (by kernel_rfl)]
  rfl
@[go_sem] theorem run_negFloat (b : Nat) (w : World) : (Op.unary UnOp.neg (.float .f64 b)).run Tryz.prog w = .ok (.float .f64 (Op.negFloat .f64 b)) w := rfl
def smB (a b : Nat) : Bool := if nan a || nan b then nan a && nan b else a == b
theorem smB_self (x : Nat) : smB x x = true := by unfold smB; cases nan x <;> simp
def eqB (x y : Nat) : Bool := FloatKind.f64.format.order x y == some .eq
def finB (x : Nat) : Bool := decide (mg x < 9218868437227405312)
theorem retf {a b : Nat} (h : a = b) : Ending.returned (.float .f64 a) = .returned (.float .f64 b) := by rw [h]
theorem retb {a b : Bool} (h : a = b) : Ending.returned (.bool a) = .returned (.bool b) := by rw [h]

theorem andNot_sign (x : Nat) (hx : x < 18446744073709551616) : bits BinOp.andNot IntKind.u64 (x : Int) 9223372036854775808 = ((mg x : Nat) : Int) := by
  have h := u64_andNot_nat x 9223372036854775808 hx (by omega)
  have h2 := Nat.and_two_pow_sub_one_eq_mod x 63
  rw [show (2 : Nat) ^ 63 - 1 = 18446744073709551615 - 9223372036854775808 from rfl, show (2 : Nat) ^ 63 = 9223372036854775808 from rfl] at h2
  rw [h2] at h; exact h
theorem and_power (x : Nat) (hx : x < 18446744073709551616) : bits BinOp.and IntKind.u64 (x : Int) 9218868437227405312 = ((mg x / 4503599627370496 * 4503599627370496 : Nat) : Int) := by
  have h := u64_and_nat x 9218868437227405312 hx (by omega)
  have e : x &&& 9218868437227405312 = mg x / 4503599627370496 * 4503599627370496 := by
    have h1 : (9218868437227405312 : Nat) = 2047 <<< 52 := by decide
    have h2 : x &&& 9218868437227405312 = ((x >>> 52) &&& 2047) <<< 52 := by
      rw [h1]
      apply Nat.eq_of_testBit_eq
      intro i
      rw [Nat.testBit_and, Nat.testBit_shiftLeft, Nat.testBit_shiftLeft, Nat.testBit_and, Nat.testBit_shiftRight]
      by_cases hi : 52 ≤ i
      · simp only [hi, decide_true, Bool.true_and, show 52 + (i - 52) = i by omega]
      · simp [hi]
    rw [h2, show (2047 : Nat) = 2 ^ 11 - 1 from rfl, Nat.and_two_pow_sub_one_eq_mod, Nat.shiftRight_eq_div_pow, Nat.shiftLeft_eq]
    unfold mg
    omega
  rw [e] at h; exact h

theorem size_any (x : Nat) (w : World) (hx : x < 18446744073709551616) : Calls Tryz.prog 170 #[.float .f64 x] w fun e w' => e = .returned (.float .f64 (mg x)) ∧ w' = w := by
  have ha := andNot_sign x hx
  go_enter Tryz.func170, Tryz.ntmps170
  go_wp2
  go_ret
  exact ⟨retf (by simp), rfl⟩
theorem finite_any (x : Nat) (w : World) (hx : x < 18446744073709551616) : Calls Tryz.prog 93 #[.float .f64 x] w fun e w' => e = .returned (.bool (finB x)) ∧ w' = w := by
  have ha := and_power x hx
  have hm := mg_bd x
  have hk : (((mg x / 4503599627370496 * 4503599627370496 : Nat) : Int) != 9218868437227405312) = finB x := by
    unfold finB
    by_cases h : mg x < 9218868437227405312
    · rw [decide_eq_true h]; exact bne_iff_ne.2 (by omega)
    · rw [decide_eq_false h]; simp; omega
  go_enter Tryz.func93, Tryz.ntmps93
  go_wp2
  go_ret
  exact ⟨retb hk, rfl⟩
end Go.Proofs.YtmpkcioeodlbcaaGreatDoor
namespace Go.Proofs.YtmpkcioeodlbcaaGreatDoor
open Fl
theorem retc {a b c d : Nat} (h : a = b) (h2 : c = d) : Ending.returned (.complex .f64 a c) = .returned (.complex .f64 b d) := by rw [h, h2]

section small
variable (a b c d : Nat) (w : World)
theorem apart_any : Calls Tryz.prog 89 #[.complex .f64 a b] w fun e w' => e = .returned (.tuple #[.float .f64 a, .float .f64 b]) ∧ w' = w := by
  go_enter Tryz.func89, Tryz.ntmps89
  go_wp2
  go_ret2
  exact ⟨rfl, rfl⟩
theorem fin_any (ha : a < 18446744073709551616) (hb : b < 18446744073709551616) : Calls Tryz.prog 59 #[.complex .f64 a b] w fun e w' => e = .returned (.bool (finB a && finB b)) ∧ w' = w := by
  cases h1 : finB a <;> cases h2 : finB b
  all_goals
    go_enter Tryz.func59, Tryz.ntmps59
    go_wp2_with (first | (go_at_call 93; refine (finite_any _ _ (by assumption)).mono ?_; rintro e w' ⟨rfl, rfl⟩))
    go_ret
    exact ⟨rfl, rfl⟩
end small
end Go.Proofs.YtmpkcioeodlbcaaGreatDoor
namespace Go.Proofs.YtmpkcioeodlbcaaGreatDoor
open Fl
/-- Products, quotients. -/
def mulRe (A B C D : Option Nat) : Option Nat := subA (mulA A C) (mulA B D)
def mulIm (A B C D : Option Nat) : Option Nat := addA (mulA A D) (mulA B C)
def geA (C D : Option Nat) : Bool := ordA C D == some .gt || ordA C D == some .eq
def divRe1 (A B C D : Option Nat) : Option Nat := divA (addA A (mulA B (divA D C))) (addA C (mulA D (divA D C)))
def divIm1 (A B C D : Option Nat) : Option Nat := divA (subA B (mulA A (divA D C))) (addA C (mulA D (divA D C)))
def divRe2 (A B C D : Option Nat) : Option Nat := divA (addA (mulA A (divA C D)) B) (addA (mulA C (divA C D)) D)
def divIm2 (A B C D : Option Nat) : Option Nat := divA (subA (mulA B (divA C D)) A) (addA (mulA C (divA C D)) D)
def divRe (A B C D : Option Nat) : Option Nat := if geA (sizA C) (sizA D) then divRe1 A B C D else divRe2 A B C D
def divIm (A B C D : Option Nat) : Option Nat := if geA (sizA C) (sizA D) then divIm1 A B C D else divIm2 A B C D

section one
variable (a b c d : Nat) (w : World)
end one
section two
variable {A B C D X : Option Nat} {a b c d x : Nat} (w : World) (ha : rep A a) (hb : rep B b) (hc : rep C c) (hd : rep D d) (hx : rep X x)
include ha hb
include hc hd
theorem add_any : Calls Tryz.prog 129 #[.complex .f64 a b, .complex .f64 c d] w fun e w' => ∃ re im n, e = .returned (.complex .f64 re im) ∧ rep (addA A C) re ∧ rep (addA B D) im ∧ w' = w.drewN n := by
  go_enter Tryz.func129, Tryz.ntmps129
  go_wp2_with (first | (go_at_call 89; refine (apart_any _ _ _).mono ?_; rintro e w' ⟨rfl, rfl⟩))
  go_ret
  exact ⟨_, _, _, rfl, rep_add ha hc _, rep_add hb hd _, rfl⟩
theorem sub_any : Calls Tryz.prog 47 #[.complex .f64 a b, .complex .f64 c d] w fun e w' => ∃ re im n, e = .returned (.complex .f64 re im) ∧ rep (subA A C) re ∧ rep (subA B D) im ∧ w' = w.drewN n := by
  go_enter Tryz.func47, Tryz.ntmps47
  go_wp2_with (first | (go_at_call 89; refine (apart_any _ _ _).mono ?_; rintro e w' ⟨rfl, rfl⟩))
  go_ret
  exact ⟨_, _, _, rfl, rep_sub ha hc _, rep_sub hb hd _, rfl⟩
theorem mul_any : Calls Tryz.prog 215 #[.complex .f64 a b, .complex .f64 c d] w fun e w' => ∃ re im n, e = .returned (.complex .f64 re im) ∧ rep (mulRe A B C D) re ∧ rep (mulIm A B C D) im ∧ w' = w.drewN n := by
  go_enter Tryz.func215, Tryz.ntmps215
  go_wp2_with (first | (go_at_call 89; refine (apart_any _ _ _).mono ?_; rintro e w' ⟨rfl, rfl⟩))
  go_ret
  exact ⟨_, _, _, rfl, rep_sub (rep_mul ha hc _) (rep_mul hb hd _) _, rep_add (rep_mul ha hd _) (rep_mul hb hc _) _, rfl⟩
end two
end Go.Proofs.YtmpkcioeodlbcaaGreatDoor
namespace Go.Proofs.YtmpkcioeodlbcaaGreatDoor
open Fl
section two
variable {A B C D X : Option Nat} {a b c d x : Nat} (w : World) (ha : rep A a) (hb : rep B b) (hc : rep C c) (hd : rep D d) (hx : rep X x)
include ha hb hc hd
set_option maxHeartbeats 1000000 in
theorem div_any : Calls Tryz.prog 188 #[.complex .f64 a b, .complex .f64 c d] w fun e w' => ∃ re im n, e = .returned (.complex .f64 re im) ∧ rep (divRe A B C D) re ∧ rep (divIm A B C D) im ∧ w' = w.drewN n := by
  have lc := hc.1
  have ld := hd.1
  have ho := ordA_of (rep_sz hc) (rep_sz hd)
  have h1 := fun W => rep_div hd hc W
  have h2 := fun W => rep_div hc hd W
  cases e1 : (ordA (sizA C) (sizA D) == some Ordering.gt)
  · cases e2 : (ordA (sizA C) (sizA D) == some Ordering.eq)
    · have hg : geA (sizA C) (sizA D) = false := by unfold geA; rw [e1, e2]; rfl
      go_enter Tryz.func188, Tryz.ntmps188
      go_wp2_with (first
      | (go_at_call 89; refine (apart_any _ _ _).mono ?_; rintro e w' ⟨rfl, rfl⟩)
      | (go_at_call 170; refine (size_any _ _ (by assumption)).mono ?_; rintro e w' ⟨rfl, rfl⟩))
      go_ret
      refine ⟨_, _, _, rfl, ?_, ?_, rfl⟩
      · simp only [divRe, divRe2, hg, Bool.false_eq_true, if_false]
        exact rep_div (rep_add (rep_mul ha (h2 _) _) hb _) (rep_add (rep_mul hc (h2 _) _) hd _) _
      · simp only [divIm, divIm2, hg, Bool.false_eq_true, if_false]
        exact rep_div (rep_sub (rep_mul hb (h2 _) _) ha _) (rep_add (rep_mul hc (h2 _) _) hd _) _
    · have hg : geA (sizA C) (sizA D) = true := by unfold geA; rw [e1, e2]; rfl
      go_enter Tryz.func188, Tryz.ntmps188
      go_wp2_with (first
      | (go_at_call 89; refine (apart_any _ _ _).mono ?_; rintro e w' ⟨rfl, rfl⟩)
      | (go_at_call 170; refine (size_any _ _ (by assumption)).mono ?_; rintro e w' ⟨rfl, rfl⟩))
      go_ret
      refine ⟨_, _, _, rfl, ?_, ?_, rfl⟩
      · simp only [divRe, divRe1, hg, if_true]
        exact rep_div (rep_add ha (rep_mul hb (h1 _) _) _) (rep_add hc (rep_mul hd (h1 _) _) _) _
      · simp only [divIm, divIm1, hg, if_true]
        exact rep_div (rep_sub hb (rep_mul ha (h1 _) _) _) (rep_add hc (rep_mul hd (h1 _) _) _) _
  · have hg : geA (sizA C) (sizA D) = true := by unfold geA; rw [e1]; rfl
    go_enter Tryz.func188, Tryz.ntmps188
    go_wp2_with (first
      | (go_at_call 89; refine (apart_any _ _ _).mono ?_; rintro e w' ⟨rfl, rfl⟩)
      | (go_at_call 170; refine (size_any _ _ (by assumption)).mono ?_; rintro e w' ⟨rfl, rfl⟩))
    go_ret
    refine ⟨_, _, _, rfl, ?_, ?_, rfl⟩
    · simp only [divRe, divRe1, hg, if_true]
      exact rep_div (rep_add ha (rep_mul hb (h1 _) _) _) (rep_add hc (rep_mul hd (h1 _) _) _) _
    · simp only [divIm, divIm1, hg, if_true]
      exact rep_div (rep_sub hb (rep_mul ha (h1 _) _) _) (rep_add hc (rep_mul hd (h1 _) _) _) _
end two
end Go.Proofs.YtmpkcioeodlbcaaGreatDoor
namespace Go.Proofs.YtmpkcioeodlbcaaGreatDoor
open Fl
theorem plc_mg (x : Nat) : plc (mg x) = mg x := by
  have h := mg_bd x
  have h2 : ng (mg x) = false := by unfold ng; rw [Nat.div_eq_of_lt h]; rfl
  unfold plc; rw [h2, mg_mg]; rfl
theorem rep_num {x : Nat} (h : x < 18446744073709551616) (hn : nan x = false) : rep (some x) x := ⟨h, ans_num hn⟩
theorem rep_0 : rep (some 0) 0 := rep_num (by decide) (by decide)
section two
variable {A B X : Option Nat} {a b x : Nat} (w : World) (ha : rep A a) (hb : rep B b) (hx : rep X x)
include ha hb
theorem size1_any : Calls Tryz.prog 130 #[.complex .f64 a b] w fun e w' => ∃ r n, e = .returned (.float .f64 r) ∧ rep (addA (sizA A) (sizA B)) r ∧ w' = w.drewN n := by
  have la := ha.1
  have lb := hb.1
  go_enter Tryz.func130, Tryz.ntmps130
  go_wp2_with (first
    | (go_at_call 89; refine (apart_any _ _ _).mono ?_; rintro e w' ⟨rfl, rfl⟩)
    | (go_at_call 170; refine (size_any _ _ (by assumption)).mono ?_; rintro e w' ⟨rfl, rfl⟩))
  go_ret
  exact ⟨_, _, rfl, rep_add (rep_sz ha) (rep_sz hb) _, rfl⟩
include hx in
theorem scale_any : Calls Tryz.prog 199 #[.float .f64 x, .complex .f64 a b] w fun e w' => ∃ re im n, e = .returned (.complex .f64 re im) ∧ rep (mulA X A) re ∧ rep (mulA X B) im ∧ w' = w.drewN n := by
  go_enter Tryz.func199, Tryz.ntmps199
  go_wp2_with (first
    | (go_at_call 89; refine (apart_any _ _ _).mono ?_; rintro e w' ⟨rfl, rfl⟩))
  go_ret
  exact ⟨_, _, _, rfl, rep_mul hx ha _, rep_mul hx hb _, rfl⟩
end two
end Go.Proofs.YtmpkcioeodlbcaaGreatDoor
namespace Go.Proofs.YtmpkcioeodlbcaaGreatDoor
open Fl RowKit
theorem rep_is {o : Option Nat} {x c : Nat} (h : rep o x) (e : o = some c) : x = c := by
  obtain ⟨_, h⟩ := h
  rw [e] at h
  exact (ans_some h).2
theorem drewN_drewN (w : World) (a b : Nat) : (w.drewN a).drewN b = w.drewN (a + b) := by simp
theorem below_drewN {n : Nat} {w w' : World} (h : Below n w w') (k : Nat) : Below n w (w'.drewN k) := by
  obtain ⟨h1, h2, h3, h4, h5⟩ := h
  exact ⟨h1, h2, h3, h4, h5⟩
theorem bt {a b c : World} (h : Below a.heap.size a b) (k : Below b.heap.size b c) : Below a.heap.size a c := h.trans (k.mono h.size)
theorem below_self (w : World) : Below w.heap.size w w := Below.refl _ _
end Go.Proofs.YtmpkcioeodlbcaaGreatDoor
namespace Go.Proofs.YtmpkcioeodlbcaaGreatDoor
open Fl
/-- A finite number times 1. -/
theorem nearest_shift (s : Bool) (m k : Nat) (p : Int) : Ieee.double.nearest s (m * 2 ^ k) (p - (k : Int)) = Ieee.double.nearest s m p := by
  by_cases h0 : m = 0
  · subst h0; rw [Nat.zero_mul, nearest_zero, nearest_zero]
  · have hm : 0 < m := by omega
    have hmk : ¬ m * 2 ^ k = 0 := Nat.ne_of_gt (Nat.mul_pos hm (Nat.two_pow_pos _))
    unfold Ieee.Format.nearest
    rw [if_neg h0, if_neg hmk]
    simp only [d_least, d_bin, d_inf, cut_rne, Nat.shiftLeft_eq, log2_mul m k hm]
    have hl : p - (k : Int) + ((m.log2 + k : Nat) : Int) - (Ieee.double.fractionBits : Int) = p + (m.log2 : Int) - (Ieee.double.fractionBits : Int) := by omega
    rw [hl]
    generalize max (p + (m.log2 : Int) - (Ieee.double.fractionBits : Int)) (-1074) = L
    congr 3
    rcases Int.lt_or_le (p - (k : Int)) L with h1 | h1
    · rcases Int.lt_or_le p L with h2 | h2
      · have e1 : (p - (k : Int) - L).toNat = 0 := by omega
        have e2 : (p - L).toNat = 0 := by omega
        have e3 : (L - (p - (k : Int))).toNat = (L - p).toNat + k := by omega
        rw [e1, e2, e3, Nat.pow_zero, Nat.mul_one, Nat.mul_one, rne_scale m k _ (by omega), Nat.add_sub_cancel]
      · have e1 : (p - (k : Int) - L).toNat = 0 := by omega
        have e3 : (L - p).toNat = 0 := by omega
        have e4 : k = (p - L).toNat + (L - (p - (k : Int))).toNat := by omega
        rw [e1, e3, Nat.pow_zero, Nat.mul_one]
        generalize (L - (p - (k : Int))).toNat = d at *
        rw [e4, Nat.pow_add, ← Nat.mul_assoc, rne_scale _ d d (Nat.le_refl _), Nat.sub_self]
    · have e1 : (L - (p - (k : Int))).toNat = 0 := by omega
      have e2 : (L - p).toNat = 0 := by omega
      have e3 : (p - L).toNat = k + (p - (k : Int) - L).toNat := by omega
      rw [e1, e2, e3, Nat.pow_add, Nat.mul_assoc]
theorem rung_sz (r : Nat) : rung (sz r) = r := by
  apply sz_inj
  rw [sz_rung]
  exact rn_exact ⟨sig r, ex r, rfl, sig_lt r⟩
theorem word_self {x : Nat} (h : x < 18446744073709551616) : Ieee.double.word (ng x) (mg x) = x := by
  unfold Ieee.Format.word ng mg; rw [d_sw]
  rcases Nat.mod_two_eq_zero_or_one (x / 9223372036854775808) with h2 | h2
  · rw [h2]; simp only [show ((0 : Nat) == 1) = false from rfl, Bool.false_eq_true, if_false]; omega
  · rw [h2]; simp only [beq_self_eq_true, if_true]; omega
theorem nearest_read {x : Nat} (hx : fin x) (h : x < 18446744073709551616) : Ieee.double.nearest (ng x) (sig (mg x)) (-1074 + (ex (mg x) : Int)) = x := by
  rw [nearest_eq]
  have e : sig (mg x) * 2 ^ ex (mg x) = sz (mg x) := rfl
  rw [e, rung_sz, Nat.min_eq_left (by unfold fin at hx; omega), word_self h]
theorem mul_one {x : Nat} (hx : fin x) (h : x < 18446744073709551616) : mulO x 4607182418800017408 = some x := by
  rw [mul_eq hx (by unfold fin; decide)]
  have e1 : ng 4607182418800017408 = false := by decide
  have e2 : sig (mg 4607182418800017408) = 2 ^ 52 := by decide
  have e3 : ex (mg 4607182418800017408) = 1022 := by decide
  rw [e1, e2, e3, Bool.xor_false]
  have e4 : (-1074 + (ex (mg x) : Int) + (-1074 + ((1022 : Nat) : Int))) = -1074 + (ex (mg x) : Int) - ((52 : Nat) : Int) := by omega
  rw [e4, nearest_shift, nearest_read hx h]
theorem mul_zero {x : Nat} (hx : fin x) : ∃ z, mulO x 0 = some z ∧ mg z = 0 := by
  rw [mul_eq hx (by unfold fin; decide)]
  have e2 : sig (mg 0) = 0 := by decide
  rw [e2, Nat.mul_zero, nearest_zero]
  exact ⟨_, rfl, mg_word_zero _⟩
theorem val_zero {z : Nat} (h : mg z = 0) : val z = 0 := by unfold val; rw [h, sz_zero]; unfold sgn; split <;> rfl
theorem val_lt {x : Nat} (hx : fin x) : (val x).natAbs < szI := by unfold val; rw [sgn_abs]; exact sz_mono hx
theorem val_inj_plc {x y : Nat} (h : val x = val y) : plc x = plc y := by
  have h1 : sz (mg x) = sz (mg y) := by
    have := congrArg Int.natAbs h
    unfold val at this; rw [sgn_abs, sgn_abs] at this; exact this
  have h2 := sz_inj h1
  unfold val at h
  unfold plc
  rw [h2] at h ⊢
  rcases Nat.eq_zero_or_pos (mg y) with h0 | h0
  · rw [h0]; unfold sgn; split <;> split <;> rfl
  · have := sz_pos h0
    unfold sgn at *
    split at h <;> split at h <;> simp_all <;> omega
theorem eqB_val {x y : Nat} (hx : fin x) (hy : fin y) (h : val x = val y) : eqB x y = true := by
  unfold eqB
  rw [order_eqb (fin_not_nan hx) (fin_not_nan hy)]
  exact decide_eq_true (val_inj_plc h)
theorem sub_zero {x z : Nat} (hx : fin x) (hz : mg z = 0) : ∃ r, subO x z = some r ∧ fin r ∧ val r = val x := by
  have hv : val x - val z = val x := by rw [val_zero hz]; omega
  have hr : rnI (val x) = val x := rnI_exact (val_rep x)
  obtain ⟨r, h1, h2, h3⟩ := sub_fin hx (fin_zero hz) (by rw [hv, ← rn_abs, hr]; exact val_lt hx)
  exact ⟨r, h1, h2, by rw [h3, hv, hr]⟩
theorem zero_add {x z : Nat} (hx : fin x) (hz : mg z = 0) : ∃ r, addO z x = some r ∧ fin r ∧ val r = val x := by
  have hv : val z + val x = val x := by rw [val_zero hz]; omega
  have hr : rnI (val x) = val x := rnI_exact (val_rep x)
  obtain ⟨r, h1, h2, h3⟩ := add_fin (fin_zero hz) hx (by rw [hv, ← rn_abs, hr]; exact val_lt hx)
  exact ⟨r, h1, h2, by rw [h3, hv, hr]⟩
theorem times_one {x y re im : Nat} (hx : fin x) (hy : fin y) (lx : x < 18446744073709551616) (ly : y < 18446744073709551616)
    (h1 : rep (mulRe (ans x) (ans y) (some 4607182418800017408) (some 0)) re) (h2 : rep (mulIm (ans x) (ans y) (some 4607182418800017408) (some 0)) im) : eqB re x = true ∧ eqB im y = true := by
  obtain ⟨z1, e1, m1⟩ := mul_zero hy
  obtain ⟨z2, e2, m2⟩ := mul_zero hx
  obtain ⟨r1, f1, g1, v1⟩ := sub_zero hx m1
  obtain ⟨r2, f2, g2, v2⟩ := zero_add hy m2
  have k1 : mulRe (ans x) (ans y) (some 4607182418800017408) (some 0) = some r1 := by
    rw [ans_fin hx, ans_fin hy]
    show subA (mulO x 4607182418800017408) (mulO y 0) = _
    rw [mul_one hx lx, e1]; exact f1
  have k2 : mulIm (ans x) (ans y) (some 4607182418800017408) (some 0) = some r2 := by
    rw [ans_fin hx, ans_fin hy]
    show addA (mulO x 0) (mulO y 4607182418800017408) = _
    rw [mul_one hy ly, e2]; exact f2
  rw [k1] at h1
  rw [k2] at h2
  obtain ⟨_, rfl⟩ := ans_some h1.2
  obtain ⟨_, rfl⟩ := ans_some h2.2
  exact ⟨eqB_val g1 hx v1, eqB_val g2 hy v2⟩

theorem zero_mul {t : Nat} {z : Nat} (h : mulO 0 t = some z) : mg z = 0 := by
  unfold mulO Ieee.Format.mul at h
  rw [read_zero (by decide : mg 0 = 0)] at h
  cases hr : Ieee.double.read t with
  | nan s f => rw [hr] at h; cases h
  | infinity s => rw [hr] at h; cases h
  | number s n p =>
    rw [hr] at h
    cases h
    show mg (Ieee.double.nearest _ (0 * n) _) = 0
    rw [Nat.zero_mul, nearest_zero, mg_word_zero]
end Go.Proofs.YtmpkcioeodlbcaaGreatDoor
namespace Go.Proofs.YtmpkcioeodlbcaaGreatDoor
open Fl
theorem word_false (r : Nat) : Ieee.double.word false r = r := rfl
/-- The rung nearest to m times 2 to the power p. -/
def nr (m : Nat) (p : Int) : Nat := Ieee.double.nearest false m p
theorem nr_shift (m k : Nat) (p : Int) : nr (m * 2 ^ k) (p - (k : Int)) = nr m p := nearest_shift false m k p
theorem nr_zero (p : Int) : nr 0 p = 0 := nearest_zero false p
theorem nr_eq1 {m : Nat} (h : ¬ m = 0) (p : Int) : Ieee.double.nearest false m p = Ieee.double.word false (min ((max (p + (m.log2 : Int) - (Ieee.double.fractionBits : Int)) Ieee.double.leastPlace - Ieee.double.leastPlace).toNat * Ieee.double.binade + Ieee.Toward.even.cut false (m <<< (p - max (p + (m.log2 : Int) - (Ieee.double.fractionBits : Int)) Ieee.double.leastPlace).toNat) (max (p + (m.log2 : Int) - (Ieee.double.fractionBits : Int)) Ieee.double.leastPlace - p).toNat) Ieee.double.infRung) := by
  unfold Ieee.Format.nearest; rw [if_neg h]
theorem nr_eq {m : Nat} (h : 0 < m) {p L : Int} (hL : L = max (p + (m.log2 : Int) - 52) (-1074)) : nr m p = min ((L + 1074).toNat * 4503599627370496 + rne (m * 2 ^ (p - L).toNat) (L - p).toNat) 9218868437227405312 := by
  unfold nr
  rw [nr_eq1 (by omega)]
  have hf : (Ieee.double.fractionBits : Int) = 52 := rfl
  rw [hf, d_least, ← hL, d_bin, d_inf, word_false, cut_rne, Nat.shiftLeft_eq]
  have hk : L - -1074 = L + 1074 := by omega
  rw [hk]
theorem nr_lim (m : Nat) (p : Int) : nr m p ≤ 9218868437227405312 := by
  rcases Nat.eq_zero_or_pos m with h0 | h0
  · subst h0; rw [nr_zero]; omega
  · rw [nr_eq h0 rfl]; exact Nat.min_le_right _ _

/-- Words without a sign. -/
def pos (x : Nat) : Prop := x < 9218868437227405312
theorem pos.fin {x : Nat} (h : pos x) : fin x := by unfold pos at h; unfold Fl.fin mg; omega
theorem pos.mg {x : Nat} (h : pos x) : mg x = x := by unfold pos at h; unfold Fl.mg; omega
theorem pos.ng {x : Nat} (h : pos x) : ng x = false := by
  unfold pos at h; unfold Fl.ng; rw [Nat.div_eq_of_lt (by omega)]; rfl
theorem pos.read {x : Nat} (h : pos x) : Ieee.double.read x = .number false (sig x) (-1074 + (ex x : Int)) := by
  rw [read_fin x h.fin, h.ng, h.mg]
theorem mul_pos {x y : Nat} (hx : pos x) (hy : pos y) : mulO x y = some (nr (sz x * sz y) (-2148)) := by
  unfold mulO Ieee.Format.mul
  rw [hx.read, hy.read]
  show some (Ieee.double.nearest false (sig x * sig y) (-1074 + (ex x : Int) + (-1074 + (ex y : Int)))) = _
  rw [← nearest_shift false _ (ex x + ex y)]
  unfold nr sz
  congr 2
  · rw [Nat.pow_add]; ac_rfl
  · omega
theorem add_pos {x y : Nat} (hx : pos x) (hy : pos y) : addO x y = some (nr (sz x + sz y) (-1074)) := by
  unfold addO Ieee.Format.add
  rw [hx.read, hy.read]
  simp only [Ieee.Datum.sum, signed_eq, Option.map_some]
  obtain ⟨b, hb⟩ : ∃ b : Nat, b = min (ex x) (ex y) := ⟨_, rfl⟩
  have e1 : min (-1074 + (ex x : Int)) (-1074 + (ex y : Int)) = -1074 + (b : Int) := by omega
  have e2 : (-1074 + (ex x : Int) - (-1074 + (b : Int))).toNat = ex x - b := by omega
  have e3 : (-1074 + (ex y : Int) - (-1074 + (b : Int))).toNat = ex y - b := by omega
  rw [e1, e2, e3]
  have e4 : sgn false (sig x * 2 ^ (ex x - b)) + sgn false (sig y * 2 ^ (ex y - b)) = ((sig x * 2 ^ (ex x - b) + sig y * 2 ^ (ex y - b) : Nat) : Int) := by unfold sgn; simp
  rw [e4]
  obtain ⟨T, hT⟩ : ∃ T : Nat, T = sig x * 2 ^ (ex x - b) + sig y * 2 ^ (ex y - b) := ⟨_, rfl⟩
  rw [← hT]
  have e5 : (if ((T : Nat) : Int) = 0 then (false && false) else decide (((T : Nat) : Int) < 0)) = false := by
    split
    · rfl
    · exact decide_eq_false (by omega)
  rw [e5]
  show some (Ieee.double.nearest false ((T : Int).natAbs) (-1074 + (b : Int))) = _
  rw [Int.natAbs_natCast, ← nearest_shift false T b]
  unfold nr
  congr 2
  · rw [hT, Nat.add_mul, Nat.mul_assoc, Nat.mul_assoc, ← Nat.pow_add, ← Nat.pow_add, Nat.sub_add_cancel (by omega), Nat.sub_add_cancel (by omega)]; rfl
  · omega

end Go.Proofs.YtmpkcioeodlbcaaGreatDoor
namespace Go.Proofs.YtmpkcioeodlbcaaGreatDoor
open Fl RowKit
theorem nan_zero : nan 0 = false := by decide
theorem plc_zero : plc 0 = 0 := by decide
theorem mulV_of {x y s : Nat} (h : mulO x y = some s) (W : World) : mulV W x y = s := by unfold mulV fV; rw [h]
end Go.Proofs.YtmpkcioeodlbcaaGreatDoor
namespace Go.Proofs.YtmpkcioeodlbcaaGreatDoor
open RowKit
/-- how often the unit goes into a ratio, the unit being 2 to the power D - 1074 -/
def nN (P Q D : Nat) : Nat := P * 2 ^ Fl.K74 / (Q * 2 ^ D)
def Gt53 (n : Nat) : Prop := 9007199254740992 ≤ n
def nU (P Q : Nat) : Nat := nbits P + 1021 - nbits Q
theorem nN_half (P Q D : Nat) : nN P Q (D + 1) = nN P Q D / 2 := by
  unfold nN
  rw [Nat.pow_succ, ← Nat.mul_assoc, Nat.div_div_eq_div_mul]
theorem nN_top {P Q : Nat} (hQ : 0 < Q) : nN P Q (nU P Q) < 18014398509481984 := by
  have h1 := nbits_lt P
  have h2 := nbits_ge hQ
  unfold nN nU
  rw [Nat.div_lt_iff_lt_mul (Nat.mul_pos hQ (Nat.two_pow_pos _))]
  generalize hD : nbits P + 1021 - nbits Q = D
  have h3 : (18014398509481984 : Nat) = 2 ^ 54 := by decide
  rw [h3]
  have h4 : 2 ^ (nbits P) * 2 ^ Fl.K74 ≤ 2 ^ 54 * (Q * 2 ^ D) := by
    have a : 2 ^ nbits Q * 2 ^ D ≤ 2 * Q * 2 ^ D := Nat.mul_le_mul_right _ h2
    have b : 2 ^ (nbits P + Fl.K74) ≤ 2 ^ (53 + nbits Q + D) := Nat.pow_le_pow_right (by decide) (by unfold Fl.K74; omega)
    rw [← Nat.pow_add]
    rw [Nat.add_assoc 53, Nat.pow_add 2 53, Nat.pow_add 2 (nbits Q)] at b
    have c : 2 ^ 53 * (2 ^ nbits Q * 2 ^ D) ≤ 2 ^ 53 * (2 * Q * 2 ^ D) := Nat.mul_le_mul_left _ a
    have d : 2 ^ 53 * (2 * Q * 2 ^ D) = 2 ^ 54 * (Q * 2 ^ D) := by
      rw [show (2 : Nat) ^ 54 = 2 ^ 53 * 2 from by decide, Nat.mul_assoc 2 Q, Nat.mul_assoc (2 ^ 53) 2]
    omega
  exact Nat.lt_of_lt_of_le ((Nat.mul_lt_mul_right (Nat.two_pow_pos _)).2 h1) h4
theorem nN_lt2 {P Q D0 : Nat} (_ : 0 < P) (hQ : 0 < Q) (h0 : D0 = nU P Q) : nN P Q (D0 + 1) < 9007199254740992 := by
  have := nN_top (P := P) hQ
  rw [nN_half, h0]
  omega
/-- the unit's power is never too great -/
theorem nN_ge {P Q D D0 : Nat} (hP : 0 < P) (hQ : 0 < Q) (h0 : D0 = nU P Q) (hD : D = D0 ∨ D = D0 + 1 ∧ Gt53 (nN P Q D0)) : 4503599627370496 ≤ nN P Q D ∨ D = 0 := by
  rcases hD with h | ⟨h, h2⟩
  · rcases Nat.eq_zero_or_pos D with hz | hz
    · exact .inr hz
    · refine .inl ?_
      subst h
      have h1 := nbits_ge hP
      have h2 := nbits_lt Q
      have hQD : 0 < Q * 2 ^ D := Nat.mul_pos hQ (Nat.two_pow_pos _)
      · unfold nN
        rw [Nat.le_div_iff_mul_le hQD]
        have hD : D = nbits P + 1021 - nbits Q := h0
        have a : Q * 2 ^ D ≤ 2 ^ nbits Q * 2 ^ D := Nat.mul_le_mul_right _ (Nat.le_of_lt h2)
        rw [← Nat.pow_add, show nbits Q + D = nbits P + 1021 by omega] at a
        have b : 4503599627370496 * (Q * 2 ^ D) ≤ 2 ^ 52 * 2 ^ (nbits P + 1021) := Nat.mul_le_mul (by decide) a
        have c : 2 ^ nbits P * 2 ^ Fl.K74 ≤ 2 * P * 2 ^ Fl.K74 := Nat.mul_le_mul_right _ h1
        have d : 2 ^ 52 * 2 ^ (nbits P + 1021) * 2 = 2 ^ nbits P * 2 ^ Fl.K74 := by
          rw [← Nat.pow_add, ← Nat.pow_succ, ← Nat.pow_add, show (52 + (nbits P + 1021)).succ = nbits P + Fl.K74 by unfold Fl.K74; omega]
        rw [Nat.mul_assoc 2 P] at c
        omega
  · refine .inl ?_
    rw [h, nN_half]
    unfold Gt53 at h2
    omega
/-- the unit that is taken -/
def nD (P Q : Nat) : Nat := if nN P Q (nU P Q) < 9007199254740992 then nU P Q else nU P Q + 1
/-- rounded, of two equally near ones the even one -/
def nR (P Q : Nat) : Nat := if Q * 2 ^ nD P Q < 2 * (P * 2 ^ Fl.K74 % (Q * 2 ^ nD P Q)) ∨ 2 * (P * 2 ^ Fl.K74 % (Q * 2 ^ nD P Q)) = Q * 2 ^ nD P Q ∧ nN P Q (nD P Q) % 2 = 1 then nN P Q (nD P Q) + 1 else nN P Q (nD P Q)
/-- the word of so many units; where it is too great, of an infinity -/
def ldW (D n : Nat) : Nat := if D * 4503599627370496 + n < 9218868437227405312 then D * 4503599627370496 + n else 9218868437227405312
end Go.Proofs.YtmpkcioeodlbcaaGreatDoor
namespace Go.Proofs.YtmpkcioeodlbcaaGreatDoor
open Fl
theorem rne_form (A B : Nat) : (if B < 2 * (A % B) ∨ 2 * (A % B) = B ∧ A / B % 2 = 1 then A / B + 1 else A / B) = A / B + (if B < 2 * (A % B) ∨ (B = 2 * (A % B) ∧ A / B % 2 = 1) then 1 else 0) := by
  by_cases h : B < 2 * (A % B) ∨ 2 * (A % B) = B ∧ A / B % 2 = 1
  · rw [if_pos h, if_pos (h.imp id fun x => ⟨x.1.symm, x.2⟩)]
  · rw [if_neg h, if_neg (fun g => h (g.imp id fun x => ⟨x.1.symm, x.2⟩))]; rfl
end Go.Proofs.YtmpkcioeodlbcaaGreatDoor
namespace Go.Proofs.YtmpkcioeodlbcaaGreatDoor
open Fl
theorem nearest_nr (s : Bool) (m : Nat) (p : Int) : Ieee.double.nearest s m p = Ieee.double.word s (nr m p) := by
  obtain ⟨r, hr, e⟩ := nearest_word m p
  unfold nr
  rw [e, e, word_false]
theorem mul_gen {x y : Nat} (hx : fin x) (hy : fin y) : mulO x y = some (Ieee.double.word (ng x ^^ ng y) (nr (sz (mg x) * sz (mg y)) (-2148))) := by
  rw [mul_eq hx hy, nearest_nr, ← nr_shift _ (ex (mg x) + ex (mg y))]
  have e1 : sig (mg x) * sig (mg y) * 2 ^ (ex (mg x) + ex (mg y)) = sz (mg x) * sz (mg y) := by unfold sz; rw [Nat.pow_add]; ac_rfl
  have e2 : (-1074 + (ex (mg x) : Int) + (-1074 + (ex (mg y) : Int)) - ((ex (mg x) + ex (mg y) : Nat) : Int)) = -2148 := by omega
  rw [e1, e2]
def dq (l g : Nat) : Nat := nr (2 * (sig l * 2 ^ (54 + (sig g).log2 - (sig l).log2) / sig g) + (sig l * 2 ^ (54 + (sig g).log2 - (sig l).log2) % sig g != 0).toNat) ((ex l : Int) - (ex g : Int) - ((54 + (sig g).log2 - (sig l).log2 : Nat) : Int) - 1)
theorem div_gen {x y : Nat} (hx : fin x) (hy : fin y) (h0 : ¬ sig (mg y) = 0) : divO x y = some (Ieee.double.word (ng x ^^ ng y) (dq (mg x) (mg y))) := by
  unfold divO Ieee.Format.div dq
  rw [read_fin x hx, read_fin y hy]
  simp only [Ieee.Datum.quotient, h0, if_false, Option.map_some, Nat.shiftLeft_eq]
  have e0 : Ieee.double.fractionBits + 2 + (sig (mg y)).log2 - (sig (mg x)).log2 = 54 + (sig (mg y)).log2 - (sig (mg x)).log2 := rfl
  rw [e0]
  generalize 54 + (sig (mg y)).log2 - (sig (mg x)).log2 = M
  have e1 : (-1074 + (ex (mg x) : Int) - (-1074 + (ex (mg y) : Int)) - (M : Int) - 1) = (ex (mg x) : Int) - (ex (mg y) : Int) - (M : Int) - 1 := by omega
  rw [e1]
  show some (Ieee.double.nearest _ _ _) = _
  rw [nearest_nr]
/-- x' is x times 2 to the power k - 128. -/
def sc (k x x' : Nat) : Prop := fin x ∧ fin x' ∧ ng x' = ng x ∧ sz (mg x') * 2 ^ 128 = sz (mg x) * 2 ^ k
theorem sc.val {k x x' : Nat} (h : sc k x x') : val x' * ((2 ^ 128 : Nat) : Int) = val x * ((2 ^ k : Nat) : Int) := by
  obtain ⟨_, _, h3, h4⟩ := h
  unfold Fl.val; rw [h3, ← sgn_mul, ← sgn_mul, h4]
theorem sc.ng {k x x' : Nat} (h : sc k x x') (hx : x < 18446744073709551616) (hx' : x' < 18446744073709551616) : sc k (ngW x) (ngW x') := by
  obtain ⟨h1, h2, h3, h4⟩ := h
  refine ⟨by unfold Fl.fin; rw [mg_ngW hx]; exact h1, by unfold Fl.fin; rw [mg_ngW hx']; exact h2, by rw [ng_ngW hx, ng_ngW hx', h3], by rw [mg_ngW hx, mg_ngW hx']; exact h4⟩
end Go.Proofs.YtmpkcioeodlbcaaGreatDoor
namespace Go.Proofs.YtmpkcioeodlbcaaGreatDoor
open Fl
/-- a ratio, rounded to a whole number, of two equally near ones the even one -/
def rdQ (A C : Nat) : Nat := A / C + (if C < 2 * (A % C) ∨ (C = 2 * (A % C) ∧ A / C % 2 = 1) then 1 else 0)
end Go.Proofs.YtmpkcioeodlbcaaGreatDoor
namespace Go.Proofs.YtmpkcioeodlbcaaGreatDoor
open Fl
theorem rdQ_up (A C f : Nat) (hf : 0 < f) : rdQ (A * f) (C * f) = rdQ A C := by
  unfold rdQ
  rw [Nat.mul_div_mul_right _ _ hf, Nat.mul_mod_mul_right]
  have e1 : C * f < 2 * (A % C * f) ↔ C < 2 * (A % C) := by rw [← Nat.mul_assoc]; exact Nat.mul_lt_mul_right hf
  have e2 : C * f = 2 * (A % C * f) ↔ C = 2 * (A % C) := by rw [← Nat.mul_assoc]; exact Nat.mul_left_inj (by omega)
  simp only [e1, e2]
theorem nR_rdQ (P Q : Nat) : nR P Q = rdQ (P * 2 ^ K74) (Q * 2 ^ nD P Q) := by
  unfold nR rdQ nN
  generalize P * 2 ^ K74 = A
  generalize Q * 2 ^ nD P Q = B
  exact rne_form A B
theorem nN_mono {P Q D E : Nat} (h : D ≤ E) : nN P Q E ≤ nN P Q D := by
  induction E with
  | zero => rw [show D = 0 by omega]; exact Nat.le_refl _
  | succ E ih =>
    rcases Nat.lt_or_ge D (E + 1) with h1 | h1
    · have := ih (by omega); rw [nN_half]; omega
    · rw [show D = E + 1 by omega]; exact Nat.le_refl _
/-- the unit is the least under which the count keeps below 2 to the power 53 -/
theorem unit_one {P Q D E : Nat} (h1 : nN P Q D < 9007199254740992) (h2 : 4503599627370496 ≤ nN P Q D ∨ D = 0) (h3 : nN P Q E < 9007199254740992) (h4 : 4503599627370496 ≤ nN P Q E ∨ E = 0) : D = E := by
  rcases Nat.lt_trichotomy D E with h | h | h
  · obtain ⟨k, rfl⟩ : ∃ k, E = k + 1 := ⟨E - 1, by omega⟩
    have a := nN_mono (P := P) (Q := Q) (show D ≤ k by omega)
    have b := nN_half P Q k
    omega
  · exact h
  · obtain ⟨k, rfl⟩ : ∃ k, D = k + 1 := ⟨D - 1, by omega⟩
    have a := nN_mono (P := P) (Q := Q) (show E ≤ k by omega)
    have b := nN_half P Q k
    omega
theorem nD_props {P Q : Nat} (hP : 0 < P) (hQ : 0 < Q) : nN P Q (nD P Q) < 9007199254740992 ∧ (4503599627370496 ≤ nN P Q (nD P Q) ∨ nD P Q = 0) := by
  unfold nD
  by_cases h : nN P Q (nU P Q) < 9007199254740992
  · rw [if_pos h]; exact ⟨h, nN_ge hP hQ rfl (.inl rfl)⟩
  · rw [if_neg h]; exact ⟨nN_lt2 hP hQ rfl, nN_ge hP hQ rfl (.inr ⟨rfl, by unfold Gt53; omega⟩)⟩

end Go.Proofs.YtmpkcioeodlbcaaGreatDoor
namespace Go.Proofs.YtmpkcioeodlbcaaGreatDoor
open Fl
theorem K74_split : (2 : Nat) ^ K74 = 2 ^ E21 * 9007199254740992 := by
  rw [show (9007199254740992 : Nat) = 2 ^ 53 by decide, ← Nat.pow_add]
  exact congrArg (fun k => (2 : Nat) ^ k) (show K74 = E21 + 53 from rfl)
theorem good_scale {P Q r o D : Nat} (h : Good P Q r o D) : P * 2 ^ K74 * o = r * 9007199254740992 * (Q * 2 ^ D) := by
  have e := h.2.2.1
  rw [K74_split]
  generalize 2 ^ E21 = y at *
  generalize 2 ^ D = x at *
  generalize (9007199254740992 : Nat) = k
  calc P * (y * k) * o = (P * o * y) * k := by simp only [Nat.mul_comm, Nat.mul_left_comm]
    _ = (r * Q * x) * k := by rw [← e]
    _ = r * k * (Q * x) := by simp only [Nat.mul_comm, Nat.mul_left_comm]
theorem good_near {P Q r o D : Nat} (h : Good P Q r o D) (hP : 0 < P) (hQ : 0 < Q) : nD P Q = D ∧ nR P Q = fr53 r o := by
  have hro := h.1
  have ho : 0 < o := by omega
  have hc : 0 < Q * 2 ^ D := Nat.mul_pos hQ (Nat.two_pow_pos D)
  have hs := good_scale h
  have e1 : nN P Q D = r * 9007199254740992 / o := by
    unfold nN
    rw [← Nat.mul_div_mul_right _ _ ho, hs, Nat.mul_comm (Q * 2 ^ D) o, Nat.mul_div_mul_right _ _ hc]
  have e2 : rdQ (P * 2 ^ K74) (Q * 2 ^ D) = rdQ (r * 9007199254740992) o := by
    rw [← rdQ_up (P * 2 ^ K74) (Q * 2 ^ D) o ho, hs, Nat.mul_comm (Q * 2 ^ D) o, rdQ_up _ _ _ hc]
  have p1 : nN P Q D < 9007199254740992 := by
    rw [e1, Nat.div_lt_iff_lt_mul ho, Nat.mul_comm]
    exact Nat.mul_lt_mul_of_pos_left hro (by decide)
  have p2 : 4503599627370496 ≤ nN P Q D ∨ D = 0 := by
    rcases h.2.1 with h1 | h1
    · left
      rw [e1, Nat.le_div_iff_mul_le ho]
      have : 4503599627370496 * o ≤ 4503599627370496 * (2 * r) := Nat.mul_le_mul_left _ h1
      omega
    · exact .inr h1
  obtain ⟨p3, p4⟩ := nD_props hP hQ
  have hD : nD P Q = D := unit_one p3 p4 p1 p2
  refine ⟨hD, ?_⟩
  rw [nR_rdQ, hD, e2]
  unfold rdQ fr53 rUp
  generalize r * 9007199254740992 = A
  by_cases hc : o < 2 * (A % o) ∨ o = 2 * (A % o) ∧ A / o % 2 = 1
  · rw [if_pos hc, decide_eq_true hc]; rfl
  · rw [if_neg hc, decide_eq_false hc]; rfl

end Go.Proofs.YtmpkcioeodlbcaaGreatDoor
namespace Go.Proofs.YtmpkcioeodlbcaaGreatDoor
open Fl
def K130 : Nat := 130
def K530 : Nat := 530
def K400 : Nat := 400
theorem ten_two (n : Nat) : 10 ^ n ≤ 2 ^ (4 * n) := by
  rw [Nat.pow_mul]; exact Nat.pow_le_pow_left (by decide) n
theorem cZ_lt (s : ByteArray) (i : Nat) : cZ s i < 10 ^ K130 := by
  have h1 := dV_bound (s := s) 65 i 0
  have h2 := dV_bound (s := s) 65 (cI2 s i) (dV s 65 i 0)
  have e : (10 : Nat) ^ K130 = 10 ^ 65 * 10 ^ 65 := by rw [← Nat.pow_add]; exact congrArg (fun k => (10 : Nat) ^ k) (show K130 = 65 + 65 from rfl)
  rw [e]
  rw [Nat.zero_add, Nat.one_mul] at h1
  have hp : 0 < (10 : Nat) ^ 65 := Nat.pow_pos (by decide)
  generalize (10 : Nat) ^ 65 = T at *
  have h3 : (dV s 65 i 0 + 1) * T ≤ T * T := Nat.mul_le_mul_right _ h1
  have h4 : T * 1 ≤ T * T := Nat.mul_le_mul_left _ hp
  unfold cZ
  split <;> omega
theorem pP_nbits {z : Nat} {c : Int} (hz : z < 10 ^ K130) (hc : c ≤ 400) : nbits (pP z c) ≤ 4 * K530 := by
  apply nbits_le
  refine Nat.lt_of_lt_of_le ?_ (ten_two K530)
  have h1 : 10 ^ c.toNat ≤ 10 ^ K400 := Nat.pow_le_pow_right (by decide) (show c.toNat ≤ 400 by omega)
  have e : (10 : Nat) ^ K530 = 10 ^ K130 * 10 ^ K400 := by rw [← Nat.pow_add]; exact congrArg (fun k => (10 : Nat) ^ k) (show K530 = K130 + K400 from rfl)
  unfold pP
  rw [e]
  have hp : 0 < (10 : Nat) ^ c.toNat := Nat.pow_pos (by decide)
  exact Nat.lt_of_lt_of_le (Nat.mul_lt_mul_of_pos_right hz hp) (Nat.mul_le_mul_left _ h1)
theorem nD_small {P Q : Nat} (h : nbits P ≤ 4 * K530) : nD P Q ≤ 3200 := by
  have e : 4 * K530 = 2120 := rfl
  unfold nD nU
  split <;> omega
theorem nR_small {P Q : Nat} (hP : 0 < P) (hQ : 0 < Q) : nR P Q ≤ 9007199254740992 := by
  obtain ⟨h, _⟩ := nD_props hP hQ
  unfold nR
  split <;> omega
/-- the float of z times ten to the power c, by its bits; from the infinity's on there is none -/
def flt (z : Nat) (c : Int) : Nat := if z = 0 then 0 else ldW (nD (pP z c) (pQ c)) (nR (pP z c) (pQ c))
theorem near_bits {z bw r o D : Nat} {c : Int} (hz : 0 < z) (hzb : z < 10 ^ K130) (hc : c ≤ 400) (h : Good (pP z c) (pQ c) r o D) (hb : bw = ((D * 4503599627370496) % 18446744073709551616 + fr53 r o) % 18446744073709551616) :
    bw < 18446744073709551616 ∧ (bw < 9218868437227405312 → flt z c = bw) ∧ (9218868437227405312 ≤ bw → flt z c = 9218868437227405312) := by
  have hP : 0 < pP z c := Nat.mul_pos hz (Nat.pow_pos (by decide))
  have hQ : 0 < pQ c := Nat.pow_pos (by decide)
  obtain ⟨e1, e2⟩ := good_near h hP hQ
  have b1 := nD_small (Q := pQ c) (pP_nbits hzb hc)
  have b2 := nR_small hP hQ
  have ef : flt z c = ldW (nD (pP z c) (pQ c)) (nR (pP z c) (pQ c)) := if_neg (by omega)
  rw [e1] at b1
  rw [e2] at b2
  rw [ef, e1, e2]
  unfold ldW
  generalize fr53 r o = y at *
  refine ⟨by omega, fun hlt => ?_, fun hge => ?_⟩
  · rw [if_pos (by omega)]; omega
  · rw [if_neg (by omega)]

end Go.Proofs.YtmpkcioeodlbcaaGreatDoor
namespace Go.Proofs.YtmpkcioeodlbcaaGreatDoor
open RowKit
/-- where the digits begin -/
def pI (s : ByteArray) : Nat := tk s 0 45
def pBad (s : ByteArray) : Bool := !cOk s (pI s) || decide (cEnd s (pI s) < s.size)
def pF (s : ByteArray) : Nat := flt (cZ s (pI s)) (clp (cP s (pI s)))
/-- the float's bits, the error, the place -/
def paW (s : ByteArray) : Nat := if 64 < s.size then 0 else if pBad s = true then 0 else if 9218868437227405312 ≤ pF s then 0 else if tkb s 0 45 = true then pF s + 9223372036854775808 else pF s
def paE (s : ByteArray) : Int := if 64 < s.size then 3 else if pBad s = true then 150 else if 9218868437227405312 ≤ pF s then 6 else 0
def paA (s : ByteArray) : Int := if 64 < s.size then -1 else if pBad s = true then (cEnd s (pI s) : Int) else if 9218868437227405312 ≤ pF s then -1 else 0
theorem qor_sign {b : Nat} (h : b < 9223372036854775808) : bits .or .u64 (b : Int) 9223372036854775808 = ((b + 9223372036854775808 : Nat) : Int) := by
  have e := bits_or_u64_nat b 9223372036854775808 (by omega) (by omega)
  have e2 : b ||| 9223372036854775808 = b + 9223372036854775808 := by
    have := Nat.two_pow_add_eq_or_of_lt (i := 63) (b := b) (by omega) 1
    rw [Nat.mul_one] at this
    rw [Nat.or_comm, Nat.add_comm]; exact this.symm
  rw [e2] at e
  exact e
/-- the fault's cells -/
structure Flc (w : World) (f : Nat) (a b : Value) : Prop where
  c0 : w.cell? ⟨f, 0, none⟩ = some a
  c1 : w.cell? ⟨f, 1, none⟩ = some b
  z0 : w.frozen? ⟨f, 0, none⟩ = false
  z1 : w.frozen? ⟨f, 1, none⟩ = false
theorem Flc.later {w w' : World} {f B : Nat} {a b : Value} (h : Flc w f a b) (hb : Below B w w') (hf : f < B) : Flc w' f a b :=
  ⟨(hb.cell (by exact hf)).trans h.c0, (hb.cell (by exact hf)).trans h.c1, (hb.frozen (by exact hf)).trans h.z0, (hb.frozen (by exact hf)).trans h.z1⟩
theorem Flc.only {w w' : World} {f p : Nat} {a b : Value} (h : Flc w f a b) (hb : Only (fun k => k = p) w w') (hf : f ≠ p) (hl : f < w.heap.size) : Flc w' f a b :=
  ⟨(World.cell?_of_block (hb.block f hl hf)).trans h.c0, (World.cell?_of_block (hb.block f hl hf)).trans h.c1, (World.frozen?_of_block (hb.block f hl hf)).trans h.z0, (World.frozen?_of_block (hb.block f hl hf)).trans h.z1⟩
theorem flc_new (w : World) (a b : Value) (c : Obj) : Flc ((w.alloc (.cells #[a, b] 69)).alloc c) w.heap.size a b := by
  refine ⟨?_, ?_, ?_, ?_⟩
  · rw [World.cell?_alloc_lt _ _ _ (by simp)]; exact World.cell?_alloc_new w _ _ 0
  · rw [World.cell?_alloc_lt _ _ _ (by simp)]; exact World.cell?_alloc_new w _ _ 1
  · simp
  · simp
theorem Flc.put {w : World} {f : Nat} {a b : Value} (h : Flc w f a b) (x y : Value) : ((w.setCell ⟨f, 0, none⟩ x).setCell ⟨f, 1, none⟩ y).cell? ⟨f, 0, none⟩ = some x ∧ ((w.setCell ⟨f, 0, none⟩ x).setCell ⟨f, 1, none⟩ y).cell? ⟨f, 1, none⟩ = some y := by
  refine ⟨?_, ?_⟩
  · rw [other_cell_Gm _ (by simp) _]; exact World.cell?_setCell_same _ _ _ h.c0
  · exact World.cell?_setCell_same _ _ _ (u := b) (by rw [other_cell_Gm _ (by simp) _]; exact h.c1)
theorem below_put {w w' : World} {f n : Nat} (h : Below n w w') (hf : n ≤ f) (x y : Value) : Below n w ((w'.setCell ⟨f, 0, none⟩ x).setCell ⟨f, 1, none⟩ y) :=
  (h.setCell (p := ⟨f, 0, none⟩) hf _).setCell (p := ⟨f, 1, none⟩) hf _
theorem Wh.by {w : World} {base z L k : Nat} {v : Value} (h : Wh w base v z L) (hz : z < 18446744073709551616 ^ k) : Wh w base v z k := by
  obtain ⟨ws, h1, h2, h3, h4, h5⟩ := h
  refine ⟨ws, h1, h2, h3, h4, ?_⟩
  rcases Nat.lt_or_ge k ws.length with hl | hl
  · exfalso
    have h6 := qn_ge h3 (by omega)
    have h7 : 18446744073709551616 ^ k ≤ 18446744073709551616 ^ (ws.length - 1) := Nat.pow_le_pow_right (by decide) (by omega)
    omega
  · exact hl
def K9 : Nat := 9
theorem cZ_nine (s : ByteArray) (i : Nat) : cZ s i < 18446744073709551616 ^ K9 := by
  refine Nat.lt_of_lt_of_le (cZ_lt s i) (Nat.le_trans (ten_two K130) ?_)
  rw [pow64]
  exact Nat.pow_le_pow_right (by decide) (show 4 * K130 ≤ 64 * K9 by decide)
set_option maxRecDepth 10000 in
set_option maxHeartbeats 2000000 in
theorem Parse_any (s : ByteArray) (w : World) :
    Calls Tryz.prog 193 #[.string s] w fun e w' => e = .returned (.tuple #[.float .f64 (paW s), .agg #[.int .i64 (paE s), .int .i64 (paA s)]]) ∧ Below w.heap.size w w' := by
  by_cases h64 : 64 < s.size
  · have e1 : paW s = 0 := if_pos h64
    have e2 : paE s = 3 := if_pos h64
    have e3 : paA s = -1 := if_pos h64
    have hI : (64 : Int) < s.size := by omega
    rw [e1, e2, e3]
    clear e1 e2 e3
    go_enter Tryz.func193, Tryz.ntmps193
    go_wp2
    refine bodyPost_ret (by simp [results, Tryz.results193, go_sem]; try rfl) rfl ?_
    exact ⟨rfl, (Below.refl _ w).alloc (Nat.le_refl _) _⟩
  · have hI : ¬ (64 : Int) < s.size := by omega
    obtain ⟨W0, hW0⟩ : ∃ W0, W0 = (w.alloc (.cells #[.int .i64 0, .int .i64 0] 69)).alloc (.cells #[.string s, .int .i64 0] 285) := ⟨_, rfl⟩
    have F0 : Flc W0 w.heap.size (.int .i64 0) (.int .i64 0) := by rw [hW0]; exact flc_new _ _ _ _
    have B0 : Below w.heap.size w W0 := by rw [hW0]; exact ((Below.refl w.heap.size w).alloc (Nat.le_refl _) _).alloc (by simp) _
    have S0 : W0.heap.size = w.heap.size + 1 + 1 := by rw [hW0]; simp
    have R0 : Rdr W0 (w.heap.size + 1) s 0 := by
      rw [hW0]
      refine ⟨?_, Nat.zero_le _, by omega⟩
      have := heap_alloc_new (w.alloc (.cells #[.int .i64 0, .int .i64 0] 69)) (.cells #[.string s, .int .i64 0] 285)
      simpa using this
    obtain ⟨neg, hneg⟩ : ∃ neg, tkb s 0 45 = neg := ⟨_, rfl⟩
    have HT : Hid (tkb s 0 45 = neg) := hneg
    by_cases hbad : pBad s = true
    · have e1 : paW s = 0 := by unfold paW; rw [if_neg h64, if_pos hbad]
      have e2 : paE s = 150 := by unfold paE; rw [if_neg h64, if_pos hbad]
      have e3 : paA s = (cEnd s (pI s) : Int) := by unfold paA; rw [if_neg h64, if_pos hbad]
      rw [e1, e2, e3]
      clear e1 e2 e3
      cases hO : cOk s (pI s)
      · have HO : Hid (cOk s (tk s 0 45) = false) := hO
        clear hO hbad hneg
        go_enter Tryz.func193, Tryz.ntmps193
        go_wp2_with fail
        rw [← hW0]
        clear hW0
        go_wp2_with (first
          | (go_at_call 218; (with_reducible refine (take_any 45 R0 (by omega)).mono ?_); rintro e1 w1 ⟨rfl, k1, k2⟩; rw [HT.out]; have F1 := F0.only k2 (by omega) (by omega); have s1 := k2.size)
          | (go_at_call 219; (with_reducible refine (dec_any k1).mono ?_); rintro e2 w2 ⟨v2, P2, rfl, hok2, R2, O2⟩; rw [HO.out]; have F2 := F1.only O2 (by omega) (by omega); have c1 := R2.c1; have f0 := F2.c0; have f1 := F2.c1; have g0 := F2.z0; have g1 := F2.z1))
        go_region
        all_goals
          have B2 : Below w.heap.size w w2 := (B0.trans (k2.below _ B0.size (fun i hi => by omega))).trans (O2.below _ (by omega) (fun i hi => by omega))
          obtain ⟨P0, P1⟩ := F2.put (.int .i64 150) (.int .i64 (cEnd s (tk s 0 45) : Int))
          have P0' : ((w2.setCell ⟨w.heap.size, 0, none⟩ (.int .i64 150)).setCell ⟨w.heap.size, 1, none⟩ (.int .i64 (cEnd s (tk s 0 45) : Int))).drew.cell? ⟨w.heap.size, 0, none⟩ = some (.int .i64 150) := P0
          have P1' : ((w2.setCell ⟨w.heap.size, 0, none⟩ (.int .i64 150)).setCell ⟨w.heap.size, 1, none⟩ (.int .i64 (cEnd s (tk s 0 45) : Int))).drew.cell? ⟨w.heap.size, 1, none⟩ = some (.int .i64 (cEnd s (tk s 0 45) : Int)) := P1
          go_wp2
          refine bodyPost_ret (by simp [results, Tryz.results193, go_sem, P0', P1']; try rfl) rfl ?_
          exact ⟨rfl, (below_put B2 (Nat.le_refl _) _ _).drew⟩
      · have HO : Hid (cOk s (tk s 0 45) = true) := hO
        have hE : ((cEnd s (tk s 0 45) : Nat) : Int) < s.size := by
          have h1 : cEnd s (pI s) < s.size := by
            unfold pBad at hbad
            rw [hO] at hbad
            simpa using hbad
          have h2 : cEnd s (tk s 0 45) < s.size := h1
          omega
        clear hO hbad hneg
        go_enter Tryz.func193, Tryz.ntmps193
        go_wp2_with fail
        rw [← hW0]
        clear hW0
        go_wp2_with (first
          | (go_at_call 218; (with_reducible refine (take_any 45 R0 (by omega)).mono ?_); rintro e1 w1 ⟨rfl, k1, k2⟩; rw [HT.out]; have F1 := F0.only k2 (by omega) (by omega); have s1 := k2.size)
          | (go_at_call 219; (with_reducible refine (dec_any k1).mono ?_); rintro e2 w2 ⟨v2, P2, rfl, hok2, R2, O2⟩; rw [HO.out]; have F2 := F1.only O2 (by omega) (by omega); have c1 := R2.c1; have f0 := F2.c0; have f1 := F2.c1; have g0 := F2.z0; have g1 := F2.z1))
        go_region
        all_goals
          have B2 : Below w.heap.size w w2 := (B0.trans (k2.below _ B0.size (fun i hi => by omega))).trans (O2.below _ (by omega) (fun i hi => by omega))
          obtain ⟨P0, P1⟩ := F2.put (.int .i64 150) (.int .i64 (cEnd s (tk s 0 45) : Int))
          have P0' : ((w2.setCell ⟨w.heap.size, 0, none⟩ (.int .i64 150)).setCell ⟨w.heap.size, 1, none⟩ (.int .i64 (cEnd s (tk s 0 45) : Int))).drew.cell? ⟨w.heap.size, 0, none⟩ = some (.int .i64 150) := P0
          have P1' : ((w2.setCell ⟨w.heap.size, 0, none⟩ (.int .i64 150)).setCell ⟨w.heap.size, 1, none⟩ (.int .i64 (cEnd s (tk s 0 45) : Int))).drew.cell? ⟨w.heap.size, 1, none⟩ = some (.int .i64 (cEnd s (tk s 0 45) : Int)) := P1
          go_wp2
          refine bodyPost_ret (by simp [results, Tryz.results193, go_sem, P0', P1']; try rfl) rfl ?_
          exact ⟨rfl, (below_put B2 (Nat.le_refl _) _ _).drew⟩
    · have hO : cOk s (pI s) = true := by
        unfold pBad at hbad
        cases h : cOk s (pI s)
        · rw [h] at hbad; simp at hbad
        · rfl
      have HO : Hid (cOk s (tk s 0 45) = true) := hO
      have hE : ¬ ((cEnd s (tk s 0 45) : Nat) : Int) < s.size := by
        intro h1
        apply hbad
        unfold pBad
        have h2 : cEnd s (pI s) < s.size := by
          have : cEnd s (tk s 0 45) < s.size := by omega
          exact this
        rw [decide_eq_true h2]; simp
      have HF : Hid (pF s = flt (cZ s (tk s 0 45)) (clp (cP s (tk s 0 45)))) := rfl
      have HW : Hid (paW s = if 9218868437227405312 ≤ pF s then 0 else if neg = true then pF s + 9223372036854775808 else pF s) := by
        show _ = _
        unfold paW
        rw [if_neg h64, if_neg hbad, hneg]
      have HE : Hid (paE s = if 9218868437227405312 ≤ pF s then 6 else 0) := by
        show _ = _
        unfold paE
        rw [if_neg h64, if_neg hbad]
      have HA : Hid (paA s = if 9218868437227405312 ≤ pF s then -1 else 0) := by
        show _ = _
        unfold paA
        rw [if_neg h64, if_neg hbad]
      clear hO hbad hneg
      by_cases hz : cZ s (tk s 0 45) = 0
      · have HZ : Hid (cZ s (tk s 0 45) = 0) := hz
        have hf0 : pF s = 0 := by rw [HF.out, hz]; rfl
        have eW : Hid (paW s = if neg = true then 9223372036854775808 else 0) := by show _ = _; rw [HW.out, hf0, if_neg (by decide)]
        have eE : paE s = 0 := by rw [HE.out, hf0, if_neg (by decide)]
        have eA : paA s = 0 := by rw [HA.out, hf0, if_neg (by decide)]
        have hor0 : bits .or .u64 0 9223372036854775808 = 9223372036854775808 := qor_sign (b := 0) (by decide)
        rw [eE, eA]
        clear hz hf0 eE eA
        cases neg
        all_goals
          go_enter Tryz.func193, Tryz.ntmps193
          go_wp2_with fail
          rw [← hW0]
          clear hW0
          go_wp2_with (first
            | (go_at_call 218; (with_reducible refine (take_any 45 R0 (by omega)).mono ?_); rintro e1 w1 ⟨rfl, k1, k2⟩; rw [HT.out]; have F1 := F0.only k2 (by omega) (by omega); have s1 := k2.size)
            | (go_at_call 219; (with_reducible refine (dec_any k1).mono ?_); rintro e2 w2 ⟨v2, P2, rfl, hok2, R2, O2⟩; rw [HO.out]; have F2 := F1.only O2 (by omega) (by omega); have c1 := R2.c1; have f0 := F2.c0; have f1 := F2.c1; have g0 := F2.z0; have g1 := F2.z1)
            | (go_at_call 220; (with_reducible refine (qnear_zero w1.heap.size 200 v2 P2 w2 (HZ.out ▸ (hok2 HO.out).1)).mono ?_); rintro e3 w3 ⟨rfl, rfl⟩))
          have B2 := (B0.trans (k2.below w.heap.size B0.size (fun i hi => by omega))).trans (O2.below w.heap.size (by omega) (fun i hi => by omega))
          obtain ⟨P0, P1⟩ := F2.put (.int .i64 0) (.int .i64 0)
          refine bodyPost_ret (by simp [results, Tryz.results193, go_sem, P0, P1]; try rfl) rfl ⟨?_, below_put B2 (Nat.le_refl _) _ _⟩
          rw [eW.out]
          rfl
      · have HZ : Hid (0 < cZ s (tk s 0 45)) := Nat.pos_of_ne_zero hz
        clear hz
        cases neg
        all_goals
          go_enter Tryz.func193, Tryz.ntmps193
          go_wp2_with fail
          rw [← hW0]
          clear hW0
          go_wp2_with (first
            | (go_at_call 218; (with_reducible refine (take_any 45 R0 (by omega)).mono ?_); rintro e1 w1 ⟨rfl, k1, k2⟩; rw [HT.out]; have F1 := F0.only k2 (by omega) (by omega); have s1 := k2.size)
            | (go_at_call 219; (with_reducible refine (dec_any k1).mono ?_); rintro e2 w2 ⟨v2, P2, rfl, hok2, R2, O2⟩; rw [HO.out]; have F2 := F1.only O2 (by omega) (by omega); have c1 := R2.c1; have f0 := F2.c0; have f1 := F2.c1; have g0 := F2.z0; have g1 := F2.z1))
          refine (qnear_any w1.heap.size (cZ s (tk s 0 45)) K9 v2 P2 w2 ((hok2 HO.out).1.by (cZ_nine _ _)) HZ.out (by decide) (by decide) O2.size).mono ?_
          rintro e3 w3 ⟨bw, D, r', o', rfl, hG, hbw, B3⟩
          rw [(hok2 HO.out).2] at hG
          have NB : Hid (bw < 18446744073709551616 ∧ (bw < 9218868437227405312 → flt (cZ s (tk s 0 45)) (clp (cP s (tk s 0 45))) = bw) ∧ (9218868437227405312 ≤ bw → flt (cZ s (tk s 0 45)) (clp (cP s (tk s 0 45))) = 9218868437227405312)) := near_bits HZ.out (cZ_lt _ _) (clp_le _).2 hG (Int.ofNat_inj.1 hbw)
          have B2 := ((B0.trans (k2.below w.heap.size B0.size (fun i hi => by omega))).trans (O2.below w.heap.size (by omega) (fun i hi => by omega)))
          have B3' : Below w.heap.size w2 w3 := ⟨B3.os, B3.tape, B3.output, B3.size, fun k hk => B3.block k (by omega)⟩
          have F3 := F2.later B3 (by omega)
          clear hG hbw f0 f1 g0 g1
          have f0 := F3.c0
          have f1 := F3.c1
          have g0 := F3.z0
          have g1 := F3.z1
          by_cases hov : 9218868437227405312 ≤ bw
          · have hd : decide ((9218868437227405312 : Int) ≤ (bw : Int)) = true := decide_eq_true (by omega)
            have HV : Hid (9218868437227405312 ≤ bw) := hov
            clear hov
            go_wp2
            obtain ⟨P0, P1⟩ := F3.put (.int .i64 6) (.int .i64 (-1))
            have hp : pF s = 9218868437227405312 := HF.out.trans (NB.out.2.2 HV.out)
            have eW : paW s = 0 := by rw [HW.out, hp]; rfl
            have eE : paE s = 6 := by rw [HE.out, hp]; rfl
            have eA : paA s = -1 := by rw [HA.out, hp]; rfl
            refine bodyPost_ret (by simp [results, Tryz.results193, go_sem, P0, P1]; try rfl) rfl ⟨?_, below_put (B2.trans B3') (Nat.le_refl _) _ _⟩
            rw [eW, eE, eA]
          · have hd : decide ((9218868437227405312 : Int) ≤ (bw : Int)) = false := decide_eq_false (by omega)
            have HV : Hid (¬ 9218868437227405312 ≤ bw) := hov
            clear hov
            go_wp2
            obtain ⟨P0, P1⟩ := F3.put (.int .i64 0) (.int .i64 0)
            have hp : pF s = bw := HF.out.trans (NB.out.2.1 (Nat.lt_of_not_le HV.out))
            have eE : paE s = 0 := by rw [HE.out, hp, if_neg HV.out]
            have eA : paA s = 0 := by rw [HA.out, hp, if_neg HV.out]
            have eW := HW.out
            rw [hp, if_neg HV.out] at eW
            have hb63 : bw < 9223372036854775808 := Nat.lt_trans (Nat.lt_of_not_le HV.out) (by decide)
            try rw [qor_sign hb63]
            refine bodyPost_ret (by simp [results, Tryz.results193, go_sem, P0, P1]; try rfl) rfl ⟨?_, below_put (B2.trans B3') (Nat.le_refl _) _ _⟩
            rw [eW, eE, eA]
            rfl

end Go.Proofs.YtmpkcioeodlbcaaGreatDoor
namespace Go.Proofs.YtmpkcioeodlbcaaGreatDoor
open Fl
def kdB (x : Nat) : Int := if nan x then 4 else if mg x = 9218868437227405312 then 3 else if 4503599627370496 ≤ mg x then 2 else if 0 < mg x then 1 else 0
theorem and_pow (x : Nat) (hx : x < 18446744073709551616) : bits BinOp.and IntKind.u64 ((x : Int) / 4503599627370496) 2047 = ((mg x / 4503599627370496 : Nat) : Int) := by
  have h := u64_and_nat (x / 4503599627370496) 2047 (by omega) (by omega)
  rw [nat_mask11] at h
  have e : x / 4503599627370496 % 2048 = mg x / 4503599627370496 := by unfold mg; omega
  rw [e] at h; rw [← h]; congr 1
theorem and_frac (x : Nat) (hx : x < 18446744073709551616) : bits BinOp.and IntKind.u64 (x : Int) 4503599627370495 = ((mg x % 4503599627370496 : Nat) : Int) := by
  have h := u64_and_nat x 4503599627370495 hx (by omega)
  have h2 := Nat.and_two_pow_sub_one_eq_mod x 52
  rw [show (2 : Nat) ^ 52 - 1 = 4503599627370495 from rfl, show (2 : Nat) ^ 52 = 4503599627370496 from rfl] at h2
  rw [h2] at h
  have e : x % 4503599627370496 = mg x % 4503599627370496 := by unfold mg; omega
  rw [e] at h; exact h
theorem kd_4 {x : Nat} (h : nan x = true) : kdB x = 4 := by unfold kdB; rw [h]; rfl
theorem kd_3 {x : Nat} (hn : nan x = false) (h : mg x = 9218868437227405312) : kdB x = 3 := by unfold kdB; rw [hn, if_neg (by simp), if_pos h]
theorem kd_2 {x : Nat} (hn : nan x = false) (h : 4503599627370496 ≤ mg x) (h2 : mg x < 9218868437227405312) : kdB x = 2 := by unfold kdB; rw [hn, if_neg (by simp), if_neg (by omega), if_pos h]
theorem kd_1 {x : Nat} (hn : nan x = false) (h : 0 < mg x) (h2 : mg x < 4503599627370496) : kdB x = 1 := by unfold kdB; rw [hn, if_neg (by simp), if_neg (by omega), if_neg (by omega), if_pos h]
theorem kd_0 {x : Nat} (hn : nan x = false) (h : mg x = 0) : kdB x = 0 := by unfold kdB; rw [hn, if_neg (by simp), if_neg (by omega), if_neg (by omega), if_neg (by omega)]
theorem ret1 {a b : Int} (h : a = b) : Ending.returned (.int .i64 a) = .returned (.int .i64 b) := by rw [h]
theorem not_nan {x : Nat} (h : nan x = false) : mg x ≤ 9218868437227405312 := by unfold nan at h; simp at h; exact h
theorem kind_any (x : Nat) (w : World) (hx : x < 18446744073709551616) :
    Calls Tryz.prog 111 #[.float .f64 x] w fun e w' => e = .returned (.int .i64 (kdB x)) ∧ w' = w := by
  have hp := and_pow x hx
  have hf := and_frac x hx
  cases hn : nan x
  · have h0 := order_num hn
    have hl := not_nan hn
    rcases Nat.lt_or_ge (mg x) 9218868437227405312 with h1 | h1
    · rcases Nat.lt_or_ge (mg x) 4503599627370496 with h2 | h2
      · rcases Nat.eq_zero_or_pos (mg x) with h3 | h3
        · have t1 : (((mg x / 4503599627370496 : Nat) : Int) == 2047) = false := by simp; omega
          have t2 : (((mg x / 4503599627370496 : Nat) : Int) != 0) = false := by simp; omega
          have t3 : (((mg x % 4503599627370496 : Nat) : Int) != 0) = false := by simp; omega
          have e0 := kd_0 hn h3
          clear h1 h2 h3 hl
          go_enter Tryz.func111, Tryz.ntmps111
          go_wp2
          go_ret
          first | exact ⟨ret1 e0.symm, rfl⟩ | exact ⟨rfl, rfl⟩
        · have t1 : (((mg x / 4503599627370496 : Nat) : Int) == 2047) = false := by simp; omega
          have t2 : (((mg x / 4503599627370496 : Nat) : Int) != 0) = false := by simp; omega
          have t3 : (((mg x % 4503599627370496 : Nat) : Int) != 0) = true := by simp; omega
          have e0 := kd_1 hn h3 h2
          clear h1 h2 h3 hl
          go_enter Tryz.func111, Tryz.ntmps111
          go_wp2
          go_ret
          first | exact ⟨ret1 e0.symm, rfl⟩ | exact ⟨rfl, rfl⟩
      · have t1 : (((mg x / 4503599627370496 : Nat) : Int) == 2047) = false := by simp; omega
        have t2 : (((mg x / 4503599627370496 : Nat) : Int) != 0) = true := by simp; omega
        have e0 := kd_2 hn h2 h1
        clear h1 h2 hl
        go_enter Tryz.func111, Tryz.ntmps111
        go_wp2
        go_ret
        first | exact ⟨ret1 e0.symm, rfl⟩ | exact ⟨rfl, rfl⟩
    · have t1 : (((mg x / 4503599627370496 : Nat) : Int) == 2047) = true := by simp; omega
      have e0 := kd_3 hn (by omega)
      clear h1 hl
      go_enter Tryz.func111, Tryz.ntmps111
      go_wp2
      go_ret
      first | exact ⟨ret1 e0.symm, rfl⟩ | exact ⟨rfl, rfl⟩
  · have h0 := order_nan hn
    have e0 := kd_4 hn
    go_enter Tryz.func111, Tryz.ntmps111
    go_wp2
    go_ret
    first | exact ⟨ret1 e0.symm, rfl⟩ | exact ⟨rfl, rfl⟩
end Go.Proofs.YtmpkcioeodlbcaaGreatDoor
namespace Go.Proofs.YtmpkcioeodlbcaaGreatDoor
open Fl RowKit
/-- a byte of a text (0 outside it) -/
def byt (s : ByteArray) (i : Nat) : Nat := (s.data.getD i 0).toNat
theorem byt_get {s : ByteArray} {i : Nat} (h : i < s.size) : (s[i]'h).toNat = byt s i := by
  have h2 : i < s.data.size := h
  show (s.data[i]'h2).toNat = (s.data.getD i 0).toNat
  rw [Array.getD_eq_getD_getElem?, Array.getElem?_eq_getElem h2]; rfl
theorem byt_lt (s : ByteArray) (i : Nat) : byt s i < 256 := UInt8.toNat_lt _
/-- a byte of which nodes are made -/
def chB (c : Nat) : Bool := decide (97 ≤ c ∧ c ≤ 122 ∨ 48 ≤ c ∧ c ≤ 57 ∨ c = 95)
theorem chB_yes {c : Nat} (h : 97 ≤ c ∧ c ≤ 122 ∨ 48 ≤ c ∧ c ≤ 57 ∨ c = 95) : chB c = true := decide_eq_true h
theorem chB_no {c : Nat} (h : ¬ (97 ≤ c ∧ c ≤ 122 ∨ 48 ≤ c ∧ c ≤ 57 ∨ c = 95)) : chB c = false := decide_eq_false h
/-- are all bytes from a place on such? -/
def plF (s : ByteArray) (k : Nat) : Bool := decide (∀ i, i < s.size → k ≤ i → chB (byt s i) = true)
theorem plF_no {s : ByteArray} {k i : Nat} (hi : i < s.size) (hk : k ≤ i) (h : chB (byt s i) = false) : plF s k = false :=
  decide_eq_false (fun q => by rw [q i hi hk] at h; cases h)
theorem plF_yes {s : ByteArray} {k : Nat} (h : ∀ i, i < s.size → k ≤ i → chB (byt s i) = true) : plF s k = true := decide_eq_true h

set_option maxRecDepth 1000000 in
theorem plain_any (s : ByteArray) (w : World) :
    Calls Tryz.prog 198 #[.string s] w fun e w' => e = .returned (.bool (plF s 0)) ∧ Below w.heap.size w w' := by
  have HB : Hid (∀ pos, Below w.heap.size w (w.iter s pos)) := fun pos => (Below.refl _ _).alloc (Nat.le_refl _) _
  go_enter Tryz.func198, Tryz.ntmps198
  go_wp2
  go_loopw [4] (fun _ w' => ∃ pos : Nat, w' = w.iter s pos ∧ pos ≤ s.size ∧ ∀ i, i < pos → chB (byt s i) = true) (fun _ w' => s.size - w'.iterPos w.heap.size)
  case atStart => exact ⟨0, rfl, Nat.zero_le _, fun i hi => absurd hi (by omega)⟩
  case round =>
    obtain ⟨pos, rfl, hle, hall⟩ := hrel
    have HA : Hid (∀ i, i < pos → chB (byt s i) = true) := hall
    clear hall
    by_cases hp : pos < s.size
    · by_cases ha : (s[pos]'hp).toNat < 128
      · have hnx : ∀ ty, (Instr.next (.pointer (some ⟨w.heap.size, 0, none⟩)) true ty).run Tryz.prog (w.iter s pos) = _ := fun ty => run_next_ascii w s pos ty hp ha
        have hg := byt_get hp
        obtain ⟨c, hc⟩ : ∃ c, c = byt s pos := ⟨_, rfl⟩
        rw [hg] at hnx ha
        rw [← hc] at hnx ha
        have HC : Hid (c = byt s pos) := hc
        clear hc hg
        rcases (show (97 ≤ c ∧ c ≤ 122) ∨ (48 ≤ c ∧ c ≤ 57) ∨ c = 95 ∨ c < 48 ∨ (57 < c ∧ c < 95) ∨ c = 96 ∨ 122 < c from by omega) with hU | hU | hU | hU | hU | hU | hU
        · obtain ⟨h1, h2⟩ := hU
          go_wp2
          go_roundw
          case rel =>
            refine ⟨pos + 1, rfl, by omega, fun i hi => ?_⟩
            rcases Nat.lt_succ_iff_lt_or_eq.1 hi with h | rfl
            · exact HA.out i h
            · rw [← HC.out]; exact chB_yes (by omega)
          case measure => simp; omega
        · obtain ⟨h1, h2⟩ := hU
          go_wp2
          go_roundw
          case rel =>
            refine ⟨pos + 1, rfl, by omega, fun i hi => ?_⟩
            rcases Nat.lt_succ_iff_lt_or_eq.1 hi with h | rfl
            · exact HA.out i h
            · rw [← HC.out]; exact chB_yes (by omega)
          case measure => simp; omega
        · subst hU
          go_wp2
          go_roundw
          case rel =>
            refine ⟨pos + 1, rfl, by omega, fun i hi => ?_⟩
            rcases Nat.lt_succ_iff_lt_or_eq.1 hi with h | rfl
            · exact HA.out i h
            · rw [← HC.out]; exact chB_yes (by omega)
          case measure => simp; omega
        · have hne : ((c : Int) == 95) = false := by simp; omega
          go_wp2
          go_ret
          exact ⟨retb (plF_no hp (Nat.zero_le _) (by rw [← HC.out]; exact chB_no (by omega))).symm, HB.out _⟩
        · have hne : ((c : Int) == 95) = false := by simp; omega
          obtain ⟨h1, h2⟩ := hU
          go_wp2
          go_ret
          exact ⟨retb (plF_no hp (Nat.zero_le _) (by rw [← HC.out]; exact chB_no (by omega))).symm, HB.out _⟩
        · subst hU
          go_wp2
          go_ret
          exact ⟨retb (plF_no hp (Nat.zero_le _) (by rw [← HC.out]; exact chB_no (by omega))).symm, HB.out _⟩
        · have hne : ((c : Int) == 95) = false := by simp; omega
          go_wp2
          go_ret
          exact ⟨retb (plF_no hp (Nat.zero_le _) (by rw [← HC.out]; exact chB_no (by omega))).symm, HB.out _⟩
      · have hnx : ∀ ty, (Instr.next (.pointer (some ⟨w.heap.size, 0, none⟩)) true ty).run Tryz.prog (w.iter s pos) = _ := fun ty => run_next_any w s pos ty hp
        have hhi := (decode_high s pos hp (by omega)).1
        obtain ⟨c, hc⟩ : ∃ c, c = (Utf8.decode s pos).1 := ⟨_, rfl⟩
        rw [← hc] at hnx hhi
        clear hc
        have hne : ((c : Int) == 95) = false := by simp; omega
        have HC : Hid (¬ byt s pos < 128) := by rw [← byt_get hp]; exact ha
        clear ha
        go_wp2
        go_ret
        exact ⟨retb (plF_no hp (Nat.zero_le _) (chB_no (by have := HC.out; omega))).symm, HB.out _⟩
    · have hnx : ∀ ty, (Instr.next (.pointer (some ⟨w.heap.size, 0, none⟩)) true ty).run Tryz.prog (w.iter s pos) = _ := fun ty => run_next_end w s pos ty hp
      go_wp2
      go_ret
      exact ⟨retb (plF_yes (fun i hi _ => HA.out i (by omega))).symm, HB.out _⟩

/-- is a text a node? -/
def ndF (s : ByteArray) : Bool := decide (0 < s.size ∧ s.size ≤ 16) && plF s 0
theorem nd_in {s : ByteArray} (h1 : 0 < s.size) (h2 : s.size ≤ 16) : ndF s = plF s 0 := by unfold ndF; rw [decide_eq_true ⟨h1, h2⟩]; rfl
theorem nd_out {s : ByteArray} (h : ¬ (0 < s.size ∧ s.size ≤ 16)) : ndF s = false := by unfold ndF; rw [decide_eq_false h]; rfl
theorem node_any (s : ByteArray) (w : World) (hs : s.size ≤ 140737488351232) :
    Calls Tryz.prog 156 #[.string s] w fun e w' => e = .returned (.bool (ndF s)) ∧ Below w.heap.size w w' := by
  rcases (show s.size = 0 ∨ (0 < s.size ∧ s.size ≤ 16) ∨ 16 < s.size from by omega) with h | h | h
  · go_enter Tryz.func156, Tryz.ntmps156
    go_wp2_with fail
    go_ret
    exact ⟨retb (nd_out (by omega)).symm, Below.refl _ _⟩
  · obtain ⟨h1, h2⟩ := h
    rw [nd_in h1 h2]
    go_enter Tryz.func156, Tryz.ntmps156
    go_wp2_with (first | (go_at_call 198; (with_reducible refine (plain_any _ _).mono ?_); rintro e w' ⟨rfl, hb⟩; (have HB : Hid (Below w.heap.size w w') := hb); clear hb))
    go_ret
    exact ⟨rfl, HB.out⟩
  · go_enter Tryz.func156, Tryz.ntmps156
    go_wp2_with fail
    go_ret
    exact ⟨retb (nd_out (by omega)).symm, Below.refl _ _⟩
end Go.Proofs.YtmpkcioeodlbcaaGreatDoor
namespace Go.Proofs.YtmpkcioeodlbcaaGreatDoor
open Fl RowKit
/-- The word of the cosine of k steps, 0 to 6; of 0 to 23. -/
def cK (k : Int) : Nat := if k = 0 then 4607182418800017408 else if k = 1 then 4606875505927962389 else if k = 2 then 4605975682916830378 else if k = 3 then 4604544271217802189 else if k = 4 then 4602678819172646912 else if k = 5 then 4598334089338226320 else 0
def cw (k : Int) : Nat := if k ≤ 6 then cK k else if k ≤ 12 then ngW (cK (12 - k)) else if k < 18 then ngW (cK (k - 12)) else cK (24 - k)

theorem tconst_bits (k : Int) (w : World) (h0 : 0 ≤ k) (h1 : k ≤ 6) : Calls Tryz.prog 282 #[.int .i64 k] w fun e w' => e = .returned (.int .u64 ((cK k : Nat) : Int)) ∧ w' = w := by
  have hk : k = 0 ∨ k = 1 ∨ k = 2 ∨ k = 3 ∨ k = 4 ∨ k = 5 ∨ k = 6 := by omega
  rcases hk with rfl | rfl | rfl | rfl | rfl | rfl | rfl
  all_goals
    go_enter Tryz.func282, Tryz.ntmps282
    go_wp2
    go_ret
    exact ⟨rfl, rfl⟩
theorem tconst (k : Int) (w : World) (h0 : 0 ≤ k) (h1 : k ≤ 6) : Calls Tryz.prog 253 #[.int .i64 k] w fun e w' => e = .returned (.float .f64 (cK k)) ∧ w' = w := by
  go_enter Tryz.func253, Tryz.ntmps253
  go_wp2_with (first | (go_at_call 282; refine (tconst_bits _ _ h0 h1).mono ?_; rintro e w' ⟨rfl, rfl⟩))
  go_ret
  exact ⟨rfl, rfl⟩
theorem tcosine (k : Int) (w : World) (h0 : 0 ≤ k) (h1 : k < 24) : Calls Tryz.prog 225 #[.int .i64 k] w fun e w' => e = .returned (.float .f64 (cw k)) ∧ w' = w := by
  have hk : k = 0 ∨ k = 1 ∨ k = 2 ∨ k = 3 ∨ k = 4 ∨ k = 5 ∨ k = 6 ∨ k = 7 ∨ k = 8 ∨ k = 9 ∨ k = 10 ∨ k = 11 ∨ k = 12 ∨ k = 13 ∨ k = 14 ∨ k = 15 ∨ k = 16 ∨ k = 17 ∨ k = 18 ∨ k = 19 ∨ k = 20 ∨ k = 21 ∨ k = 22 ∨ k = 23 := by omega
  rcases hk with rfl | rfl | rfl | rfl | rfl | rfl | rfl | rfl | rfl | rfl | rfl | rfl | rfl | rfl | rfl | rfl | rfl | rfl | rfl | rfl | rfl | rfl | rfl | rfl
  all_goals
    go_enter Tryz.func225, Tryz.ntmps225
    go_wp2_with (first | (go_at_call 253; refine (tconst _ _ (by decide) (by decide)).mono ?_; rintro e w' ⟨rfl, rfl⟩))
    go_ret
    exact ⟨retf (by kernel_rfl), rfl⟩

end Go.Proofs.YtmpkcioeodlbcaaGreatDoor
namespace Go.Proofs.YtmpkcioeodlbcaaGreatDoor
open Fl RowKit
set_option linter.unusedVariables false
theorem within_any (k : Int) (w : World) (h0 : -9223372036854775808 ≤ k) (h1 : k < 9223372036854775808) : Calls Tryz.prog 224 #[.int .i64 k] w fun e w' => e = .returned (.int .i64 (k % 24)) ∧ w' = w := by
  have hb := Int.emod_nonneg k (show (24 : Int) ≠ 0 by decide)
  have hl := Int.emod_lt_of_pos k (show (0 : Int) < 24 by decide)
  by_cases hn : k.tmod 24 < 0
  · have ht : k % 24 = k.tmod 24 + 24 := by rw [Int.tmod_eq_emod] at *; split at hn <;> split <;> omega
    have ht2 := Int.lt_tmod_of_pos k (show (0 : Int) < 24 by decide)
    go_enter Tryz.func224, Tryz.ntmps224
    go_wp2
    go_ret
    exact ⟨by rw [ht]; rfl, rfl⟩
  · have ht : k % 24 = k.tmod 24 := by rw [Int.tmod_eq_emod] at *; split at hn <;> split <;> omega
    go_enter Tryz.func224, Tryz.ntmps224
    go_wp2
    go_ret
    exact ⟨rfl, rfl⟩

/-- The parts of the number at k steps. -/
def rtR (k : Int) : Nat := cw (k % 24)
def rtI (k : Int) : Nat := cw ((k - 6) % 24)
theorem root_any (k : Int) (w : World) (h0 : -9223372036854775808 ≤ k) (h1 : k < 9223372036854775808) : Calls Tryz.prog 200 #[.int .i64 k] w fun e w' => e = .returned (.complex .f64 (rtR k) (rtI k)) ∧ w' = w := by
  have hb := Int.emod_nonneg k (show (24 : Int) ≠ 0 by decide)
  have hl := Int.emod_lt_of_pos k (show (0 : Int) < 24 by decide)
  go_enter Tryz.func200, Tryz.ntmps200
  go_wp2_with (first
    | (go_at_call 224; refine (within_any _ _ (by omega) (by omega)).mono ?_; rintro e w' ⟨rfl, rfl⟩)
    | (go_at_call 225; refine (tcosine _ _ (by omega) (by omega)).mono ?_; rintro e w' ⟨rfl, rfl⟩))
  go_ret
  exact ⟨retc rfl rfl, rfl⟩

end Go.Proofs.YtmpkcioeodlbcaaGreatDoor
namespace Go.Proofs.YtmpkcioeodlbcaaGreatDoor
open Fl RowKit
theorem ksameR_any (a b : Nat) (w : World) : Calls Tryz.prog 54 #[.float .f64 a, .float .f64 b] w fun e w' => e = .returned (.bool (smB a b)) ∧ w' = w := by
  by_cases hab : a = b
  · subst hab
    rw [smB_self]
    go_enter Tryz.func54, Tryz.ntmps54
    go_wp2
    go_ret
    exact ⟨rfl, rfl⟩
  · have hne : ¬ ((a : Int) = (b : Int)) := by omega
    have hnb : (a == b) = false := beq_false_of_ne hab
    cases ha : nan a <;> cases hb : nan b
    all_goals
      first | (have h1 := order_num ha) | (have h1 := order_nan ha)
      first | (have h2 := order_num hb) | (have h2 := order_nan hb)
      go_enter Tryz.func54, Tryz.ntmps54
      go_wp2
      go_ret
      refine ⟨retb ?_, rfl⟩
      simp [smB, ha, hb, hnb]
      try exact hne
theorem ksame_any (a b c d : Nat) (w : World) : Calls Tryz.prog 17 #[.complex .f64 a b, .complex .f64 c d] w fun e w' => e = .returned (.bool (smB a c && smB b d)) ∧ w' = w := by
  cases h1 : smB a c <;> cases h2 : smB b d
  all_goals
    go_enter Tryz.func17, Tryz.ntmps17
    go_wp2_with (first | (go_at_call 54; refine (ksameR_any _ _ _).mono ?_; rintro e w' ⟨rfl, rfl⟩))
    go_ret
    exact ⟨rfl, rfl⟩

end Go.Proofs.YtmpkcioeodlbcaaGreatDoor
namespace Go.Proofs.YtmpkcioeodlbcaaGreatDoor
open Fl RowKit
theorem cK_lt (k : Int) : cK k < 9223372036854775808 := by unfold cK; repeat' split
                                                           all_goals decide
theorem cw_lt (k : Int) : cw k < 18446744073709551616 := by
  have h := cK_lt
  unfold cw
  have h1 := h k; have h2 := h (24 - k)
  have h3 := ngW_lt (x := cK (12 - k)) (by have := h (12 - k); omega)
  have h4 := ngW_lt (x := cK (k - 12)) (by have := h (k - 12); omega)
  split
  · omega
  · split
    · exact h3
    · split
      · exact h4
      · omega
theorem rep_rtR (k : Int) : rep (ans (rtR k)) (rtR k) := rep_ans (cw_lt _)
theorem rep_rtI (k : Int) : rep (ans (rtI k)) (rtI k) := rep_ans (cw_lt _)

section one
variable {X : Option Nat} {x : Nat} (k : Int) (w : World) (hx : rep X x) (h0 : -9223372036854775808 ≤ k) (h1 : k < 9223372036854775808)
include hx h0 h1
theorem phasor_any : Calls Tryz.prog 160 #[.float .f64 x, .int .i64 k] w fun e w' => ∃ re im, e = .returned (.complex .f64 re im) ∧ rep (mulA X (ans (rtR k))) re ∧ rep (mulA X (ans (rtI k))) im ∧ Below w.heap.size w w' := by
  go_enter Tryz.func160, Tryz.ntmps160
  go_wp2_with (first
    | (go_at_call 200; refine (root_any k _ h0 h1).mono ?_; rintro e w' ⟨rfl, rfl⟩)
    | (go_at_call 199; refine (scale_any _ (rep_rtR k) (rep_rtI k) hx).mono ?_; rintro e w' ⟨re, im, n, rfl, h1, h2, rfl⟩))
  go_ret
  exact ⟨_, _, rfl, by assumption, by assumption, below_drewN (below_self _) _⟩
end one
section two
variable {A B : Option Nat} {a b : Nat} (k : Int) (w : World) (ha : rep A a) (hb : rep B b) (h0 : -9223372036854775808 ≤ k) (h1 : k < 9223372036854775808)
include ha hb h0 h1
end two
end Go.Proofs.YtmpkcioeodlbcaaGreatDoor
namespace Go.Proofs.YtmpkcioeodlbcaaGreatDoor
open Fl RowKit
def iat (zs : List Int) (k : Nat) : Int := zs.getD k 0
theorem iat_lt {zs : List Int} {k : Nat} (h : k < zs.length) : zs[k]? = some (iat zs k) := by simp [iat, List.getD_eq_getElem?_getD, h]
end Go.Proofs.YtmpkcioeodlbcaaGreatDoor
namespace Go.Proofs.YtmpkcioeodlbcaaGreatDoor
open Fl RowKit
/-- two places exchanged -/
def sw (zs : List Int) (i j : Nat) : List Int := (zs.set i (iat zs j)).set j (iat zs i)
/-- counts -/
def cl (x : Int) : List Int → Nat
  | [] => 0
  | y :: l => (if y < x then 1 else 0) + cl x l
end Go.Proofs.YtmpkcioeodlbcaaGreatDoor
