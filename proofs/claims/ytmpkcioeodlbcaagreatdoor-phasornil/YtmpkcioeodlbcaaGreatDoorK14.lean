/-
  Several texts in one: Sg Pe Pl Mr Mono Ldt Gnr Gda Tw Gdc Gdd.
-/
import Derived.Test.YtmpkcioeodlbcaaGreatDoorK12
import Derived.Test.YtmpkcioeodlbcaaGreatDoorK13
import Derived.RegionTactic
import Derived.BigRegion
import Derived.Test.YtmpkcioeodlbcaaGreatDoorK09
import Derived.Deep.RegionHeldLaw
import Derived.Deep.AppendLies
import Derived.Laws.BitsAllLaws
namespace Go.Proofs.YtmpkcioeodlbcaaGreatDoor
open Fl
theorem nearest_word (m : Nat) (p : Int) : ∃ r, r ≤ 9218868437227405312 ∧ ∀ s, Ieee.double.nearest s m p = Ieee.double.word s r := by
  by_cases h : m = 0
  · exact ⟨0, by omega, fun s => by unfold Ieee.Format.nearest; rw [if_pos h]⟩
  · refine ⟨min ((max (p + (m.log2 : Int) - (Ieee.double.fractionBits : Int)) Ieee.double.leastPlace - Ieee.double.leastPlace).toNat * Ieee.double.binade + Ieee.Toward.even.cut false (m <<< (p - max (p + (m.log2 : Int) - (Ieee.double.fractionBits : Int)) Ieee.double.leastPlace).toNat) (max (p + (m.log2 : Int) - (Ieee.double.fractionBits : Int)) Ieee.double.leastPlace - p).toNat) Ieee.double.infRung, ?_, fun s => by unfold Ieee.Format.nearest; rw [if_neg h]; rfl⟩
    exact Nat.min_le_right _ _
theorem product_comm (a b : Ieee.Datum) : a.product b = b.product a := by
  cases a <;> cases b <;> simp [Ieee.Datum.product, Bool.xor_comm, Nat.mul_comm, Int.add_comm]
theorem sum_comm (a b : Ieee.Datum) : a.sum b = b.sum a := by
  cases a <;> cases b <;> simp only [Ieee.Datum.sum]
  · rw [Int.min_comm, Int.add_comm, Bool.and_comm]
  · rename_i s t
    cases s <;> cases t <;> rfl
theorem mulO_comm (x y : Nat) : mulO x y = mulO y x := by unfold mulO Ieee.Format.mul; rw [product_comm]
theorem addO_comm (x y : Nat) : addO x y = addO y x := by unfold addO Ieee.Format.add; rw [sum_comm]
theorem mg_word_zero (s : Bool) : mg (Ieee.double.word s 0) = 0 := word_mg s (by omega)
theorem nearest_zero (s : Bool) (p : Int) : Ieee.double.nearest s 0 p = Ieee.double.word s 0 := by unfold Ieee.Format.nearest; rw [if_pos rfl]
/-- An answer's word is a word, and no NaN. -/
def bdA (A : Option Nat) : Prop := ∀ x, A = some x → x < 18446744073709551616 ∧ nan x = false
theorem rep.bd {A : Option Nat} {x : Nat} (h : rep A x) : bdA A := by
  obtain ⟨h1, rfl⟩ := h
  intro y hy
  obtain ⟨h2, rfl⟩ := ans_some hy
  exact ⟨h1, h2⟩
theorem bd_subA (A B : Option Nat) : bdA (subA A B) := by
  intro x h; unfold subA at h
  cases A with
  | none => cases h
  | some a => cases B with
    | none => cases h
    | some b => exact sub_bd h
theorem bd_divA (A B : Option Nat) : bdA (divA A B) := by
  intro x h; unfold divA at h
  cases A with
  | none => cases h
  | some a => cases B with
    | none => cases h
    | some b => exact div_bd h
theorem mulA_comm (A B : Option Nat) : mulA A B = mulA B A := by
  cases A with
  | none => cases B <;> rfl
  | some a => cases B with
    | none => rfl
    | some b => exact mulO_comm a b
theorem addA_comm (A B : Option Nat) : addA A B = addA B A := by
  cases A with
  | none => cases B <;> rfl
  | some a => cases B with
    | none => rfl
    | some b => exact addO_comm a b
theorem fin_zero {x : Nat} (h : mg x = 0) : fin x := by unfold fin; omega
theorem read_zero {x : Nat} (h : mg x = 0) : Ieee.double.read x = .number (ng x) 0 (-1074) := by
  rw [read_fin x (fin_zero h), h]; rfl
end Go.Proofs.YtmpkcioeodlbcaaGreatDoor
namespace Go.Proofs.YtmpkcioeodlbcaaGreatDoor
open Fl
theorem plc_mg (x : Nat) : plc (mg x) = mg x := by
  have h := mg_bd x
  have h2 : ng (mg x) = false := by unfold ng; rw [Nat.div_eq_of_lt h]; rfl
  unfold plc; rw [h2, mg_mg]; rfl
theorem rep_num {x : Nat} (h : x < 18446744073709551616) (hn : nan x = false) : rep (some x) x := ⟨h, ans_num hn⟩
theorem rep_0 : rep (some 0) 0 := rep_num (by decide) (by decide)
section two
variable {A B X : Option Nat} {a b x : Nat} (w : World) (ha : rep A a) (hb : rep B b) (hx : rep X x)
include ha hb
theorem size1_any : Calls Tryz.prog 130 #[.complex .f64 a b] w fun e w' => ∃ r n, e = .returned (.float .f64 r) ∧ rep (addA (sizA A) (sizA B)) r ∧ w' = w.drewN n := by
  have la := ha.1
  have lb := hb.1
  go_enter Tryz.func130, Tryz.ntmps130
  go_wp2_with (first
    | (go_at_call 89; refine (apart_any _ _ _).mono ?_; rintro e w' ⟨rfl, rfl⟩)
    | (go_at_call 170; refine (size_any _ _ (by assumption)).mono ?_; rintro e w' ⟨rfl, rfl⟩))
  go_ret
  exact ⟨_, _, rfl, rep_add (rep_sz ha) (rep_sz hb) _, rfl⟩
include hx in
theorem scale_any : Calls Tryz.prog 199 #[.float .f64 x, .complex .f64 a b] w fun e w' => ∃ re im n, e = .returned (.complex .f64 re im) ∧ rep (mulA X A) re ∧ rep (mulA X B) im ∧ w' = w.drewN n := by
  go_enter Tryz.func199, Tryz.ntmps199
  go_wp2_with (first
    | (go_at_call 89; refine (apart_any _ _ _).mono ?_; rintro e w' ⟨rfl, rfl⟩))
  go_ret
  exact ⟨_, _, _, rfl, rep_mul hx ha _, rep_mul hx hb _, rfl⟩
end two
end Go.Proofs.YtmpkcioeodlbcaaGreatDoor
namespace Go.Proofs.YtmpkcioeodlbcaaGreatDoor
open Fl RowKit
theorem rep_is {o : Option Nat} {x c : Nat} (h : rep o x) (e : o = some c) : x = c := by
  obtain ⟨_, h⟩ := h
  rw [e] at h
  exact (ans_some h).2
theorem drewN_drewN (w : World) (a b : Nat) : (w.drewN a).drewN b = w.drewN (a + b) := by simp
theorem below_drewN {n : Nat} {w w' : World} (h : Below n w w') (k : Nat) : Below n w (w'.drewN k) := by
  obtain ⟨h1, h2, h3, h4, h5⟩ := h
  exact ⟨h1, h2, h3, h4, h5⟩
theorem bt {a b c : World} (h : Below a.heap.size a b) (k : Below b.heap.size b c) : Below a.heap.size a c := h.trans (k.mono h.size)
theorem below_self (w : World) : Below w.heap.size w w := Below.refl _ _
end Go.Proofs.YtmpkcioeodlbcaaGreatDoor
namespace Go.Proofs.YtmpkcioeodlbcaaGreatDoor
open Fl
/-- A finite number times 1. -/
theorem nearest_shift (s : Bool) (m k : Nat) (p : Int) : Ieee.double.nearest s (m * 2 ^ k) (p - (k : Int)) = Ieee.double.nearest s m p := by
  by_cases h0 : m = 0
  · subst h0; rw [Nat.zero_mul, nearest_zero, nearest_zero]
  · have hm : 0 < m := by omega
    have hmk : ¬ m * 2 ^ k = 0 := Nat.ne_of_gt (Nat.mul_pos hm (Nat.two_pow_pos _))
    unfold Ieee.Format.nearest
    rw [if_neg h0, if_neg hmk]
    simp only [d_least, d_bin, d_inf, cut_rne, Nat.shiftLeft_eq, log2_mul m k hm]
    have hl : p - (k : Int) + ((m.log2 + k : Nat) : Int) - (Ieee.double.fractionBits : Int) = p + (m.log2 : Int) - (Ieee.double.fractionBits : Int) := by omega
    rw [hl]
    generalize max (p + (m.log2 : Int) - (Ieee.double.fractionBits : Int)) (-1074) = L
    congr 3
    rcases Int.lt_or_le (p - (k : Int)) L with h1 | h1
    · rcases Int.lt_or_le p L with h2 | h2
      · have e1 : (p - (k : Int) - L).toNat = 0 := by omega
        have e2 : (p - L).toNat = 0 := by omega
        have e3 : (L - (p - (k : Int))).toNat = (L - p).toNat + k := by omega
        rw [e1, e2, e3, Nat.pow_zero, Nat.mul_one, Nat.mul_one, rne_scale m k _ (by omega), Nat.add_sub_cancel]
      · have e1 : (p - (k : Int) - L).toNat = 0 := by omega
        have e3 : (L - p).toNat = 0 := by omega
        have e4 : k = (p - L).toNat + (L - (p - (k : Int))).toNat := by omega
        rw [e1, e3, Nat.pow_zero, Nat.mul_one]
        generalize (L - (p - (k : Int))).toNat = d at *
        rw [e4, Nat.pow_add, ← Nat.mul_assoc, rne_scale _ d d (Nat.le_refl _), Nat.sub_self]
    · have e1 : (L - (p - (k : Int))).toNat = 0 := by omega
      have e2 : (L - p).toNat = 0 := by omega
      have e3 : (p - L).toNat = k + (p - (k : Int) - L).toNat := by omega
      rw [e1, e2, e3, Nat.pow_add, Nat.mul_assoc]
theorem rung_sz (r : Nat) : rung (sz r) = r := by
  apply sz_inj
  rw [sz_rung]
  exact rn_exact ⟨sig r, ex r, rfl, sig_lt r⟩
theorem word_self {x : Nat} (h : x < 18446744073709551616) : Ieee.double.word (ng x) (mg x) = x := by
  unfold Ieee.Format.word ng mg; rw [d_sw]
  rcases Nat.mod_two_eq_zero_or_one (x / 9223372036854775808) with h2 | h2
  · rw [h2]; simp only [show ((0 : Nat) == 1) = false from rfl, Bool.false_eq_true, if_false]; omega
  · rw [h2]; simp only [beq_self_eq_true, if_true]; omega
theorem nearest_read {x : Nat} (hx : fin x) (h : x < 18446744073709551616) : Ieee.double.nearest (ng x) (sig (mg x)) (-1074 + (ex (mg x) : Int)) = x := by
  rw [nearest_eq]
  have e : sig (mg x) * 2 ^ ex (mg x) = sz (mg x) := rfl
  rw [e, rung_sz, Nat.min_eq_left (by unfold fin at hx; omega), word_self h]
theorem mul_one {x : Nat} (hx : fin x) (h : x < 18446744073709551616) : mulO x 4607182418800017408 = some x := by
  rw [mul_eq hx (by unfold fin; decide)]
  have e1 : ng 4607182418800017408 = false := by decide
  have e2 : sig (mg 4607182418800017408) = 2 ^ 52 := by decide
  have e3 : ex (mg 4607182418800017408) = 1022 := by decide
  rw [e1, e2, e3, Bool.xor_false]
  have e4 : (-1074 + (ex (mg x) : Int) + (-1074 + ((1022 : Nat) : Int))) = -1074 + (ex (mg x) : Int) - ((52 : Nat) : Int) := by omega
  rw [e4, nearest_shift, nearest_read hx h]
theorem mul_zero {x : Nat} (hx : fin x) : ∃ z, mulO x 0 = some z ∧ mg z = 0 := by
  rw [mul_eq hx (by unfold fin; decide)]
  have e2 : sig (mg 0) = 0 := by decide
  rw [e2, Nat.mul_zero, nearest_zero]
  exact ⟨_, rfl, mg_word_zero _⟩
theorem val_zero {z : Nat} (h : mg z = 0) : val z = 0 := by unfold val; rw [h, sz_zero]; unfold sgn; split <;> rfl
theorem val_lt {x : Nat} (hx : fin x) : (val x).natAbs < szI := by unfold val; rw [sgn_abs]; exact sz_mono hx
theorem val_inj_plc {x y : Nat} (h : val x = val y) : plc x = plc y := by
  have h1 : sz (mg x) = sz (mg y) := by
    have := congrArg Int.natAbs h
    unfold val at this; rw [sgn_abs, sgn_abs] at this; exact this
  have h2 := sz_inj h1
  unfold val at h
  unfold plc
  rw [h2] at h ⊢
  rcases Nat.eq_zero_or_pos (mg y) with h0 | h0
  · rw [h0]; unfold sgn; split <;> split <;> rfl
  · have := sz_pos h0
    unfold sgn at *
    split at h <;> split at h <;> simp_all <;> omega
theorem eqB_val {x y : Nat} (hx : fin x) (hy : fin y) (h : val x = val y) : eqB x y = true := by
  unfold eqB
  rw [order_eqb (fin_not_nan hx) (fin_not_nan hy)]
  exact decide_eq_true (val_inj_plc h)
theorem sub_zero {x z : Nat} (hx : fin x) (hz : mg z = 0) : ∃ r, subO x z = some r ∧ fin r ∧ val r = val x := by
  have hv : val x - val z = val x := by rw [val_zero hz]; omega
  have hr : rnI (val x) = val x := rnI_exact (val_rep x)
  obtain ⟨r, h1, h2, h3⟩ := sub_fin hx (fin_zero hz) (by rw [hv, ← rn_abs, hr]; exact val_lt hx)
  exact ⟨r, h1, h2, by rw [h3, hv, hr]⟩
theorem zero_add {x z : Nat} (hx : fin x) (hz : mg z = 0) : ∃ r, addO z x = some r ∧ fin r ∧ val r = val x := by
  have hv : val z + val x = val x := by rw [val_zero hz]; omega
  have hr : rnI (val x) = val x := rnI_exact (val_rep x)
  obtain ⟨r, h1, h2, h3⟩ := add_fin (fin_zero hz) hx (by rw [hv, ← rn_abs, hr]; exact val_lt hx)
  exact ⟨r, h1, h2, by rw [h3, hv, hr]⟩
theorem times_one {x y re im : Nat} (hx : fin x) (hy : fin y) (lx : x < 18446744073709551616) (ly : y < 18446744073709551616)
    (h1 : rep (mulRe (ans x) (ans y) (some 4607182418800017408) (some 0)) re) (h2 : rep (mulIm (ans x) (ans y) (some 4607182418800017408) (some 0)) im) : eqB re x = true ∧ eqB im y = true := by
  obtain ⟨z1, e1, m1⟩ := mul_zero hy
  obtain ⟨z2, e2, m2⟩ := mul_zero hx
  obtain ⟨r1, f1, g1, v1⟩ := sub_zero hx m1
  obtain ⟨r2, f2, g2, v2⟩ := zero_add hy m2
  have k1 : mulRe (ans x) (ans y) (some 4607182418800017408) (some 0) = some r1 := by
    rw [ans_fin hx, ans_fin hy]
    show subA (mulO x 4607182418800017408) (mulO y 0) = _
    rw [mul_one hx lx, e1]; exact f1
  have k2 : mulIm (ans x) (ans y) (some 4607182418800017408) (some 0) = some r2 := by
    rw [ans_fin hx, ans_fin hy]
    show addA (mulO x 0) (mulO y 4607182418800017408) = _
    rw [mul_one hy ly, e2]; exact f2
  rw [k1] at h1
  rw [k2] at h2
  obtain ⟨_, rfl⟩ := ans_some h1.2
  obtain ⟨_, rfl⟩ := ans_some h2.2
  exact ⟨eqB_val g1 hx v1, eqB_val g2 hy v2⟩

theorem zero_mul {t : Nat} {z : Nat} (h : mulO 0 t = some z) : mg z = 0 := by
  unfold mulO Ieee.Format.mul at h
  rw [read_zero (by decide : mg 0 = 0)] at h
  cases hr : Ieee.double.read t with
  | nan s f => rw [hr] at h; cases h
  | infinity s => rw [hr] at h; cases h
  | number s n p =>
    rw [hr] at h
    cases h
    show mg (Ieee.double.nearest _ (0 * n) _) = 0
    rw [Nat.zero_mul, nearest_zero, mg_word_zero]
end Go.Proofs.YtmpkcioeodlbcaaGreatDoor
namespace Go.Proofs.YtmpkcioeodlbcaaGreatDoor
open Fl
theorem word_false (r : Nat) : Ieee.double.word false r = r := rfl
/-- The rung nearest to m times 2 to the power p. -/
def nr (m : Nat) (p : Int) : Nat := Ieee.double.nearest false m p
theorem nr_shift (m k : Nat) (p : Int) : nr (m * 2 ^ k) (p - (k : Int)) = nr m p := nearest_shift false m k p
theorem nr_zero (p : Int) : nr 0 p = 0 := nearest_zero false p
theorem nr_eq1 {m : Nat} (h : ¬ m = 0) (p : Int) : Ieee.double.nearest false m p = Ieee.double.word false (min ((max (p + (m.log2 : Int) - (Ieee.double.fractionBits : Int)) Ieee.double.leastPlace - Ieee.double.leastPlace).toNat * Ieee.double.binade + Ieee.Toward.even.cut false (m <<< (p - max (p + (m.log2 : Int) - (Ieee.double.fractionBits : Int)) Ieee.double.leastPlace).toNat) (max (p + (m.log2 : Int) - (Ieee.double.fractionBits : Int)) Ieee.double.leastPlace - p).toNat) Ieee.double.infRung) := by
  unfold Ieee.Format.nearest; rw [if_neg h]
theorem nr_eq {m : Nat} (h : 0 < m) {p L : Int} (hL : L = max (p + (m.log2 : Int) - 52) (-1074)) : nr m p = min ((L + 1074).toNat * 4503599627370496 + rne (m * 2 ^ (p - L).toNat) (L - p).toNat) 9218868437227405312 := by
  unfold nr
  rw [nr_eq1 (by omega)]
  have hf : (Ieee.double.fractionBits : Int) = 52 := rfl
  rw [hf, d_least, ← hL, d_bin, d_inf, word_false, cut_rne, Nat.shiftLeft_eq]
  have hk : L - -1074 = L + 1074 := by omega
  rw [hk]
theorem nr_lim (m : Nat) (p : Int) : nr m p ≤ 9218868437227405312 := by
  rcases Nat.eq_zero_or_pos m with h0 | h0
  · subst h0; rw [nr_zero]; omega
  · rw [nr_eq h0 rfl]; exact Nat.min_le_right _ _

/-- Words without a sign. -/
def pos (x : Nat) : Prop := x < 9218868437227405312
theorem pos.fin {x : Nat} (h : pos x) : fin x := by unfold pos at h; unfold Fl.fin mg; omega
theorem pos.mg {x : Nat} (h : pos x) : mg x = x := by unfold pos at h; unfold Fl.mg; omega
theorem pos.ng {x : Nat} (h : pos x) : ng x = false := by
  unfold pos at h; unfold Fl.ng; rw [Nat.div_eq_of_lt (by omega)]; rfl
theorem pos.read {x : Nat} (h : pos x) : Ieee.double.read x = .number false (sig x) (-1074 + (ex x : Int)) := by
  rw [read_fin x h.fin, h.ng, h.mg]
theorem mul_pos {x y : Nat} (hx : pos x) (hy : pos y) : mulO x y = some (nr (sz x * sz y) (-2148)) := by
  unfold mulO Ieee.Format.mul
  rw [hx.read, hy.read]
  show some (Ieee.double.nearest false (sig x * sig y) (-1074 + (ex x : Int) + (-1074 + (ex y : Int)))) = _
  rw [← nearest_shift false _ (ex x + ex y)]
  unfold nr sz
  congr 2
  · rw [Nat.pow_add]; ac_rfl
  · omega
theorem add_pos {x y : Nat} (hx : pos x) (hy : pos y) : addO x y = some (nr (sz x + sz y) (-1074)) := by
  unfold addO Ieee.Format.add
  rw [hx.read, hy.read]
  simp only [Ieee.Datum.sum, signed_eq, Option.map_some]
  obtain ⟨b, hb⟩ : ∃ b : Nat, b = min (ex x) (ex y) := ⟨_, rfl⟩
  have e1 : min (-1074 + (ex x : Int)) (-1074 + (ex y : Int)) = -1074 + (b : Int) := by omega
  have e2 : (-1074 + (ex x : Int) - (-1074 + (b : Int))).toNat = ex x - b := by omega
  have e3 : (-1074 + (ex y : Int) - (-1074 + (b : Int))).toNat = ex y - b := by omega
  rw [e1, e2, e3]
  have e4 : sgn false (sig x * 2 ^ (ex x - b)) + sgn false (sig y * 2 ^ (ex y - b)) = ((sig x * 2 ^ (ex x - b) + sig y * 2 ^ (ex y - b) : Nat) : Int) := by unfold sgn; simp
  rw [e4]
  obtain ⟨T, hT⟩ : ∃ T : Nat, T = sig x * 2 ^ (ex x - b) + sig y * 2 ^ (ex y - b) := ⟨_, rfl⟩
  rw [← hT]
  have e5 : (if ((T : Nat) : Int) = 0 then (false && false) else decide (((T : Nat) : Int) < 0)) = false := by
    split
    · rfl
    · exact decide_eq_false (by omega)
  rw [e5]
  show some (Ieee.double.nearest false ((T : Int).natAbs) (-1074 + (b : Int))) = _
  rw [Int.natAbs_natCast, ← nearest_shift false T b]
  unfold nr
  congr 2
  · rw [hT, Nat.add_mul, Nat.mul_assoc, Nat.mul_assoc, ← Nat.pow_add, ← Nat.pow_add, Nat.sub_add_cancel (by omega), Nat.sub_add_cancel (by omega)]; rfl
  · omega

end Go.Proofs.YtmpkcioeodlbcaaGreatDoor
namespace Go.Proofs.YtmpkcioeodlbcaaGreatDoor
open Fl RowKit
theorem nan_zero : nan 0 = false := by decide
theorem plc_zero : plc 0 = 0 := by decide
theorem mulV_of {x y s : Nat} (h : mulO x y = some s) (W : World) : mulV W x y = s := by unfold mulV fV; rw [h]
end Go.Proofs.YtmpkcioeodlbcaaGreatDoor
namespace Go.Proofs.YtmpkcioeodlbcaaGreatDoor
open RowKit
/-- how often the unit goes into a ratio, the unit being 2 to the power D - 1074 -/
def nN (P Q D : Nat) : Nat := P * 2 ^ Fl.K74 / (Q * 2 ^ D)
def Gt53 (n : Nat) : Prop := 9007199254740992 ≤ n
def nU (P Q : Nat) : Nat := nbits P + 1021 - nbits Q
theorem nN_half (P Q D : Nat) : nN P Q (D + 1) = nN P Q D / 2 := by
  unfold nN
  rw [Nat.pow_succ, ← Nat.mul_assoc, Nat.div_div_eq_div_mul]
theorem nN_top {P Q : Nat} (hQ : 0 < Q) : nN P Q (nU P Q) < 18014398509481984 := by
  have h1 := nbits_lt P
  have h2 := nbits_ge hQ
  unfold nN nU
  rw [Nat.div_lt_iff_lt_mul (Nat.mul_pos hQ (Nat.two_pow_pos _))]
  generalize hD : nbits P + 1021 - nbits Q = D
  have h3 : (18014398509481984 : Nat) = 2 ^ 54 := by decide
  rw [h3]
  have h4 : 2 ^ (nbits P) * 2 ^ Fl.K74 ≤ 2 ^ 54 * (Q * 2 ^ D) := by
    have a : 2 ^ nbits Q * 2 ^ D ≤ 2 * Q * 2 ^ D := Nat.mul_le_mul_right _ h2
    have b : 2 ^ (nbits P + Fl.K74) ≤ 2 ^ (53 + nbits Q + D) := Nat.pow_le_pow_right (by decide) (by unfold Fl.K74; omega)
    rw [← Nat.pow_add]
    rw [Nat.add_assoc 53, Nat.pow_add 2 53, Nat.pow_add 2 (nbits Q)] at b
    have c : 2 ^ 53 * (2 ^ nbits Q * 2 ^ D) ≤ 2 ^ 53 * (2 * Q * 2 ^ D) := Nat.mul_le_mul_left _ a
    have d : 2 ^ 53 * (2 * Q * 2 ^ D) = 2 ^ 54 * (Q * 2 ^ D) := by
      rw [show (2 : Nat) ^ 54 = 2 ^ 53 * 2 from by decide, Nat.mul_assoc 2 Q, Nat.mul_assoc (2 ^ 53) 2]
    omega
  exact Nat.lt_of_lt_of_le ((Nat.mul_lt_mul_right (Nat.two_pow_pos _)).2 h1) h4
theorem nN_lt2 {P Q D0 : Nat} (_ : 0 < P) (hQ : 0 < Q) (h0 : D0 = nU P Q) : nN P Q (D0 + 1) < 9007199254740992 := by
  have := nN_top (P := P) hQ
  rw [nN_half, h0]
  omega
/-- the unit's power is never too great -/
theorem nN_ge {P Q D D0 : Nat} (hP : 0 < P) (hQ : 0 < Q) (h0 : D0 = nU P Q) (hD : D = D0 ∨ D = D0 + 1 ∧ Gt53 (nN P Q D0)) : 4503599627370496 ≤ nN P Q D ∨ D = 0 := by
  rcases hD with h | ⟨h, h2⟩
  · rcases Nat.eq_zero_or_pos D with hz | hz
    · exact .inr hz
    · refine .inl ?_
      subst h
      have h1 := nbits_ge hP
      have h2 := nbits_lt Q
      have hQD : 0 < Q * 2 ^ D := Nat.mul_pos hQ (Nat.two_pow_pos _)
      · unfold nN
        rw [Nat.le_div_iff_mul_le hQD]
        have hD : D = nbits P + 1021 - nbits Q := h0
        have a : Q * 2 ^ D ≤ 2 ^ nbits Q * 2 ^ D := Nat.mul_le_mul_right _ (Nat.le_of_lt h2)
        rw [← Nat.pow_add, show nbits Q + D = nbits P + 1021 by omega] at a
        have b : 4503599627370496 * (Q * 2 ^ D) ≤ 2 ^ 52 * 2 ^ (nbits P + 1021) := Nat.mul_le_mul (by decide) a
        have c : 2 ^ nbits P * 2 ^ Fl.K74 ≤ 2 * P * 2 ^ Fl.K74 := Nat.mul_le_mul_right _ h1
        have d : 2 ^ 52 * 2 ^ (nbits P + 1021) * 2 = 2 ^ nbits P * 2 ^ Fl.K74 := by
          rw [← Nat.pow_add, ← Nat.pow_succ, ← Nat.pow_add, show (52 + (nbits P + 1021)).succ = nbits P + Fl.K74 by unfold Fl.K74; omega]
        rw [Nat.mul_assoc 2 P] at c
        omega
  · refine .inl ?_
    rw [h, nN_half]
    unfold Gt53 at h2
    omega
/-- the unit that is taken -/
def nD (P Q : Nat) : Nat := if nN P Q (nU P Q) < 9007199254740992 then nU P Q else nU P Q + 1
/-- rounded, of two equally near ones the even one -/
def nR (P Q : Nat) : Nat := if Q * 2 ^ nD P Q < 2 * (P * 2 ^ Fl.K74 % (Q * 2 ^ nD P Q)) ∨ 2 * (P * 2 ^ Fl.K74 % (Q * 2 ^ nD P Q)) = Q * 2 ^ nD P Q ∧ nN P Q (nD P Q) % 2 = 1 then nN P Q (nD P Q) + 1 else nN P Q (nD P Q)
/-- the word of so many units; where it is too great, of an infinity -/
def ldW (D n : Nat) : Nat := if D * 4503599627370496 + n < 9218868437227405312 then D * 4503599627370496 + n else 9218868437227405312
end Go.Proofs.YtmpkcioeodlbcaaGreatDoor
namespace Go.Proofs.YtmpkcioeodlbcaaGreatDoor
open Fl
theorem rne_form (A B : Nat) : (if B < 2 * (A % B) ∨ 2 * (A % B) = B ∧ A / B % 2 = 1 then A / B + 1 else A / B) = A / B + (if B < 2 * (A % B) ∨ (B = 2 * (A % B) ∧ A / B % 2 = 1) then 1 else 0) := by
  by_cases h : B < 2 * (A % B) ∨ 2 * (A % B) = B ∧ A / B % 2 = 1
  · rw [if_pos h, if_pos (h.imp id fun x => ⟨x.1.symm, x.2⟩)]
  · rw [if_neg h, if_neg (fun g => h (g.imp id fun x => ⟨x.1.symm, x.2⟩))]; rfl
end Go.Proofs.YtmpkcioeodlbcaaGreatDoor
namespace Go.Proofs.YtmpkcioeodlbcaaGreatDoor
open Fl
theorem nearest_nr (s : Bool) (m : Nat) (p : Int) : Ieee.double.nearest s m p = Ieee.double.word s (nr m p) := by
  obtain ⟨r, hr, e⟩ := nearest_word m p
  unfold nr
  rw [e, e, word_false]
theorem mul_gen {x y : Nat} (hx : fin x) (hy : fin y) : mulO x y = some (Ieee.double.word (ng x ^^ ng y) (nr (sz (mg x) * sz (mg y)) (-2148))) := by
  rw [mul_eq hx hy, nearest_nr, ← nr_shift _ (ex (mg x) + ex (mg y))]
  have e1 : sig (mg x) * sig (mg y) * 2 ^ (ex (mg x) + ex (mg y)) = sz (mg x) * sz (mg y) := by unfold sz; rw [Nat.pow_add]; ac_rfl
  have e2 : (-1074 + (ex (mg x) : Int) + (-1074 + (ex (mg y) : Int)) - ((ex (mg x) + ex (mg y) : Nat) : Int)) = -2148 := by omega
  rw [e1, e2]
def dq (l g : Nat) : Nat := nr (2 * (sig l * 2 ^ (54 + (sig g).log2 - (sig l).log2) / sig g) + (sig l * 2 ^ (54 + (sig g).log2 - (sig l).log2) % sig g != 0).toNat) ((ex l : Int) - (ex g : Int) - ((54 + (sig g).log2 - (sig l).log2 : Nat) : Int) - 1)
theorem div_gen {x y : Nat} (hx : fin x) (hy : fin y) (h0 : ¬ sig (mg y) = 0) : divO x y = some (Ieee.double.word (ng x ^^ ng y) (dq (mg x) (mg y))) := by
  unfold divO Ieee.Format.div dq
  rw [read_fin x hx, read_fin y hy]
  simp only [Ieee.Datum.quotient, h0, if_false, Option.map_some, Nat.shiftLeft_eq]
  have e0 : Ieee.double.fractionBits + 2 + (sig (mg y)).log2 - (sig (mg x)).log2 = 54 + (sig (mg y)).log2 - (sig (mg x)).log2 := rfl
  rw [e0]
  generalize 54 + (sig (mg y)).log2 - (sig (mg x)).log2 = M
  have e1 : (-1074 + (ex (mg x) : Int) - (-1074 + (ex (mg y) : Int)) - (M : Int) - 1) = (ex (mg x) : Int) - (ex (mg y) : Int) - (M : Int) - 1 := by omega
  rw [e1]
  show some (Ieee.double.nearest _ _ _) = _
  rw [nearest_nr]
/-- x' is x times 2 to the power k - 128. -/
def sc (k x x' : Nat) : Prop := fin x ∧ fin x' ∧ ng x' = ng x ∧ sz (mg x') * 2 ^ 128 = sz (mg x) * 2 ^ k
theorem sc.val {k x x' : Nat} (h : sc k x x') : val x' * ((2 ^ 128 : Nat) : Int) = val x * ((2 ^ k : Nat) : Int) := by
  obtain ⟨_, _, h3, h4⟩ := h
  unfold Fl.val; rw [h3, ← sgn_mul, ← sgn_mul, h4]
theorem sc.ng {k x x' : Nat} (h : sc k x x') (hx : x < 18446744073709551616) (hx' : x' < 18446744073709551616) : sc k (ngW x) (ngW x') := by
  obtain ⟨h1, h2, h3, h4⟩ := h
  refine ⟨by unfold Fl.fin; rw [mg_ngW hx]; exact h1, by unfold Fl.fin; rw [mg_ngW hx']; exact h2, by rw [ng_ngW hx, ng_ngW hx', h3], by rw [mg_ngW hx, mg_ngW hx']; exact h4⟩
end Go.Proofs.YtmpkcioeodlbcaaGreatDoor
namespace Go.Proofs.YtmpkcioeodlbcaaGreatDoor
open Fl
/-- a ratio, rounded to a whole number, of two equally near ones the even one -/
def rdQ (A C : Nat) : Nat := A / C + (if C < 2 * (A % C) ∨ (C = 2 * (A % C) ∧ A / C % 2 = 1) then 1 else 0)
end Go.Proofs.YtmpkcioeodlbcaaGreatDoor
namespace Go.Proofs.YtmpkcioeodlbcaaGreatDoor
open Fl
theorem rdQ_up (A C f : Nat) (hf : 0 < f) : rdQ (A * f) (C * f) = rdQ A C := by
  unfold rdQ
  rw [Nat.mul_div_mul_right _ _ hf, Nat.mul_mod_mul_right]
  have e1 : C * f < 2 * (A % C * f) ↔ C < 2 * (A % C) := by rw [← Nat.mul_assoc]; exact Nat.mul_lt_mul_right hf
  have e2 : C * f = 2 * (A % C * f) ↔ C = 2 * (A % C) := by rw [← Nat.mul_assoc]; exact Nat.mul_left_inj (by omega)
  simp only [e1, e2]
theorem nR_rdQ (P Q : Nat) : nR P Q = rdQ (P * 2 ^ K74) (Q * 2 ^ nD P Q) := by
  unfold nR rdQ nN
  generalize P * 2 ^ K74 = A
  generalize Q * 2 ^ nD P Q = B
  exact rne_form A B
theorem nN_mono {P Q D E : Nat} (h : D ≤ E) : nN P Q E ≤ nN P Q D := by
  induction E with
  | zero => rw [show D = 0 by omega]; exact Nat.le_refl _
  | succ E ih =>
    rcases Nat.lt_or_ge D (E + 1) with h1 | h1
    · have := ih (by omega); rw [nN_half]; omega
    · rw [show D = E + 1 by omega]; exact Nat.le_refl _
/-- the unit is the least under which the count keeps below 2 to the power 53 -/
theorem unit_one {P Q D E : Nat} (h1 : nN P Q D < 9007199254740992) (h2 : 4503599627370496 ≤ nN P Q D ∨ D = 0) (h3 : nN P Q E < 9007199254740992) (h4 : 4503599627370496 ≤ nN P Q E ∨ E = 0) : D = E := by
  rcases Nat.lt_trichotomy D E with h | h | h
  · obtain ⟨k, rfl⟩ : ∃ k, E = k + 1 := ⟨E - 1, by omega⟩
    have a := nN_mono (P := P) (Q := Q) (show D ≤ k by omega)
    have b := nN_half P Q k
    omega
  · exact h
  · obtain ⟨k, rfl⟩ : ∃ k, D = k + 1 := ⟨D - 1, by omega⟩
    have a := nN_mono (P := P) (Q := Q) (show E ≤ k by omega)
    have b := nN_half P Q k
    omega
theorem nD_props {P Q : Nat} (hP : 0 < P) (hQ : 0 < Q) : nN P Q (nD P Q) < 9007199254740992 ∧ (4503599627370496 ≤ nN P Q (nD P Q) ∨ nD P Q = 0) := by
  unfold nD
  by_cases h : nN P Q (nU P Q) < 9007199254740992
  · rw [if_pos h]; exact ⟨h, nN_ge hP hQ rfl (.inl rfl)⟩
  · rw [if_neg h]; exact ⟨nN_lt2 hP hQ rfl, nN_ge hP hQ rfl (.inr ⟨rfl, by unfold Gt53; omega⟩)⟩

end Go.Proofs.YtmpkcioeodlbcaaGreatDoor
