/-
  Twice as great: products and quotients of a number twice as great.
-/
import Derived.Test.YtnmibhgfcepddaaAdi
import Derived.Test.YtnmibhgfcepddaaTw2
namespace Go.Proofs.Ytnmibhgfcepddaa
open Fl RowKit
set_option linter.unusedVariables false

theorem min_dbl {R : Nat} (hr : min R 9218868437227405312 + 4503599627370496 < 9218868437227405312) : min (R + 4503599627370496) 9218868437227405312 = min R 9218868437227405312 + 4503599627370496 := by
  rcases Nat.le_total R 9218868437227405312 with q | q
  · rw [Nat.min_eq_left q] at hr ⊢
    rw [Nat.min_eq_left (by omega)]
  · rw [Nat.min_eq_right q] at hr; omega
theorem nr_dbl {N : Nat} (h : 0 < N) {p : Int} (hn : -1074 ≤ p + (N.log2 : Int) - 52) (hr : nr N p + 4503599627370496 < 9218868437227405312) : nr N (p + 1) = nr N p + 4503599627370496 := by
  have h1 := nr_eq h (p := p) (L := p + (N.log2 : Int) - 52) (by omega)
  have h2 := nr_eq h (p := p + 1) (L := p + 1 + (N.log2 : Int) - 52) (by omega)
  have e1 : (p + 1 - (p + 1 + (N.log2 : Int) - 52)) = (p - (p + (N.log2 : Int) - 52)) := by omega
  have e2 : (p + 1 + (N.log2 : Int) - 52 - (p + 1)) = (p + (N.log2 : Int) - 52 - p) := by omega
  have e3 : (p + 1 + (N.log2 : Int) - 52 + 1074).toNat = (p + (N.log2 : Int) - 52 + 1074).toNat + 1 := by omega
  rw [e1, e2, e3] at h2
  generalize rne (N * 2 ^ (p - (p + (N.log2 : Int) - 52)).toNat) (p + (N.log2 : Int) - 52 - p).toNat = Q at *
  generalize (p + (N.log2 : Int) - 52 + 1074).toNat = c at *
  rw [h1] at hr
  rw [h2, h1]
  have k2 : (c + 1) * 4503599627370496 + Q = c * 4503599627370496 + Q + 4503599627370496 := by rw [Nat.add_mul, Nat.one_mul, Nat.add_right_comm]
  rw [k2]
  exact min_dbl hr
def N1074 : Nat := 1074
def N1023 : Nat := 1023
theorem sz_EE : sz 4503599627370496 = 2 ^ 52 := by decide
theorem log_of {N : Nat} (h0 : 0 < N) (h : 4503599627370496 + 4503599627370496 ≤ nr N (-2148)) : -1074 ≤ (-2148 : Int) + (N.log2 : Int) - 52 := by
  apply Classical.byContradiction
  intro hc
  have h1 := (log2_bd h0).2
  have h2 : 2 ^ (N.log2 + 1) ≤ 2 ^ (52 + N1074) := Nat.pow_le_pow_right (by omega) (by unfold N1074; omega)
  have h3 : N ≤ 2 ^ 52 * 2 ^ N1074 := by rw [← Nat.pow_add]; exact Nat.le_of_lt (Nat.lt_of_lt_of_le h1 h2)
  have h4 : nr N (-2148) ≤ nr (2 ^ 52) (-1074) := nr_le (k := N1074) (by unfold N1074; omega) h3
  have h5 : nr (2 ^ 52) (-1074) = 4503599627370496 := by rw [← sz_EE]; exact nr_sz (by decide)
  rw [h5] at h4
  omega
theorem sz_dbl {r : Nat} (h : 4503599627370496 ≤ r) : sz (r + 4503599627370496) = sz r * 2 ^ 1 := by
  have := sz_up 1 h
  rwa [Nat.one_mul] at this
theorem mul_dbl {o v m : Nat} (ho : pos o) (ho2 : pos (o + 4503599627370496)) (hv : pos v) (hE : 4503599627370496 ≤ o) (hm : mulO o v = some m) (h1 : 4503599627370496 + 4503599627370496 ≤ m) (h2 : m + 4503599627370496 < 9218868437227405312) : mulO (o + 4503599627370496) v = some (m + 4503599627370496) := by
  rw [mul_pos ho hv] at hm
  cases hm
  rw [mul_pos ho2 hv, sz_dbl hE]
  have h0 : 0 < sz o * sz v := by
    rcases Nat.eq_zero_or_pos (sz o * sz v) with q | q
    · rw [q, nr_zero] at h1; omega
    · exact q
  have e1 : sz o * 2 ^ 1 * sz v = sz o * sz v * 2 ^ 1 := by ac_rfl
  have e2 : nr (sz o * sz v * 2 ^ 1) (-2148) = nr (sz o * sz v) (-2148 + 1) := by
    have := nr_shift (sz o * sz v) 1 (-2148 + 1)
    rw [← this]; congr 1
  rw [e1, e2, nr_dbl h0 (log_of h0 h1) h2]
set_option maxRecDepth 10000 in
theorem two_mul {o : Nat} (ho : pos o) (hE : 4503599627370496 ≤ o) (ho2 : o + 4503599627370496 < 9218868437227405312) : nr (sz 4611686018427387904 * sz o) (-2148) = o + 4503599627370496 := by
  have e1 : sz 4611686018427387904 = 2 ^ 1 * 2 ^ N1074 := by
    have a1 : sig 4611686018427387904 = 2 ^ 52 := by decide
    have a2 : ex 4611686018427387904 = N1023 := by decide
    unfold sz; rw [a1, a2, ← Nat.pow_add, ← Nat.pow_add]; exact congrArg (2 ^ ·) (by unfold N1074 N1023; omega)
  have e2 : sz 4611686018427387904 * sz o = sz (o + 4503599627370496) * 2 ^ N1074 := by rw [e1, sz_dbl hE]; ac_rfl
  have e3 := nr_shift (sz (o + 4503599627370496)) N1074 (-1074)
  have e4 : (-1074 - (N1074 : Int)) = -2148 := by unfold N1074; omega
  rw [e4] at e3
  rw [e2, e3]
  exact nr_sz (by omega)
theorem mul_2 {o : Nat} (ho : pos o) (hE : 4503599627370496 ≤ o) (ho2 : o + 4503599627370496 < 9218868437227405312) : mulO 4611686018427387904 o = some (o + 4503599627370496) := by
  rw [mul_pos (by unfold pos; omega) ho, two_mul ho hE ho2]
theorem mul_2n {o : Nat} (ho : pos o) (hE : 4503599627370496 ≤ o) (ho2 : o + 4503599627370496 < 9218868437227405312) : mulO 4611686018427387904 (ngW o) = some (ngW (o + 4503599627370496)) := by
  have hl : o < 18446744073709551616 := by unfold pos at ho; omega
  have f1 : fin (ngW o) := by unfold Fl.fin; rw [mg_ngW hl]; exact ho.fin
  rw [mul_gen (x := 4611686018427387904) (finB_iff.1 (by decide)) f1, mg_ngW hl, ng_ngW hl, ho.ng, ho.mg]
  have e1 : mg 4611686018427387904 = 4611686018427387904 := by decide
  have e2 : ng 4611686018427387904 = false := by decide
  rw [e1, e2, two_mul ho hE ho2]
  have e3 : Ieee.double.word (false ^^ !false) (o + 4503599627370496) = ngW (o + 4503599627370496) := by
    unfold ngW
    rw [if_pos (by omega)]
    show 9223372036854775808 + (o + 4503599627370496) = _
    omega
  rw [e3]
theorem sig_dbl {p : Nat} (h : 4503599627370496 ≤ p) : sig (p + 4503599627370496) = sig p := by unfold sig; rw [if_neg (by omega), if_neg (by omega)]; omega
theorem ex_dbl {p : Nat} (h : 4503599627370496 ≤ p) : ex (p + 4503599627370496) = ex p + 1 := by unfold ex; omega
theorem nr_1000 : nr 1 1000 = 9110782046170513408 := by kernel_rfl
/-- the quotient of 1 by a number twice as great is half as great -/
theorem dq_dbl {p : Nat} (h1 : 4503599627370496 + 4503599627370496 ≤ p) (h23 : 103582791429521408 ≤ p) (h2 : p ≤ 9110782046170513408) : dq 4607182418800017408 p = dq 4607182418800017408 (p + 4503599627370496) + 4503599627370496 ∧ dq 4607182418800017408 (p + 4503599627370496) + 4503599627370496 + 4503599627370496 < 9218868437227405312 ∧ 4503599627370496 ≤ dq 4607182418800017408 (p + 4503599627370496) := by
  have hl : 4503599627370496 ≤ sig 4607182418800017408 := by decide
  have hg : 4503599627370496 ≤ sig p := by unfold sig; rw [if_neg (by omega)]; omega
  have hg2 : 4503599627370496 ≤ sig (p + 4503599627370496) := by rw [sig_dbl (p := p) (by omega)]; exact hg
  have e1 : ex 4607182418800017408 = 1022 := by decide
  have hex : 22 ≤ ex p ∧ ex p ≤ 2022 := by unfold ex; omega
  have hb := qd_bd hl hg
  have hq : qd 4607182418800017408 (p + 4503599627370496) = qd 4607182418800017408 p := by unfold qd; rw [sig_dbl (p := p) (by omega)]
  rw [dq_eq hl hg, dq_eq hl hg2, hq, ex_dbl (p := p) (by omega), e1]
  generalize qd 4607182418800017408 p = Q at *
  generalize ex p = X at *
  have h0 : 0 < Q := Nat.lt_of_lt_of_le (Nat.two_pow_pos _) hb.1
  have hlog : 54 ≤ Q.log2 := (Nat.le_log2 (by omega)).2 hb.1
  have c1 : (((1022 : Nat) : Int) - ((X + 1 : Nat) : Int) - 55) = 966 - (X : Int) := by omega
  have c2 : (((1022 : Nat) : Int) - (X : Int) - 55) = 966 - (X : Int) + 1 := by omega
  rw [c1, c2]
  have h3 : nr Q (966 - (X : Int)) ≤ nr 1 1000 := by
    obtain ⟨k, hk⟩ : ∃ k : Nat, (1000 : Int) = 966 - (X : Int) + (k : Int) := ⟨(34 + X), by omega⟩
    refine nr_le hk ?_
    rw [Nat.one_mul]
    exact Nat.le_trans hb.2 (Nat.pow_le_pow_right (by omega) (by omega))
  rw [nr_1000] at h3
  have h4 : nr (2 ^ 54) (966 - (X : Int)) ≤ nr Q (966 - (X : Int)) := nr_mono _ hb.1
  have h5 : 4503599627370496 ≤ nr (2 ^ 54) (966 - (X : Int)) := by
    have h6 : nr (2 ^ 52) (-1074) ≤ nr (2 ^ 54) (966 - (X : Int)) := by
      rcases Nat.le_total X 2040 with q | q
      · obtain ⟨k, hk⟩ : ∃ k : Nat, 966 - (X : Int) = -1074 + (k : Int) := ⟨(2040 - X), by omega⟩
        refine nr_le hk ?_
        exact Nat.le_trans (Nat.pow_le_pow_right (by omega) (by omega)) (Nat.le_mul_of_pos_right _ (Nat.two_pow_pos _))
      · omega
    have h7 : nr (2 ^ 52) (-1074) = 4503599627370496 := by rw [← sz_EE]; exact nr_sz (by decide)
    rw [h7] at h6
    exact h6
  refine ⟨nr_dbl h0 (by omega) (by omega), by omega, by omega⟩
theorem dW_dq {p : Nat} (hp : pos p) (h : 4503599627370496 ≤ p) : dW p = dq 4607182418800017408 p := by
  unfold dW
  have h0 : ¬ sig (mg p) = 0 := by rw [hp.mg]; unfold sig; rw [if_neg (by omega)]; omega
  rw [div_gen (x := 4607182418800017408) (finB_iff.1 (by decide)) hp.fin h0, hp.mg, hp.ng]
  rfl
end Go.Proofs.Ytnmibhgfcepddaa
