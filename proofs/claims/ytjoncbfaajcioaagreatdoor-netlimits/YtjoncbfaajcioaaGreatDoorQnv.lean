/-
  Closed texts and numbers, read and printed.
-/
import Derived.Test.YtjoncbfaajcioaaGreatDoorQpz
import Derived.Test.YtjoncbfaajcioaaGreatDoorBqf
namespace Go.Proofs.YtjoncbfaajcioaaGreatDoor
open RowKit

def dC (P Q u : Nat) : Nat := if nN P Q u < 9007199254740992 then u else u + 1
def rC (P Q d : Nat) : Nat := if Q * 2 ^ d < 2 * (P * 2 ^ Fl.K74 % (Q * 2 ^ d)) ∨ 2 * (P * 2 ^ Fl.K74 % (Q * 2 ^ d)) = Q * 2 ^ d ∧ nN P Q d % 2 = 1 then nN P Q d + 1 else nN P Q d
def fltC (z : Nat) (c : Int) (a b v : Nat) : Bool := decide (z ≠ 0) && decide (2 ^ a ≤ 2 * pP z c) && decide (pP z c < 2 ^ a) && decide (2 ^ b ≤ 2 * pQ c) && decide (pQ c < 2 ^ b) && decide (ldW (dC (pP z c) (pQ c) (a + 1021 - b)) (rC (pP z c) (pQ c) (dC (pP z c) (pQ c) (a + 1021 - b))) = v)
theorem flt_lit {z a b v : Nat} {c : Int} (h : fltC z c a b v = true) : flt z c = v := by
  unfold fltC at h
  simp only [Bool.and_eq_true, decide_eq_true_eq] at h
  obtain ⟨⟨⟨⟨⟨hz, h1⟩, h2⟩, h3⟩, h4⟩, h5⟩ := h
  have n1 := nbits_eq h1 h2
  have n2 := nbits_eq h3 h4
  have u : nU (pP z c) (pQ c) = a + 1021 - b := by unfold nU; rw [n1, n2]
  have d : nD (pP z c) (pQ c) = dC (pP z c) (pQ c) (a + 1021 - b) := by unfold nD dC; rw [u]
  have r : nR (pP z c) (pQ c) = rC (pP z c) (pQ c) (dC (pP z c) (pQ c) (a + 1021 - b)) := by unfold nR rC; rw [d]
  unfold flt
  rw [if_neg hz, d, r, h5]
/-- a text that is read -/
def paQ (s : ByteArray) (a b v : Nat) : Bool := decide (s.size ≤ 64) && !pBad s && fltC (cZ s (pI s)) (clp (cP s (pI s))) a b v
theorem pa_ok {s : ByteArray} {a b v : Nat} (h : paQ s a b v = true) (hv : v < 9218868437227405312) : paW s = (if tkb s 0 45 = true then v + 9223372036854775808 else v) ∧ paE s = 0 ∧ paA s = 0 := by
  unfold paQ at h
  simp only [Bool.and_eq_true, decide_eq_true_eq, Bool.not_eq_true'] at h
  obtain ⟨⟨h1, h2⟩, h3⟩ := h
  have hf : pF s = v := flt_lit h3
  have h64 : ¬ 64 < s.size := by omega
  have hb : ¬ pBad s = true := by rw [h2]; decide
  refine ⟨?_, ?_, ?_⟩
  · unfold paW; rw [if_neg h64, if_neg hb, hf, if_neg (by omega)]
  · unfold paE; rw [if_neg h64, if_neg hb, hf, if_neg (by omega)]
  · unfold paA; rw [if_neg h64, if_neg hb, hf, if_neg (by omega)]
theorem pa_over {s : ByteArray} {a b v : Nat} (h : paQ s a b v = true) (hv : 9218868437227405312 ≤ v) : paW s = 0 ∧ paE s = 6 ∧ paA s = -1 := by
  unfold paQ at h
  simp only [Bool.and_eq_true, decide_eq_true_eq, Bool.not_eq_true'] at h
  obtain ⟨⟨h1, h2⟩, h3⟩ := h
  have hf : pF s = v := flt_lit h3
  have h64 : ¬ 64 < s.size := by omega
  have hb : ¬ pBad s = true := by rw [h2]; decide
  refine ⟨?_, ?_, ?_⟩
  · unfold paW; rw [if_neg h64, if_neg hb, hf, if_pos hv]
  · unfold paE; rw [if_neg h64, if_neg hb, hf, if_pos hv]
  · unfold paA; rw [if_neg h64, if_neg hb, hf, if_pos hv]
theorem pa_zero {s : ByteArray} (h : (decide (s.size ≤ 64) && !pBad s && decide (cZ s (pI s) = 0)) = true) : paW s = (if tkb s 0 45 = true then 9223372036854775808 else 0) ∧ paE s = 0 ∧ paA s = 0 := by
  simp only [Bool.and_eq_true, decide_eq_true_eq, Bool.not_eq_true'] at h
  obtain ⟨⟨h1, h2⟩, h3⟩ := h
  have hf : pF s = 0 := by unfold pF flt; rw [if_pos h3]
  have h64 : ¬ 64 < s.size := by omega
  have hb : ¬ pBad s = true := by rw [h2]; decide
  refine ⟨?_, ?_, ?_⟩
  · unfold paW; rw [if_neg h64, if_neg hb, hf, if_neg (by decide)]
  · unfold paE; rw [if_neg h64, if_neg hb, hf, if_neg (by decide)]
  · unfold paA; rw [if_neg h64, if_neg hb, hf, if_neg (by decide)]
theorem pa_bad {s : ByteArray} {k : Nat} (h : (decide (s.size ≤ 64) && pBad s && decide (cEnd s (pI s) = k)) = true) : paE s = 150 ∧ paA s = k := by
  simp only [Bool.and_eq_true, decide_eq_true_eq] at h
  obtain ⟨⟨h1, h2⟩, h3⟩ := h
  have h64 : ¬ 64 < s.size := by omega
  refine ⟨?_, ?_⟩
  · unfold paE; rw [if_neg h64, if_pos h2]
  · unfold paA; rw [if_neg h64, if_pos h2, h3]
theorem pa_long {s : ByteArray} (h : 64 < s.size) : paE s = 3 ∧ paA s = -1 := ⟨if_pos h, if_pos h⟩
theorem parse_ok (s : ByteArray) (W : Nat) (h : paW s = W ∧ paE s = 0 ∧ paA s = 0) (w : World) : Calls Tryz.prog 61 #[.string s] w fun e w' => e = .returned (.tuple #[.float .f64 W, .agg #[.int .i64 0, .int .i64 0]]) ∧ Below w.heap.size w w' := by
  have := Parse_any s w
  rw [h.1, h.2.1, h.2.2] at this; exact this
theorem parse_no (s : ByteArray) (E A : Int) (h : paE s = E ∧ paA s = A) (w : World) : Calls Tryz.prog 61 #[.string s] w fun e w' => ∃ W, e = .returned (.tuple #[.float .f64 W, .agg #[.int .i64 E, .int .i64 A]]) ∧ Below w.heap.size w w' := by
  have := Parse_any s w
  rw [h.1, h.2] at this
  exact this.mono fun e w' he => ⟨_, he.1, he.2⟩

theorem rd_0 : paW ⟨#[52, 46, 55, 107]⟩ = 4661889719351640064 ∧ paE ⟨#[52, 46, 55, 107]⟩ = 0 ∧ paA ⟨#[52, 46, 55, 107]⟩ = 0 := pa_ok (a := 13) (b := 1) (v := 4661889719351640064) (by decide +kernel) (by decide)
theorem rd_1 : paW ⟨#[49, 48, 48, 110]⟩ = 4502148214488346440 ∧ paE ⟨#[49, 48, 48, 110]⟩ = 0 ∧ paA ⟨#[49, 48, 48, 110]⟩ = 0 := pa_ok (a := 7) (b := 30) (v := 4502148214488346440) (by decide +kernel) (by decide)
theorem rd_2 : paW ⟨#[45, 50, 46, 53, 101, 51]⟩ = 13881088010067378176 ∧ paE ⟨#[45, 50, 46, 53, 101, 51]⟩ = 0 ∧ paA ⟨#[45, 50, 46, 53, 101, 51]⟩ = 0 := pa_ok (a := 12) (b := 1) (v := 4657715973212602368) (by decide +kernel) (by decide)
theorem rd_3 : paW ⟨#[46, 53]⟩ = 4602678819172646912 ∧ paE ⟨#[46, 53]⟩ = 0 ∧ paA ⟨#[46, 53]⟩ = 0 := pa_ok (a := 3) (b := 4) (v := 4602678819172646912) (by decide +kernel) (by decide)
theorem rd_4 : paW ⟨#[53, 46]⟩ = 4617315517961601024 ∧ paE ⟨#[53, 46]⟩ = 0 ∧ paA ⟨#[53, 46]⟩ = 0 := pa_ok (a := 3) (b := 1) (v := 4617315517961601024) (by decide +kernel) (by decide)
theorem rd_5 : paW ⟨#[49, 101, 51, 107]⟩ = 4696837146684686336 ∧ paE ⟨#[49, 101, 51, 107]⟩ = 0 ∧ paA ⟨#[49, 101, 51, 107]⟩ = 0 := pa_ok (a := 20) (b := 1) (v := 4696837146684686336) (by decide +kernel) (by decide)
theorem rd_6 : paW ⟨#[48, 46, 49]⟩ = 4591870180066957722 ∧ paE ⟨#[48, 46, 49]⟩ = 0 ∧ paA ⟨#[48, 46, 49]⟩ = 0 := pa_ok (a := 1) (b := 4) (v := 4591870180066957722) (by decide +kernel) (by decide)
theorem rd_7 : paW ⟨#[49, 101, 45, 52, 48, 48]⟩ = 0 ∧ paE ⟨#[49, 101, 45, 52, 48, 48]⟩ = 0 ∧ paA ⟨#[49, 101, 45, 52, 48, 48]⟩ = 0 := pa_ok (a := 1) (b := 1329) (v := 0) (by decide +kernel) (by decide)
theorem rd_8 : paW ⟨#[49, 48]⟩ = 4621819117588971520 ∧ paE ⟨#[49, 48]⟩ = 0 ∧ paA ⟨#[49, 48]⟩ = 0 := pa_ok (a := 4) (b := 1) (v := 4621819117588971520) (by decide +kernel) (by decide)
theorem rd_9 : paW ⟨#[45, 50]⟩ = 13835058055282163712 ∧ paE ⟨#[45, 50]⟩ = 0 ∧ paA ⟨#[45, 50]⟩ = 0 := pa_ok (a := 2) (b := 1) (v := 4611686018427387904) (by decide +kernel) (by decide)
theorem rd_10 : paW ⟨#[49]⟩ = 4607182418800017408 ∧ paE ⟨#[49]⟩ = 0 ∧ paA ⟨#[49]⟩ = 0 := pa_ok (a := 1) (b := 1) (v := 4607182418800017408) (by decide +kernel) (by decide)
theorem rd_m0 : paW ⟨#[45, 48]⟩ = 9223372036854775808 ∧ paE ⟨#[45, 48]⟩ = 0 ∧ paA ⟨#[45, 48]⟩ = 0 := pa_zero (by decide +kernel)
theorem rd_n64 : paW ⟨#[57, 57, 57, 57, 57, 57, 57, 57, 57, 57, 57, 57, 57, 57, 57, 57, 57, 57, 57, 57, 57, 57, 57, 57, 57, 57, 57, 57, 57, 57, 57, 57, 57, 57, 57, 57, 57, 57, 57, 57, 57, 57, 57, 57, 57, 57, 57, 57, 57, 57, 57, 57, 57, 57, 57, 57, 57, 57, 57, 57, 57, 57, 57, 57]⟩ = 5564284217833028085 ∧ paE ⟨#[57, 57, 57, 57, 57, 57, 57, 57, 57, 57, 57, 57, 57, 57, 57, 57, 57, 57, 57, 57, 57, 57, 57, 57, 57, 57, 57, 57, 57, 57, 57, 57, 57, 57, 57, 57, 57, 57, 57, 57, 57, 57, 57, 57, 57, 57, 57, 57, 57, 57, 57, 57, 57, 57, 57, 57, 57, 57, 57, 57, 57, 57, 57, 57]⟩ = 0 ∧ paA ⟨#[57, 57, 57, 57, 57, 57, 57, 57, 57, 57, 57, 57, 57, 57, 57, 57, 57, 57, 57, 57, 57, 57, 57, 57, 57, 57, 57, 57, 57, 57, 57, 57, 57, 57, 57, 57, 57, 57, 57, 57, 57, 57, 57, 57, 57, 57, 57, 57, 57, 57, 57, 57, 57, 57, 57, 57, 57, 57, 57, 57, 57, 57, 57, 57]⟩ = 0 := pa_ok (a := 213) (b := 1) (v := 5564284217833028085) (by decide +kernel) (by decide)
theorem rd_n65 : paE ⟨#[57, 57, 57, 57, 57, 57, 57, 57, 57, 57, 57, 57, 57, 57, 57, 57, 57, 57, 57, 57, 57, 57, 57, 57, 57, 57, 57, 57, 57, 57, 57, 57, 57, 57, 57, 57, 57, 57, 57, 57, 57, 57, 57, 57, 57, 57, 57, 57, 57, 57, 57, 57, 57, 57, 57, 57, 57, 57, 57, 57, 57, 57, 57, 57, 57]⟩ = 3 ∧ paA ⟨#[57, 57, 57, 57, 57, 57, 57, 57, 57, 57, 57, 57, 57, 57, 57, 57, 57, 57, 57, 57, 57, 57, 57, 57, 57, 57, 57, 57, 57, 57, 57, 57, 57, 57, 57, 57, 57, 57, 57, 57, 57, 57, 57, 57, 57, 57, 57, 57, 57, 57, 57, 57, 57, 57, 57, 57, 57, 57, 57, 57, 57, 57, 57, 57, 57]⟩ = -1 := pa_long (by decide)
theorem rd_o1 : paE ⟨#[49, 101, 51, 48, 57]⟩ = 6 ∧ paA ⟨#[49, 101, 51, 48, 57]⟩ = -1 := (pa_over (a := 1027) (b := 1) (v := 9218868437227405312) (by decide +kernel) (by decide)).2
theorem rd_o2 : paE ⟨#[49, 101, 57, 57, 57]⟩ = 6 ∧ paA ⟨#[49, 101, 57, 57, 57]⟩ = -1 := (pa_over (a := 1329) (b := 1) (v := 9218868437227405312) (by decide +kernel) (by decide)).2
theorem bw_0 : paE ⟨#[]⟩ = 150 ∧ paA ⟨#[]⟩ = 0 := pa_bad (by decide +kernel)
theorem bw_1 : paE ⟨#[45]⟩ = 150 ∧ paA ⟨#[45]⟩ = 1 := pa_bad (by decide +kernel)
theorem bw_2 : paE ⟨#[46]⟩ = 150 ∧ paA ⟨#[46]⟩ = 1 := pa_bad (by decide +kernel)
theorem bw_3 : paE ⟨#[49, 101]⟩ = 150 ∧ paA ⟨#[49, 101]⟩ = 2 := pa_bad (by decide +kernel)
theorem bw_4 : paE ⟨#[49, 120]⟩ = 150 ∧ paA ⟨#[49, 120]⟩ = 1 := pa_bad (by decide +kernel)
theorem bw_5 : paE ⟨#[52, 107, 55]⟩ = 150 ∧ paA ⟨#[52, 107, 55]⟩ = 2 := pa_bad (by decide +kernel)
theorem bw_6 : paE ⟨#[49, 101, 49, 50, 51, 52, 53]⟩ = 150 ∧ paA ⟨#[49, 101, 49, 50, 51, 52, 53]⟩ = 6 := pa_bad (by decide +kernel)
theorem bw_7 : paE ⟨#[43, 49]⟩ = 150 ∧ paA ⟨#[43, 49]⟩ = 0 := pa_bad (by decide +kernel)
theorem bw_8 : paE ⟨#[32, 49]⟩ = 150 ∧ paA ⟨#[32, 49]⟩ = 0 := pa_bad (by decide +kernel)
theorem bw_9 : paE ⟨#[120]⟩ = 150 ∧ paA ⟨#[120]⟩ = 0 := pa_bad (by decide +kernel)
theorem pr_0 : ∀ w, Pw w → Calls Tryz.prog 74 #[.float .f64 4661889719351640064] w fun r w' => r = .returned (.tuple #[.string ⟨#[52, 46, 55, 107]⟩, .int .i64 0]) ∧ Below w.heap.size w w' := Print_lit 4661889719351640064 5167704650547200 1034 1086 47 2 [52, 46, 55, 107] (by decide +kernel)
theorem pr_1 : ∀ w, Pw w → Calls Tryz.prog 74 #[.float .f64 4502148214488346440] w fun r w' => r = .returned (.tuple #[.string ⟨#[49, 48, 48, 110]⟩, .int .i64 0]) ∧ Below w.heap.size w w' := Print_lit 4502148214488346440 7555786372591432 998 1050 10 1 [49, 48, 48, 110] (by decide +kernel)
theorem pr_2 : ∀ w, Pw w → Calls Tryz.prog 74 #[.float .f64 4591870180066957722] w fun r w' => r = .returned (.tuple #[.string ⟨#[49, 48, 48, 109]⟩, .int .i64 0]) ∧ Below w.heap.size w w' := Print_lit 4591870180066957722 7205759403792794 1018 1070 1 1 [49, 48, 48, 109] (by decide +kernel)
theorem pr_3 : ∀ w, Pw w → Calls Tryz.prog 74 #[.float .f64 4696837146684686336] w fun r w' => r = .returned (.tuple #[.string ⟨#[49, 77]⟩, .int .i64 0]) ∧ Below w.heap.size w w' := Print_lit 4696837146684686336 8589934592000000 1041 1093 1 1 [49, 77] (by decide +kernel)
theorem pr_4 : ∀ w, Pw w → Calls Tryz.prog 74 #[.float .f64 4652006429231887155] w fun r w' => r = .returned (.tuple #[.string ⟨#[57, 57, 57, 46, 57]⟩, .int .i64 0]) ∧ Below w.heap.size w w' := Print_lit 4652006429231887155 8795213412905779 1031 1083 9999 4 [57, 57, 57, 46, 57] (by decide +kernel)
theorem pr_5 : ∀ w, Pw w → Calls Tryz.prog 74 #[.float .f64 4831355200913801216] w fun r w' => r = .returned (.tuple #[.string ⟨#[49, 101, 49, 53]⟩, .int .i64 0]) ∧ Below w.heap.size w w' := Print_lit 4831355200913801216 8000000000000000 1071 1123 1 1 [49, 101, 49, 53] (by decide +kernel)
theorem pr_6 : ∀ w, Pw w → Calls Tryz.prog 74 #[.float .f64 1] w fun r w' => r = .returned (.tuple #[.string ⟨#[53, 101, 45, 51, 50, 52]⟩, .int .i64 0]) ∧ Below w.heap.size w w' := Print_lit 1 1 0 0 5 1 [53, 101, 45, 51, 50, 52] (by decide +kernel)
theorem pr_7 : ∀ w, Pw w → Calls Tryz.prog 74 #[.float .f64 4712889646009286656] w fun r w' => r = .returned (.tuple #[.string ⟨#[49, 50, 46, 51, 52, 53, 54, 55, 56, 77]⟩, .int .i64 0]) ∧ Below w.heap.size w w' := Print_lit 4712889646009286656 6628035407118336 1045 1097 12345678 8 [49, 50, 46, 51, 52, 53, 54, 55, 56, 77] (by decide +kernel)
theorem pr_8 : ∀ w, Pw w → Calls Tryz.prog 74 #[.float .f64 4621819117588971520] w fun r w' => r = .returned (.tuple #[.string ⟨#[49, 48]⟩, .int .i64 0]) ∧ Below w.heap.size w w' := Print_lit 4621819117588971520 5629499534213120 1025 1077 1 1 [49, 48] (by decide +kernel)
theorem pr_m0 : ∀ w, Pw w → Calls Tryz.prog 74 #[.float .f64 9223372036854775808] w fun r w' => r = .returned (.tuple #[.string ⟨#[45, 48]⟩, .int .i64 0]) ∧ Below w.heap.size w w' := print_zero 9223372036854775808 (by decide) (by decide)

end Go.Proofs.YtjoncbfaajcioaaGreatDoor
