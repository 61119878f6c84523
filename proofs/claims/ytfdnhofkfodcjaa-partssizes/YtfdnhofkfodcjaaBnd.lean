/-
  The absolute value's steps (quotient, square, sum, root, product) keep it from the greater size up to the sum of both, rounded; nothing of any program's text.
-/
import Derived.Test.YtfdnhofkfodcjaaMono
import Derived.Test.YtfdnhofkfodcjaaPe
namespace Go.Proofs.Ytfdnhofkfodcjaa
open Fl

def E22 : Nat := 1022
def E76 : Nat := 1076
theorem szI_E : szI = 2 ^ E76 * 2 ^ E22 := by kernel_rfl
theorem rung_small {n : Nat} (hr : RpN n) (h : n < szI) : nr n (-1074) < 9218868437227405312 ∧ sz (nr n (-1074)) = n := by
  have e := nearest_eq false n 0
  have hn : rn n = n := rn_exact hr
  have hl : rung n < 9218868437227405312 := rung_lt (by rw [hn]; exact h)
  rw [Nat.pow_zero, Nat.mul_one, Nat.min_eq_left (Nat.le_of_lt hl), word_false] at e
  have e0 : (-1074 + ((0 : Nat) : Int)) = -1074 := by omega
  rw [e0] at e
  have e2 : nr n (-1074) = rung n := by unfold nr; exact e
  rw [e2]
  exact ⟨hl, by rw [sz_rung, hn]⟩
/-- C times 2 to the power -52, as a word: C is no more than 54 digits, the last 0 where it is 54. -/
theorem nr_C {C m e : Nat} (hC : C = m * 2 ^ e) (hm : m < 9007199254740992) (hlt : C < 2 ^ 54) : pos (nr C (-52)) ∧ sz (nr C (-52)) = C * 2 ^ E22 := by
  have h1 : nr C (-52) = nr (C * 2 ^ E22) (-1074) := by
    rw [← nr_shift C E22 (-52)]
    congr 1
  rw [h1]
  refine rung_small ⟨m, e + E22, by rw [hC, Nat.mul_assoc, ← Nat.pow_add], hm⟩ ?_
  rw [szI_E]
  exact (Nat.mul_lt_mul_right (Nat.two_pow_pos _)).2 (Nat.lt_of_lt_of_le hlt (Nat.pow_le_pow_right (by decide) (by decide : 54 ≤ E76)))
theorem sz_one : sz 4607182418800017408 = 2 ^ 52 * 2 ^ E22 := by kernel_rfl
theorem nr_one : nr (2 ^ 52) (-52) = 4607182418800017408 := by kernel_rfl
theorem pos_one : pos 4607182418800017408 := by unfold pos; omega
theorem le_of_sz {a b : Nat} (h : sz a ≤ sz b) : a ≤ b := by
  rcases Nat.lt_or_ge b a with h1 | h1
  · have := sz_mono h1; omega
  · exact h1

/-- The root of a number from 1 up to 4. -/
theorem sqrt_range {S b m : Nat} (hS : pos S) (hb : b ≤ 1) (hm : sig S = m) (hx : ex S = 1022 + b) (h1 : 2 ^ 52 ≤ m) (h2 : m < 2 ^ 53) :
    ∃ r, sqrtO S = some r ∧ r ≤ 9218868437227405312 ∧ 4607182418800017408 ≤ r ∧ ∀ C, m * 2 ^ (52 + b) ≤ C * C → r ≤ nr C (-52) := by
  have hlog : m.log2 = 52 := by
    have b1 := (log2_bd (by omega : 0 < m)).1
    have b2 := (log2_bd (by omega : 0 < m)).2
    have c1 : 2 ^ m.log2 < 2 ^ 53 := Nat.lt_of_le_of_lt b1 h2
    have c2 : 2 ^ 52 < 2 ^ (m.log2 + 1) := Nat.lt_of_le_of_lt h1 b2
    have d1 := (Nat.pow_lt_pow_iff_right (by omega : 1 < 2)).1 c1
    have d2 := (Nat.pow_lt_pow_iff_right (by omega : 1 < 2)).1 c2
    omega
  have hr : Ieee.double.read S = .number false m (-52 + (b : Int)) := by
    rw [hS.read, hm, hx]; congr 1; omega
  have hm0 : ¬ m = 0 := by
    intro h; rw [h] at h1; exact absurd h1 (by decide)
  have hmore : 2 * (Ieee.double.fractionBits + 2) - m.log2 = 56 := by rw [hlog]; rfl
  have hpar : (((-52 + (b : Int)) - ((56 : Nat) : Int)) % 2).toNat = b := by omega
  have hplace : ((-52 + (b : Int)) - ((56 + b : Nat) : Int)) / 2 - 1 = -55 := by omega
  have e : sqrtO S = some (nr (2 * Ieee.Datum.rootFrom (m * 2 ^ (56 + b)) ((m * 2 ^ (56 + b)).log2 / 2 + 1) 0 + (Ieee.Datum.rootFrom (m * 2 ^ (56 + b)) ((m * 2 ^ (56 + b)).log2 / 2 + 1) 0 * Ieee.Datum.rootFrom (m * 2 ^ (56 + b)) ((m * 2 ^ (56 + b)).log2 / 2 + 1) 0 != m * 2 ^ (56 + b)).toNat) (-55)) := by
    unfold sqrtO Ieee.Format.sqrt
    rw [hr]
    simp only [Ieee.Datum.root, hm0, if_false, Bool.false_eq_true, hmore, hpar, hplace, Nat.shiftLeft_eq, Option.map_some]
    rfl
  have hn : 0 < m * 2 ^ (56 + b) := Nat.mul_pos (by omega) (Nat.two_pow_pos _)
  obtain ⟨k1, k2⟩ := root_whole hn
  refine ⟨_, e, nr_lim _ _, ?_, ?_⟩
  · rw [← nr_one]
    refine nr_ge (k := 3) (by omega) ?_
    have hlow : (2 ^ 54) * (2 ^ 54) ≤ m * 2 ^ (56 + b) := by
      calc 2 ^ 54 * 2 ^ 54 = 2 ^ 52 * 2 ^ 56 := by decide
        _ ≤ m * 2 ^ 56 := Nat.mul_le_mul_right _ h1
        _ ≤ m * 2 ^ (56 + b) := Nat.mul_le_mul_left _ (Nat.pow_le_pow_right (by omega) (by omega))
    clear e
    generalize Ieee.Datum.rootFrom (m * 2 ^ (56 + b)) ((m * 2 ^ (56 + b)).log2 / 2 + 1) 0 = R at *
    have hR : 2 ^ 54 < R + 1 := by
      rcases Nat.lt_or_ge (2 ^ 54) (R + 1) with h | h
      · exact h
      · have := Nat.mul_le_mul h h
        omega
    have e1 : (2 : Nat) ^ 52 * 2 ^ 3 = 2 * 2 ^ 54 := by decide
    rw [e1]; omega
  · intro C hC
    refine nr_le (k := 3) (by omega) ?_
    have hup : m * 2 ^ (56 + b) ≤ (4 * C) * (4 * C) := by
      have e1 : m * 2 ^ (56 + b) = 16 * (m * 2 ^ (52 + b)) := by
        rw [show 56 + b = 4 + (52 + b) by omega, Nat.pow_add, show (2 : Nat) ^ 4 = 16 from rfl]; simp only [Nat.mul_left_comm]
      have e2 : (4 * C) * (4 * C) = 16 * (C * C) := Nat.mul_mul_mul_comm 4 C 4 C
      rw [e1, e2]; exact Nat.mul_le_mul_left _ hC
    clear e
    generalize Ieee.Datum.rootFrom (m * 2 ^ (56 + b)) ((m * 2 ^ (56 + b)).log2 / 2 + 1) 0 = R at *
    generalize m * 2 ^ (56 + b) = n at *
    have e8 : C * 2 ^ 3 = 2 * (4 * C) := by omega
    rw [e8]
    by_cases hq : R * R = n
    · have hb0 : (R * R != n) = false := by rw [hq]; simp
      rw [hb0]
      have : R ≤ 4 * C := by
        rcases Nat.lt_or_ge (4 * C) R with h | h
        · have := Nat.mul_lt_mul'' h h; omega
        · exact h
      show 2 * R + 0 ≤ _
      omega
    · have hb1 : (R * R != n) = true := bne_iff_ne.2 hq
      rw [hb1]
      have : R < 4 * C := by
        rcases Nat.lt_or_ge R (4 * C) with h | h
        · exact h
        · have := Nat.mul_le_mul h h; omega
      show 2 * R + 1 ≤ _
      omega
/-- A word from 1 up to 4 has its exponent there. -/
theorem range_ex {S : Nat} (h1 : 4607182418800017408 ≤ S) (h2 : S < 4616189618054758400) : ∃ b, b ≤ 1 ∧ ex S = 1022 + b ∧ 2 ^ 52 ≤ sig S ∧ sig S < 2 ^ 53 := by
  have e52 : (2 : Nat) ^ 52 = 4503599627370496 := by decide
  have e53 : (2 : Nat) ^ 53 = 9007199254740992 := by decide
  refine ⟨S / 4503599627370496 - 1023, by omega, by unfold ex; omega, ?_, ?_⟩
  · unfold sig; rw [if_neg (by omega), e52]; omega
  · rw [e53]; exact sig_lt S

theorem sig_sz {S b : Nat} (hx : ex S = 1022 + b) : sz S = sig S * 2 ^ b * 2 ^ E22 := by
  unfold sz; rw [hx, show 1022 + b = b + E22 from by unfold E22; omega, Nat.pow_add, Nat.mul_assoc]
theorem two_k (k : Nat) : 2 * k * 4503599627370496 = k * 9007199254740992 := by omega
theorem sz_four : sz 4616189618054758400 = 2 ^ 54 * 2 ^ E22 := by kernel_rfl
theorem nr_small : nr (2 ^ 52 * 2 ^ E22 + 1 * 2 ^ (E22 - 52)) (-1074) = 4607182418800017408 := by kernel_rfl
theorem sqrt_one : sqrtO 4607182418800017408 = some 4607182418800017408 := by kernel_rfl
theorem sz_low : sz (nr 1 (-104)) = 1 * 2 ^ (E22 - 52) := by kernel_rfl
theorem pos_low : pos (nr 1 (-104)) := by
  have : nr 1 (-104) = 4138808057553485824 := by kernel_rfl
  rw [this]; unfold pos; omega
theorem pos.of_le {a b : Nat} (h : pos b) (hl : a ≤ b) : pos a := by unfold pos at *; omega
theorem sz_of_le {a b n : Nat} (h : a ≤ b) (hb : sz b = n) : sz a ≤ n := by rw [← hb]; exact sz_le h
theorem hyp_bounds {g l : Nat} (hg : pos g) (hl : pos l) (h0 : 0 < g) (hle : l ≤ g) :
    ∃ A Z, hyp (some g) (some l) = some A ∧ addO g l = some Z ∧ g ≤ A ∧ A ≤ Z ∧ A ≤ 9218868437227405312 ∧ Z ≤ 9218868437227405312 := by
  have hsl : sz l ≤ sz g := sz_le hle
  have hsg : 0 < sz g := sz_pos h0
  have hZ := add_pos hg hl
  obtain ⟨k, hk⟩ : ∃ k, k = sz l * 2 ^ 52 / sz g := ⟨_, rfl⟩
  have hk1 : k * sz g ≤ sz l * 2 ^ 52 := by rw [hk]; exact Nat.div_mul_le_self _ _
  have hk2 : sz l * 2 ^ 52 ≤ (k + 1) * sz g := by
    have := Nat.lt_div_mul_add (a := sz l * 2 ^ 52) hsg
    rw [← hk] at this
    rw [Nat.add_mul, Nat.one_mul]; omega
  have hk3 : k ≤ 2 ^ 52 := by
    have h1 : k * sz g ≤ 2 ^ 52 * sz g := Nat.le_trans hk1 (by rw [Nat.mul_comm]; exact Nat.mul_le_mul_left _ hsl)
    exact Nat.le_of_mul_le_mul_right h1 hsg
  have e52 : (2 : Nat) ^ 52 = 4503599627370496 := by decide
  have e54 : (2 : Nat) ^ 54 = 18014398509481984 := by decide
  rw [e52] at hk3
  obtain ⟨W, hW, hWle⟩ := div_pos (C := k + 1) hl hg hsg hsl hk2
  obtain ⟨pc, sc⟩ := nr_C (C := k + 1) (m := k + 1) (e := 0) (by rw [Nat.pow_zero, Nat.mul_one]) (by omega) (by rw [e54]; omega)
  have pW : pos W := pc.of_le hWle
  have sW : sz W ≤ (k + 1) * 2 ^ E22 := sz_of_le hWle sc
  have hww := mul_pos pW pW
  have hgZ : nr (sz g) (-1074) ≤ nr (sz g + sz l) (-1074) := nr_mono _ (by omega)
  rw [nr_sz (by unfold pos at hg; omega)] at hgZ
  have hyp_eq : ∀ ww s r A, mulO W W = some ww → addO 4607182418800017408 ww = some s → sqrtO s = some r → mulO g r = some A → hyp (some g) (some l) = some A := by
    intro ww s r A h1 h2 h3 h4
    have d : divA (some l) (some g) = some W := hW
    unfold hyp
    rw [d]
    show mulA (some g) (sqrtA (addA (some 4607182418800017408) (mulO W W))) = some A
    rw [h1]
    show mulA (some g) (sqrtA (addO 4607182418800017408 ww)) = some A
    rw [h2]
    show mulA (some g) (sqrtO s) = some A
    rw [h3]; exact h4
  have hE : 2 ^ (E22 + 52) = 2 ^ 52 * 2 ^ E22 := by rw [Nat.pow_add, Nat.mul_comm]
  rcases Nat.eq_zero_or_pos k with hk0 | hk0
  · have w1 : nr (sz W * sz W) (-2148) ≤ nr 1 (-104) := by
      refine nr_le (k := E22 + E22) (by unfold E22; omega) ?_
      have : sz W ≤ 2 ^ E22 := by rw [hk0] at sW; simpa using sW
      rw [Nat.one_mul, Nat.pow_add]; exact Nat.mul_le_mul this this
    have pw := pos_low.of_le w1
    have sw := sz_of_le w1 sz_low
    have hs := add_pos pos_one pw
    rw [sz_one] at hs
    have s1 : nr (2 ^ 52 * 2 ^ E22 + sz (nr (sz W * sz W) (-2148))) (-1074) ≤ 4607182418800017408 := by
      rw [← nr_small]; exact nr_mono _ (Nat.add_le_add_left sw _)
    have s2 : 4607182418800017408 ≤ nr (2 ^ 52 * 2 ^ E22 + sz (nr (sz W * sz W) (-2148))) (-1074) := by
      have := nr_mono (m := 2 ^ 52 * 2 ^ E22) (-1074) (Nat.le_add_right (2 ^ 52 * 2 ^ E22) (sz (nr (sz W * sz W) (-2148))))
      rw [← sz_one, nr_sz (by omega), sz_one] at this
      exact this
    have s3 := Nat.le_antisymm s1 s2
    rw [s3] at hs
    refine ⟨g, _, hyp_eq _ _ _ _ hww hs sqrt_one (mul_one hg.fin (by unfold pos at hg; omega)), hZ, Nat.le_refl _, hgZ, by unfold pos at hg; omega, nr_lim _ _⟩
  · have q1 : (k + 1) * (k + 1) ≤ k * 9007199254740992 := by
      have h1 : k * k ≤ k * 4503599627370496 := Nat.mul_le_mul_left _ hk3
      have h2 : (k + 1) * (k + 1) = k * k + 2 * k + 1 := by rw [Nat.add_mul, Nat.mul_add]; omega
      omega
    have hw2 : nr (sz W * sz W) (-2148) ≤ nr (2 * k) (-52) := by
      refine nr_le (k := E22 + E22 + 52) (by unfold E22; omega) ?_
      have h1 := Nat.mul_le_mul sW sW
      have h2 : (k + 1) * 2 ^ E22 * ((k + 1) * 2 ^ E22) = (k + 1) * (k + 1) * 2 ^ (E22 + E22) := by rw [Nat.mul_mul_mul_comm, Nat.pow_add]
      have h3 : 2 * k * 2 ^ (E22 + E22 + 52) = k * 9007199254740992 * 2 ^ (E22 + E22) := by
        rw [Nat.pow_add 2 (E22 + E22) 52, e52, Nat.mul_comm (2 ^ (E22 + E22)) 4503599627370496, ← Nat.mul_assoc]
        rw [two_k]
      rw [h2] at h1
      rw [h3]
      exact Nat.le_trans h1 (Nat.mul_le_mul_right _ q1)
    obtain ⟨pc2, sc2⟩ := nr_C (C := 2 * k) (m := k) (e := 1) (by omega) (by omega) (by rw [e54]; omega)
    have pw := pc2.of_le hw2
    have sw := sz_of_le hw2 sc2
    have hs := add_pos pos_one pw
    rw [sz_one] at hs
    obtain ⟨pc3, sc3⟩ := nr_C (C := 4503599627370496 + 2 * k) (m := 2251799813685248 + k) (e := 1) (by omega) (by omega) (by rw [e54]; omega)
    obtain ⟨S, hSd⟩ : ∃ S, S = nr (2 ^ 52 * 2 ^ E22 + sz (nr (sz W * sz W) (-2148))) (-1074) := ⟨_, rfl⟩
    rw [← hSd] at hs
    have hS2 : S ≤ nr (4503599627370496 + 2 * k) (-52) := by
      rw [hSd]
      refine nr_le (k := E22) (by unfold E22; omega) ?_
      rw [Nat.add_mul, e52]; exact Nat.add_le_add_left sw _
    have hS1 : 4607182418800017408 ≤ S := by
      have := nr_mono (m := 2 ^ 52 * 2 ^ E22) (-1074) (Nat.le_add_right (2 ^ 52 * 2 ^ E22) (sz (nr (sz W * sz W) (-2148))))
      rw [← sz_one, nr_sz (by omega), sz_one, ← hSd] at this
      exact this
    have pS := pc3.of_le hS2
    have sS := sz_of_le hS2 sc3
    have hS4 : S < 4616189618054758400 := by
      rcases Nat.lt_or_ge S 4616189618054758400 with h | h
      · exact h
      · have h1 := sz_le h
        rw [sz_four] at h1
        have h2 := Nat.le_of_mul_le_mul_right (Nat.le_trans h1 sS) (Nat.two_pow_pos E22)
        rw [e54] at h2; omega
    obtain ⟨b, hb, hx, m1, m2⟩ := range_ex hS1 hS4
    obtain ⟨r, hr, rl, r1, rC⟩ := sqrt_range pS hb rfl hx m1 m2
    have hCC : sig S * 2 ^ (52 + b) ≤ (4503599627370496 + k) * (4503599627370496 + k) := by
      rw [sig_sz hx] at sS
      have h1 := Nat.le_of_mul_le_mul_right sS (Nat.two_pow_pos E22)
      have h2 := Nat.mul_le_mul_right 4503599627370496 h1
      have h3 : sig S * 2 ^ (52 + b) = sig S * 2 ^ b * 4503599627370496 := by rw [Nat.add_comm 52 b, Nat.pow_add, e52, Nat.mul_assoc]
      have h4 : (4503599627370496 + k) * (4503599627370496 + k) = (4503599627370496 + 2 * k) * 4503599627370496 + k * k := by
        rw [Nat.add_mul, Nat.mul_add, Nat.mul_add, Nat.add_mul]; omega
      rw [h3, h4]; exact Nat.le_trans h2 (Nat.le_add_right _ _)
    have hrC := rC _ hCC
    have sr2 : sz r ≤ (4503599627370496 + k) * 2 ^ E22 := by
      rcases Nat.lt_or_ge k 4503599627370496 with h | h
      · obtain ⟨_, sc4⟩ := nr_C (C := 4503599627370496 + k) (m := 4503599627370496 + k) (e := 0) (by omega) (by omega) (by rw [e54]; omega)
        exact sz_of_le hrC sc4
      · obtain ⟨_, sc4⟩ := nr_C (C := 4503599627370496 + k) (m := 4503599627370496) (e := 1) (by omega) (by omega) (by rw [e54]; omega)
        exact sz_of_le hrC sc4
    have sr1 : 2 ^ 52 * 2 ^ E22 ≤ sz r := by rw [← sz_one]; exact sz_le r1
    have pr : pos r := by
      rcases Nat.lt_or_ge r 9218868437227405312 with h | h
      · exact h
      · exfalso
        have hh : (4616189618054758400 : Nat) ≤ r := by omega
        have h1 := sz_le hh
        rw [sz_four] at h1
        have h2 := Nat.le_of_mul_le_mul_right (Nat.le_trans h1 sr2) (Nat.two_pow_pos E22)
        rw [e54] at h2; omega
    have hA := mul_pos hg pr
    refine ⟨_, _, hyp_eq _ _ _ _ hww hs hr hA, hZ, ?_, ?_, nr_lim _ _, nr_lim _ _⟩
    · have h1 : nr (sz g) (-1074) ≤ nr (sz g * sz r) (-2148) := by
        refine nr_ge (k := E22 + 52) (by unfold E22; omega) ?_
        rw [hE]; exact Nat.mul_le_mul_left _ sr1
      rw [nr_sz (by unfold pos at hg; omega)] at h1
      exact h1
    · refine nr_le (k := E22 + 52) (by unfold E22; omega) ?_
      have h1 := Nat.mul_le_mul_left (sz g) sr2
      refine Nat.le_trans h1 ?_
      rw [hE, ← Nat.mul_assoc, ← Nat.mul_assoc]
      refine Nat.mul_le_mul_right _ ?_
      rw [Nat.mul_add, Nat.add_mul, e52]
      rw [e52] at hk1
      rw [Nat.mul_comm (sz g) k]
      exact Nat.add_le_add_left hk1 _

end Go.Proofs.Ytfdnhofkfodcjaa
