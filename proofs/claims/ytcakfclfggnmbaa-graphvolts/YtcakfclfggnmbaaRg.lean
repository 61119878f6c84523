/-
  Rounding whole numbers of two to the power -2200 to words; small facts on words by their fields.
-/
import Derived.Test.YtcakfclfggnmbaaTp
namespace Go.Proofs.Ytcakfclfggnmbaa.Fl

/-- the place of the last digit that is kept -/
def lowD (n : Nat) : Nat := max (n.log2 - 52) 1126
def rung2 (n : Nat) : Nat := (lowD n - 1126) * 4503599627370496 + rne n (lowD n)
theorem nearest2_eq (s : Bool) (m p : Nat) (hm : 0 < m) : Ieee.double.nearest s m (-2200 + (p : Int)) = Ieee.double.word s (min (rung2 (m * 2 ^ p)) 9218868437227405312) := by
  unfold Ieee.Format.nearest
  rw [if_neg (by omega)]
  simp only [d_least, d_bin, d_inf, cut_rne, Nat.shiftLeft_eq]
  have hf : (Ieee.double.fractionBits : Int) = 52 := rfl
  have hlast : max (-2200 + (p : Int) + (m.log2 : Int) - (Ieee.double.fractionBits : Int)) (-1074) = -2200 + (lowD (m * 2 ^ p) : Int) := by
    unfold lowD; rw [log2_mul m p hm, hf]; omega
  rw [hlast]
  have hl : 1126 ≤ lowD (m * 2 ^ p) := Nat.le_max_right _ _
  have e1 : (-2200 + (lowD (m * 2 ^ p) : Int) - -1074).toNat = lowD (m * 2 ^ p) - 1126 := by omega
  have e2 : (-2200 + (p : Int) - (-2200 + (lowD (m * 2 ^ p) : Int))).toNat = p - lowD (m * 2 ^ p) := by omega
  have e3 : (-2200 + (lowD (m * 2 ^ p) : Int) - (-2200 + (p : Int))).toNat = lowD (m * 2 ^ p) - p := by omega
  rw [e1, e2, e3]
  unfold rung2
  generalize lowD (m * 2 ^ p) = d
  have key : rne (m * 2 ^ (p - d)) (d - p) = rne (m * 2 ^ p) d := by
    rcases Nat.le_total p d with h | h
    · rw [Nat.sub_eq_zero_of_le h, Nat.pow_zero, Nat.mul_one, rne_scale m p d h]
    · rw [Nat.sub_eq_zero_of_le h]
      have e4 : m * 2 ^ p = m * 2 ^ (p - d) * 2 ^ d := by rw [Nat.mul_assoc, ← Nat.pow_add]; congr 2; omega
      rw [e4, rne_scale _ d d (Nat.le_refl _), Nat.sub_self]
  rw [key]
/-- 1126, kept shut -/
def K26g : Nat := 1126
/-- a whole number of two to the power -1074 -/
theorem rung2_of (N : Nat) : rung2 (N * 2 ^ K26g) = rung N ∨ N = 0 := by
  rcases Nat.eq_zero_or_pos N with h | h
  · exact .inr h
  · left
    have hl : lowD (N * 2 ^ K26g) = dig N + K26g := by unfold lowD dig; rw [log2_mul N K26g h]; unfold K26g; omega
    unfold rung2 rung
    rw [hl, rne_scale N K26g (dig N + K26g) (by omega), Nat.add_sub_cancel]
    unfold K26g; omega
theorem rne_le {n d : Nat} (h : n < 9007199254740992 * 2 ^ d) : rne n d ≤ 9007199254740992 := by
  have h3 : n / 2 ^ d < 9007199254740992 := (Nat.div_lt_iff_lt_mul (Nat.two_pow_pos _)).2 h
  unfold rne; split <;> omega
theorem low_bd (n : Nat) : n < 9007199254740992 * 2 ^ lowD n := by
  have h1 : n < 2 ^ (n.log2 + 1) := Nat.lt_log2_self
  have h2 : 2 ^ (n.log2 + 1) ≤ 2 ^ (53 + lowD n) := Nat.pow_le_pow_right (by omega) (by unfold lowD; omega)
  rw [Nat.pow_add 2 53, show (2 : Nat) ^ 53 = 9007199254740992 by decide] at h2
  omega
theorem rne_le2 (n : Nat) : rne n (lowD n) ≤ 9007199254740992 := rne_le (low_bd n)
theorem rne_ge2 {n : Nat} (hl : 1126 < lowD n) : 4503599627370496 ≤ rne n (lowD n) := by
  have hk : lowD n = n.log2 - 52 := by unfold lowD at *; omega
  have hn : 0 < n := by
    rcases Nat.eq_zero_or_pos n with h | h
    · subst h; unfold lowD at hl; simp at hl
    · exact h
  have h1 := (log2_bd hn).1
  have h2 : 4503599627370496 * 2 ^ lowD n ≤ n := by
    have e : 2 ^ n.log2 = 4503599627370496 * 2 ^ lowD n := by
      rw [show (4503599627370496 : Nat) = 2 ^ 52 by decide, ← Nat.pow_add]; congr 1; omega
    omega
  have h3 : 4503599627370496 ≤ n / 2 ^ lowD n := (Nat.le_div_iff_mul_le (Nat.two_pow_pos _)).2 h2
  unfold rne; split <;> omega
theorem rne_whole (a d : Nat) : rne (a * 2 ^ d) d = a := by
  have := rne_exact (a * 2 ^ d) d (Nat.dvd_mul_left _ _)
  exact Nat.eq_of_mul_eq_mul_right (Nat.two_pow_pos d) this
/-- a number of 53 digits and its place -/
theorem rung_of {m D : Nat} (h : m ≤ 9007199254740992) (h2 : 4503599627370496 ≤ m ∨ D = 0) : rung (m * 2 ^ D) = D * 4503599627370496 + m := by
  rcases Nat.eq_or_lt_of_le h with h3 | h3
  · subst h3
    have e : 9007199254740992 * 2 ^ D = 4503599627370496 * 2 ^ (D + 1) := by rw [Nat.pow_succ]; omega
    have hd : dig (9007199254740992 * 2 ^ D) = D + 1 := by
      unfold dig; rw [log2_mul _ D (by omega), show (9007199254740992 : Nat).log2 = 53 by decide]; omega
    unfold rung
    rw [hd, e, rne_whole]; omega
  · rcases h2 with h2 | h2
    · have hlog : m.log2 = 52 := (Nat.log2_eq_iff (by omega)).2 ⟨by rw [show (2 : Nat) ^ 52 = 4503599627370496 by decide]; exact h2, by rw [show (2 : Nat) ^ (52 + 1) = 9007199254740992 by decide]; exact h3⟩
      have hd : dig (m * 2 ^ D) = D := by unfold dig; rw [log2_mul _ D (by omega), hlog]; omega
      unfold rung
      rw [hd, rne_whole]
    · subst h2
      unfold rung
      rw [Nat.pow_zero, Nat.mul_one, dig_zero h3]
      have := rne_whole m 0
      rw [Nat.pow_zero, Nat.mul_one] at this
      rw [this]
theorem rung2_parts (n : Nat) : rung2 n = rung (rne n (lowD n) * 2 ^ (lowD n - 1126)) := by
  rw [rung_of (rne_le2 n)]
  · rfl
  · rcases Nat.lt_or_ge 1126 (lowD n) with h | h
    · exact .inl (rne_ge2 h)
    · exact .inr (by omega)

end Go.Proofs.Ytcakfclfggnmbaa.Fl
