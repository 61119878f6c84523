/-
  A float's span in numbers: the first guess at its power of ten, how often the one is taken ten times; digits of a number.
-/
import Derived.Test.YtjoncbfaajcioaaGreatDoorQsh
import Derived.Test.YtjoncbfaajcioaaGreatDoorBqb
import Derived.Lib.ItoaNum
namespace Go.Proofs.YtjoncbfaajcioaaGreatDoor

/-- the first guess at the power of ten of a float whose power of two is t - 1074: above 0, below 0 -/
def gsP (t : Nat) : Nat := (t - 1074) * 30103 / 100000
def gsN (t : Nat) : Nat := (1074 - t) * 30103 / 100000
theorem gs_pos {t : Nat} (h : 1074 ≤ t) : (((t : Int) - 1074) * 30103).tdiv 100000 = (gsP t : Int) ∧ gsN t = 0 := by
  constructor
  · rw [Int.tdiv_eq_ediv_of_nonneg (by omega)]; unfold gsP; omega
  · unfold gsN; omega
theorem gs_neg {t : Nat} (h : t < 1074) : (((t : Int) - 1074) * 30103).tdiv 100000 = -(gsN t : Int) ∧ gsP t = 0 := by
  constructor
  · have e : ((t : Int) - 1074) * 30103 = -((1074 - (t : Int)) * 30103) := by omega
    rw [e, Int.neg_tdiv, Int.tdiv_eq_ediv_of_nonneg (by omega)]; unfold gsN; omega
  · unfold gsP; omega
def gsOk (t : Nat) : Bool := Nat.ble (2 ^ (t + 1) * 10 ^ gsN t) (100 * 10 ^ gsP t * 2 ^ 1074)
def gsAll : Nat → Bool
  | 0 => true
  | n + 1 => gsOk n && gsAll n
theorem gsAll_get : ∀ {n t : Nat}, gsAll n = true → t < n → gsOk t = true
  | n + 1, t, h, ht => by
    unfold gsAll at h
    rw [Bool.and_eq_true] at h
    rcases Nat.lt_succ_iff_lt_or_eq.1 ht with h1 | h1
    · exact gsAll_get h.2 h1
    · rw [h1]; exact h.1
theorem gsAll_ok : gsAll 2100 = true := by decide +kernel
theorem gs_bound {t : Nat} (h : t < 2100) : 2 ^ (t + 1) * 10 ^ gsN t ≤ 100 * 10 ^ gsP t * 2 ^ 1074 := Nat.le_of_ble_eq_true (gsAll_get gsAll_ok h)

/-- a float's number, s times two to e - 1074, over its one: all is counted in quarters -/
def spT (s e : Nat) : Nat := e + nbits s - 1
def spR (s e : Nat) : Nat := 4 * s * 2 ^ (e - 1076) * 10 ^ gsN (spT s e)
def spO (s e : Nat) : Nat := 2 ^ (1076 - e) * 10 ^ gsP (spT s e)
def spB (s e : Nat) : Nat := (if s = 4503599627370496 ∧ 0 < e then 1 else 2) * 2 ^ (e - 1076) * 10 ^ gsN (spT s e)
def spA (s e : Nat) : Nat := 2 * 2 ^ (e - 1076) * 10 ^ gsN (spT s e)
theorem sp_bound {s e : Nat} (hs : 0 < s) (ht : spT s e < 2100) : spR s e < spO s e * 100 := by
  have h1 := nbits_lt s
  have h2 : 0 < nbits s := by rw [nbits_pos hs]; omega
  have hg := gs_bound ht
  unfold spR spO
  have hT : spT s e + 1 = e + nbits s := by unfold spT; omega
  rw [hT] at hg
  obtain ⟨N, hN⟩ : ∃ N, 10 ^ gsN (spT s e) = N := ⟨_, rfl⟩
  obtain ⟨P, hP⟩ : ∃ P, 10 ^ gsP (spT s e) = P := ⟨_, rfl⟩
  have hN0 : 0 < N := by rw [← hN]; exact Nat.pow_pos (by decide)
  rw [hN, hP] at hg ⊢
  have two2 : (2 : Nat) ^ 2 = 4 := rfl
  have ex1 : ∀ a b : Nat, a + b = 1074 + 2 → 2 ^ a * 2 ^ b = 2 ^ 1074 * 4 := fun a b h => by rw [← Nat.pow_add, h, Nat.pow_add 2 1074 2, two2]
  have ex2 : ∀ a b : Nat, a + (1074 + 2) = b → 2 ^ a * (2 ^ 1074 * 4) = 2 ^ b := fun a b h => by rw [← h, ← two2, ← Nat.pow_add 2 1074 2, ← Nat.pow_add 2 a (1074 + 2)]
  generalize (2 : Nat) ^ 1074 = K at hg ex1 ex2
  have hse : s * 2 ^ e * N < 100 * P * K := by
    refine Nat.lt_of_lt_of_le ?_ hg
    rw [Nat.pow_add, Nat.mul_comm (2 ^ e)]
    exact Nat.mul_lt_mul_of_pos_right (Nat.mul_lt_mul_of_pos_right h1 (Nat.two_pow_pos e)) hN0
  rcases Nat.lt_or_ge e 1076 with he | he
  · have e1 : e - 1076 = 0 := by omega
    rw [e1, Nat.pow_zero, Nat.mul_one]
    refine Nat.lt_of_mul_lt_mul_right (a := 2 ^ e) ?_
    have e2 := ex1 (1076 - e) e (by omega)
    have e3 : 2 ^ (1076 - e) * P * 100 * 2 ^ e = 100 * P * (2 ^ (1076 - e) * 2 ^ e) := by ac_rfl
    rw [e3, e2, ← Nat.mul_assoc]
    have e4 : 4 * s * N * 2 ^ e = s * 2 ^ e * N * 4 := by ac_rfl
    rw [e4]
    exact Nat.mul_lt_mul_of_pos_right hse (by decide)
  · have e1 : 1076 - e = 0 := by omega
    rw [e1, Nat.pow_zero, Nat.one_mul]
    refine Nat.lt_of_mul_lt_mul_right (a := K) ?_
    have e2 := ex2 (e - 1076) e (by omega)
    have ab : ∀ a b c d : Nat, 4 * a * b * c * d = a * (b * (d * 4)) * c := fun a b c d => by ac_rfl
    rw [ab, e2]
    have e5 : P * 100 * K = 100 * P * K := by rw [Nat.mul_comm P]
    rw [e5]
    exact hse

/-- how often the one is taken ten times, until the rest is below it -/
def spn : Nat → Nat → Nat → Nat
  | 0, _, _ => 0
  | f + 1, r, o => if r < o then 0 else spn f r (o * 10 + 0) + 1
theorem spn_lt : ∀ (f r o : Nat), r < o * 10 ^ f → r < o * 10 ^ spn f r o
  | 0, r, o, h => by unfold spn; exact h
  | f + 1, r, o, h => by
    unfold spn
    split
    · rw [Nat.pow_zero, Nat.mul_one]; assumption
    · have := spn_lt f r (o * 10 + 0) (by rw [Nat.add_zero, Nat.mul_assoc, Nat.mul_comm 10, ← Nat.pow_succ]; exact h)
      rw [Nat.add_zero, Nat.mul_assoc, Nat.mul_comm 10, ← Nat.pow_succ] at this
      exact this
theorem spn_le : ∀ (f r o : Nat), spn f r o ≤ f
  | 0, _, _ => Nat.le_refl _
  | f + 1, r, o => by
    unfold spn
    split
    · omega
    · have := spn_le f r (o * 10 + 0); omega

/-- a number's digits, by so many rounds -/
def dgL : Nat → Nat → List UInt8
  | 0, u => [UInt8.ofNat (48 + u)]
  | f + 1, u => if u < 10 then [UInt8.ofNat (48 + u)] else dgL f (u / 10) ++ [UInt8.ofNat (48 + u % 10)]
theorem dgL_eq : ∀ (f u : Nat), u < 10 ^ (f + 1) → Lib.decDigits u = dgL f u
  | 0, u, h => by
    unfold Lib.decDigits dgL
    rw [dif_pos (by simpa using h)]
  | f + 1, u, h => by
    unfold Lib.decDigits dgL
    split
    · rfl
    · rw [dgL_eq f (u / 10) (by rw [Nat.div_lt_iff_lt_mul (by decide), ← Nat.pow_succ]; exact h)]

end Go.Proofs.YtjoncbfaajcioaaGreatDoor
