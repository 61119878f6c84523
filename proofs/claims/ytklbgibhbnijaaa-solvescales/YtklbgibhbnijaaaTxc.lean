/-
  SolveScales' numbers: math.Ldexp of a real that is not too small and not too great is the real times the power of two.
-/
import Derived.Test.YtklbgibhbnijaaaTxb
import Derived.Test.YtklbgibhbnijaaaSlm
namespace Go.Proofs.Ytklbgibhbnijaaa
open Fl RowKit

theorem ld_mid {m k : Nat} (h0 : 128 ≤ m / 4503599627370496) (h1 : m / 4503599627370496 ≤ 1900) (hk : 8 ≤ k) (hk2 : k ≤ 255) :
    ldM m ((k : Int) - 128) + 128 * 4503599627370496 = m + k * 4503599627370496 ∧ 1 ≤ ldM m ((k : Int) - 128) / 4503599627370496 ∧ ldM m ((k : Int) - 128) / 4503599627370496 ≤ 2046 := by
  have hb : ¬ m < 4503599627370496 := by omega
  have hX : nX m = ((m / 4503599627370496 : Nat) : Int) := by
    unfold nX
    rw [(nG_big hb).1, (nG_big hb).2]; simp
  unfold ldM
  rw [if_neg (by omega), hX, if_neg (by omega), if_pos (by omega), (nG_big hb).1]
  have : (((m / 4503599627370496 : Nat) : Int) + ((k : Int) - 128)).toNat = m / 4503599627370496 + k - 128 := by omega
  rw [this]
  omega
theorem sz_rng {m C : Nat} (hC : C ≤ 1800) (h0 : 2 ^ 180 ≤ sz m) (h1 : sz m ≤ 2 ^ C) : 128 ≤ m / 4503599627370496 ∧ m / 4503599627370496 ≤ 1900 := by
  constructor
  · by_cases h : 128 ≤ m / 4503599627370496
    · exact h
    · have := sz_le (show m ≤ (126 + 2) * 4503599627370496 by omega)
      rw [sz_top] at this
      have h2 := Nat.le_trans h0 this
      exact absurd h2 (by decide)
  · by_cases h : m / 4503599627370496 ≤ 1900
    · exact h
    · obtain ⟨d, hd⟩ : ∃ d : Nat, d = 1899 := ⟨_, rfl⟩
      have := sz_le (show (d + 2) * 4503599627370496 ≤ m by omega)
      rw [sz_top] at this
      have h2 := Nat.le_trans this h1
      have h3 : 2 ^ C ≤ 2 ^ (d + 1) := Nat.pow_le_pow_right (show 0 < 2 by decide) (show C ≤ d + 1 by omega)
      have := Nat.two_pow_pos C
      generalize 2 ^ C = t at *
      generalize 2 ^ (d + 1) = u at *
      omega
/-- a real that stays, and the same through Ldexp -/
theorem Fx.ld {h C x : Nat} (a : Fx h C x) (k : Nat) (hh : 180 ≤ h) (hC : C ≤ 1800) (hk : 8 ≤ k) (hk2 : k ≤ 255) :
    Gz k h C x (ldx x ((k : Int) - 128)) ∧ (mg x ≠ 0 → nX (mg x) + ((k : Int) - 128) ≤ 2046) := by
  by_cases h0 : mg x = 0
  · have e : ldx x ((k : Int) - 128) = x := by
      unfold ldx ldM
      rw [if_pos h0]
      conv => rhs; rw [ng_mg a.l, h0]
    rw [e]
    exact ⟨⟨⟨a.f, a.f, rfl, by rw [h0, sz_zero, Nat.zero_mul, Nat.zero_mul]⟩, a.d, a.u, a.l, a.l⟩, fun n => absurd h0 n⟩
  · have hl : 2 ^ 180 ≤ sz (mg x) := by
      rcases a.gz.low with e | e
      · exact absurd e h0
      · exact Nat.le_trans (Nat.pow_le_pow_right (by omega) hh) e
    obtain ⟨r0, r1⟩ := sz_rng hC hl a.u
    obtain ⟨e1, e2, e3⟩ := ld_mid r0 r1 hk hk2
    have hX : nX (mg x) = ((mg x / 4503599627370496 : Nat) : Int) := by
      have hb : ¬ mg x < 4503599627370496 := by omega
      unfold nX
      rw [(nG_big hb).1, (nG_big hb).2]; simp
    have hs : sz (ldM (mg x) ((k : Int) - 128)) * 2 ^ 128 = sz (mg x) * 2 ^ k := by
      rw [← sz_up 128 (by omega), e1, sz_up k (by omega)]
    have hw : ldM (mg x) ((k : Int) - 128) = ldM (mg x) ((k : Int) - 128) / 4503599627370496 * 4503599627370496 + ldM (mg x) ((k : Int) - 128) % 4503599627370496 := by omega
    have hq := fields_w (s := ng x) (f := ldM (mg x) ((k : Int) - 128) % 4503599627370496) (Nat.mod_lt _ (by omega)) e2 e3
    rw [← hw] at hq
    obtain ⟨q1, q2, q3⟩ := hq
    refine ⟨⟨⟨a.f, q1, q2, ?_⟩, a.d, a.u, a.l, word_lt64 _ (by omega)⟩, fun _ => by rw [hX]; omega⟩
    unfold ldx
    rw [q3]; exact hs
/-- there is but one -/
theorem Gz.uniq {k g B x y z : Nat} (h : Gz k g B x y) (h' : Gz k g B x z) : y = z := by
  have e1 : sz (mg y) = sz (mg z) := by
    have := h.s.2.2.2.trans h'.s.2.2.2.symm
    exact Nat.eq_of_mul_eq_mul_right (Nat.two_pow_pos 128) this
  rw [ng_mg h.l', ng_mg h'.l', h.s.2.2.1, h'.s.2.2.1, sz_inj e1]
theorem Gz.ld {k g B x x' : Nat} (h : Gz k g B x x') (hh : 180 ≤ g) (hC : B ≤ 1800) (hk : 8 ≤ k) (hk2 : k ≤ 255) : ldx x ((k : Int) - 128) = x' := (h.fx.ld k hh hC hk hk2).1.uniq h

end Go.Proofs.Ytklbgibhbnijaaa
