/-
  A quotient times a power of two, with wider bounds.
-/
import Derived.Test.YtklbgibhbnijaaaTw3
namespace Go.Proofs.Ytklbgibhbnijaaa
open Fl

def T75 : Nat := 1075
theorem sc_divg {k x x' t a b c d : Nat} (hx : sc k x x') (ht : fin t) (hk : k ≤ 255) (lx : mg x = 0 ∨ 2 ^ a ≤ sz (mg x)) (ux : sz (mg x) ≤ 2 ^ b) (lt : 2 ^ c ≤ sz (mg t)) (ut : sz (mg t) ≤ 2 ^ d) (ha : 180 ≤ a) (hc : 52 ≤ c) (had : d ≤ a + 890) (hbc : b ≤ c + 770) :
    ∃ r r', divO x t = some r ∧ divO x' t = some r' ∧ sc k r r' ∧ (sz (mg r) = 0 ∨ 2 ^ (1073 + a - d) ≤ sz (mg r)) ∧ sz (mg r) ≤ 2 ^ (1076 + b - c) ∧ r < 18446744073709551616 ∧ r' < 18446744073709551616 ∧ (mg x ≤ mg t → sz (mg r) ≤ 2 ^ T75) := by
  have big : ∀ (r e : Nat), 52 ≤ e → 2 ^ e ≤ sz r → 4503599627370496 ≤ sz r := fun r e he h => by
    have e52 : (2 : Nat) ^ 52 = 4503599627370496 := by decide
    rw [← e52]; exact Nat.le_trans (Nat.pow_le_pow_right (by omega) he) h
  obtain ⟨_, gt⟩ := sig_big (big _ _ hc lt)
  have n0 : ¬ sig (mg t) = 0 := by omega
  have e1 := div_gen hx.1 ht n0
  have e2 := div_gen hx.2.1 ht n0
  rw [hx.2.2.1] at e2
  rcases lx with h0 | h0
  · have h0' : mg x' = 0 := by
      apply zero_of_sz
      have := hx.2.2.2
      rw [h0, sz_0, Nat.zero_mul] at this
      rcases Nat.mul_eq_zero.1 this with h | h
      · exact h
      · exact absurd h (Nat.ne_of_gt (Nat.two_pow_pos 128))
    have dz : dq 0 (mg t) = 0 := by
      unfold dq
      rw [show sig 0 = 0 from by decide, Nat.zero_mul, Nat.zero_div, Nat.zero_mod]
      exact nr_zero _
    rw [h0, dz] at e1
    rw [h0', dz] at e2
    refine ⟨_, _, e1, e2, sc_word _ (by omega) (by omega) (by rw [sz_0, Nat.zero_mul, Nat.zero_mul]), Or.inl (by rw [word_mg _ (by omega), sz_0]), by rw [word_mg _ (by omega), sz_0]; exact Nat.zero_le _, word_lt _ (by omega), word_lt _ (by omega), fun _ => by rw [word_mg _ (by omega), sz_0]; exact Nat.zero_le _⟩
  · obtain ⟨bx, gx⟩ := sig_big (big _ _ (by omega) h0)
    have h7 : 4503599627370496 ≤ sz (mg x') := by
      have e52 : (2 : Nat) ^ 52 = 4503599627370496 := by decide
      have a1 : 2 ^ 52 * 2 ^ 128 ≤ sz (mg x') * 2 ^ 128 := by
        rw [hx.2.2.2, ← Nat.pow_add]
        refine Nat.le_trans (Nat.le_trans (Nat.pow_le_pow_right (by omega) ?_) h0) (Nat.le_mul_of_pos_right _ (Nat.two_pow_pos k))
        omega
      have a2 := Nat.le_of_mul_le_mul_right a1 (Nat.two_pow_pos 128)
      rw [e52] at a2; exact a2
    obtain ⟨bx', gx'⟩ := sig_big h7
    have hm : mg x' + 128 * 4503599627370496 = mg x + k * 4503599627370496 := by
      apply sz_inj
      rw [sz_up 128 bx', sz_up k bx, hx.2.2.2]
    have hs : sig (mg x') = sig (mg x) := by
      have a1 : sig (mg x' + 128 * 4503599627370496) = sig (mg x') := by unfold sig; rw [if_neg (by omega), if_neg (by omega)]; omega
      have a2 : sig (mg x + k * 4503599627370496) = sig (mg x) := by unfold sig; rw [if_neg (by omega), if_neg (by omega)]; omega
      rw [← a1, hm, a2]
    have hE : ex (mg x') + 128 = ex (mg x) + k := by
      have a1 : ex (mg x' + 128 * 4503599627370496) = ex (mg x') + 128 := by unfold ex; omega
      have a2 : ex (mg x + k * 4503599627370496) = ex (mg x) + k := by unfold ex; omega
      rw [← a1, hm, a2]
    have x1 := ex_low h0
    have x2 := ex_up gx ux
    have t1 := ex_low lt
    have t2 := ex_up gt ut
    have hq' : qd (mg x') (mg t) = qd (mg x) (mg t) := by unfold qd; rw [hs]
    obtain ⟨q1, q2⟩ := qd_bd gx gt
    rw [dq_eq gx gt] at e1
    rw [dq_eq gx' gt, hq'] at e2
    generalize qd (mg x) (mg t) = X at *
    obtain ⟨p0, hp0⟩ : ∃ p0 : Int, p0 = (ex (mg x) : Int) - (ex (mg t) : Int) - 55 - 128 := ⟨_, rfl⟩
    have r1 : (ex (mg x) : Int) - (ex (mg t) : Int) - 55 = p0 + ((128 : Nat) : Int) := by omega
    have r2 : (ex (mg x') : Int) - (ex (mg t) : Int) - 55 = p0 + (k : Int) := by omega
    rw [r1] at e1
    rw [r2] at e2
    have hl : 54 ≤ X.log2 := (Nat.le_log2 (by have := Nat.two_pow_pos 54; omega)).2 q1
    have hX0 : 0 < X := Nat.lt_of_lt_of_le (Nat.two_pow_pos 54) q1
    obtain ⟨f1, f2, f3⟩ := pair_up (p0 := p0) (k := k) (a := 56) hX0 (by omega) q2 (by omega) hk
    refine ⟨_, _, e1, e2, sc_word _ f2 f1 f3, ?_, ?_, word_lt _ (nr_bd _ _), word_lt _ (nr_bd _ _), fun hle => ?_⟩
    · right
      rw [word_mg _ (nr_bd _ _)]
      obtain ⟨u, hu⟩ : ∃ u : Nat, (u : Int) = p0 + ((128 : Nat) : Int) + 54 + 1074 := ⟨(p0 + ((128 : Nat) : Int) + 54 + 1074).toNat, by omega⟩
      have c1 := nr_pow_dn (N := X) (a := 54) (p := p0 + ((128 : Nat) : Int)) (b := u) q1 (by omega) (by omega)
      exact Nat.le_trans (Nat.pow_le_pow_right (by omega) (by omega)) c1
    · rw [word_mg _ (nr_bd _ _)]
      obtain ⟨u, hu⟩ : ∃ u : Nat, (u : Int) = p0 + ((128 : Nat) : Int) + 56 + 1074 := ⟨(p0 + ((128 : Nat) : Int) + 56 + 1074).toNat, by omega⟩
      have c1 := nr_pow_up (N := X) (a := 56) (p := p0 + ((128 : Nat) : Int)) (b := u) q2 (by omega) (by omega)
      exact Nat.le_trans c1 (Nat.pow_le_pow_right (by omega) (by omega))
    · rw [word_mg _ (nr_bd _ _)]
      have hex : ex (mg x) ≤ ex (mg t) := by unfold ex; omega
      obtain ⟨u, hu⟩ : ∃ u : Nat, (u : Int) = p0 + ((128 : Nat) : Int) + 56 + 1074 := ⟨(p0 + ((128 : Nat) : Int) + 56 + 1074).toNat, by omega⟩
      have c1 := nr_pow_up (N := X) (a := 56) (p := p0 + ((128 : Nat) : Int)) (b := u) q2 (by omega) (by omega)
      exact Nat.le_trans c1 (Nat.pow_le_pow_right (by omega) (by unfold T75; omega))

end Go.Proofs.Ytklbgibhbnijaaa
