/-
  Powers of two through products and quotients of words, where nothing is too great or too little; nothing of any program's text.
-/
import Derived.Test.YtnmibhgfcepddaaTw
namespace Go.Proofs.Ytnmibhgfcepddaa
open Fl

def T9 : Nat := 900
def T11 : Nat := 1120
def T12 : Nat := 1254
def T13 : Nat := 1300
def T18 : Nat := 180
def T22 : Nat := 2200
theorem nr_1_900 : nr 1 900 < 9218868437227405312 := by
  have : nr 1 900 = 8660422083433463808 := by kernel_rfl
  rw [this]; omega
theorem nr_finite {N a : Nat} {p : Int} (h : N ≤ 2 ^ a) (hp : p + (a : Int) ≤ 900) : nr N p < 9218868437227405312 := by
  have h1 : nr N p ≤ nr 1 (p + (a : Int)) := nr_le (k := a) rfl (by rw [Nat.one_mul]; exact h)
  have h2 : nr 1 (p + (a : Int)) ≤ nr 1 900 := nr_le (k := (900 - (p + (a : Int))).toNat) (by omega) (by rw [Nat.one_mul]; exact Nat.one_le_two_pow)
  have h3 := nr_1_900
  omega
theorem pair_up {N a k : Nat} {p0 : Int} (h0 : 0 < N) (hn : -1074 ≤ p0 + (N.log2 : Int) - 52) (ha : N ≤ 2 ^ a) (hp : p0 + 255 + (a : Int) ≤ 900) (hk : k ≤ 255) :
    nr N (p0 + (k : Int)) < 9218868437227405312 ∧ nr N (p0 + ((128 : Nat) : Int)) < 9218868437227405312 ∧ sz (nr N (p0 + (k : Int))) * 2 ^ 128 = sz (nr N (p0 + ((128 : Nat) : Int))) * 2 ^ k := by
  have f1 : nr N (p0 + (k : Int)) < 9218868437227405312 := nr_finite ha (by omega)
  have f2 : nr N (p0 + ((128 : Nat) : Int)) < 9218868437227405312 := nr_finite ha (by omega)
  obtain ⟨e1, l1⟩ := nr_up h0 k hn f1
  obtain ⟨e2, _⟩ := nr_up h0 128 hn f2
  refine ⟨f1, f2, ?_⟩
  rw [e1, e2, sz_up k l1, sz_up 128 l1]
  generalize (2 : Nat) ^ 128 = u
  generalize 2 ^ k = v
  rw [Nat.mul_right_comm]
theorem sz_0 : sz 0 = 0 := sz_zero
theorem zero_of_sz {r : Nat} (h : sz r = 0) : r = 0 := by
  rcases Nat.eq_zero_or_pos r with h1 | h1
  · exact h1
  · have := sz_pos h1; omega
theorem sc_mul {k x x' z : Nat} (hx : sc k x x') (hz : fin z) (hk : k ≤ 255) (hN : sz (mg x) * sz (mg z) = 0 ∨ 2 ^ T12 ≤ sz (mg x) * sz (mg z)) (hup : sz (mg x) * sz (mg z) ≤ 2 ^ T22) :
    ∃ r r', mulO x z = some r ∧ mulO x' z = some r' ∧ sc k r r' ∧ mg r = nr (sz (mg x) * sz (mg z)) (-2148) ∧ ng r = (ng x ^^ ng z) ∧ r < 18446744073709551616 ∧ r' < 18446744073709551616 := by
  have e1 := mul_gen hx.1 hz
  have e2 := mul_gen hx.2.1 hz
  rw [hx.2.2.1] at e2
  have hN' : sz (mg x') * sz (mg z) * 2 ^ 128 = sz (mg x) * sz (mg z) * 2 ^ k := by
    rw [Nat.mul_right_comm, hx.2.2.2, Nat.mul_right_comm]
  have hb1 := nr_bd (sz (mg x) * sz (mg z)) (-2148)
  have hb2 := nr_bd (sz (mg x') * sz (mg z)) (-2148)
  refine ⟨_, _, e1, e2, ?_, word_mg _ hb1, word_ng _ hb1, word_lt _ hb1, word_lt _ hb2⟩
  generalize sz (mg x) * sz (mg z) = N at *
  generalize sz (mg x') * sz (mg z) = N' at *
  rcases hN with h0 | h0
  · subst h0
    rw [Nat.zero_mul] at hN'
    have : N' = 0 := by
      rcases Nat.mul_eq_zero.1 hN' with h | h
      · exact h
      · exact absurd h (Nat.ne_of_gt (Nat.two_pow_pos 128))
    subst this
    rw [nr_zero]
    exact sc_word _ (by omega) (by omega) (by rw [sz_0, Nat.zero_mul, Nat.zero_mul])
  · have hpos : 0 < N := Nat.lt_of_lt_of_le (Nat.two_pow_pos _) h0
    have hl : T12 ≤ N.log2 := (Nat.le_log2 (by omega)).2 h0
    have q1 : nr N (-2148) = nr N (-2276 + ((128 : Nat) : Int)) := by congr 1
    have q2 : nr N' (-2148) = nr N (-2276 + (k : Int)) := by
      rw [← nr_shift N' 128 (-2148), hN', ← nr_shift N k (-2276 + (k : Int))]
      congr 1; omega
    obtain ⟨f1, f2, f3⟩ := pair_up (p0 := -2276) (k := k) hpos (by unfold T12 at hl; omega) hup (by unfold T22; omega) hk
    rw [q1, q2]
    exact sc_word _ f2 f1 f3
/-- A power of two, times a word. -/
theorem sc_scale {k x t : Nat} (hx : fin x) (lx : x < 18446744073709551616) (ht : pos t) (st : sz t = 2 ^ (946 + k)) (hk : k ≤ 255) (hN : sz (mg x) = 0 ∨ 2 ^ T18 ≤ sz (mg x)) (hup : sz (mg x) ≤ 2 ^ T13) :
    ∃ r, mulO t x = some r ∧ sc k x r := by
  have e1 := mul_gen ht.fin hx
  rw [ht.ng, ht.mg, st, Bool.false_xor] at e1
  refine ⟨_, e1, ?_⟩
  have q2 : nr (2 ^ (946 + k) * sz (mg x)) (-2148) = nr (sz (mg x)) (-1202 + (k : Int)) := by
    rw [Nat.mul_comm, ← nr_shift (sz (mg x)) (946 + k) (-1202 + (k : Int))]
    congr 1; omega
  have q1 : mg x = nr (sz (mg x)) (-1202 + ((128 : Nat) : Int)) := by
    have := nr_sz (r := mg x) (by unfold Fl.fin at hx; omega)
    exact this.symm
  rw [q2]
  have hw : x = Ieee.double.word (ng x) (mg x) := (word_self lx).symm
  have key : sc k (Ieee.double.word (ng x) (mg x)) (Ieee.double.word (ng x) (nr (sz (mg x)) (-1202 + (k : Int)))) := by
    rcases hN with h0 | h0
    · have hz := zero_of_sz h0
      rw [h0, nr_zero, hz]
      exact sc_word _ (by omega) (by omega) (by rw [sz_0, Nat.zero_mul, Nat.zero_mul])
    · have hpos : 0 < sz (mg x) := Nat.lt_of_lt_of_le (Nat.two_pow_pos _) h0
      have hl : T18 ≤ (sz (mg x)).log2 := (Nat.le_log2 (by omega)).2 h0
      obtain ⟨f1, f2, f3⟩ := pair_up (p0 := -1202) (k := k) hpos (by unfold T18 at hl; omega) hup (by unfold T13; omega) hk
      rw [← q1] at f2 f3
      exact sc_word _ f2 f1 f3
  rw [← hw] at key
  exact key

/-- Fields of words that are normal. -/
theorem sig_big {r : Nat} (h : 4503599627370496 ≤ sz r) : 4503599627370496 ≤ r ∧ 4503599627370496 ≤ sig r := by
  have h1 : 4503599627370496 ≤ r := by
    rcases Nat.lt_or_ge r 4503599627370496 with h1 | h1
    · have h2 := sz_mono h1
      have h3 : sz 4503599627370496 = 4503599627370496 := by decide
      omega
    · exact h1
  exact ⟨h1, by unfold sig; rw [if_neg (by omega)]; omega⟩
theorem ex_low {r a : Nat} (h : 2 ^ a ≤ sz r) : a < 53 + ex r := by
  have h1 := sig_lt r
  have h2 : sz r < 2 ^ (53 + ex r) := by
    unfold sz; rw [Nat.pow_add]
    exact (Nat.mul_lt_mul_right (Nat.two_pow_pos _)).2 h1
  exact (Nat.pow_lt_pow_iff_right (by omega : 1 < 2)).1 (Nat.lt_of_le_of_lt h h2)
theorem ex_up {r a : Nat} (hs : 4503599627370496 ≤ sig r) (h : sz r ≤ 2 ^ a) : 52 + ex r ≤ a := by
  have h2 : 2 ^ (52 + ex r) ≤ sz r := by
    unfold sz; rw [Nat.pow_add]
    exact Nat.mul_le_mul_right _ hs
  exact (Nat.pow_le_pow_iff_right (by omega : 1 < 2)).1 (Nat.le_trans h2 h)
theorem log_sig {r : Nat} (hs : 4503599627370496 ≤ sig r) : (sig r).log2 = 52 := by
  have h2 := sig_lt r
  have e52 : (2 : Nat) ^ 52 = 4503599627370496 := by decide
  have e53 : (2 : Nat) ^ 53 = 9007199254740992 := by decide
  have h3 : 52 ≤ (sig r).log2 := (Nat.le_log2 (by omega)).2 (by rw [e52]; exact hs)
  have b1 := (log2_bd (by omega : 0 < sig r)).1
  have h4 : 2 ^ (sig r).log2 < 2 ^ 53 := Nat.lt_of_le_of_lt b1 (by rw [e53]; exact h2)
  have := (Nat.pow_lt_pow_iff_right (by omega : 1 < 2)).1 h4
  omega
/-- The digits of a quotient of two normal words. -/
def qd (l g : Nat) : Nat := 2 * (sig l * 2 ^ 54 / sig g) + (sig l * 2 ^ 54 % sig g != 0).toNat
theorem dq_eq {l g : Nat} (hl : 4503599627370496 ≤ sig l) (hg : 4503599627370496 ≤ sig g) : dq l g = nr (qd l g) ((ex l : Int) - (ex g : Int) - 55) := by
  unfold dq qd
  rw [log_sig hl, log_sig hg]
  congr 1; omega
theorem qd_bd {l g : Nat} (hl : 4503599627370496 ≤ sig l) (hg : 4503599627370496 ≤ sig g) : 2 ^ 54 ≤ qd l g ∧ qd l g ≤ 2 ^ 56 := by
  have l2 := sig_lt l
  have g2 := sig_lt g
  have e54 : (2 : Nat) ^ 54 = 18014398509481984 := by decide
  have e56 : (2 : Nat) ^ 56 = 72057594037927936 := by decide
  unfold qd
  rw [e54, e56]
  generalize sig l = m at *
  generalize sig g = n at *
  have h1 : 9007199254740992 ≤ m * 18014398509481984 / n := by
    rw [Nat.le_div_iff_mul_le (by omega)]
    have a1 : 9007199254740992 * n ≤ 9007199254740992 * 9007199254740992 := Nat.mul_le_mul_left _ (by omega)
    have a2 : 4503599627370496 * 18014398509481984 ≤ m * 18014398509481984 := Nat.mul_le_mul_right _ hl
    have a3 : 9007199254740992 * 9007199254740992 = 4503599627370496 * 18014398509481984 := by decide
    rw [a3] at a1
    exact Nat.le_trans a1 a2
  have h2 : m * 18014398509481984 / n < 36028797018963968 := by
    rw [Nat.div_lt_iff_lt_mul (by omega)]
    have a1 : m * 18014398509481984 < 9007199254740992 * 18014398509481984 := (Nat.mul_lt_mul_right (by omega)).2 l2
    have a2 : 36028797018963968 * 4503599627370496 ≤ 36028797018963968 * n := Nat.mul_le_mul_left _ hg
    have a3 : 9007199254740992 * 18014398509481984 = 36028797018963968 * 4503599627370496 := by decide
    rw [a3] at a1
    exact Nat.lt_of_lt_of_le a1 a2
  generalize m * 18014398509481984 / n = q at *
  have h3 : (m * 18014398509481984 % n != 0).toNat ≤ 1 := Bool.toNat_le _
  generalize (m * 18014398509481984 % n != 0).toNat = t at *
  omega
def T6 : Nat := 600
theorem sc_div {k x x' t : Nat} (hx : sc k x x') (ht : fin t) (hk : k ≤ 255) (lx : mg x = 0 ∨ 2 ^ T9 ≤ sz (mg x)) (ux : sz (mg x) ≤ 2 ^ T11) (lt : 2 ^ T9 ≤ sz (mg t)) (ut : sz (mg t) ≤ 2 ^ T11) :
    ∃ r r', divO x t = some r ∧ divO x' t = some r' ∧ sc k r r' ∧ (sz (mg r) = 0 ∨ 2 ^ T18 ≤ sz (mg r)) ∧ sz (mg r) ≤ 2 ^ T13 ∧ r < 18446744073709551616 := by
  have big : ∀ r, 2 ^ T9 ≤ sz r → 4503599627370496 ≤ sz r := fun r h => by
    have e52 : (2 : Nat) ^ 52 = 4503599627370496 := by decide
    rw [← e52]; exact Nat.le_trans (Nat.pow_le_pow_right (by omega) (by unfold T9; omega)) h
  obtain ⟨_, gt⟩ := sig_big (big _ lt)
  have n0 : ¬ sig (mg t) = 0 := by omega
  have e1 := div_gen hx.1 ht n0
  have e2 := div_gen hx.2.1 ht n0
  rw [hx.2.2.1] at e2
  rcases lx with h0 | h0
  · have h0' : mg x' = 0 := by
      apply zero_of_sz
      have := hx.2.2.2
      rw [h0, sz_0, Nat.zero_mul] at this
      rcases Nat.mul_eq_zero.1 this with h | h
      · exact h
      · exact absurd h (Nat.ne_of_gt (Nat.two_pow_pos 128))
    have dz : dq 0 (mg t) = 0 := by
      unfold dq
      rw [show sig 0 = 0 from by decide, Nat.zero_mul, Nat.zero_div, Nat.zero_mod]
      exact nr_zero _
    rw [h0, dz] at e1
    rw [h0', dz] at e2
    refine ⟨_, _, e1, e2, sc_word _ (by omega) (by omega) (by rw [sz_0, Nat.zero_mul, Nat.zero_mul]), Or.inl (by rw [word_mg _ (by omega), sz_0]), by rw [word_mg _ (by omega), sz_0]; exact Nat.zero_le _, word_lt _ (by omega)⟩
  · obtain ⟨bx, gx⟩ := sig_big (big _ h0)
    have h7 : 4503599627370496 ≤ sz (mg x') := by
      have e52 : (2 : Nat) ^ 52 = 4503599627370496 := by decide
      have a1 : 2 ^ 52 * 2 ^ 128 ≤ sz (mg x') * 2 ^ 128 := by
        rw [hx.2.2.2, ← Nat.pow_add]
        refine Nat.le_trans (Nat.le_trans (Nat.pow_le_pow_right (by omega) ?_) h0) (Nat.le_mul_of_pos_right _ (Nat.two_pow_pos k))
        unfold T9; omega
      have a2 := Nat.le_of_mul_le_mul_right a1 (Nat.two_pow_pos 128)
      rw [e52] at a2; exact a2
    obtain ⟨bx', gx'⟩ := sig_big h7
    have hm : mg x' + 128 * 4503599627370496 = mg x + k * 4503599627370496 := by
      apply sz_inj
      rw [sz_up 128 bx', sz_up k bx, hx.2.2.2]
    have hs : sig (mg x') = sig (mg x) := by
      have a1 : sig (mg x' + 128 * 4503599627370496) = sig (mg x') := by unfold sig; rw [if_neg (by omega), if_neg (by omega)]; omega
      have a2 : sig (mg x + k * 4503599627370496) = sig (mg x) := by unfold sig; rw [if_neg (by omega), if_neg (by omega)]; omega
      rw [← a1, hm, a2]
    have hE : ex (mg x') + 128 = ex (mg x) + k := by
      have a1 : ex (mg x' + 128 * 4503599627370496) = ex (mg x') + 128 := by unfold ex; omega
      have a2 : ex (mg x + k * 4503599627370496) = ex (mg x) + k := by unfold ex; omega
      rw [← a1, hm, a2]
    have x1 := ex_low h0
    have x2 := ex_up gx ux
    have t1 := ex_low lt
    have t2 := ex_up gt ut
    have hq' : qd (mg x') (mg t) = qd (mg x) (mg t) := by unfold qd; rw [hs]
    obtain ⟨q1, q2⟩ := qd_bd gx gt
    rw [dq_eq gx gt] at e1
    rw [dq_eq gx' gt, hq'] at e2
    generalize qd (mg x) (mg t) = X at *
    obtain ⟨p0, hp0⟩ : ∃ p0 : Int, p0 = (ex (mg x) : Int) - (ex (mg t) : Int) - 55 - 128 := ⟨_, rfl⟩
    have r1 : (ex (mg x) : Int) - (ex (mg t) : Int) - 55 = p0 + ((128 : Nat) : Int) := by omega
    have r2 : (ex (mg x') : Int) - (ex (mg t) : Int) - 55 = p0 + (k : Int) := by omega
    rw [r1] at e1
    rw [r2] at e2
    have hl : 54 ≤ X.log2 := (Nat.le_log2 (by have := Nat.two_pow_pos 54; omega)).2 q1
    have hX0 : 0 < X := Nat.lt_of_lt_of_le (Nat.two_pow_pos 54) q1
    unfold T9 at x1 t1
    unfold T11 at x2 t2
    obtain ⟨f1, f2, f3⟩ := pair_up (p0 := p0) (k := k) (a := 56) hX0 (by omega) q2 (by omega) hk
    refine ⟨_, _, e1, e2, sc_word _ f2 f1 f3, ?_, ?_, word_lt _ (nr_bd _ _)⟩
    · right
      rw [word_mg _ (nr_bd _ _)]
      have c1 : nr 1 (-894) ≤ nr X (p0 + ((128 : Nat) : Int)) := by
        refine Nat.le_trans (nr_le (k := (p0 + 128 + 894).toNat) (p' := p0 + ((128 : Nat) : Int)) (m' := 1) (by omega) (by rw [Nat.one_mul]; exact Nat.one_le_two_pow)) ?_
        exact nr_mono _ (by omega)
      have c2 : 2 ^ T18 ≤ sz (nr 1 (-894)) := by
        have : sz (nr 1 (-894)) = 2 ^ T18 := by kernel_rfl
        rw [this]; exact Nat.le_refl _
      exact Nat.le_trans c2 (sz_le c1)
    · rw [word_mg _ (nr_bd _ _)]
      have c1 : nr X (p0 + ((128 : Nat) : Int)) ≤ nr 1 226 := by
        refine Nat.le_trans (nr_le (k := 56) (p' := p0 + ((128 : Nat) : Int) + ((56 : Nat) : Int)) (m' := 1) rfl (by rw [Nat.one_mul]; exact q2)) ?_
        exact nr_le (k := (226 - (p0 + 128 + 56)).toNat) (by omega) (by rw [Nat.one_mul]; exact Nat.one_le_two_pow)
      have c2 : sz (nr 1 226) = 2 ^ T13 := by kernel_rfl
      rw [← c2]; exact sz_le c1

end Go.Proofs.Ytnmibhgfcepddaa
