/-
  Several texts in one: Tw2 Tw3 Tw4 Tw5 Tw7 Tw8 Tw9.
-/
import Derived.Test.YtklbgibhbnijaaaBnd
import Derived.Test.YtklbgibhbnijaaaBna
import Derived.Test.YtklbgibhbnijaaaBnb
import Derived.Test.YtklbgibhbnijaaaLma
namespace Go.Proofs.Ytklbgibhbnijaaa
open Fl

def T9 : Nat := 900
def T11 : Nat := 1120
def T12 : Nat := 1254
def T13 : Nat := 1300
def T18 : Nat := 180
def T22 : Nat := 2200
theorem nr_1_900 : nr 1 900 < 9218868437227405312 := by
  have : nr 1 900 = 8660422083433463808 := by kernel_rfl
  rw [this]; omega
theorem nr_finite {N a : Nat} {p : Int} (h : N ≤ 2 ^ a) (hp : p + (a : Int) ≤ 900) : nr N p < 9218868437227405312 := by
  have h1 : nr N p ≤ nr 1 (p + (a : Int)) := nr_le (k := a) rfl (by rw [Nat.one_mul]; exact h)
  have h2 : nr 1 (p + (a : Int)) ≤ nr 1 900 := nr_le (k := (900 - (p + (a : Int))).toNat) (by omega) (by rw [Nat.one_mul]; exact Nat.one_le_two_pow)
  have h3 := nr_1_900
  omega
theorem pair_up {N a k : Nat} {p0 : Int} (h0 : 0 < N) (hn : -1074 ≤ p0 + (N.log2 : Int) - 52) (ha : N ≤ 2 ^ a) (hp : p0 + 255 + (a : Int) ≤ 900) (hk : k ≤ 255) :
    nr N (p0 + (k : Int)) < 9218868437227405312 ∧ nr N (p0 + ((128 : Nat) : Int)) < 9218868437227405312 ∧ sz (nr N (p0 + (k : Int))) * 2 ^ 128 = sz (nr N (p0 + ((128 : Nat) : Int))) * 2 ^ k := by
  have f1 : nr N (p0 + (k : Int)) < 9218868437227405312 := nr_finite ha (by omega)
  have f2 : nr N (p0 + ((128 : Nat) : Int)) < 9218868437227405312 := nr_finite ha (by omega)
  obtain ⟨e1, l1⟩ := nr_up h0 k hn f1
  obtain ⟨e2, _⟩ := nr_up h0 128 hn f2
  refine ⟨f1, f2, ?_⟩
  rw [e1, e2, sz_up k l1, sz_up 128 l1]
  generalize (2 : Nat) ^ 128 = u
  generalize 2 ^ k = v
  rw [Nat.mul_right_comm]
theorem sz_0 : sz 0 = 0 := sz_zero
theorem zero_of_sz {r : Nat} (h : sz r = 0) : r = 0 := by
  rcases Nat.eq_zero_or_pos r with h1 | h1
  · exact h1
  · have := sz_pos h1; omega
theorem sc_mul {k x x' z : Nat} (hx : sc k x x') (hz : fin z) (hk : k ≤ 255) (hN : sz (mg x) * sz (mg z) = 0 ∨ 2 ^ T12 ≤ sz (mg x) * sz (mg z)) (hup : sz (mg x) * sz (mg z) ≤ 2 ^ T22) :
    ∃ r r', mulO x z = some r ∧ mulO x' z = some r' ∧ sc k r r' ∧ mg r = nr (sz (mg x) * sz (mg z)) (-2148) ∧ ng r = (ng x ^^ ng z) ∧ r < 18446744073709551616 ∧ r' < 18446744073709551616 := by
  have e1 := mul_gen hx.1 hz
  have e2 := mul_gen hx.2.1 hz
  rw [hx.2.2.1] at e2
  have hN' : sz (mg x') * sz (mg z) * 2 ^ 128 = sz (mg x) * sz (mg z) * 2 ^ k := by
    rw [Nat.mul_right_comm, hx.2.2.2, Nat.mul_right_comm]
  have hb1 := nr_bd (sz (mg x) * sz (mg z)) (-2148)
  have hb2 := nr_bd (sz (mg x') * sz (mg z)) (-2148)
  refine ⟨_, _, e1, e2, ?_, word_mg _ hb1, word_ng _ hb1, word_lt _ hb1, word_lt _ hb2⟩
  generalize sz (mg x) * sz (mg z) = N at *
  generalize sz (mg x') * sz (mg z) = N' at *
  rcases hN with h0 | h0
  · subst h0
    rw [Nat.zero_mul] at hN'
    have : N' = 0 := by
      rcases Nat.mul_eq_zero.1 hN' with h | h
      · exact h
      · exact absurd h (Nat.ne_of_gt (Nat.two_pow_pos 128))
    subst this
    rw [nr_zero]
    exact sc_word _ (by omega) (by omega) (by rw [sz_0, Nat.zero_mul, Nat.zero_mul])
  · have hpos : 0 < N := Nat.lt_of_lt_of_le (Nat.two_pow_pos _) h0
    have hl : T12 ≤ N.log2 := (Nat.le_log2 (by omega)).2 h0
    have q1 : nr N (-2148) = nr N (-2276 + ((128 : Nat) : Int)) := by congr 1
    have q2 : nr N' (-2148) = nr N (-2276 + (k : Int)) := by
      rw [← nr_shift N' 128 (-2148), hN', ← nr_shift N k (-2276 + (k : Int))]
      congr 1; omega
    obtain ⟨f1, f2, f3⟩ := pair_up (p0 := -2276) (k := k) hpos (by unfold T12 at hl; omega) hup (by unfold T22; omega) hk
    rw [q1, q2]
    exact sc_word _ f2 f1 f3
/-- A power of two, times a word. -/
theorem sc_scale {k x t : Nat} (hx : fin x) (lx : x < 18446744073709551616) (ht : pos t) (st : sz t = 2 ^ (946 + k)) (hk : k ≤ 255) (hN : sz (mg x) = 0 ∨ 2 ^ T18 ≤ sz (mg x)) (hup : sz (mg x) ≤ 2 ^ T13) :
    ∃ r, mulO t x = some r ∧ sc k x r := by
  have e1 := mul_gen ht.fin hx
  rw [ht.ng, ht.mg, st, Bool.false_xor] at e1
  refine ⟨_, e1, ?_⟩
  have q2 : nr (2 ^ (946 + k) * sz (mg x)) (-2148) = nr (sz (mg x)) (-1202 + (k : Int)) := by
    rw [Nat.mul_comm, ← nr_shift (sz (mg x)) (946 + k) (-1202 + (k : Int))]
    congr 1; omega
  have q1 : mg x = nr (sz (mg x)) (-1202 + ((128 : Nat) : Int)) := by
    have := nr_sz (r := mg x) (by unfold Fl.fin at hx; omega)
    exact this.symm
  rw [q2]
  have hw : x = Ieee.double.word (ng x) (mg x) := (word_self lx).symm
  have key : sc k (Ieee.double.word (ng x) (mg x)) (Ieee.double.word (ng x) (nr (sz (mg x)) (-1202 + (k : Int)))) := by
    rcases hN with h0 | h0
    · have hz := zero_of_sz h0
      rw [h0, nr_zero, hz]
      exact sc_word _ (by omega) (by omega) (by rw [sz_0, Nat.zero_mul, Nat.zero_mul])
    · have hpos : 0 < sz (mg x) := Nat.lt_of_lt_of_le (Nat.two_pow_pos _) h0
      have hl : T18 ≤ (sz (mg x)).log2 := (Nat.le_log2 (by omega)).2 h0
      obtain ⟨f1, f2, f3⟩ := pair_up (p0 := -1202) (k := k) hpos (by unfold T18 at hl; omega) hup (by unfold T13; omega) hk
      rw [← q1] at f2 f3
      exact sc_word _ f2 f1 f3
  rw [← hw] at key
  exact key

/-- Fields of words that are normal. -/
theorem sig_big {r : Nat} (h : 4503599627370496 ≤ sz r) : 4503599627370496 ≤ r ∧ 4503599627370496 ≤ sig r := by
  have h1 : 4503599627370496 ≤ r := by
    rcases Nat.lt_or_ge r 4503599627370496 with h1 | h1
    · have h2 := sz_mono h1
      have h3 : sz 4503599627370496 = 4503599627370496 := by decide
      omega
    · exact h1
  exact ⟨h1, by unfold sig; rw [if_neg (by omega)]; omega⟩
theorem ex_low {r a : Nat} (h : 2 ^ a ≤ sz r) : a < 53 + ex r := by
  have h1 := sig_lt r
  have h2 : sz r < 2 ^ (53 + ex r) := by
    unfold sz; rw [Nat.pow_add]
    exact (Nat.mul_lt_mul_right (Nat.two_pow_pos _)).2 h1
  exact (Nat.pow_lt_pow_iff_right (by omega : 1 < 2)).1 (Nat.lt_of_le_of_lt h h2)
theorem ex_up {r a : Nat} (hs : 4503599627370496 ≤ sig r) (h : sz r ≤ 2 ^ a) : 52 + ex r ≤ a := by
  have h2 : 2 ^ (52 + ex r) ≤ sz r := by
    unfold sz; rw [Nat.pow_add]
    exact Nat.mul_le_mul_right _ hs
  exact (Nat.pow_le_pow_iff_right (by omega : 1 < 2)).1 (Nat.le_trans h2 h)
theorem log_sig {r : Nat} (hs : 4503599627370496 ≤ sig r) : (sig r).log2 = 52 := by
  have h2 := sig_lt r
  have e52 : (2 : Nat) ^ 52 = 4503599627370496 := by decide
  have e53 : (2 : Nat) ^ 53 = 9007199254740992 := by decide
  have h3 : 52 ≤ (sig r).log2 := (Nat.le_log2 (by omega)).2 (by rw [e52]; exact hs)
  have b1 := (log2_bd (by omega : 0 < sig r)).1
  have h4 : 2 ^ (sig r).log2 < 2 ^ 53 := Nat.lt_of_le_of_lt b1 (by rw [e53]; exact h2)
  have := (Nat.pow_lt_pow_iff_right (by omega : 1 < 2)).1 h4
  omega
/-- The digits of a quotient of two normal words. -/
def qd (l g : Nat) : Nat := 2 * (sig l * 2 ^ 54 / sig g) + (sig l * 2 ^ 54 % sig g != 0).toNat
theorem dq_eq {l g : Nat} (hl : 4503599627370496 ≤ sig l) (hg : 4503599627370496 ≤ sig g) : dq l g = nr (qd l g) ((ex l : Int) - (ex g : Int) - 55) := by
  unfold dq qd
  rw [log_sig hl, log_sig hg]
  congr 1; omega
theorem qd_bd {l g : Nat} (hl : 4503599627370496 ≤ sig l) (hg : 4503599627370496 ≤ sig g) : 2 ^ 54 ≤ qd l g ∧ qd l g ≤ 2 ^ 56 := by
  have l2 := sig_lt l
  have g2 := sig_lt g
  have e54 : (2 : Nat) ^ 54 = 18014398509481984 := by decide
  have e56 : (2 : Nat) ^ 56 = 72057594037927936 := by decide
  unfold qd
  rw [e54, e56]
  generalize sig l = m at *
  generalize sig g = n at *
  have h1 : 9007199254740992 ≤ m * 18014398509481984 / n := by
    rw [Nat.le_div_iff_mul_le (by omega)]
    have a1 : 9007199254740992 * n ≤ 9007199254740992 * 9007199254740992 := Nat.mul_le_mul_left _ (by omega)
    have a2 : 4503599627370496 * 18014398509481984 ≤ m * 18014398509481984 := Nat.mul_le_mul_right _ hl
    have a3 : 9007199254740992 * 9007199254740992 = 4503599627370496 * 18014398509481984 := by decide
    rw [a3] at a1
    exact Nat.le_trans a1 a2
  have h2 : m * 18014398509481984 / n < 36028797018963968 := by
    rw [Nat.div_lt_iff_lt_mul (by omega)]
    have a1 : m * 18014398509481984 < 9007199254740992 * 18014398509481984 := (Nat.mul_lt_mul_right (by omega)).2 l2
    have a2 : 36028797018963968 * 4503599627370496 ≤ 36028797018963968 * n := Nat.mul_le_mul_left _ hg
    have a3 : 9007199254740992 * 18014398509481984 = 36028797018963968 * 4503599627370496 := by decide
    rw [a3] at a1
    exact Nat.lt_of_lt_of_le a1 a2
  generalize m * 18014398509481984 / n = q at *
  have h3 : (m * 18014398509481984 % n != 0).toNat ≤ 1 := Bool.toNat_le _
  generalize (m * 18014398509481984 % n != 0).toNat = t at *
  omega
def T6 : Nat := 600
theorem sc_div {k x x' t : Nat} (hx : sc k x x') (ht : fin t) (hk : k ≤ 255) (lx : mg x = 0 ∨ 2 ^ T9 ≤ sz (mg x)) (ux : sz (mg x) ≤ 2 ^ T11) (lt : 2 ^ T9 ≤ sz (mg t)) (ut : sz (mg t) ≤ 2 ^ T11) :
    ∃ r r', divO x t = some r ∧ divO x' t = some r' ∧ sc k r r' ∧ (sz (mg r) = 0 ∨ 2 ^ T18 ≤ sz (mg r)) ∧ sz (mg r) ≤ 2 ^ T13 ∧ r < 18446744073709551616 := by
  have big : ∀ r, 2 ^ T9 ≤ sz r → 4503599627370496 ≤ sz r := fun r h => by
    have e52 : (2 : Nat) ^ 52 = 4503599627370496 := by decide
    rw [← e52]; exact Nat.le_trans (Nat.pow_le_pow_right (by omega) (by unfold T9; omega)) h
  obtain ⟨_, gt⟩ := sig_big (big _ lt)
  have n0 : ¬ sig (mg t) = 0 := by omega
  have e1 := div_gen hx.1 ht n0
  have e2 := div_gen hx.2.1 ht n0
  rw [hx.2.2.1] at e2
  rcases lx with h0 | h0
  · have h0' : mg x' = 0 := by
      apply zero_of_sz
      have := hx.2.2.2
      rw [h0, sz_0, Nat.zero_mul] at this
      rcases Nat.mul_eq_zero.1 this with h | h
      · exact h
      · exact absurd h (Nat.ne_of_gt (Nat.two_pow_pos 128))
    have dz : dq 0 (mg t) = 0 := by
      unfold dq
      rw [show sig 0 = 0 from by decide, Nat.zero_mul, Nat.zero_div, Nat.zero_mod]
      exact nr_zero _
    rw [h0, dz] at e1
    rw [h0', dz] at e2
    refine ⟨_, _, e1, e2, sc_word _ (by omega) (by omega) (by rw [sz_0, Nat.zero_mul, Nat.zero_mul]), Or.inl (by rw [word_mg _ (by omega), sz_0]), by rw [word_mg _ (by omega), sz_0]; exact Nat.zero_le _, word_lt _ (by omega)⟩
  · obtain ⟨bx, gx⟩ := sig_big (big _ h0)
    have h7 : 4503599627370496 ≤ sz (mg x') := by
      have e52 : (2 : Nat) ^ 52 = 4503599627370496 := by decide
      have a1 : 2 ^ 52 * 2 ^ 128 ≤ sz (mg x') * 2 ^ 128 := by
        rw [hx.2.2.2, ← Nat.pow_add]
        refine Nat.le_trans (Nat.le_trans (Nat.pow_le_pow_right (by omega) ?_) h0) (Nat.le_mul_of_pos_right _ (Nat.two_pow_pos k))
        unfold T9; omega
      have a2 := Nat.le_of_mul_le_mul_right a1 (Nat.two_pow_pos 128)
      rw [e52] at a2; exact a2
    obtain ⟨bx', gx'⟩ := sig_big h7
    have hm : mg x' + 128 * 4503599627370496 = mg x + k * 4503599627370496 := by
      apply sz_inj
      rw [sz_up 128 bx', sz_up k bx, hx.2.2.2]
    have hs : sig (mg x') = sig (mg x) := by
      have a1 : sig (mg x' + 128 * 4503599627370496) = sig (mg x') := by unfold sig; rw [if_neg (by omega), if_neg (by omega)]; omega
      have a2 : sig (mg x + k * 4503599627370496) = sig (mg x) := by unfold sig; rw [if_neg (by omega), if_neg (by omega)]; omega
      rw [← a1, hm, a2]
    have hE : ex (mg x') + 128 = ex (mg x) + k := by
      have a1 : ex (mg x' + 128 * 4503599627370496) = ex (mg x') + 128 := by unfold ex; omega
      have a2 : ex (mg x + k * 4503599627370496) = ex (mg x) + k := by unfold ex; omega
      rw [← a1, hm, a2]
    have x1 := ex_low h0
    have x2 := ex_up gx ux
    have t1 := ex_low lt
    have t2 := ex_up gt ut
    have hq' : qd (mg x') (mg t) = qd (mg x) (mg t) := by unfold qd; rw [hs]
    obtain ⟨q1, q2⟩ := qd_bd gx gt
    rw [dq_eq gx gt] at e1
    rw [dq_eq gx' gt, hq'] at e2
    generalize qd (mg x) (mg t) = X at *
    obtain ⟨p0, hp0⟩ : ∃ p0 : Int, p0 = (ex (mg x) : Int) - (ex (mg t) : Int) - 55 - 128 := ⟨_, rfl⟩
    have r1 : (ex (mg x) : Int) - (ex (mg t) : Int) - 55 = p0 + ((128 : Nat) : Int) := by omega
    have r2 : (ex (mg x') : Int) - (ex (mg t) : Int) - 55 = p0 + (k : Int) := by omega
    rw [r1] at e1
    rw [r2] at e2
    have hl : 54 ≤ X.log2 := (Nat.le_log2 (by have := Nat.two_pow_pos 54; omega)).2 q1
    have hX0 : 0 < X := Nat.lt_of_lt_of_le (Nat.two_pow_pos 54) q1
    unfold T9 at x1 t1
    unfold T11 at x2 t2
    obtain ⟨f1, f2, f3⟩ := pair_up (p0 := p0) (k := k) (a := 56) hX0 (by omega) q2 (by omega) hk
    refine ⟨_, _, e1, e2, sc_word _ f2 f1 f3, ?_, ?_, word_lt _ (nr_bd _ _)⟩
    · right
      rw [word_mg _ (nr_bd _ _)]
      have c1 : nr 1 (-894) ≤ nr X (p0 + ((128 : Nat) : Int)) := by
        refine Nat.le_trans (nr_le (k := (p0 + 128 + 894).toNat) (p' := p0 + ((128 : Nat) : Int)) (m' := 1) (by omega) (by rw [Nat.one_mul]; exact Nat.one_le_two_pow)) ?_
        exact nr_mono _ (by omega)
      have c2 : 2 ^ T18 ≤ sz (nr 1 (-894)) := by
        have : sz (nr 1 (-894)) = 2 ^ T18 := by kernel_rfl
        rw [this]; exact Nat.le_refl _
      exact Nat.le_trans c2 (sz_le c1)
    · rw [word_mg _ (nr_bd _ _)]
      have c1 : nr X (p0 + ((128 : Nat) : Int)) ≤ nr 1 226 := by
        refine Nat.le_trans (nr_le (k := 56) (p' := p0 + ((128 : Nat) : Int) + ((56 : Nat) : Int)) (m' := 1) rfl (by rw [Nat.one_mul]; exact q2)) ?_
        exact nr_le (k := (226 - (p0 + 128 + 56)).toNat) (by omega) (by rw [Nat.one_mul]; exact Nat.one_le_two_pow)
      have c2 : sz (nr 1 226) = 2 ^ T13 := by kernel_rfl
      rw [← c2]; exact sz_le c1

end Go.Proofs.Ytklbgibhbnijaaa

namespace Go.Proofs.Ytklbgibhbnijaaa
open Fl

def T74 : Nat := 1074
def T89 : Nat := 1089
def T90 : Nat := 1090
def T58 : Nat := 1058
def T06 : Nat := 1006
def T05 : Nat := 1105
def T16 : Nat := 1106
def T33 : Nat := 1233
def T98 : Nat := 2098
theorem szI_big : szI = 2 ^ T98 := by kernel_rfl
theorem two_05 : 2 ^ T16 = 2 ^ T05 + 2 ^ T05 := by rw [show T16 = T05 + 1 from rfl, Nat.pow_succ, Nat.mul_two]
theorem lt_szI {n a : Nat} (h : n ≤ 2 ^ a) (ha : a ≤ 2097) : n < szI := by
  rw [szI_big]
  exact Nat.lt_of_le_of_lt h ((Nat.pow_lt_pow_iff_right (by omega : 1 < 2)).2 (by unfold T98; omega))
theorem rp_pow (a : Nat) : RpN (2 ^ a) := ⟨1, a, by rw [Nat.one_mul], by omega⟩
theorem rn_up {n a : Nat} (h : n ≤ 2 ^ a) : rn n ≤ 2 ^ a := ((rn_near n (2 ^ a) (rp_pow a)).2 h).1
theorem rn_dn {n a : Nat} (h : 2 ^ a ≤ n) : 2 ^ a ≤ rn n := ((rn_near n (2 ^ a) (rp_pow a)).1 h).1
theorem nr_pow_up {N a : Nat} {p : Int} {b : Nat} (h : N ≤ 2 ^ a) (hp : p + (a : Int) = -1074 + (b : Int)) (hb : b ≤ 2097) : sz (nr N p) ≤ 2 ^ b := by
  have h1 : nr N p ≤ nr (2 ^ b) (-1074) := by
    have e : nr (2 ^ b) (-1074) = nr 1 (p + (a : Int)) := by
      rw [← nr_shift 1 b (p + (a : Int)), Nat.one_mul]; congr 1; omega
    rw [e]; exact nr_le (k := a) rfl (by rw [Nat.one_mul]; exact h)
  have h2 := (nr_unit (n := 2 ^ b) (lt_szI (rn_up (Nat.le_refl _)) hb)).2
  rw [rn_exact (rp_pow b)] at h2
  rw [← h2]; exact sz_le h1
theorem nr_pow_dn {N a : Nat} {p : Int} {b : Nat} (h : 2 ^ a ≤ N) (hp : p + (a : Int) = -1074 + (b : Int)) (hb : b ≤ 2097) : 2 ^ b ≤ sz (nr N p) := by
  have h1 : nr (2 ^ b) (-1074) ≤ nr N p := by
    have e : nr (2 ^ b) (-1074) = nr 1 (p + (a : Int)) := by
      rw [← nr_shift 1 b (p + (a : Int)), Nat.one_mul]; congr 1; omega
    rw [e]; exact nr_ge (k := a) rfl (by rw [Nat.one_mul]; exact h)
  have h2 := (nr_unit (n := 2 ^ b) (lt_szI (rn_up (Nat.le_refl _)) hb)).2
  rw [rn_exact (rp_pow b)] at h2
  rw [← h2]; exact sz_le h1
theorem grid_of_low {r a : Nat} (h : sz r = 0 ∨ 2 ^ a ≤ sz r) (g : Nat) (hg : g + 53 ≤ a + 1) : 2 ^ g ∣ sz r := by
  rcases h with h | h
  · rw [h]; exact Nat.dvd_zero _
  · have := ex_low h
    unfold sz
    exact Nat.dvd_trans (Nat.pow_dvd_pow 2 (by omega)) (Nat.dvd_mul_left _ _)

/-- A word that is a whole number of at most fifteen digits, and 2 to the power 15. -/
structure isI (x : Nat) : Prop where
  fin : Fl.fin x
  lt : x < 18446744073709551616
  low : sz (mg x) = 0 ∨ 2 ^ T74 ≤ sz (mg x)
  up : sz (mg x) ≤ 2 ^ T89
theorem val_abs (x : Nat) : (val x).natAbs = sz (mg x) := by unfold val; exact sgn_abs _ _
structure okQ (q : Nat) : Prop where
  fin : Fl.fin q
  lt : q < 18446744073709551616
  low : sz (mg q) = 0 ∨ 2 ^ T18 ≤ sz (mg q)
  up : sz (mg q) ≤ 2 ^ T13

/-- A sum of a whole number and a product, over t. -/
theorem sum_step {k x x' m m' t : Nat} (hk : k ≤ 255) (hx : sc k x x') (hm : sc k m m') (lx : sz (mg x) = 0 ∨ 2 ^ T58 ≤ sz (mg x)) (lm : sz (mg m) = 0 ∨ 2 ^ T58 ≤ sz (mg m))
    (ux : sz (mg x) ≤ 2 ^ T05) (um : sz (mg m) ≤ 2 ^ T05) (ht : fin t) (lt : 2 ^ T74 ≤ sz (mg t)) (ut : sz (mg t) ≤ 2 ^ T16) :
    ∃ u u' q q', addO x m = some u ∧ addO x' m' = some u' ∧ divO u t = some q ∧ divO u' t = some q' ∧ sc k q q' ∧ okQ q := by
  have n1 : (val x + val m).natAbs ≤ 2 ^ T16 := by
    have a1 := val_abs x
    have a2 := val_abs m
    have a3 := two_05
    omega
  have n2 : (val x' + val m').natAbs ≤ 2 ^ T33 := by
    have hv : (val x' + val m') * ((2 ^ 128 : Nat) : Int) = (val x + val m) * ((2 ^ k : Nat) : Int) := by rw [Int.add_mul, Int.add_mul, hx.val, hm.val]
    have hn := congrArg Int.natAbs hv
    rw [Int.natAbs_mul, Int.natAbs_mul, Int.natAbs_natCast, Int.natAbs_natCast] at hn
    have a1 : (val x' + val m').natAbs * 2 ^ 128 ≤ 2 ^ T33 * 2 ^ 128 := by
      rw [hn]
      refine Nat.le_trans (Nat.mul_le_mul n1 (Nat.pow_le_pow_right (by omega) hk)) ?_
      rw [← Nat.pow_add, ← Nat.pow_add]
      exact Nat.pow_le_pow_right (by omega) (by unfold T16 T33; omega)
    exact Nat.le_of_mul_le_mul_right a1 (Nat.two_pow_pos 128)
  obtain ⟨u, u', e1, e2, s1, v1⟩ := sc_add hx hm (lt_szI (rn_up n1) (by unfold T16; omega)) (lt_szI (rn_up n2) (by unfold T33; omega))
  have hu : sz (mg u) = rn (val x + val m).natAbs := by rw [← val_abs, v1, rn_abs]
  have lu : mg u = 0 ∨ 2 ^ T9 ≤ sz (mg u) := by
    have d1 : 2 ^ T06 ∣ (val x).natAbs := by rw [val_abs]; exact grid_of_low lx _ (by unfold T06 T58; omega)
    have d2 : 2 ^ T06 ∣ (val m).natAbs := by rw [val_abs]; exact grid_of_low lm _ (by unfold T06 T58; omega)
    have d3 := rnI_dvd (dvd_natAbs_add d1 d2)
    rw [rn_abs, ← hu] at d3
    rcases Nat.eq_zero_or_pos (sz (mg u)) with h | h
    · exact Or.inl (zero_of_sz h)
    · right
      exact Nat.le_trans (Nat.pow_le_pow_right (by omega) (by unfold T9 T06; omega)) (Nat.le_of_dvd h d3)
  have uu : sz (mg u) ≤ 2 ^ T11 := by
    rw [hu]; exact Nat.le_trans (rn_up n1) (Nat.pow_le_pow_right (by omega) (by unfold T16 T11; omega))
  obtain ⟨q, q', f1, f2, s2, l2, u2, b2⟩ := sc_div s1 ht hk lu uu (Nat.le_trans (Nat.pow_le_pow_right (by omega) (by unfold T9 T74; omega)) lt) (Nat.le_trans ut (Nat.pow_le_pow_right (by omega) (by unfold T16 T11; omega)))
  exact ⟨u, u', q, q', e1, e2, f1, f2, s2, s2.1, b2, l2, u2⟩
theorem core {k x x' y y' c d : Nat} (hk : k ≤ 255) (ix : isI x) (iy : isI y) (ic : isI c) (id : isI d) (c0 : ¬ mg c = 0) (hx : sc k x x') (hy : sc k y y') (lx' : x' < 18446744073709551616) :
    ∃ r w1 t m m', divO d c = some r ∧ mulO d r = some w1 ∧ addO c w1 = some t ∧ mulO y r = some m ∧ mulO y' r = some m' ∧
      (∃ u u' q q', addO x m = some u ∧ addO x' m' = some u' ∧ divO u t = some q ∧ divO u' t = some q' ∧ sc k q q' ∧ okQ q) ∧
      (∃ u u' q q', subO x m = some u ∧ subO x' m' = some u' ∧ divO u t = some q ∧ divO u' t = some q' ∧ sc k q q' ∧ okQ q) ∧
      (∃ u u' q q', subO m x = some u ∧ subO m' x' = some u' ∧ divO u t = some q ∧ divO u' t = some q' ∧ sc k q q' ∧ okQ q) := by
  have e52 : (2 : Nat) ^ 52 = 4503599627370496 := by decide
  have big : ∀ r a, 52 ≤ a → 2 ^ a ≤ sz r → 4503599627370496 ≤ sz r := fun r a ha h => by
    rw [← e52]; exact Nat.le_trans (Nat.pow_le_pow_right (by omega) ha) h
  have lc : 2 ^ T74 ≤ sz (mg c) := by
    rcases ic.low with h | h
    · exact absurd (zero_of_sz h) c0
    · exact h
  obtain ⟨_, gc⟩ := sig_big (big _ T74 (by unfold T74; omega) lc)
  have n0 : ¬ sig (mg c) = 0 := by omega
  have e1 := div_gen id.fin ic.fin n0
  -- the ratio
  obtain ⟨r, hr⟩ : ∃ r, r = Ieee.double.word (ng d ^^ ng c) (dq (mg d) (mg c)) := ⟨_, rfl⟩
  rw [← hr] at e1
  have hrb : dq (mg d) (mg c) < 9223372036854775808 := by unfold dq; exact nr_bd _ _
  have mr : mg r = dq (mg d) (mg c) := by rw [hr]; exact word_mg _ hrb
  have nr' : ng r = (ng d ^^ ng c) := by rw [hr]; exact word_ng _ hrb
  have br : (sz (mg r) = 0 ∨ 2 ^ T58 ≤ sz (mg r)) ∧ sz (mg r) ≤ 2 ^ T90 := by
    rw [mr]
    rcases id.low with h | h
    · rw [zero_of_sz h]
      have dz : dq 0 (mg c) = 0 := by
        unfold dq
        rw [show sig 0 = 0 from by decide, Nat.zero_mul, Nat.zero_div, Nat.zero_mod]
        exact nr_zero _
      rw [dz, sz_0]; exact ⟨Or.inl rfl, Nat.zero_le _⟩
    · obtain ⟨_, gd⟩ := sig_big (big _ T74 (by unfold T74; omega) h)
      have x1 := ex_low h
      have x2 := ex_up gd id.up
      have t1 := ex_low lc
      have t2 := ex_up gc ic.up
      obtain ⟨q1, q2⟩ := qd_bd gd gc
      rw [dq_eq gd gc]
      unfold T74 at x1 t1
      unfold T89 at x2 t2
      constructor
      · right
        have := nr_pow_dn (N := qd (mg d) (mg c)) (a := 54) (p := (ex (mg d) : Int) - (ex (mg c) : Int) - 55) (b := (1074 + ((ex (mg d) : Int) - (ex (mg c) : Int) - 1)).toNat) q1 (by omega) (by omega)
        exact Nat.le_trans (Nat.pow_le_pow_right (by omega) (by unfold T58; omega)) this
      · have := nr_pow_up (N := qd (mg d) (mg c)) (a := 56) (p := (ex (mg d) : Int) - (ex (mg c) : Int) - 55) (b := (1074 + ((ex (mg d) : Int) - (ex (mg c) : Int) + 1)).toNat) q2 (by omega) (by omega)
        exact Nat.le_trans this (Nat.pow_le_pow_right (by omega) (by unfold T90; omega))
  have fr : fin r := by
    unfold Fl.fin
    rcases Nat.lt_or_ge (mg r) 9218868437227405312 with h | h
    · exact h
    · exfalso
      have h1 := sz_le h
      have h2 : sz 9218868437227405312 < szI := by
        refine Nat.lt_of_le_of_lt (Nat.le_trans h1 br.2) (lt_szI (Nat.le_refl _) (by unfold T90; omega))
      exact absurd h2 (Nat.lt_irrefl _)
  -- what a product with it is
  have hprod : ∀ z, isI z → (sz (mg z) * sz (mg r) = 0 ∨ 2 ^ (T74 + T58) ≤ sz (mg z) * sz (mg r)) ∧ sz (mg z) * sz (mg r) ≤ 2 ^ (T89 + T90) := by
    intro z iz
    refine ⟨?_, by rw [Nat.pow_add]; exact Nat.mul_le_mul iz.up br.2⟩
    rcases iz.low with h | h
    · left; rw [h, Nat.zero_mul]
    · rcases br.1 with h2 | h2
      · left; rw [h2, Nat.mul_zero]
      · right; rw [Nat.pow_add]; exact Nat.mul_le_mul h h2
  have hsize : ∀ z, isI z → (sz (nr (sz (mg z) * sz (mg r)) (-2148)) = 0 ∨ 2 ^ T58 ≤ sz (nr (sz (mg z) * sz (mg r)) (-2148))) ∧ sz (nr (sz (mg z) * sz (mg r)) (-2148)) ≤ 2 ^ T05 := by
    intro z iz
    obtain ⟨h1, h2⟩ := hprod z iz
    refine ⟨?_, nr_pow_up h2 (by unfold T89 T90 T05; omega) (by unfold T05; omega)⟩
    rcases h1 with h | h
    · left; rw [h, nr_zero, sz_0]
    · right; exact nr_pow_dn h (by unfold T74 T58; omega) (by unfold T58; omega)
  -- t
  have e2 := mul_gen id.fin fr
  obtain ⟨w1, hw1⟩ : ∃ w1, w1 = Ieee.double.word (ng d ^^ ng r) (nr (sz (mg d) * sz (mg r)) (-2148)) := ⟨_, rfl⟩
  rw [← hw1] at e2
  have hwb := nr_bd (sz (mg d) * sz (mg r)) (-2148)
  have mw : mg w1 = nr (sz (mg d) * sz (mg r)) (-2148) := by rw [hw1]; exact word_mg _ hwb
  have nw : ng w1 = ng c := by
    rw [hw1, word_ng _ hwb, nr']; cases ng d <;> cases ng c <;> rfl
  obtain ⟨_, sw⟩ := hsize d id
  rw [← mw] at sw
  have fw : fin w1 := by
    unfold Fl.fin
    rcases Nat.lt_or_ge (mg w1) 9218868437227405312 with h | h
    · exact h
    · exfalso
      have h1 := sz_le h
      have h2 : sz 9218868437227405312 < szI := by
        refine Nat.lt_of_le_of_lt (Nat.le_trans h1 sw) (lt_szI (Nat.le_refl _) (by unfold T05; omega))
      exact absurd h2 (Nat.lt_irrefl _)
  have ht0 : (val c + val w1).natAbs = sz (mg c) + sz (mg w1) := by
    unfold val; rw [nw]; unfold sgn; cases ng c <;> simp <;> omega
  have ht1 : (val c + val w1).natAbs ≤ 2 ^ T16 := by
    rw [ht0]
    have a3 := two_05
    have a4 : 2 ^ T89 ≤ 2 ^ T05 := Nat.pow_le_pow_right (by omega) (by unfold T89 T05; omega)
    have a5 := ic.up
    omega
  have ht2 : 2 ^ T74 ≤ (val c + val w1).natAbs := by rw [ht0]; omega
  obtain ⟨t, e3, ft, vt⟩ := add_fin ic.fin fw (lt_szI (rn_up ht1) (by unfold T16; omega))
  have st : sz (mg t) = rn (val c + val w1).natAbs := by rw [← val_abs, vt, rn_abs]
  have lt : 2 ^ T74 ≤ sz (mg t) := by rw [st]; exact rn_dn ht2
  have ut : sz (mg t) ≤ 2 ^ T16 := by rw [st]; exact rn_up ht1
  -- the product
  obtain ⟨p1, p2⟩ := hprod y iy
  obtain ⟨m, m', e4, e5, sm, mm, nm, bm, bm'⟩ := sc_mul hy fr hk (by
      rcases p1 with h | h
      · exact Or.inl h
      · exact Or.inr (Nat.le_trans (Nat.pow_le_pow_right (by omega) (by unfold T12 T74 T58; omega)) h))
    (Nat.le_trans p2 (Nat.pow_le_pow_right (by omega) (by unfold T89 T90 T22; omega)))
  obtain ⟨sm1, sm2⟩ := hsize y iy
  rw [← mm] at sm1 sm2
  have lx : sz (mg x) = 0 ∨ 2 ^ T58 ≤ sz (mg x) := by
    rcases ix.low with h | h
    · exact Or.inl h
    · exact Or.inr (Nat.le_trans (Nat.pow_le_pow_right (by omega) (by unfold T58 T74; omega)) h)
  have ux : sz (mg x) ≤ 2 ^ T05 := Nat.le_trans ix.up (Nat.pow_le_pow_right (by omega) (by unfold T89 T05; omega))
  refine ⟨r, w1, t, m, m', e1, e2, e3, e4, e5, sum_step hk hx sm lx sm1 ux sm2 ft lt ut, ?_, ?_⟩
  · have h := sum_step hk hx (sm.ng bm bm') lx (by rw [mg_ngW bm]; exact sm1) ux (by rw [mg_ngW bm]; exact sm2) ft lt ut
    rw [subO_add x bm, subO_add x' bm']
    exact h
  · have h := sum_step hk sm (hx.ng ix.lt lx') sm1 (by rw [mg_ngW ix.lt]; exact lx) sm2 (by rw [mg_ngW ix.lt]; exact ux) ft lt ut
    rw [subO_add m ix.lt, subO_add m' lx']
    exact h

end Go.Proofs.Ytklbgibhbnijaaa

namespace Go.Proofs.Ytklbgibhbnijaaa
open Fl

def fw (n : Int) : Nat := floatOfInt .f64 n
theorem fw_eq (n : Int) : fw n = Ieee.double.word (decide (n < 0)) (nr n.natAbs 0) := nearest_nr _ _ _
theorem nr_int {m : Nat} (h : m < 9007199254740992) : nr m 0 < 9218868437227405312 ∧ sz (nr m 0) = m * 2 ^ T74 := by
  have e : nr m 0 = nr (m * 2 ^ T74) (-1074) := by rw [← nr_shift m T74 0]; congr 1
  rw [e]
  have hr : RpN (m * 2 ^ T74) := ⟨m, T74, rfl, h⟩
  have hl : m * 2 ^ T74 ≤ 2 ^ (53 + T74) := by rw [Nat.pow_add]; exact Nat.mul_le_mul_right _ (Nat.le_of_lt h)
  have := nr_unit (n := m * 2 ^ T74) (by rw [rn_exact hr]; exact lt_szI hl (by unfold T74; omega))
  rw [rn_exact hr] at this
  exact this
theorem fw_mg (n : Int) : mg (fw n) = nr n.natAbs 0 := by rw [fw_eq]; exact word_mg _ (nr_bd _ _)
theorem fw_lt (n : Int) : fw n < 18446744073709551616 := by rw [fw_eq]; exact word_lt _ (nr_bd _ _)
section ints
variable {n : Int} (h : n.natAbs < 9007199254740992)
include h
theorem fw_fin : fin (fw n) := by unfold Fl.fin; rw [fw_mg n]; exact (nr_int h).1
theorem fw_sz : sz (mg (fw n)) = n.natAbs * 2 ^ T74 := by rw [fw_mg n]; exact (nr_int h).2
theorem fw_val : val (fw n) = n * ((2 ^ T74 : Nat) : Int) := by
  have hs : ng (fw n) = decide (n < 0) := by rw [fw_eq]; exact word_ng _ (nr_bd _ _)
  unfold val; rw [hs, fw_sz h, sgn_mul]
  congr 1
  unfold sgn
  by_cases hn : n < 0
  · rw [decide_eq_true hn]; simp; omega
  · rw [decide_eq_false hn]; simp; omega
theorem fw_ans : ans (fw n) = some (fw n) := ans_num (fin_not_nan (fw_fin h))
theorem fw_rp : Rp (n * ((2 ^ T74 : Nat) : Int)) := ⟨n.natAbs, T74, by rw [Int.natAbs_mul, Int.natAbs_natCast], h⟩
theorem fw_rn : rn (n * ((2 ^ T74 : Nat) : Int)).natAbs < szI := by
  have hr := fw_rp h
  rw [rn_exact hr, Int.natAbs_mul, Int.natAbs_natCast]
  refine lt_szI (a := 53 + T74) ?_ (by unfold T74; omega)
  rw [Nat.pow_add]; exact Nat.mul_le_mul_right _ (Nat.le_of_lt h)
theorem fw_low : sz (mg (fw n)) = 0 ∨ 2 ^ T74 ≤ sz (mg (fw n)) := by
  rw [fw_sz h]
  rcases Nat.eq_zero_or_pos n.natAbs with h0 | h0
  · left; rw [h0, Nat.zero_mul]
  · right; exact Nat.le_mul_of_pos_left _ h0
end ints
theorem fw_isI {n : Int} (h : n.natAbs ≤ 32768) : isI (fw n) := by
  have h' : n.natAbs < 9007199254740992 := by omega
  refine ⟨fw_fin h', fw_lt n, fw_low h', ?_⟩
  rw [fw_sz h', show T89 = 15 + T74 from rfl, Nat.pow_add]
  exact Nat.mul_le_mul_right _ h
/-- Words whose values are whole. -/
theorem add_whole {x y : Nat} {a b : Int} (hx : fin x) (hy : fin y) (vx : val x = a * ((2 ^ T74 : Nat) : Int)) (vy : val y = b * ((2 ^ T74 : Nat) : Int)) (h : (a + b).natAbs < 9007199254740992) :
    ∃ r, addO x y = some r ∧ fin r ∧ val r = (a + b) * ((2 ^ T74 : Nat) : Int) := by
  have e : val x + val y = (a + b) * ((2 ^ T74 : Nat) : Int) := by rw [vx, vy, Int.add_mul]
  obtain ⟨r, h1, h2, h3⟩ := add_fin hx hy (by rw [e]; exact fw_rn h)
  exact ⟨r, h1, h2, by rw [h3, e, rnI_exact (fw_rp h)]⟩
theorem sub_whole {x y : Nat} {a b : Int} (hx : fin x) (hy : fin y) (vx : val x = a * ((2 ^ T74 : Nat) : Int)) (vy : val y = b * ((2 ^ T74 : Nat) : Int)) (h : (a - b).natAbs < 9007199254740992) :
    ∃ r, subO x y = some r ∧ fin r ∧ val r = (a - b) * ((2 ^ T74 : Nat) : Int) := by
  have e : val x - val y = (a - b) * ((2 ^ T74 : Nat) : Int) := by rw [vx, vy, Int.sub_mul]
  obtain ⟨r, h1, h2, h3⟩ := sub_fin hx hy (by rw [e]; exact fw_rn h)
  exact ⟨r, h1, h2, by rw [h3, e, rnI_exact (fw_rp h)]⟩
theorem mul_whole {a b : Int} (ha : a.natAbs < 9007199254740992) (hb : b.natAbs < 9007199254740992) (h : (a * b).natAbs < 9007199254740992) :
    ∃ r, mulO (fw a) (fw b) = some r ∧ fin r ∧ val r = (a * b) * ((2 ^ T74 : Nat) : Int) := by
  have e := mul_gen (fw_fin ha) (fw_fin hb)
  rw [fw_sz ha, fw_sz hb] at e
  have e1 : nr (a.natAbs * 2 ^ T74 * (b.natAbs * 2 ^ T74)) (-2148) = nr (a * b).natAbs 0 := by
    rw [Nat.mul_mul_mul_comm, ← Nat.pow_add, ← Int.natAbs_mul, ← nr_shift (a * b).natAbs (T74 + T74) 0]
    congr 1
  rw [e1] at e
  refine ⟨_, e, by unfold Fl.fin; rw [word_mg _ (nr_bd _ _)]; exact (nr_int h).1, ?_⟩
  rw [word_val _ (nr_bd _ _), (nr_int h).2]
  have v1 := fw_val ha
  have v2 := fw_val hb
  have hp : (0 : Int) < ((2 ^ T74 : Nat) : Int) := by have := Nat.two_pow_pos T74; omega
  have s1 : sgn (ng (fw a)) a.natAbs = a := by
    unfold val at v1; rw [fw_sz ha, sgn_mul] at v1
    exact Int.eq_of_mul_eq_mul_right (by omega) v1
  have s2 : sgn (ng (fw b)) b.natAbs = b := by
    unfold val at v2; rw [fw_sz hb, sgn_mul] at v2
    exact Int.eq_of_mul_eq_mul_right (by omega) v2
  rw [sgn_mul, Int.natAbs_mul, sgn_xor, s1, s2]
theorem eqB_whole {x : Nat} {a : Int} (hx : fin x) (vx : val x = a * ((2 ^ T74 : Nat) : Int)) (h : a.natAbs < 9007199254740992) : FloatKind.f64.format.order x (fw a) = some .eq := by
  have := eqB_val hx (fw_fin h) (vx.trans (fw_val h).symm)
  exact eq_of_beq this

section four
variable {p q c d : Int} (hp : p.natAbs ≤ 32768) (hq : q.natAbs ≤ 32768) (hc : c.natAbs ≤ 32768) (hd : d.natAbs ≤ 32768)
theorem small_of {n : Int} (h : n.natAbs ≤ 32768) : n.natAbs < 9007199254740992 := by omega
theorem mul_small {a b : Int} (ha : a.natAbs ≤ 32768) (hb : b.natAbs ≤ 32768) : (a * b).natAbs ≤ 1073741824 := by
  rw [Int.natAbs_mul]
  exact Nat.mul_le_mul ha hb
include hp hc in
theorem t_add {r : Nat} (h : rep (addA (ans (fw p)) (ans (fw c))) r) : FloatKind.f64.format.order r (fw (p + c)) = some .eq := by
  rw [fw_ans (small_of hp), fw_ans (small_of hc)] at h
  have hb : (p + c).natAbs < 9007199254740992 := by omega
  obtain ⟨s, e, f, v⟩ := add_whole (fw_fin (small_of hp)) (fw_fin (small_of hc)) (fw_val (small_of hp)) (fw_val (small_of hc)) hb
  have he : addA (some (fw p)) (some (fw c)) = some s := e
  rw [he] at h
  obtain ⟨_, rfl⟩ := ans_some h.2
  exact eqB_whole f v hb
include hp hc in
theorem t_sub {r : Nat} (h : rep (subA (ans (fw p)) (ans (fw c))) r) : FloatKind.f64.format.order r (fw (p - c)) = some .eq := by
  rw [fw_ans (small_of hp), fw_ans (small_of hc)] at h
  have hb : (p - c).natAbs < 9007199254740992 := by omega
  obtain ⟨s, e, f, v⟩ := sub_whole (fw_fin (small_of hp)) (fw_fin (small_of hc)) (fw_val (small_of hp)) (fw_val (small_of hc)) hb
  have he : subA (some (fw p)) (some (fw c)) = some s := e
  rw [he] at h
  obtain ⟨_, rfl⟩ := ans_some h.2
  exact eqB_whole f v hb
include hp hq hc hd in
theorem t_mulRe : ∃ m1 m2 r, mulO (fw p) (fw c) = some m1 ∧ mulO (fw q) (fw d) = some m2 ∧ subO m1 m2 = some r ∧ fin r ∧ val r = (p * c - q * d) * ((2 ^ T74 : Nat) : Int) ∧ (p * c - q * d).natAbs < 9007199254740992 ∧ (p * c - q * d).natAbs ≤ 2147483648 ∧ fin m1 ∧ fin m2 ∧ m2 < 18446744073709551616 := by
  have b1 := mul_small hp hc
  have b2 := mul_small hq hd
  obtain ⟨m1, e1, f1, v1⟩ := mul_whole (small_of hp) (small_of hc) (by omega)
  obtain ⟨m2, e2, f2, v2⟩ := mul_whole (small_of hq) (small_of hd) (by omega)
  have hb : (p * c - q * d).natAbs < 9007199254740992 := by omega
  obtain ⟨r, e3, f3, v3⟩ := sub_whole f1 f2 v1 v2 hb
  exact ⟨m1, m2, r, e1, e2, e3, f3, v3, hb, by omega, f1, f2, (mul_bd e2).1⟩
include hp hq hc hd in
theorem t_mulIm : ∃ m1 m2 r, mulO (fw p) (fw d) = some m1 ∧ mulO (fw q) (fw c) = some m2 ∧ addO m1 m2 = some r ∧ fin r ∧ val r = (p * d + q * c) * ((2 ^ T74 : Nat) : Int) ∧ (p * d + q * c).natAbs < 9007199254740992 ∧ (p * d + q * c).natAbs ≤ 2147483648 ∧ fin m1 ∧ fin m2 := by
  have b1 := mul_small hp hd
  have b2 := mul_small hq hc
  obtain ⟨m1, e1, f1, v1⟩ := mul_whole (small_of hp) (small_of hd) (by omega)
  obtain ⟨m2, e2, f2, v2⟩ := mul_whole (small_of hq) (small_of hc) (by omega)
  have hb : (p * d + q * c).natAbs < 9007199254740992 := by omega
  obtain ⟨r, e3, f3, v3⟩ := add_whole f1 f2 v1 v2 hb
  exact ⟨m1, m2, r, e1, e2, e3, f3, v3, hb, by omega, f1, f2⟩
include hp hq hc hd in
theorem t_mul {re im : Nat} (h1 : rep (mulRe (ans (fw p)) (ans (fw q)) (ans (fw c)) (ans (fw d))) re) (h2 : rep (mulIm (ans (fw p)) (ans (fw q)) (ans (fw c)) (ans (fw d))) im) :
    FloatKind.f64.format.order re (fw (p * c - q * d)) = some .eq ∧ FloatKind.f64.format.order im (fw (p * d + q * c)) = some .eq := by
  rw [fw_ans (small_of hp), fw_ans (small_of hc), fw_ans (small_of hq), fw_ans (small_of hd)] at h1 h2
  obtain ⟨m1, m2, r, e1, e2, e3, f3, v3, hb, _⟩ := t_mulRe hp hq hc hd
  obtain ⟨n1, n2, s, g1, g2, g3, k3, w3, hb', _⟩ := t_mulIm hp hq hc hd
  have he : mulRe (some (fw p)) (some (fw q)) (some (fw c)) (some (fw d)) = some r := by
    show subA (mulO (fw p) (fw c)) (mulO (fw q) (fw d)) = some r
    rw [e1, e2]; exact e3
  have he2 : mulIm (some (fw p)) (some (fw q)) (some (fw c)) (some (fw d)) = some s := by
    show addA (mulO (fw p) (fw d)) (mulO (fw q) (fw c)) = some s
    rw [g1, g2]; exact g3
  rw [he] at h1
  rw [he2] at h2
  obtain ⟨_, rfl⟩ := ans_some h1.2
  obtain ⟨_, rfl⟩ := ans_some h2.2
  exact ⟨eqB_whole f3 v3 hb, eqB_whole k3 w3 hb'⟩
end four

end Go.Proofs.Ytklbgibhbnijaaa

namespace Go.Proofs.Ytklbgibhbnijaaa
open Fl

theorem eq_of_val {x y : Nat} (hx : fin x) (hy : fin y) (h : val x = val y) : FloatKind.f64.format.order x y = some .eq := eq_of_beq (eqB_val hx hy h)
theorem sc_abs {k x x' y y' b : Nat} (hk : k ≤ 255) (hx : sc k x x') (hy : sc k y y') (h : (val x + val y).natAbs ≤ 2 ^ b) : (val x' + val y').natAbs ≤ 2 ^ (b + 127) := by
  have hv : (val x' + val y') * ((2 ^ 128 : Nat) : Int) = (val x + val y) * ((2 ^ k : Nat) : Int) := by rw [Int.add_mul, Int.add_mul, hx.val, hy.val]
  have hn := congrArg Int.natAbs hv
  rw [Int.natAbs_mul, Int.natAbs_mul, Int.natAbs_natCast, Int.natAbs_natCast] at hn
  have a1 : (val x' + val y').natAbs * 2 ^ 128 ≤ 2 ^ (b + 127) * 2 ^ 128 := by
    rw [hn]
    refine Nat.le_trans (Nat.mul_le_mul h (Nat.pow_le_pow_right (by omega) hk)) ?_
    rw [← Nat.pow_add, ← Nat.pow_add]
    exact Nat.pow_le_pow_right (by omega) (by omega)
  exact Nat.le_of_mul_le_mul_right a1 (Nat.two_pow_pos 128)

/-- The power of two. -/
structure isT (k t : Nat) : Prop where
  pos : Go.Proofs.Ytklbgibhbnijaaa.pos t
  sz : Fl.sz t = 2 ^ (946 + k)
  le : k ≤ 255
theorem isT.ans {k t : Nat} (h : isT k t) : ans t = some t := ans_num (fin_not_nan h.pos.fin)
theorem t_rung {k : Nat} (hk : k ≤ 255) : rung (1 * 2 ^ (946 + k)) < 9218868437227405312 ∧ RpN (1 * 2 ^ (946 + k)) ∧ isT k (rung (1 * 2 ^ (946 + k))) := by
  have hr : RpN (1 * 2 ^ (946 + k)) := ⟨1, 946 + k, rfl, by omega⟩
  have hl : rung (1 * 2 ^ (946 + k)) < 9218868437227405312 := rung_lt (by rw [rn_exact hr, Nat.one_mul]; exact lt_szI (Nat.le_refl _) (by omega))
  refine ⟨hl, hr, hl, ?_, hk⟩
  rw [sz_rung, rn_exact hr, Nat.one_mul]

section tk
variable {k t : Nat} (ht : isT k t)
include ht
theorem t_int {n : Int} (hn : n.natAbs ≤ 2147483648) : ∃ r, mulO t (fw n) = some r ∧ sc k (fw n) r := by
  have hs : n.natAbs < 9007199254740992 := by omega
  refine sc_scale (fw_fin hs) (fw_lt n) ht.pos ht.sz ht.le ?_ ?_
  · rcases fw_low hs with h | h
    · exact Or.inl h
    · exact Or.inr (Nat.le_trans (Nat.pow_le_pow_right (by omega) (by unfold T18 T74; omega)) h)
  · rw [fw_sz hs]
    have e31 : (2 : Nat) ^ 31 = 2147483648 := by decide
    refine Nat.le_trans (Nat.mul_le_mul_right _ (show n.natAbs ≤ 2 ^ 31 from by rw [e31]; exact hn)) ?_
    rw [← Nat.pow_add]
    exact Nat.pow_le_pow_right (by omega) (by unfold T74 T13; omega)
/-- A scaled whole number times a whole number. -/
theorem t_prod {a b : Int} {a' m : Nat} (ha : a.natAbs ≤ 32768) (hb : b.natAbs ≤ 32768) (hs : sc k (fw a) a') (hm : mulO (fw a) (fw b) = some m) : ∃ m', mulO a' (fw b) = some m' ∧ sc k m m' ∧ m' < 18446744073709551616 := by
  have ia := fw_isI ha
  have ib := fw_isI hb
  obtain ⟨r, r', e1, e2, s, _, _, _, l⟩ := sc_mul hs ib.fin ht.le (by
      rcases ia.low with h | h
      · left; rw [h, Nat.zero_mul]
      · rcases ib.low with h2 | h2
        · left; rw [h2, Nat.mul_zero]
        · right
          refine Nat.le_trans ?_ (Nat.mul_le_mul h h2)
          rw [← Nat.pow_add]; exact Nat.pow_le_pow_right (by omega) (by unfold T12 T74; omega))
    (by
      refine Nat.le_trans (Nat.mul_le_mul ia.up ib.up) ?_
      rw [← Nat.pow_add]; exact Nat.pow_le_pow_right (by omega) (by unfold T89 T22; omega))
  rw [hm] at e1
  cases e1
  exact ⟨r', e2, s, l⟩
omit ht in
theorem same_scaled {n : Int} {r r' v : Nat} (hn : n.natAbs < 9007199254740992) (hr : val r = n * ((2 ^ T74 : Nat) : Int)) (s1 : sc k r r') (s2 : sc k (fw n) v) : FloatKind.f64.format.order r' v = some .eq := by
  refine eq_of_val s1.2.1 s2.2.1 ?_
  have h1 := s1.val
  have h2 := s2.val
  rw [hr, ← fw_val hn, ← h2] at h1
  exact Int.eq_of_mul_eq_mul_right (by have := Nat.two_pow_pos 128; omega) h1
variable {p q c d : Int} (hp : p.natAbs ≤ 32768) (hq : q.natAbs ≤ 32768) (hc : c.natAbs ≤ 32768) (hd : d.natAbs ≤ 32768)
include hp hq hc hd
theorem t_msRe {r s : Nat} (h1 : rep (mulRe (mulA (ans t) (ans (fw p))) (mulA (ans t) (ans (fw q))) (ans (fw c)) (ans (fw d))) r) (h2 : rep (mulA (ans t) (ans (fw (p * c - q * d)))) s) : FloatKind.f64.format.order r s = some .eq := by
  obtain ⟨m1, m2, r0, e1, e2, e3, f3, v3, hb, hb2, fm1, fm2, lm2⟩ := t_mulRe hp hq hc hd
  obtain ⟨p', ep, sp⟩ := t_int ht (n := p) (by omega)
  obtain ⟨q', eq', sq⟩ := t_int ht (n := q) (by omega)
  obtain ⟨v, ev, sv⟩ := t_int ht hb2
  obtain ⟨n1, g1, s1, l1⟩ := t_prod ht hp hc sp e1
  obtain ⟨n2, g2, s2, l2⟩ := t_prod ht hq hd sq e2
  rw [subO_add m1 lm2] at e3
  have hsum : val m1 + val (ngW m2) = (p * c - q * d) * ((2 ^ T74 : Nat) : Int) := by
    obtain ⟨m1', x1, _, w1⟩ := mul_whole (small_of hp) (small_of hc) (by have := mul_small hp hc; omega)
    obtain ⟨m2', x2, _, w2⟩ := mul_whole (small_of hq) (small_of hd) (by have := mul_small hq hd; omega)
    rw [e1] at x1; cases x1
    rw [e2] at x2; cases x2
    have hneg : val (ngW m2) = -val m2 := by unfold val; rw [mg_ngW lm2, ng_ngW lm2, sgn_not]
    rw [hneg, w1, w2, Int.sub_mul]; omega
  have hle : (val m1 + val (ngW m2)).natAbs ≤ 2 ^ (53 + T74) := by
    rw [hsum, Int.natAbs_mul, Int.natAbs_natCast, Nat.pow_add]; exact Nat.mul_le_mul_right _ (Nat.le_of_lt hb)
  obtain ⟨u, u', k1, k2, su, vu⟩ := sc_add s1 (s2.ng lm2 l2) (by rw [hsum]; exact fw_rn hb) (lt_szI (rn_up (sc_abs ht.le s1 (s2.ng lm2 l2) hle)) (by unfold T74; omega))
  rw [← subO_add n1 l2] at k2
  have he : mulRe (mulA (ans t) (ans (fw p))) (mulA (ans t) (ans (fw q))) (ans (fw c)) (ans (fw d)) = some u' := by
    rw [ht.ans, fw_ans (small_of hp), fw_ans (small_of hq), fw_ans (small_of hc), fw_ans (small_of hd)]
    show subA (mulA (mulO t (fw p)) (some (fw c))) (mulA (mulO t (fw q)) (some (fw d))) = some u'
    rw [ep, eq']
    show subA (mulO p' (fw c)) (mulO q' (fw d)) = some u'
    rw [g1, g2]; exact k2
  have he2 : mulA (ans t) (ans (fw (p * c - q * d))) = some v := by rw [ht.ans, fw_ans hb]; exact ev
  rw [he] at h1
  rw [he2] at h2
  obtain ⟨_, rfl⟩ := ans_some h1.2
  obtain ⟨_, rfl⟩ := ans_some h2.2
  exact same_scaled hb (by rw [vu, hsum, rnI_exact (fw_rp hb)]) su sv
theorem t_msIm {r s : Nat} (h1 : rep (mulIm (mulA (ans t) (ans (fw p))) (mulA (ans t) (ans (fw q))) (ans (fw c)) (ans (fw d))) r) (h2 : rep (mulA (ans t) (ans (fw (p * d + q * c)))) s) : FloatKind.f64.format.order r s = some .eq := by
  obtain ⟨m1, m2, r0, e1, e2, e3, f3, v3, hb, hb2, fm1, fm2⟩ := t_mulIm hp hq hc hd
  obtain ⟨p', ep, sp⟩ := t_int ht (n := p) (by omega)
  obtain ⟨q', eq', sq⟩ := t_int ht (n := q) (by omega)
  obtain ⟨v, ev, sv⟩ := t_int ht hb2
  obtain ⟨n1, g1, s1, l1⟩ := t_prod ht hp hd sp e1
  obtain ⟨n2, g2, s2, l2⟩ := t_prod ht hq hc sq e2
  have hsum : val m1 + val m2 = (p * d + q * c) * ((2 ^ T74 : Nat) : Int) := by
    obtain ⟨m1', x1, _, w1⟩ := mul_whole (small_of hp) (small_of hd) (by have := mul_small hp hd; omega)
    obtain ⟨m2', x2, _, w2⟩ := mul_whole (small_of hq) (small_of hc) (by have := mul_small hq hc; omega)
    rw [e1] at x1; cases x1
    rw [e2] at x2; cases x2
    rw [w1, w2, Int.add_mul]
  have hle : (val m1 + val m2).natAbs ≤ 2 ^ (53 + T74) := by
    rw [hsum, Int.natAbs_mul, Int.natAbs_natCast, Nat.pow_add]; exact Nat.mul_le_mul_right _ (Nat.le_of_lt hb)
  obtain ⟨u, u', k1, k2, su, vu⟩ := sc_add s1 s2 (by rw [hsum]; exact fw_rn hb) (lt_szI (rn_up (sc_abs ht.le s1 s2 hle)) (by unfold T74; omega))
  have he : mulIm (mulA (ans t) (ans (fw p))) (mulA (ans t) (ans (fw q))) (ans (fw c)) (ans (fw d)) = some u' := by
    rw [ht.ans, fw_ans (small_of hp), fw_ans (small_of hq), fw_ans (small_of hc), fw_ans (small_of hd)]
    show addA (mulA (mulO t (fw p)) (some (fw d))) (mulA (mulO t (fw q)) (some (fw c))) = some u'
    rw [ep, eq']
    show addA (mulO p' (fw d)) (mulO q' (fw c)) = some u'
    rw [g1, g2]; exact k2
  have he2 : mulA (ans t) (ans (fw (p * d + q * c))) = some v := by rw [ht.ans, fw_ans hb]; exact ev
  rw [he] at h1
  rw [he2] at h2
  obtain ⟨_, rfl⟩ := ans_some h1.2
  obtain ⟨_, rfl⟩ := ans_some h2.2
  exact same_scaled hb (by rw [vu, hsum, rnI_exact (fw_rp hb)]) su sv
omit hp hq hc hd in
/-- What is divided, scaled ahead or behind. -/
theorem t_done {Q Q' : Option Nat} {q0 q' r s : Nat} (e1 : Q = some q0) (e2 : Q' = some q') (sq : sc k q0 q') (ok : okQ q0) (h1 : rep Q' r) (h2 : rep (mulA (ans t) Q) s) : FloatKind.f64.format.order r s = some .eq := by
  subst e1 e2
  obtain ⟨v, ev, sv⟩ := sc_scale ok.fin ok.lt ht.pos ht.sz ht.le ok.low ok.up
  have he : mulA (ans t) (some q0) = some v := by rw [ht.ans]; exact ev
  rw [he] at h2
  obtain ⟨_, rfl⟩ := ans_some h1.2
  obtain ⟨_, rfl⟩ := ans_some h2.2
  exact eq_of_val sq.2.1 sv.2.1 (sq.uniq sv)
theorem t_div {r1 s1 r2 s2 : Nat} (hb : ¬ (mg (fw c) = 0 ∧ mg (fw d) = 0))
    (h1 : rep (divRe (mulA (ans t) (ans (fw p))) (mulA (ans t) (ans (fw q))) (ans (fw c)) (ans (fw d))) r1) (k1 : rep (mulA (ans t) (divRe (ans (fw p)) (ans (fw q)) (ans (fw c)) (ans (fw d)))) s1)
    (h2 : rep (divIm (mulA (ans t) (ans (fw p))) (mulA (ans t) (ans (fw q))) (ans (fw c)) (ans (fw d))) r2) (k2 : rep (mulA (ans t) (divIm (ans (fw p)) (ans (fw q)) (ans (fw c)) (ans (fw d)))) s2) :
    FloatKind.f64.format.order r1 s1 = some .eq ∧ FloatKind.f64.format.order r2 s2 = some .eq := by
  have ip := fw_isI hp
  have iq := fw_isI hq
  have ic := fw_isI hc
  have id := fw_isI hd
  obtain ⟨p', ep, sp⟩ := t_int ht (n := p) (by omega)
  obtain ⟨q', eq', sq⟩ := t_int ht (n := q) (by omega)
  have lp := (mul_bd ep).1
  have lq := (mul_bd eq').1
  have hA : mulA (ans t) (ans (fw p)) = some p' := by rw [ht.ans, fw_ans (small_of hp)]; exact ep
  have hB : mulA (ans t) (ans (fw q)) = some q' := by rw [ht.ans, fw_ans (small_of hq)]; exact eq'
  rw [hA, hB] at h1 h2
  rw [fw_ans (small_of hp), fw_ans (small_of hq), fw_ans (small_of hc), fw_ans (small_of hd)] at *
  have nc : nan (mg (fw c)) = false := by rw [nan_mg]; exact fin_not_nan ic.fin
  have nd : nan (mg (fw d)) = false := by rw [nan_mg]; exact fin_not_nan id.fin
  have og : geA (sizA (some (fw c))) (sizA (some (fw d))) = decide (mg (fw d) ≤ mg (fw c)) := by
    show (Ieee.double.order (mg (fw c)) (mg (fw d)) == some .gt || Ieee.double.order (mg (fw c)) (mg (fw d)) == some .eq) = _
    rw [← f64_double, order_gt nc nd, order_eqb nc nd, plc_mg, plc_mg]
    by_cases h : mg (fw d) ≤ mg (fw c)
    · rw [decide_eq_true h]
      rcases Nat.lt_or_ge (mg (fw d)) (mg (fw c)) with h3 | h3
      · rw [decide_eq_true (by omega)]; rfl
      · rw [Bool.or_eq_true]; right; exact decide_eq_true (by omega)
    · rw [decide_eq_false h, decide_eq_false (by omega), decide_eq_false (by omega)]; rfl
  by_cases hge : mg (fw d) ≤ mg (fw c)
  · have c0 : ¬ mg (fw c) = 0 := fun h => hb ⟨h, by omega⟩
    rw [decide_eq_true hge] at og
    have d1 : ∀ A B, divRe A B (some (fw c)) (some (fw d)) = divRe1 A B (some (fw c)) (some (fw d)) := fun A B => by unfold divRe; rw [og]; rfl
    have d2 : ∀ A B, divIm A B (some (fw c)) (some (fw d)) = divIm1 A B (some (fw c)) (some (fw d)) := fun A B => by unfold divIm; rw [og]; rfl
    rw [d1] at h1 k1
    rw [d2] at h2 k2
    constructor
    · obtain ⟨r, w1, T, m, m', x1, x2, x3, x4, x5, ⟨u, u', a, a', y1, y2, y3, y4, y5, y6⟩, _, _⟩ := core ht.le ip iq ic id c0 sp sq lp
      refine t_done ht ?_ ?_ y5 y6 h1 k1
      · show divA (addA (some (fw p)) (mulA (some (fw q)) (divO (fw d) (fw c)))) (addA (some (fw c)) (mulA (some (fw d)) (divO (fw d) (fw c)))) = _
        rw [x1]
        show divA (addA (some (fw p)) (mulO (fw q) r)) (addA (some (fw c)) (mulO (fw d) r)) = _
        rw [x2, x4]
        show divA (addO (fw p) m) (addO (fw c) w1) = _
        rw [x3, y1]; exact y3
      · show divA (addA (some p') (mulA (some q') (divO (fw d) (fw c)))) (addA (some (fw c)) (mulA (some (fw d)) (divO (fw d) (fw c)))) = _
        rw [x1]
        show divA (addA (some p') (mulO q' r)) (addA (some (fw c)) (mulO (fw d) r)) = _
        rw [x2, x5]
        show divA (addO p' m') (addO (fw c) w1) = _
        rw [x3, y2]; exact y4
    · obtain ⟨r, w1, T, m, m', x1, x2, x3, x4, x5, _, ⟨u, u', a, a', y1, y2, y3, y4, y5, y6⟩, _⟩ := core ht.le iq ip ic id c0 sq sp lq
      refine t_done ht ?_ ?_ y5 y6 h2 k2
      · show divA (subA (some (fw q)) (mulA (some (fw p)) (divO (fw d) (fw c)))) (addA (some (fw c)) (mulA (some (fw d)) (divO (fw d) (fw c)))) = _
        rw [x1]
        show divA (subA (some (fw q)) (mulO (fw p) r)) (addA (some (fw c)) (mulO (fw d) r)) = _
        rw [x2, x4]
        show divA (subO (fw q) m) (addO (fw c) w1) = _
        rw [x3, y1]; exact y3
      · show divA (subA (some q') (mulA (some p') (divO (fw d) (fw c)))) (addA (some (fw c)) (mulA (some (fw d)) (divO (fw d) (fw c)))) = _
        rw [x1]
        show divA (subA (some q') (mulO p' r)) (addA (some (fw c)) (mulO (fw d) r)) = _
        rw [x2, x5]
        show divA (subO q' m') (addO (fw c) w1) = _
        rw [x3, y2]; exact y4
  · have d0 : ¬ mg (fw d) = 0 := fun h => by omega
    rw [decide_eq_false hge] at og
    have d1 : ∀ A B, divRe A B (some (fw c)) (some (fw d)) = divRe2 A B (some (fw c)) (some (fw d)) := fun A B => by unfold divRe; rw [og]; rfl
    have d2 : ∀ A B, divIm A B (some (fw c)) (some (fw d)) = divIm2 A B (some (fw c)) (some (fw d)) := fun A B => by unfold divIm; rw [og]; rfl
    rw [d1] at h1 k1
    rw [d2] at h2 k2
    constructor
    · obtain ⟨r, w1, T, m, m', x1, x2, x3, x4, x5, ⟨u, u', a, a', y1, y2, y3, y4, y5, y6⟩, _, _⟩ := core ht.le iq ip id ic d0 sq sp lq
      refine t_done ht ?_ ?_ y5 y6 h1 k1
      · show divA (addA (mulA (some (fw p)) (divO (fw c) (fw d))) (some (fw q))) (addA (mulA (some (fw c)) (divO (fw c) (fw d))) (some (fw d))) = _
        rw [x1]
        show divA (addA (mulO (fw p) r) (some (fw q))) (addA (mulO (fw c) r) (some (fw d))) = _
        rw [x2, x4]
        show divA (addO m (fw q)) (addO w1 (fw d)) = _
        rw [addO_comm m, addO_comm w1, x3, y1]; exact y3
      · show divA (addA (mulA (some p') (divO (fw c) (fw d))) (some q')) (addA (mulA (some (fw c)) (divO (fw c) (fw d))) (some (fw d))) = _
        rw [x1]
        show divA (addA (mulO p' r) (some q')) (addA (mulO (fw c) r) (some (fw d))) = _
        rw [x2, x5]
        show divA (addO m' q') (addO w1 (fw d)) = _
        rw [addO_comm m', addO_comm w1, x3, y2]; exact y4
    · obtain ⟨r, w1, T, m, m', x1, x2, x3, x4, x5, _, _, ⟨u, u', a, a', y1, y2, y3, y4, y5, y6⟩⟩ := core ht.le ip iq id ic d0 sp sq lp
      refine t_done ht ?_ ?_ y5 y6 h2 k2
      · show divA (subA (mulA (some (fw q)) (divO (fw c) (fw d))) (some (fw p))) (addA (mulA (some (fw c)) (divO (fw c) (fw d))) (some (fw d))) = _
        rw [x1]
        show divA (subA (mulO (fw q) r) (some (fw p))) (addA (mulO (fw c) r) (some (fw d))) = _
        rw [x2, x4]
        show divA (subO m (fw p)) (addO w1 (fw d)) = _
        rw [addO_comm w1, x3, y1]; exact y3
      · show divA (subA (mulA (some q') (divO (fw c) (fw d))) (some p')) (addA (mulA (some (fw c)) (divO (fw c) (fw d))) (some (fw d))) = _
        rw [x1]
        show divA (subA (mulO q' r) (some p')) (addA (mulO (fw c) r) (some (fw d))) = _
        rw [x2, x5]
        show divA (subO m' p') (addO w1 (fw d)) = _
        rw [addO_comm w1, x3, y2]; exact y4
end tk

end Go.Proofs.Ytklbgibhbnijaaa

namespace Go.Proofs.Ytklbgibhbnijaaa
open Fl

def T75 : Nat := 1075
theorem sc_divg {k x x' t a b c d : Nat} (hx : sc k x x') (ht : fin t) (hk : k ≤ 255) (lx : mg x = 0 ∨ 2 ^ a ≤ sz (mg x)) (ux : sz (mg x) ≤ 2 ^ b) (lt : 2 ^ c ≤ sz (mg t)) (ut : sz (mg t) ≤ 2 ^ d) (ha : 180 ≤ a) (hc : 52 ≤ c) (had : d ≤ a + 890) (hbc : b ≤ c + 770) :
    ∃ r r', divO x t = some r ∧ divO x' t = some r' ∧ sc k r r' ∧ (sz (mg r) = 0 ∨ 2 ^ (1073 + a - d) ≤ sz (mg r)) ∧ sz (mg r) ≤ 2 ^ (1076 + b - c) ∧ r < 18446744073709551616 ∧ r' < 18446744073709551616 ∧ (mg x ≤ mg t → sz (mg r) ≤ 2 ^ T75) := by
  have big : ∀ (r e : Nat), 52 ≤ e → 2 ^ e ≤ sz r → 4503599627370496 ≤ sz r := fun r e he h => by
    have e52 : (2 : Nat) ^ 52 = 4503599627370496 := by decide
    rw [← e52]; exact Nat.le_trans (Nat.pow_le_pow_right (by omega) he) h
  obtain ⟨_, gt⟩ := sig_big (big _ _ hc lt)
  have n0 : ¬ sig (mg t) = 0 := by omega
  have e1 := div_gen hx.1 ht n0
  have e2 := div_gen hx.2.1 ht n0
  rw [hx.2.2.1] at e2
  rcases lx with h0 | h0
  · have h0' : mg x' = 0 := by
      apply zero_of_sz
      have := hx.2.2.2
      rw [h0, sz_0, Nat.zero_mul] at this
      rcases Nat.mul_eq_zero.1 this with h | h
      · exact h
      · exact absurd h (Nat.ne_of_gt (Nat.two_pow_pos 128))
    have dz : dq 0 (mg t) = 0 := by
      unfold dq
      rw [show sig 0 = 0 from by decide, Nat.zero_mul, Nat.zero_div, Nat.zero_mod]
      exact nr_zero _
    rw [h0, dz] at e1
    rw [h0', dz] at e2
    refine ⟨_, _, e1, e2, sc_word _ (by omega) (by omega) (by rw [sz_0, Nat.zero_mul, Nat.zero_mul]), Or.inl (by rw [word_mg _ (by omega), sz_0]), by rw [word_mg _ (by omega), sz_0]; exact Nat.zero_le _, word_lt _ (by omega), word_lt _ (by omega), fun _ => by rw [word_mg _ (by omega), sz_0]; exact Nat.zero_le _⟩
  · obtain ⟨bx, gx⟩ := sig_big (big _ _ (by omega) h0)
    have h7 : 4503599627370496 ≤ sz (mg x') := by
      have e52 : (2 : Nat) ^ 52 = 4503599627370496 := by decide
      have a1 : 2 ^ 52 * 2 ^ 128 ≤ sz (mg x') * 2 ^ 128 := by
        rw [hx.2.2.2, ← Nat.pow_add]
        refine Nat.le_trans (Nat.le_trans (Nat.pow_le_pow_right (by omega) ?_) h0) (Nat.le_mul_of_pos_right _ (Nat.two_pow_pos k))
        omega
      have a2 := Nat.le_of_mul_le_mul_right a1 (Nat.two_pow_pos 128)
      rw [e52] at a2; exact a2
    obtain ⟨bx', gx'⟩ := sig_big h7
    have hm : mg x' + 128 * 4503599627370496 = mg x + k * 4503599627370496 := by
      apply sz_inj
      rw [sz_up 128 bx', sz_up k bx, hx.2.2.2]
    have hs : sig (mg x') = sig (mg x) := by
      have a1 : sig (mg x' + 128 * 4503599627370496) = sig (mg x') := by unfold sig; rw [if_neg (by omega), if_neg (by omega)]; omega
      have a2 : sig (mg x + k * 4503599627370496) = sig (mg x) := by unfold sig; rw [if_neg (by omega), if_neg (by omega)]; omega
      rw [← a1, hm, a2]
    have hE : ex (mg x') + 128 = ex (mg x) + k := by
      have a1 : ex (mg x' + 128 * 4503599627370496) = ex (mg x') + 128 := by unfold ex; omega
      have a2 : ex (mg x + k * 4503599627370496) = ex (mg x) + k := by unfold ex; omega
      rw [← a1, hm, a2]
    have x1 := ex_low h0
    have x2 := ex_up gx ux
    have t1 := ex_low lt
    have t2 := ex_up gt ut
    have hq' : qd (mg x') (mg t) = qd (mg x) (mg t) := by unfold qd; rw [hs]
    obtain ⟨q1, q2⟩ := qd_bd gx gt
    rw [dq_eq gx gt] at e1
    rw [dq_eq gx' gt, hq'] at e2
    generalize qd (mg x) (mg t) = X at *
    obtain ⟨p0, hp0⟩ : ∃ p0 : Int, p0 = (ex (mg x) : Int) - (ex (mg t) : Int) - 55 - 128 := ⟨_, rfl⟩
    have r1 : (ex (mg x) : Int) - (ex (mg t) : Int) - 55 = p0 + ((128 : Nat) : Int) := by omega
    have r2 : (ex (mg x') : Int) - (ex (mg t) : Int) - 55 = p0 + (k : Int) := by omega
    rw [r1] at e1
    rw [r2] at e2
    have hl : 54 ≤ X.log2 := (Nat.le_log2 (by have := Nat.two_pow_pos 54; omega)).2 q1
    have hX0 : 0 < X := Nat.lt_of_lt_of_le (Nat.two_pow_pos 54) q1
    obtain ⟨f1, f2, f3⟩ := pair_up (p0 := p0) (k := k) (a := 56) hX0 (by omega) q2 (by omega) hk
    refine ⟨_, _, e1, e2, sc_word _ f2 f1 f3, ?_, ?_, word_lt _ (nr_bd _ _), word_lt _ (nr_bd _ _), fun hle => ?_⟩
    · right
      rw [word_mg _ (nr_bd _ _)]
      obtain ⟨u, hu⟩ : ∃ u : Nat, (u : Int) = p0 + ((128 : Nat) : Int) + 54 + 1074 := ⟨(p0 + ((128 : Nat) : Int) + 54 + 1074).toNat, by omega⟩
      have c1 := nr_pow_dn (N := X) (a := 54) (p := p0 + ((128 : Nat) : Int)) (b := u) q1 (by omega) (by omega)
      exact Nat.le_trans (Nat.pow_le_pow_right (by omega) (by omega)) c1
    · rw [word_mg _ (nr_bd _ _)]
      obtain ⟨u, hu⟩ : ∃ u : Nat, (u : Int) = p0 + ((128 : Nat) : Int) + 56 + 1074 := ⟨(p0 + ((128 : Nat) : Int) + 56 + 1074).toNat, by omega⟩
      have c1 := nr_pow_up (N := X) (a := 56) (p := p0 + ((128 : Nat) : Int)) (b := u) q2 (by omega) (by omega)
      exact Nat.le_trans c1 (Nat.pow_le_pow_right (by omega) (by omega))
    · rw [word_mg _ (nr_bd _ _)]
      have hex : ex (mg x) ≤ ex (mg t) := by unfold ex; omega
      obtain ⟨u, hu⟩ : ∃ u : Nat, (u : Int) = p0 + ((128 : Nat) : Int) + 56 + 1074 := ⟨(p0 + ((128 : Nat) : Int) + 56 + 1074).toNat, by omega⟩
      have c1 := nr_pow_up (N := X) (a := 56) (p := p0 + ((128 : Nat) : Int)) (b := u) q2 (by omega) (by omega)
      exact Nat.le_trans c1 (Nat.pow_le_pow_right (by omega) (by unfold T75; omega))

end Go.Proofs.Ytklbgibhbnijaaa

namespace Go.Proofs.Ytklbgibhbnijaaa
open Fl

/-- a real and the same times 2 to the k - 128: a multiple of 2 to the g - 1074, at most 2 to the B - 1074 -/
structure Gz (k g B x x' : Nat) : Prop where
  s : sc k x x'
  d : 2 ^ g ∣ sz (mg x)
  u : sz (mg x) ≤ 2 ^ B
  l : x < 18446744073709551616
  l' : x' < 18446744073709551616
/-- a real that stays as it is -/
structure Fx (h C z : Nat) : Prop where
  f : fin z
  d : 2 ^ h ∣ sz (mg z)
  u : sz (mg z) ≤ 2 ^ C
  l : z < 18446744073709551616
theorem Gz.fx {k g B x x' : Nat} (h : Gz k g B x x') : Fx g B x := ⟨h.s.1, h.d, h.u, h.l⟩
theorem Fx.gz {h C z : Nat} (a : Fx h C z) : Gz 128 h C z z := ⟨⟨a.f, a.f, rfl, rfl⟩, a.d, a.u, a.l, a.l⟩
theorem Gz.weak {k g B g' B' x x' : Nat} (h : Gz k g B x x') (hg : g' ≤ g) (hB : B ≤ B') : Gz k g' B' x x' := ⟨h.s, Nat.dvd_trans (Nat.pow_dvd_pow 2 hg) h.d, Nat.le_trans h.u (Nat.pow_le_pow_right (by omega) hB), h.l, h.l'⟩
theorem Gz.low {k g B x x' : Nat} (h : Gz k g B x x') : mg x = 0 ∨ 2 ^ g ≤ sz (mg x) := by
  rcases Nat.eq_zero_or_pos (sz (mg x)) with h0 | h0
  · exact .inl (zero_of_sz h0)
  · exact .inr (Nat.le_of_dvd h0 h.d)
theorem rn_dvd {m g : Nat} (h : 2 ^ g ∣ m) : 2 ^ g ∣ rn m := by
  have := rnI_dvd (v := (m : Int)) (g := g) (by rw [Int.natAbs_natCast]; exact h)
  unfold rnI at this
  rw [if_neg (by omega), Int.natAbs_natCast, Int.natAbs_natCast] at this
  exact this
/-- the product, with wide bounds -/
theorem gz_mul {k g B x x' h C z : Nat} (hx : Gz k g B x x') (hz : Fx h C z) (hk : k ≤ 255) (h1 : 1254 ≤ g + h) (h2 : B + C ≤ 2900) (h3 : 1074 ≤ B + C) :
    ∃ r r', mulO x z = some r ∧ mulO x' z = some r' ∧ Gz k (g + h - 1074) (B + C - 1074) r r' := by
  have e1 := mul_gen hx.s.1 hz.f
  have e2 := mul_gen hx.s.2.1 hz.f
  rw [hx.s.2.2.1] at e2
  have hN' : sz (mg x') * sz (mg z) * 2 ^ 128 = sz (mg x) * sz (mg z) * 2 ^ k := by
    rw [Nat.mul_right_comm, hx.s.2.2.2, Nat.mul_right_comm]
  have hd : 2 ^ (g + h) ∣ sz (mg x) * sz (mg z) := by rw [Nat.pow_add]; exact Nat.mul_dvd_mul hx.d hz.d
  have hu : sz (mg x) * sz (mg z) ≤ 2 ^ (B + C) := by rw [Nat.pow_add]; exact Nat.mul_le_mul hx.u hz.u
  have hb1 := nr_bd (sz (mg x) * sz (mg z)) (-2148)
  have hb2 := nr_bd (sz (mg x') * sz (mg z)) (-2148)
  generalize sz (mg x) * sz (mg z) = N at *
  generalize sz (mg x') * sz (mg z) = N' at *
  -- the size of the product
  obtain ⟨M, hM⟩ : 2 ^ T74 ∣ N := Nat.dvd_trans (Nat.pow_dvd_pow 2 (by unfold T74; omega)) hd
  rw [Nat.mul_comm] at hM
  have hMd : 2 ^ (g + h - T74) ∣ M := by
    have : 2 ^ (g + h - T74) * 2 ^ T74 ∣ M * 2 ^ T74 := by rw [← Nat.pow_add, ← hM, show g + h - T74 + T74 = g + h by unfold T74; omega]; exact hd
    exact Nat.dvd_of_mul_dvd_mul_right (Nat.two_pow_pos _) this
  have hMu : M ≤ 2 ^ (B + C - T74) := by
    have : M * 2 ^ T74 ≤ 2 ^ (B + C - T74) * 2 ^ T74 := by rw [← Nat.pow_add, ← hM, show B + C - T74 + T74 = B + C by unfold T74; omega]; exact hu
    exact Nat.le_of_mul_le_mul_right this (Nat.two_pow_pos _)
  have q : nr N (-2148) = nr M (-1074) := by rw [hM, show (-2148 : Int) = -1074 - ((T74 : Nat) : Int) by decide, nr_shift]
  have hr := rn_up hMu
  obtain ⟨f0, f1⟩ := nr_unit (lt_szI hr (by unfold T74; omega))
  refine ⟨_, _, e1, e2, ?_, ?_, ?_, word_lt _ hb1, word_lt _ hb2⟩
  · rcases Nat.eq_zero_or_pos N with h0 | h0
    · subst h0
      rw [Nat.zero_mul] at hN'
      have : N' = 0 := by
        rcases Nat.mul_eq_zero.1 hN' with h | h
        · exact h
        · exact absurd h (Nat.ne_of_gt (Nat.two_pow_pos 128))
      subst this
      rw [nr_zero]
      exact sc_word _ (by omega) (by omega) (by rw [sz_0, Nat.zero_mul, Nat.zero_mul])
    · have hl : g + h ≤ N.log2 := (Nat.le_log2 (by omega)).2 (Nat.le_of_dvd h0 hd)
      have q1 : nr N (-2148) = nr N (-2276 + ((128 : Nat) : Int)) := by congr 1
      have q2 : nr N' (-2148) = nr N (-2276 + (k : Int)) := by
        rw [← nr_shift N' 128 (-2148), hN', ← nr_shift N k (-2276 + (k : Int))]
        congr 1; omega
      obtain ⟨f1, f2, f3⟩ := pair_up (p0 := -2276) (k := k) h0 (by omega) hu (by omega) hk
      rw [q1, q2]
      exact sc_word _ f2 f1 f3
  · rw [word_mg _ hb1, q, f1]; exact rn_dvd hMd
  · rw [word_mg _ hb1, q, f1]; exact hr
theorem Gz.ng {k g B x x' : Nat} (h : Gz k g B x x') : Gz k g B (ngW x) (ngW x') := ⟨h.s.ng h.l h.l', by rw [mg_ngW h.l]; exact h.d, by rw [mg_ngW h.l]; exact h.u, ngW_lt h.l, ngW_lt h.l'⟩
theorem val_dvd {g x : Nat} (h : 2 ^ g ∣ sz (mg x)) : ((2 ^ g : Nat) : Int) ∣ val x := Int.ofNat_dvd_left.2 (by rw [val_abs]; exact h)
theorem gz_add {k g B x x' y y' : Nat} (hx : Gz k g B x x') (hy : Gz k g B y y') (hk : k ≤ 255) (hB : B ≤ 1900) :
    ∃ r r', addO x y = some r ∧ addO x' y' = some r' ∧ Gz k g (B + 1) r r' := by
  have hv : (val x + val y).natAbs ≤ 2 ^ (B + 1) := by
    have a := hx.u
    have b := hy.u
    rw [← val_abs] at a b
    rw [Nat.pow_succ]
    omega
  have hv' := sc_abs hk hx.s hy.s hv
  obtain ⟨r, r', e1, e2, e3, e4⟩ := sc_add hx.s hy.s (lt_szI (rn_up hv) (by omega)) (lt_szI (rn_up hv') (by omega))
  have hr : sz (mg r) = rn (val x + val y).natAbs := by
    rw [← val_abs, e4]
    unfold rnI
    split <;> omega
  refine ⟨r, r', e1, e2, e3, ?_, ?_, (bd_addA (some x) (some y) r e1).1, (bd_addA (some x') (some y') r' e2).1⟩
  · rw [hr]
    refine rn_dvd ?_
    exact Int.ofNat_dvd_left.1 (Int.dvd_add (val_dvd hx.d) (val_dvd hy.d))
  · rw [hr]; exact rn_up hv
theorem gz_sub {k g B x x' y y' : Nat} (hx : Gz k g B x x') (hy : Gz k g B y y') (hk : k ≤ 255) (hB : B ≤ 1900) :
    ∃ r r', subO x y = some r ∧ subO x' y' = some r' ∧ Gz k g (B + 1) r r' := by
  obtain ⟨r, r', e1, e2, e3⟩ := gz_add hx hy.ng hk hB
  exact ⟨r, r', by rw [subO_add x hy.l]; exact e1, by rw [subO_add x' hy.l']; exact e2, e3⟩
theorem gz_div {k g B x x' c C t : Nat} (hx : Gz k g B x x') (ft : fin t) (lt : 2 ^ c ≤ sz (mg t)) (ut : sz (mg t) ≤ 2 ^ C) (hk : k ≤ 255) (ha : 180 ≤ g) (hc : 52 ≤ c) (had : C ≤ g + 890) (hbc : B ≤ c + 770) :
    ∃ r r', divO x t = some r ∧ divO x' t = some r' ∧ Gz k (1021 + g - C) (1076 + B - c) r r' ∧ (mg x ≤ mg t → sz (mg r) ≤ 2 ^ T75) := by
  obtain ⟨r, r', e1, e2, e3, e4, e5, e6, e7, e8⟩ := sc_divg hx.s ft hk hx.low hx.u lt ut ha hc had hbc
  exact ⟨r, r', e1, e2, ⟨e3, grid_of_low e4 _ (by omega), e5, e6, e7⟩, e8⟩
/-- a ratio of two that stay, the lesser by the greater -/
theorem fx_ratio {h C d c : Nat} (hd : Fx h C d) (hc : Fx h C c) (h0 : ¬ mg c = 0) (hle : mg d ≤ mg c) (ha : 180 ≤ h) (had : C ≤ h + 770) (hC : h ≤ 1074) (_hC2 : 1021 ≤ C) :
    ∃ r, divO d c = some r ∧ Fx (1021 + h - C) T75 r ∧ ng r = (ng d ^^ ng c) := by
  have lt : 2 ^ h ≤ sz (mg c) := by
    rcases hc.gz.low with e | e
    · exact absurd e h0
    · exact e
  obtain ⟨r, r', e1, _, e3, e4⟩ := gz_div hd.gz hc.f lt hc.u (by decide) ha (by omega) (by omega) (by omega)
  refine ⟨r, e1, ⟨e3.s.1, e3.d, e4 hle, e3.l⟩, ?_⟩
  have hb : 4503599627370496 ≤ sz (mg c) := by
    have e52 : (2 : Nat) ^ 52 = 4503599627370496 := by decide
    rw [← e52]; exact Nat.le_trans (Nat.pow_le_pow_right (by omega) (by omega)) lt
  have := div_gen hd.f hc.f (by have := (sig_big hb).2; omega)
  rw [e1] at this
  injection this with this
  rw [this]
  exact word_ng _ (nr_bd _ _)
/-- the divisor: c and what is of its sign -/
theorem fx_denom {h C c d r : Nat} (hc : Fx h C c) (hd : Fx h C d) (h0 : ¬ mg c = 0) (hr : Fx (1021 + h - C) T75 r) (hs : ng r = (ng d ^^ ng c)) (h1 : 1254 ≤ h + (1021 + h - C)) (h2 : h ≤ 1074) (hC : C ≤ 1500) (hC2 : 1021 ≤ C) :
    ∃ m t, mulO d r = some m ∧ addO c m = some t ∧ fin t ∧ 2 ^ h ≤ sz (mg t) ∧ sz (mg t) ≤ 2 ^ (C + 2) ∧ t < 18446744073709551616 := by
  have hT : T75 = 1075 := rfl
  obtain ⟨m, m', e1, _, e3⟩ := gz_mul hd.gz hr (by decide) h1 (by omega) (by omega)
  have hm : ng m = ng c := by
    have := mul_gen hd.f hr.f
    rw [e1] at this
    injection this with this
    rw [this, word_ng _ (nr_bd _ _), hs]
    cases ng d <;> cases ng c <;> rfl
  have hc' := (hc.gz).weak (g' := h + (1021 + h - C) - 1074) (B' := C + 1) (by omega) (by omega)
  have hm' := e3.weak (g' := h + (1021 + h - C) - 1074) (B' := C + 1) (Nat.le_refl _) (by omega)
  have hm2 : Gz 128 (h + (1021 + h - C) - 1074) (C + 1) m m := hm'.fx.gz
  obtain ⟨t, t', f1, _, f3⟩ := gz_add hc' hm2 (by decide) (by omega)
  refine ⟨m, t, e1, f1, f3.s.1, ?_, f3.u, f3.l⟩
  have lt : 2 ^ h ≤ sz (mg c) := by
    rcases hc.gz.low with e | e
    · exact absurd e h0
    · exact e
  have hv : (val c + val m).natAbs = sz (mg c) + sz (mg m) := by
    unfold val sgn
    rw [hm]
    cases ng c <;> simp <;> omega
  have hb : (val c + val m).natAbs ≤ 2 ^ (C + 2) := by
    rw [hv]
    have a := hc'.u
    have b := hm2.u
    rw [show C + 2 = C + 1 + 1 by omega, Nat.pow_succ]
    omega
  obtain ⟨t2, g1, _, g3⟩ := add_fin hc.f hm2.s.1 (lt_szI (rn_up hb) (by omega))
  rw [f1] at g1
  injection g1 with g1
  subst g1
  have hr2 : sz (mg t) = rn (val c + val m).natAbs := by
    rw [← val_abs, g3]
    unfold rnI
    split <;> omega
  rw [hr2]
  refine rn_dn ?_
  rw [hv]
  omega

end Go.Proofs.Ytklbgibhbnijaaa

namespace Go.Proofs.Ytklbgibhbnijaaa
open Fl RowKit

structure GZ (k g B : Nat) (z z' : Cw) : Prop where
  a : Gz k g B z.1 z'.1
  b : Gz k g B z.2 z'.2
structure FX (h C : Nat) (z : Cw) : Prop where
  a : Fx h C z.1
  b : Fx h C z.2
theorem GZ.weak {k g B g' B' : Nat} {z z' : Cw} (h : GZ k g B z z') (hg : g' ≤ g) (hB : B ≤ B') : GZ k g' B' z z' := ⟨h.a.weak hg hB, h.b.weak hg hB⟩
theorem GZ.fx {k g B : Nat} {z z' : Cw} (h : GZ k g B z z') : FX g B z := ⟨h.a.fx, h.b.fx⟩
theorem FX.gz {h C : Nat} {z : Cw} (a : FX h C z) : GZ 128 h C z z := ⟨a.a.gz, a.b.gz⟩
theorem FX.weak {h C h' C' : Nat} {z : Cw} (a : FX h C z) (hg : h' ≤ h) (hB : C ≤ C') : FX h' C' z := (a.gz.weak hg hB).fx
theorem mulA_some (x y : Nat) : mulA (some x) (some y) = mulO x y := rfl
theorem addA_some (x y : Nat) : addA (some x) (some y) = addO x y := rfl
theorem subA_some (x y : Nat) : subA (some x) (some y) = subO x y := rfl
theorem divA_some (x y : Nat) : divA (some x) (some y) = divO x y := rfl
theorem GZ.mul {k g B h C : Nat} {z z' y : Cw} (hz : GZ k g B z z') (hy : FX h C y) (hk : k ≤ 255) (h1 : 1254 ≤ g + h) (h2 : B + C ≤ 2900) (h3 : 1074 ≤ B + C) :
    ∃ r r' : Cw, mulZ (anz y) (anz z) = (some r.1, some r.2) ∧ mulZ (anz y) (anz z') = (some r'.1, some r'.2) ∧ GZ k (g + h - 1074) (B + C - 1073) r r' := by
  obtain ⟨a, a', e1, e2, e3⟩ := gz_mul hz.a hy.a hk h1 h2 h3
  obtain ⟨b, b', f1, f2, f3⟩ := gz_mul hz.b hy.b hk h1 h2 h3
  obtain ⟨c, c', g1, g2, g3⟩ := gz_mul hz.b hy.a hk h1 h2 h3
  obtain ⟨d, d', i1, i2, i3⟩ := gz_mul hz.a hy.b hk h1 h2 h3
  obtain ⟨p, p', j1, j2, j3⟩ := gz_sub e3 f3 hk (by omega)
  obtain ⟨q, q', l1, l2, l3⟩ := gz_add g3 i3 hk (by omega)
  rw [show B + C - 1074 + 1 = B + C - 1073 by omega] at j3 l3
  have hc : ∀ x y : Nat, mulA (some x) (some y) = mulO y x := fun x y => by rw [mulA_comm]; rfl
  refine ⟨(p, q), (p', q'), ?_, ?_, j3, l3⟩
  · unfold mulZ anz
    simp only
    rw [ans_fin hy.a.f, ans_fin hy.b.f, ans_fin hz.a.s.1, ans_fin hz.b.s.1]
    unfold mulRe mulIm
    rw [hc, hc, hc, hc, e1, f1, g1, i1, subA_some, addA_some, j1, l1]
  · unfold mulZ anz
    simp only
    rw [ans_fin hy.a.f, ans_fin hy.b.f, ans_fin hz.a.s.2.1, ans_fin hz.b.s.2.1]
    unfold mulRe mulIm
    rw [hc, hc, hc, hc, e2, f2, g2, i2, subA_some, addA_some, j2, l2]
theorem GZ.sub {k g B : Nat} {z z' y y' : Cw} (hz : GZ k g B z z') (hy : GZ k g B y y') (hk : k ≤ 255) (hB : B ≤ 1900) :
    ∃ r r' : Cw, subZ (anz z) (anz y) = (some r.1, some r.2) ∧ subZ (anz z') (anz y') = (some r'.1, some r'.2) ∧ GZ k g (B + 1) r r' := by
  obtain ⟨p, p', j1, j2, j3⟩ := gz_sub hz.a hy.a hk hB
  obtain ⟨q, q', l1, l2, l3⟩ := gz_sub hz.b hy.b hk hB
  refine ⟨(p, q), (p', q'), ?_, ?_, j3, l3⟩
  · unfold subZ anz
    simp only
    rw [ans_fin hz.a.s.1, ans_fin hz.b.s.1, ans_fin hy.a.s.1, ans_fin hy.b.s.1, subA_some, subA_some, j1, l1]
  · unfold subZ anz
    simp only
    rw [ans_fin hz.a.s.2.1, ans_fin hz.b.s.2.1, ans_fin hy.a.s.2.1, ans_fin hy.b.s.2.1, subA_some, subA_some, j2, l2]
theorem b_1900 {B t : Nat} (ht : t = 1075) (h : B ≤ 1800) : B + t - 1074 ≤ 1900 := by omega
theorem GZ.div {k g B h C : Nat} {z z' y : Cw} (hz : GZ k g B z z') (hy : FX h C y) (h0 : ¬ (mg y.1 = 0 ∧ mg y.2 = 0)) (hk : k ≤ 255)
    (c1 : 180 ≤ h) (c2 : C ≤ h + 770) (c3 : h ≤ 1074) (c4 : 1021 ≤ C) (c5 : 1254 ≤ h + (1021 + h - C)) (c6 : C ≤ 1500)
    (c7 : 1254 ≤ g + (1021 + h - C)) (c8 : B ≤ 1800) (c9 : g + (1021 + h - C) - 1074 ≤ g) (c10 : 180 ≤ g + (1021 + h - C) - 1074) (c11 : C + 2 ≤ g + (1021 + h - C) - 1074 + 890) (c12 : B + 2 ≤ h + 770) :
    ∃ r r' : Cw, divZ (anz z) (anz y) = (some r.1, some r.2) ∧ divZ (anz z') (anz y) = (some r'.1, some r'.2) ∧ GZ k (1021 + (g + (1021 + h - C) - 1074) - (C + 2)) (1076 + (B + 2) - h) r r' := by
  have c0 : 52 ≤ h := by omega
  have hT : T75 = 1075 := rfl
  have c13 : B + T75 - 1074 ≤ 1900 := b_1900 hT c8
  have nc : nan y.1 = false := fin_not_nan hy.a.f
  have nd : nan y.2 = false := fin_not_nan hy.b.f
  have a1 := ans_fin hy.a.f
  have a2 := ans_fin hy.b.f
  have b1 := ans_fin hz.a.s.1
  have b2 := ans_fin hz.b.s.1
  have b1' := ans_fin hz.a.s.2.1
  have b2' := ans_fin hz.b.s.2.1
  have wp := hz.a.weak (g' := g + (1021 + h - C) - 1074) (B' := B + T75 - 1074) c9 (by omega)
  have wq := hz.b.weak (g' := g + (1021 + h - C) - 1074) (B' := B + T75 - 1074) c9 (by omega)
  unfold divZ divRe divIm anz
  simp only
  rw [a1, a2, b1, b2, b1', b2']
  cases hg : geA (sizA (some y.1)) (sizA (some y.2))
  · have hlt := geA_yes (C := some y.1) (D := some y.2) rfl rfl nc nd hg
    obtain ⟨r, r1, r2, r3⟩ := fx_ratio hy.a hy.b (by omega) (by omega) c1 c2 c3 c4
    obtain ⟨m, t, t1, t2, t3, t4, t5, _⟩ := fx_denom hy.b hy.a (by omega) r2 r3 c5 c3 c6 c4
    obtain ⟨u, u', u1, u2, u3⟩ := gz_mul hz.a r2 hk c7 (by omega) (by omega)
    obtain ⟨v, v', v1, v2, v3⟩ := gz_mul hz.b r2 hk c7 (by omega) (by omega)
    obtain ⟨p, p', p1, p2, p3⟩ := gz_add u3 wq hk c13
    obtain ⟨q, q', q1, q2, q3⟩ := gz_sub v3 wp hk c13
    have hB : B + T75 - 1074 + 1 = B + 2 := by omega
    rw [hB] at p3 q3
    obtain ⟨s, s', s1, s2, s3, _⟩ := gz_div p3 t3 t4 t5 hk c10 c0 c11 c12
    obtain ⟨w, w', w1, w2, w3, _⟩ := gz_div q3 t3 t4 t5 hk c10 c0 c11 c12
    have ht : addA (some m) (some y.2) = some t := by rw [addA_comm]; exact t2
    simp only [Bool.false_eq_true, if_false]
    unfold divRe2 divIm2
    rw [divA_some, r1, mulA_some, mulA_some, mulA_some, mulA_some, mulA_some, t1, u1, v1, u2, v2, ht, addA_some, subA_some, addA_some, subA_some, p1, q1, p2, q2, divA_some, divA_some, divA_some, divA_some, s1, w1, s2, w2]
    exact ⟨(s, w), (s', w'), rfl, rfl, s3, w3⟩
  · have hle := geA_no (C := some y.1) (D := some y.2) rfl rfl nc nd hg
    have hc0 : ¬ mg y.1 = 0 := fun e => h0 ⟨e, by omega⟩
    obtain ⟨r, r1, r2, r3⟩ := fx_ratio hy.b hy.a hc0 hle c1 c2 c3 c4
    obtain ⟨m, t, t1, t2, t3, t4, t5, _⟩ := fx_denom hy.a hy.b hc0 r2 r3 c5 c3 c6 c4
    obtain ⟨u, u', u1, u2, u3⟩ := gz_mul hz.a r2 hk c7 (by omega) (by omega)
    obtain ⟨v, v', v1, v2, v3⟩ := gz_mul hz.b r2 hk c7 (by omega) (by omega)
    obtain ⟨p, p', p1, p2, p3⟩ := gz_add wp v3 hk c13
    obtain ⟨q, q', q1, q2, q3⟩ := gz_sub wq u3 hk c13
    have hB : B + T75 - 1074 + 1 = B + 2 := by omega
    rw [hB] at p3 q3
    obtain ⟨s, s', s1, s2, s3, _⟩ := gz_div p3 t3 t4 t5 hk c10 c0 c11 c12
    obtain ⟨w, w', w1, w2, w3, _⟩ := gz_div q3 t3 t4 t5 hk c10 c0 c11 c12
    have ht : addA (some y.1) (some m) = some t := t2
    simp only [if_true]
    unfold divRe1 divIm1
    rw [divA_some, r1, mulA_some, mulA_some, mulA_some, mulA_some, mulA_some, t1, u1, v1, u2, v2, ht, addA_some, subA_some, addA_some, subA_some, p1, q1, p2, q2, divA_some, divA_some, divA_some, divA_some, s1, w1, s2, w2]
    exact ⟨(s, w), (s', w'), rfl, rfl, s3, w3⟩

end Go.Proofs.Ytklbgibhbnijaaa
