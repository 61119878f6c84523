/-
  Powers of two go in and out of sums, products and quotients: on words, where nothing is too great or too little; nothing of any program's text.
-/
import Derived.Test.YtnmibhgfcepddaaMono
namespace Go.Proofs.Ytnmibhgfcepddaa
open Fl

theorem nearest_nr (s : Bool) (m : Nat) (p : Int) : Ieee.double.nearest s m p = Ieee.double.word s (nr m p) := by
  obtain ⟨r, hr, e⟩ := nearest_word m p
  unfold nr
  rw [e, e, word_false]
theorem nr_bd (m : Nat) (p : Int) : nr m p < 9223372036854775808 := by have := nr_lim m p; omega
theorem mul_gen {x y : Nat} (hx : fin x) (hy : fin y) : mulO x y = some (Ieee.double.word (ng x ^^ ng y) (nr (sz (mg x) * sz (mg y)) (-2148))) := by
  rw [mul_eq hx hy, nearest_nr, ← nr_shift _ (ex (mg x) + ex (mg y))]
  have e1 : sig (mg x) * sig (mg y) * 2 ^ (ex (mg x) + ex (mg y)) = sz (mg x) * sz (mg y) := by unfold sz; rw [Nat.pow_add]; ac_rfl
  have e2 : (-1074 + (ex (mg x) : Int) + (-1074 + (ex (mg y) : Int)) - ((ex (mg x) + ex (mg y) : Nat) : Int)) = -2148 := by omega
  rw [e1, e2]
def dq (l g : Nat) : Nat := nr (2 * (sig l * 2 ^ (54 + (sig g).log2 - (sig l).log2) / sig g) + (sig l * 2 ^ (54 + (sig g).log2 - (sig l).log2) % sig g != 0).toNat) ((ex l : Int) - (ex g : Int) - ((54 + (sig g).log2 - (sig l).log2 : Nat) : Int) - 1)
theorem div_gen {x y : Nat} (hx : fin x) (hy : fin y) (h0 : ¬ sig (mg y) = 0) : divO x y = some (Ieee.double.word (ng x ^^ ng y) (dq (mg x) (mg y))) := by
  unfold divO Ieee.Format.div dq
  rw [read_fin x hx, read_fin y hy]
  simp only [Ieee.Datum.quotient, h0, if_false, Option.map_some, Nat.shiftLeft_eq]
  have e0 : Ieee.double.fractionBits + 2 + (sig (mg y)).log2 - (sig (mg x)).log2 = 54 + (sig (mg y)).log2 - (sig (mg x)).log2 := rfl
  rw [e0]
  generalize 54 + (sig (mg y)).log2 - (sig (mg x)).log2 = M
  have e1 : (-1074 + (ex (mg x) : Int) - (-1074 + (ex (mg y) : Int)) - (M : Int) - 1) = (ex (mg x) : Int) - (ex (mg y) : Int) - (M : Int) - 1 := by omega
  rw [e1]
  show some (Ieee.double.nearest _ _ _) = _
  rw [nearest_nr]
theorem add_gen {x y : Nat} (hx : fin x) (hy : fin y) : addO x y = some (Ieee.double.word (if val x + val y = 0 then (ng x && ng y) else decide (val x + val y < 0)) (nr (val x + val y).natAbs (-1074))) := by
  unfold addO Ieee.Format.add
  rw [read_fin x hx, read_fin y hy]
  simp only [Ieee.Datum.sum, signed_eq, Option.map_some]
  obtain ⟨b, hb⟩ : ∃ b : Nat, b = min (ex (mg x)) (ex (mg y)) := ⟨_, rfl⟩
  have e1 : min (-1074 + (ex (mg x) : Int)) (-1074 + (ex (mg y) : Int)) = -1074 + (b : Int) := by omega
  have e2 : (-1074 + (ex (mg x) : Int) - (-1074 + (b : Int))).toNat = ex (mg x) - b := by omega
  have e3 : (-1074 + (ex (mg y) : Int) - (-1074 + (b : Int))).toNat = ex (mg y) - b := by omega
  rw [e1, e2, e3]
  have v1 : val x = sgn (ng x) (sig (mg x) * 2 ^ (ex (mg x) - b)) * ((2 ^ b : Nat) : Int) := by
    unfold val sz; rw [← sgn_mul, Nat.mul_assoc, ← Nat.pow_add, Nat.sub_add_cancel (by omega)]
  have v2 : val y = sgn (ng y) (sig (mg y) * 2 ^ (ex (mg y) - b)) * ((2 ^ b : Nat) : Int) := by
    unfold val sz; rw [← sgn_mul, Nat.mul_assoc, ← Nat.pow_add, Nat.sub_add_cancel (by omega)]
  generalize sgn (ng x) (sig (mg x) * 2 ^ (ex (mg x) - b)) = u at *
  generalize sgn (ng y) (sig (mg y) * 2 ^ (ex (mg y) - b)) = v at *
  have hv : val x + val y = (u + v) * ((2 ^ b : Nat) : Int) := by rw [v1, v2, Int.add_mul]
  have hp : (0 : Int) < ((2 ^ b : Nat) : Int) := by have := Nat.two_pow_pos b; omega
  have c1 : (val x + val y = 0) ↔ (u + v = 0) := by
    rw [hv]; constructor
    · intro h; rcases Int.mul_eq_zero.1 h with h | h
      · exact h
      · omega
    · intro h; rw [h, Int.zero_mul]
  have c2 : (val x + val y < 0) ↔ (u + v < 0) := by
    rw [hv]; constructor
    · intro h
      rcases Int.lt_or_le (u + v) 0 with h1 | h1
      · exact h1
      · have := Int.mul_nonneg h1 (Int.le_of_lt hp); omega
    · intro h; exact Int.mul_neg_of_neg_of_pos h hp
  have c3 : (val x + val y).natAbs = (u + v).natAbs * 2 ^ b := by rw [hv, Int.natAbs_mul, Int.natAbs_natCast]
  show some (Ieee.double.nearest _ _ _) = _
  rw [nearest_nr, c3, ← nr_shift _ b]
  have e4 : (-1074 + (b : Int) - (b : Int)) = -1074 := by omega
  rw [e4]
  congr 2
  by_cases h0 : u + v = 0
  · rw [if_pos h0, if_pos (c1.2 h0)]
  · rw [if_neg h0, if_neg (fun h => h0 (c1.1 h))]
    by_cases h1 : u + v < 0
    · rw [decide_eq_true h1, decide_eq_true (c2.2 h1)]
    · rw [decide_eq_false h1, decide_eq_false (fun h => h1 (c2.1 h))]

/-- Rounding and powers of two. -/
theorem rn_hom (n j : Nat) : rn (n * 2 ^ j) = rn n * 2 ^ j := by
  rcases Nat.eq_zero_or_pos n with h0 | h0
  · subst h0; rw [Nat.zero_mul]; have : rn 0 = 0 := by decide
    rw [this, Nat.zero_mul]
  · rcases Nat.lt_or_ge n 9007199254740992 with h | h
    · rw [rn_small h]; exact rn_exact ⟨n, j, rfl, h⟩
    · have hd := (dig_pos h).1
      have hl : (n * 2 ^ j).log2 = n.log2 + j := log2_mul n j h0
      have e : dig (n * 2 ^ j) = dig n + j := by unfold dig at *; rw [hl]; omega
      unfold rn
      rw [e, rne_scale n j (dig n + j) (by omega), Nat.add_sub_cancel, Nat.pow_add, Nat.mul_assoc]
theorem nr_unit {n : Nat} (h : rn n < szI) : nr n (-1074) < 9218868437227405312 ∧ sz (nr n (-1074)) = rn n := by
  have e := nearest_eq false n 0
  have hl : rung n < 9218868437227405312 := rung_lt h
  rw [Nat.pow_zero, Nat.mul_one, Nat.min_eq_left (Nat.le_of_lt hl), word_false] at e
  have e0 : (-1074 + ((0 : Nat) : Int)) = -1074 := by omega
  rw [e0] at e
  have e2 : nr n (-1074) = rung n := by unfold nr; exact e
  rw [e2]
  exact ⟨hl, sz_rung n⟩
/-- Above the least normal ones a power of two moves the rung. -/
theorem nr_up {m : Nat} (h : 0 < m) {p : Int} (e : Nat) (hn : -1074 ≤ p + (m.log2 : Int) - 52) (hi : nr m (p + (e : Int)) < 9218868437227405312) : nr m (p + (e : Int)) = nr m p + e * 4503599627370496 ∧ 4503599627370496 ≤ nr m p := by
  have hb := log2_bd h
  have h1 := nr_eq h (p := p) (L := p + (m.log2 : Int) - 52) (by omega)
  have h2 := nr_eq h (p := p + (e : Int)) (L := p + (e : Int) + (m.log2 : Int) - 52) (by omega)
  have e1 : (p + (e : Int) - (p + (e : Int) + (m.log2 : Int) - 52)) = (p - (p + (m.log2 : Int) - 52)) := by omega
  have e2 : (p + (e : Int) + (m.log2 : Int) - 52 - (p + (e : Int))) = (p + (m.log2 : Int) - 52 - p) := by omega
  have e3 : (p + (e : Int) + (m.log2 : Int) - 52 + 1074).toNat = (p + (m.log2 : Int) - 52 + 1074).toNat + e := by omega
  rw [e1, e2, e3] at h2
  have hge : 4503599627370496 ≤ rne (m * 2 ^ (p - (p + (m.log2 : Int) - 52)).toNat) (p + (m.log2 : Int) - 52 - p).toNat := by
    have e52 : (2 : Nat) ^ 52 = 4503599627370496 := by decide
    rw [← e52]
    apply rne_ge
    have h3 : 2 ^ m.log2 * 2 ^ (p - (p + (m.log2 : Int) - 52)).toNat ≤ m * 2 ^ (p - (p + (m.log2 : Int) - 52)).toNat := Nat.mul_le_mul_right _ hb.1
    rw [← Nat.pow_add] at h3
    refine Nat.le_trans (Nat.pow_le_pow_right (by omega) ?_) h3
    omega
  generalize rne (m * 2 ^ (p - (p + (m.log2 : Int) - 52)).toNat) (p + (m.log2 : Int) - 52 - p).toNat = Q at *
  generalize (p + (m.log2 : Int) - 52 + 1074).toNat = c at *
  rw [h2] at hi ⊢
  rw [h1]
  have k1 : (c + e) * 4503599627370496 + Q < 9218868437227405312 := by
    rcases Nat.lt_or_ge ((c + e) * 4503599627370496 + Q) 9218868437227405312 with h | h
    · exact h
    · rw [Nat.min_eq_right h] at hi; exact absurd hi (Nat.lt_irrefl _)
  have k2 : (c + e) * 4503599627370496 + Q = c * 4503599627370496 + Q + e * 4503599627370496 := by rw [Nat.add_mul, Nat.add_right_comm]
  have k3 : c * 4503599627370496 + Q < 9218868437227405312 := Nat.lt_of_le_of_lt (by rw [k2]; exact Nat.le_add_right _ _) k1
  rw [Nat.min_eq_left (Nat.le_of_lt k1), Nat.min_eq_left (Nat.le_of_lt k3), k2]
  exact ⟨rfl, Nat.le_trans hge (Nat.le_add_left _ _)⟩
theorem sz_up {r : Nat} (e : Nat) (h : 4503599627370496 ≤ r) : sz (r + e * 4503599627370496) = sz r * 2 ^ e := by
  have h1 : sig (r + e * 4503599627370496) = sig r := by unfold sig; rw [if_neg (by omega), if_neg (by omega)]; omega
  have h2 : ex (r + e * 4503599627370496) = ex r + e := by unfold ex; omega
  unfold sz; rw [h1, h2, Nat.pow_add, Nat.mul_assoc]

/-- x' is x times 2 to the power k - 128. -/
def sc (k x x' : Nat) : Prop := fin x ∧ fin x' ∧ ng x' = ng x ∧ sz (mg x') * 2 ^ 128 = sz (mg x) * 2 ^ k
theorem sc.val {k x x' : Nat} (h : sc k x x') : val x' * ((2 ^ 128 : Nat) : Int) = val x * ((2 ^ k : Nat) : Int) := by
  obtain ⟨_, _, h3, h4⟩ := h
  unfold Fl.val; rw [h3, ← sgn_mul, ← sgn_mul, h4]
theorem sc.uniq {k x y y' : Nat} (h : sc k x y) (h' : sc k x y') : Fl.val y = Fl.val y' := by
  have h1 := h.2.2.2.trans h'.2.2.2.symm
  have h2 := Nat.eq_of_mul_eq_mul_right (Nat.two_pow_pos 128) h1
  unfold Fl.val; rw [h.2.2.1, h'.2.2.1, h2]
theorem sc.ng {k x x' : Nat} (h : sc k x x') (hx : x < 18446744073709551616) (hx' : x' < 18446744073709551616) : sc k (ngW x) (ngW x') := by
  obtain ⟨h1, h2, h3, h4⟩ := h
  refine ⟨by unfold Fl.fin; rw [mg_ngW hx]; exact h1, by unfold Fl.fin; rw [mg_ngW hx']; exact h2, by rw [ng_ngW hx, ng_ngW hx', h3], by rw [mg_ngW hx, mg_ngW hx']; exact h4⟩
theorem sc_word {k a b : Nat} (s : Bool) (ha : a < 9218868437227405312) (hb : b < 9218868437227405312) (h : sz b * 2 ^ 128 = sz a * 2 ^ k) : sc k (Ieee.double.word s a) (Ieee.double.word s b) := by
  have m1 := word_mg s (r := a) (by omega)
  have m2 := word_mg s (r := b) (by omega)
  refine ⟨by unfold Fl.fin; rw [m1]; exact ha, by unfold Fl.fin; rw [m2]; exact hb, by rw [word_ng s (by omega), word_ng s (by omega)], by rw [m1, m2]; exact h⟩
theorem sc_add {k x x' y y' : Nat} (hx : sc k x x') (hy : sc k y y') (b : rn (val x + val y).natAbs < szI) (b' : rn (val x' + val y').natAbs < szI) :
    ∃ r r', addO x y = some r ∧ addO x' y' = some r' ∧ sc k r r' ∧ val r = rnI (val x + val y) := by
  have e1 := add_gen hx.1 hy.1
  have e2 := add_gen hx.2.1 hy.2.1
  have hv : (val x' + val y') * ((2 ^ 128 : Nat) : Int) = (val x + val y) * ((2 ^ k : Nat) : Int) := by rw [Int.add_mul, Int.add_mul, hx.val, hy.val]
  have p1 : (0 : Int) < ((2 ^ 128 : Nat) : Int) := by have := Nat.two_pow_pos 128; omega
  have p2 : (0 : Int) < ((2 ^ k : Nat) : Int) := by have := Nat.two_pow_pos k; omega
  have hs : (if val x' + val y' = 0 then (ng x' && ng y') else decide (val x' + val y' < 0)) = (if val x + val y = 0 then (ng x && ng y) else decide (val x + val y < 0)) := by
    rw [hx.2.2.1, hy.2.2.1]
    generalize val x' + val y' = a at *
    generalize val x + val y = c at *
    have c1 : a = 0 ↔ c = 0 := by
      constructor
      · intro h; rw [h, Int.zero_mul] at hv; rcases Int.mul_eq_zero.1 hv.symm with h | h
        · exact h
        · omega
      · intro h; rw [h, Int.zero_mul] at hv; rcases Int.mul_eq_zero.1 hv with h | h
        · exact h
        · omega
    have c2 : a < 0 ↔ c < 0 := by
      constructor
      · intro h
        have := Int.mul_neg_of_neg_of_pos h p1
        rw [hv] at this
        rcases Int.lt_or_le c 0 with h1 | h1
        · exact h1
        · have := Int.mul_nonneg h1 (Int.le_of_lt p2); omega
      · intro h
        have := Int.mul_neg_of_neg_of_pos h p2
        rw [← hv] at this
        rcases Int.lt_or_le a 0 with h1 | h1
        · exact h1
        · have := Int.mul_nonneg h1 (Int.le_of_lt p1); omega
    by_cases h0 : c = 0
    · rw [if_pos h0, if_pos (c1.2 h0)]
    · rw [if_neg h0, if_neg (fun h => h0 (c1.1 h))]
      by_cases h1 : c < 0
      · rw [decide_eq_true h1, decide_eq_true (c2.2 h1)]
      · rw [decide_eq_false h1, decide_eq_false (fun h => h1 (c2.1 h))]
  rw [hs] at e2
  obtain ⟨l1, z1⟩ := nr_unit b
  obtain ⟨l2, z2⟩ := nr_unit b'
  have hn : (val x' + val y').natAbs * 2 ^ 128 = (val x + val y).natAbs * 2 ^ k := by
    have := congrArg Int.natAbs hv
    rw [Int.natAbs_mul, Int.natAbs_mul, Int.natAbs_natCast, Int.natAbs_natCast] at this
    exact this
  refine ⟨_, _, e1, e2, sc_word _ l1 l2 ?_, ?_⟩
  · rw [z1, z2, ← rn_hom, ← rn_hom, hn]
  · rw [word_val _ (by omega), z1]
    exact sgn_rn _ _ (fun h => by rw [if_neg h])
end Go.Proofs.Ytnmibhgfcepddaa
