/-
  Several texts in one: Tw Xa Xb Ya Yb Yc Yd Ye Yf.
-/
import Derived.Test.YtklbgibhbnijaaaBnb
import Derived.Deep.RegionHeldLaw
import Derived.Test.YtklbgibhbnijaaaBna
import Derived.Test.YtklbgibhbnijaaaBnc
import Derived.Laws.CopyOwn
import Derived.RegionTactic
namespace Go.Proofs.Ytklbgibhbnijaaa
open Fl

theorem nearest_nr (s : Bool) (m : Nat) (p : Int) : Ieee.double.nearest s m p = Ieee.double.word s (nr m p) := by
  obtain ⟨r, hr, e⟩ := nearest_word m p
  unfold nr
  rw [e, e, word_false]
theorem nr_bd (m : Nat) (p : Int) : nr m p < 9223372036854775808 := by have := nr_lim m p; omega
theorem mul_gen {x y : Nat} (hx : fin x) (hy : fin y) : mulO x y = some (Ieee.double.word (ng x ^^ ng y) (nr (sz (mg x) * sz (mg y)) (-2148))) := by
  rw [mul_eq hx hy, nearest_nr, ← nr_shift _ (ex (mg x) + ex (mg y))]
  have e1 : sig (mg x) * sig (mg y) * 2 ^ (ex (mg x) + ex (mg y)) = sz (mg x) * sz (mg y) := by unfold sz; rw [Nat.pow_add]; ac_rfl
  have e2 : (-1074 + (ex (mg x) : Int) + (-1074 + (ex (mg y) : Int)) - ((ex (mg x) + ex (mg y) : Nat) : Int)) = -2148 := by omega
  rw [e1, e2]
def dq (l g : Nat) : Nat := nr (2 * (sig l * 2 ^ (54 + (sig g).log2 - (sig l).log2) / sig g) + (sig l * 2 ^ (54 + (sig g).log2 - (sig l).log2) % sig g != 0).toNat) ((ex l : Int) - (ex g : Int) - ((54 + (sig g).log2 - (sig l).log2 : Nat) : Int) - 1)
theorem div_gen {x y : Nat} (hx : fin x) (hy : fin y) (h0 : ¬ sig (mg y) = 0) : divO x y = some (Ieee.double.word (ng x ^^ ng y) (dq (mg x) (mg y))) := by
  unfold divO Ieee.Format.div dq
  rw [read_fin x hx, read_fin y hy]
  simp only [Ieee.Datum.quotient, h0, if_false, Option.map_some, Nat.shiftLeft_eq]
  have e0 : Ieee.double.fractionBits + 2 + (sig (mg y)).log2 - (sig (mg x)).log2 = 54 + (sig (mg y)).log2 - (sig (mg x)).log2 := rfl
  rw [e0]
  generalize 54 + (sig (mg y)).log2 - (sig (mg x)).log2 = M
  have e1 : (-1074 + (ex (mg x) : Int) - (-1074 + (ex (mg y) : Int)) - (M : Int) - 1) = (ex (mg x) : Int) - (ex (mg y) : Int) - (M : Int) - 1 := by omega
  rw [e1]
  show some (Ieee.double.nearest _ _ _) = _
  rw [nearest_nr]
theorem add_gen {x y : Nat} (hx : fin x) (hy : fin y) : addO x y = some (Ieee.double.word (if val x + val y = 0 then (ng x && ng y) else decide (val x + val y < 0)) (nr (val x + val y).natAbs (-1074))) := by
  unfold addO Ieee.Format.add
  rw [read_fin x hx, read_fin y hy]
  simp only [Ieee.Datum.sum, signed_eq, Option.map_some]
  obtain ⟨b, hb⟩ : ∃ b : Nat, b = min (ex (mg x)) (ex (mg y)) := ⟨_, rfl⟩
  have e1 : min (-1074 + (ex (mg x) : Int)) (-1074 + (ex (mg y) : Int)) = -1074 + (b : Int) := by omega
  have e2 : (-1074 + (ex (mg x) : Int) - (-1074 + (b : Int))).toNat = ex (mg x) - b := by omega
  have e3 : (-1074 + (ex (mg y) : Int) - (-1074 + (b : Int))).toNat = ex (mg y) - b := by omega
  rw [e1, e2, e3]
  have v1 : val x = sgn (ng x) (sig (mg x) * 2 ^ (ex (mg x) - b)) * ((2 ^ b : Nat) : Int) := by
    unfold val sz; rw [← sgn_mul, Nat.mul_assoc, ← Nat.pow_add, Nat.sub_add_cancel (by omega)]
  have v2 : val y = sgn (ng y) (sig (mg y) * 2 ^ (ex (mg y) - b)) * ((2 ^ b : Nat) : Int) := by
    unfold val sz; rw [← sgn_mul, Nat.mul_assoc, ← Nat.pow_add, Nat.sub_add_cancel (by omega)]
  generalize sgn (ng x) (sig (mg x) * 2 ^ (ex (mg x) - b)) = u at *
  generalize sgn (ng y) (sig (mg y) * 2 ^ (ex (mg y) - b)) = v at *
  have hv : val x + val y = (u + v) * ((2 ^ b : Nat) : Int) := by rw [v1, v2, Int.add_mul]
  have hp : (0 : Int) < ((2 ^ b : Nat) : Int) := by have := Nat.two_pow_pos b; omega
  have c1 : (val x + val y = 0) ↔ (u + v = 0) := by
    rw [hv]; constructor
    · intro h; rcases Int.mul_eq_zero.1 h with h | h
      · exact h
      · omega
    · intro h; rw [h, Int.zero_mul]
  have c2 : (val x + val y < 0) ↔ (u + v < 0) := by
    rw [hv]; constructor
    · intro h
      rcases Int.lt_or_le (u + v) 0 with h1 | h1
      · exact h1
      · have := Int.mul_nonneg h1 (Int.le_of_lt hp); omega
    · intro h; exact Int.mul_neg_of_neg_of_pos h hp
  have c3 : (val x + val y).natAbs = (u + v).natAbs * 2 ^ b := by rw [hv, Int.natAbs_mul, Int.natAbs_natCast]
  show some (Ieee.double.nearest _ _ _) = _
  rw [nearest_nr, c3, ← nr_shift _ b]
  have e4 : (-1074 + (b : Int) - (b : Int)) = -1074 := by omega
  rw [e4]
  congr 2
  by_cases h0 : u + v = 0
  · rw [if_pos h0, if_pos (c1.2 h0)]
  · rw [if_neg h0, if_neg (fun h => h0 (c1.1 h))]
    by_cases h1 : u + v < 0
    · rw [decide_eq_true h1, decide_eq_true (c2.2 h1)]
    · rw [decide_eq_false h1, decide_eq_false (fun h => h1 (c2.1 h))]

/-- Rounding and powers of two. -/
theorem rn_hom (n j : Nat) : rn (n * 2 ^ j) = rn n * 2 ^ j := by
  rcases Nat.eq_zero_or_pos n with h0 | h0
  · subst h0; rw [Nat.zero_mul]; have : rn 0 = 0 := by decide
    rw [this, Nat.zero_mul]
  · rcases Nat.lt_or_ge n 9007199254740992 with h | h
    · rw [rn_small h]; exact rn_exact ⟨n, j, rfl, h⟩
    · have hd := (dig_pos h).1
      have hl : (n * 2 ^ j).log2 = n.log2 + j := log2_mul n j h0
      have e : dig (n * 2 ^ j) = dig n + j := by unfold dig at *; rw [hl]; omega
      unfold rn
      rw [e, rne_scale n j (dig n + j) (by omega), Nat.add_sub_cancel, Nat.pow_add, Nat.mul_assoc]
theorem nr_unit {n : Nat} (h : rn n < szI) : nr n (-1074) < 9218868437227405312 ∧ sz (nr n (-1074)) = rn n := by
  have e := nearest_eq false n 0
  have hl : rung n < 9218868437227405312 := rung_lt h
  rw [Nat.pow_zero, Nat.mul_one, Nat.min_eq_left (Nat.le_of_lt hl), word_false] at e
  have e0 : (-1074 + ((0 : Nat) : Int)) = -1074 := by omega
  rw [e0] at e
  have e2 : nr n (-1074) = rung n := by unfold nr; exact e
  rw [e2]
  exact ⟨hl, sz_rung n⟩
/-- Above the least normal ones a power of two moves the rung. -/
theorem nr_up {m : Nat} (h : 0 < m) {p : Int} (e : Nat) (hn : -1074 ≤ p + (m.log2 : Int) - 52) (hi : nr m (p + (e : Int)) < 9218868437227405312) : nr m (p + (e : Int)) = nr m p + e * 4503599627370496 ∧ 4503599627370496 ≤ nr m p := by
  have hb := log2_bd h
  have h1 := nr_eq h (p := p) (L := p + (m.log2 : Int) - 52) (by omega)
  have h2 := nr_eq h (p := p + (e : Int)) (L := p + (e : Int) + (m.log2 : Int) - 52) (by omega)
  have e1 : (p + (e : Int) - (p + (e : Int) + (m.log2 : Int) - 52)) = (p - (p + (m.log2 : Int) - 52)) := by omega
  have e2 : (p + (e : Int) + (m.log2 : Int) - 52 - (p + (e : Int))) = (p + (m.log2 : Int) - 52 - p) := by omega
  have e3 : (p + (e : Int) + (m.log2 : Int) - 52 + 1074).toNat = (p + (m.log2 : Int) - 52 + 1074).toNat + e := by omega
  rw [e1, e2, e3] at h2
  have hge : 4503599627370496 ≤ rne (m * 2 ^ (p - (p + (m.log2 : Int) - 52)).toNat) (p + (m.log2 : Int) - 52 - p).toNat := by
    have e52 : (2 : Nat) ^ 52 = 4503599627370496 := by decide
    rw [← e52]
    apply rne_ge
    have h3 : 2 ^ m.log2 * 2 ^ (p - (p + (m.log2 : Int) - 52)).toNat ≤ m * 2 ^ (p - (p + (m.log2 : Int) - 52)).toNat := Nat.mul_le_mul_right _ hb.1
    rw [← Nat.pow_add] at h3
    refine Nat.le_trans (Nat.pow_le_pow_right (by omega) ?_) h3
    omega
  generalize rne (m * 2 ^ (p - (p + (m.log2 : Int) - 52)).toNat) (p + (m.log2 : Int) - 52 - p).toNat = Q at *
  generalize (p + (m.log2 : Int) - 52 + 1074).toNat = c at *
  rw [h2] at hi ⊢
  rw [h1]
  have k1 : (c + e) * 4503599627370496 + Q < 9218868437227405312 := by
    rcases Nat.lt_or_ge ((c + e) * 4503599627370496 + Q) 9218868437227405312 with h | h
    · exact h
    · rw [Nat.min_eq_right h] at hi; exact absurd hi (Nat.lt_irrefl _)
  have k2 : (c + e) * 4503599627370496 + Q = c * 4503599627370496 + Q + e * 4503599627370496 := by rw [Nat.add_mul, Nat.add_right_comm]
  have k3 : c * 4503599627370496 + Q < 9218868437227405312 := Nat.lt_of_le_of_lt (by rw [k2]; exact Nat.le_add_right _ _) k1
  rw [Nat.min_eq_left (Nat.le_of_lt k1), Nat.min_eq_left (Nat.le_of_lt k3), k2]
  exact ⟨rfl, Nat.le_trans hge (Nat.le_add_left _ _)⟩
theorem sz_up {r : Nat} (e : Nat) (h : 4503599627370496 ≤ r) : sz (r + e * 4503599627370496) = sz r * 2 ^ e := by
  have h1 : sig (r + e * 4503599627370496) = sig r := by unfold sig; rw [if_neg (by omega), if_neg (by omega)]; omega
  have h2 : ex (r + e * 4503599627370496) = ex r + e := by unfold ex; omega
  unfold sz; rw [h1, h2, Nat.pow_add, Nat.mul_assoc]

/-- x' is x times 2 to the power k - 128. -/
def sc (k x x' : Nat) : Prop := fin x ∧ fin x' ∧ ng x' = ng x ∧ sz (mg x') * 2 ^ 128 = sz (mg x) * 2 ^ k
theorem sc.val {k x x' : Nat} (h : sc k x x') : val x' * ((2 ^ 128 : Nat) : Int) = val x * ((2 ^ k : Nat) : Int) := by
  obtain ⟨_, _, h3, h4⟩ := h
  unfold Fl.val; rw [h3, ← sgn_mul, ← sgn_mul, h4]
theorem sc.uniq {k x y y' : Nat} (h : sc k x y) (h' : sc k x y') : Fl.val y = Fl.val y' := by
  have h1 := h.2.2.2.trans h'.2.2.2.symm
  have h2 := Nat.eq_of_mul_eq_mul_right (Nat.two_pow_pos 128) h1
  unfold Fl.val; rw [h.2.2.1, h'.2.2.1, h2]
theorem sc.ng {k x x' : Nat} (h : sc k x x') (hx : x < 18446744073709551616) (hx' : x' < 18446744073709551616) : sc k (ngW x) (ngW x') := by
  obtain ⟨h1, h2, h3, h4⟩ := h
  refine ⟨by unfold Fl.fin; rw [mg_ngW hx]; exact h1, by unfold Fl.fin; rw [mg_ngW hx']; exact h2, by rw [ng_ngW hx, ng_ngW hx', h3], by rw [mg_ngW hx, mg_ngW hx']; exact h4⟩
theorem sc_word {k a b : Nat} (s : Bool) (ha : a < 9218868437227405312) (hb : b < 9218868437227405312) (h : sz b * 2 ^ 128 = sz a * 2 ^ k) : sc k (Ieee.double.word s a) (Ieee.double.word s b) := by
  have m1 := word_mg s (r := a) (by omega)
  have m2 := word_mg s (r := b) (by omega)
  refine ⟨by unfold Fl.fin; rw [m1]; exact ha, by unfold Fl.fin; rw [m2]; exact hb, by rw [word_ng s (by omega), word_ng s (by omega)], by rw [m1, m2]; exact h⟩
theorem sc_add {k x x' y y' : Nat} (hx : sc k x x') (hy : sc k y y') (b : rn (val x + val y).natAbs < szI) (b' : rn (val x' + val y').natAbs < szI) :
    ∃ r r', addO x y = some r ∧ addO x' y' = some r' ∧ sc k r r' ∧ val r = rnI (val x + val y) := by
  have e1 := add_gen hx.1 hy.1
  have e2 := add_gen hx.2.1 hy.2.1
  have hv : (val x' + val y') * ((2 ^ 128 : Nat) : Int) = (val x + val y) * ((2 ^ k : Nat) : Int) := by rw [Int.add_mul, Int.add_mul, hx.val, hy.val]
  have p1 : (0 : Int) < ((2 ^ 128 : Nat) : Int) := by have := Nat.two_pow_pos 128; omega
  have p2 : (0 : Int) < ((2 ^ k : Nat) : Int) := by have := Nat.two_pow_pos k; omega
  have hs : (if val x' + val y' = 0 then (ng x' && ng y') else decide (val x' + val y' < 0)) = (if val x + val y = 0 then (ng x && ng y) else decide (val x + val y < 0)) := by
    rw [hx.2.2.1, hy.2.2.1]
    generalize val x' + val y' = a at *
    generalize val x + val y = c at *
    have c1 : a = 0 ↔ c = 0 := by
      constructor
      · intro h; rw [h, Int.zero_mul] at hv; rcases Int.mul_eq_zero.1 hv.symm with h | h
        · exact h
        · omega
      · intro h; rw [h, Int.zero_mul] at hv; rcases Int.mul_eq_zero.1 hv with h | h
        · exact h
        · omega
    have c2 : a < 0 ↔ c < 0 := by
      constructor
      · intro h
        have := Int.mul_neg_of_neg_of_pos h p1
        rw [hv] at this
        rcases Int.lt_or_le c 0 with h1 | h1
        · exact h1
        · have := Int.mul_nonneg h1 (Int.le_of_lt p2); omega
      · intro h
        have := Int.mul_neg_of_neg_of_pos h p2
        rw [← hv] at this
        rcases Int.lt_or_le a 0 with h1 | h1
        · exact h1
        · have := Int.mul_nonneg h1 (Int.le_of_lt p1); omega
    by_cases h0 : c = 0
    · rw [if_pos h0, if_pos (c1.2 h0)]
    · rw [if_neg h0, if_neg (fun h => h0 (c1.1 h))]
      by_cases h1 : c < 0
      · rw [decide_eq_true h1, decide_eq_true (c2.2 h1)]
      · rw [decide_eq_false h1, decide_eq_false (fun h => h1 (c2.1 h))]
  rw [hs] at e2
  obtain ⟨l1, z1⟩ := nr_unit b
  obtain ⟨l2, z2⟩ := nr_unit b'
  have hn : (val x' + val y').natAbs * 2 ^ 128 = (val x + val y).natAbs * 2 ^ k := by
    have := congrArg Int.natAbs hv
    rw [Int.natAbs_mul, Int.natAbs_mul, Int.natAbs_natCast, Int.natAbs_natCast] at this
    exact this
  refine ⟨_, _, e1, e2, sc_word _ l1 l2 ?_, ?_⟩
  · rw [z1, z2, ← rn_hom, ← rn_hom, hn]
  · rw [word_val _ (by omega), z1]
    exact sgn_rn _ _ (fun h => by rw [if_neg h])
end Go.Proofs.Ytklbgibhbnijaaa

namespace Go.Proofs.Ytklbgibhbnijaaa
open Fl RowKit

/-- the weight of a finite number, as a word -/
def wt (z : Cw) : Nat := nr (sz (mg z.1) + sz (mg z.2)) (-1074)
theorem wt_le (z : Cw) : wt z ≤ 9218868437227405312 := nr_lim _ _
theorem fin_nan {x : Nat} (h : finB x = true) : nan x = false := by
  have := fin_of h
  unfold Fl.fin at this
  unfold nan
  exact decide_eq_false (by omega)
theorem wt_siz {z : Cw} (hf : finZ z = true) : sizZ (anz z) = some (wt z) := by
  unfold finZ at hf
  rw [Bool.and_eq_true] at hf
  have a := fin_of hf.1
  have b := fin_of hf.2
  unfold sizZ anz
  rw [ans_num (fin_nan hf.1), ans_num (fin_nan hf.2)]
  exact add_pos a b
theorem wt_nan (z : Cw) : nan (wt z) = false := by
  have := wt_le z
  unfold nan mg
  exact decide_eq_false (by omega)
theorem ord_le {a b : Nat} (ha : a ≤ 9218868437227405312) (hb : b ≤ 9218868437227405312) : FloatKind.f64.format.order a b = some (compare (a : Int) (b : Int)) := by
  have p1 : plc a = a := by have := plc_mg a; rwa [show mg a = a from Nat.mod_eq_of_lt (by omega)] at this
  have p2 : plc b = b := by have := plc_mg b; rwa [show mg b = b from Nat.mod_eq_of_lt (by omega)] at this
  have n1 : nan a = false := by unfold nan mg; exact decide_eq_false (by omega)
  have n2 : nan b = false := by unfold nan mg; exact decide_eq_false (by omega)
  rw [f64_double, order_eq, n1, n2, p1, p2]
  rfl
theorem ord_gt {a b : Nat} (ha : a ≤ 9218868437227405312) (hb : b ≤ 9218868437227405312) (h : b < a) : FloatKind.f64.format.order a b = some .gt := by
  rw [ord_le ha hb, Int.compare_eq_gt.2 (by omega)]
theorem ord_ngt {a b : Nat} (ha : a ≤ 9218868437227405312) (hb : b ≤ 9218868437227405312) (h : ¬ b < a) : (FloatKind.f64.format.order a b == some .gt) = false := by
  rw [ord_le ha hb]
  have : ¬ compare (a : Int) (b : Int) = .gt := by rw [Int.compare_eq_gt]; omega
  cases h : compare (a : Int) (b : Int)
  · rfl
  · rfl
  · exact absurd h this
theorem wt_0 {z : Cw} (h : wt z = 0) : mg z.1 = 0 ∧ mg z.2 = 0 := by
  unfold wt at h
  have k1 := nr_mono (-1074) (show sz (mg z.1) ≤ sz (mg z.1) + sz (mg z.2) by omega)
  have k2 := nr_mono (-1074) (show sz (mg z.2) ≤ sz (mg z.1) + sz (mg z.2) by omega)
  have l1 : mg z.1 ≤ 9218868437227405312 ∨ 9218868437227405312 < mg z.1 := by omega
  have l2 : mg z.2 ≤ 9218868437227405312 ∨ 9218868437227405312 < mg z.2 := by omega
  have big : ∀ x, 9218868437227405312 ≤ x → nr (sz x) (-1074) = 9218868437227405312 := by
    intro x hx
    have := nr_mono (-1074) (sz_le hx)
    rw [nr_sz (Nat.le_refl _)] at this
    have := nr_lim (sz x) (-1074)
    omega
  constructor
  · rcases l1 with l1 | l1
    · rw [nr_sz l1] at k1; omega
    · rw [big _ (by omega)] at k1; omega
  · rcases l2 with l2 | l2
    · rw [nr_sz l2] at k2; omega
    · rw [big _ (by omega)] at k2; omega
theorem wt_z {z : Cw} (h1 : mg z.1 = 0) (h2 : mg z.2 = 0) : wt z = 0 := by
  unfold wt
  rw [h1, h2, sz_zero]
  have := nr_sz (show 0 ≤ 9218868437227405312 by omega)
  rw [sz_zero] at this
  exact this
/-- the first place of the greatest, and that -/
def fstG (f : Nat → Nat) : Nat → Nat × Nat
  | 0 => (0, 0)
  | k + 1 => if (fstG f k).2 < f k then (k, f k) else fstG f k
theorem fstG_le (f : Nat → Nat) (n : Nat) : ∀ j, j < n → f j ≤ (fstG f n).2 := by
  induction n with
  | zero => intro j hj; omega
  | succ n ih =>
    intro j hj
    unfold fstG
    by_cases e : j = n
    · subst e; split
      · exact Nat.le_refl _
      · omega
    · have := ih j (by omega)
      split
      · show f j ≤ f n; omega
      · exact this
theorem fstG_at (f : Nat → Nat) (n : Nat) : (fstG f n).2 = 0 ∧ (fstG f n).1 = 0 ∨ 0 < (fstG f n).2 ∧ (fstG f n).1 < n ∧ f (fstG f n).1 = (fstG f n).2 ∧ ∀ j, j < (fstG f n).1 → f j < (fstG f n).2 := by
  induction n with
  | zero => exact .inl ⟨rfl, rfl⟩
  | succ n ih =>
    unfold fstG
    split
    · refine .inr ⟨by show 0 < f n; omega, by show n < n + 1; omega, rfl, ?_⟩
      intro j hj
      have := fstG_le f n j hj
      show f j < f n
      omega
    · rcases ih with h | ⟨h1, h2, h3, h4⟩
      · exact .inl h
      · exact .inr ⟨h1, by omega, h3, h4⟩
theorem fstG_uniq {f : Nat → Nat} {n i : Nat} (hi : i < n) (hm : ∀ k, k < n → f k ≤ f i) (hb : ∀ k, k < i → ∃ j, j < n ∧ f k < f j) (h0 : 0 < (fstG f n).2) : (fstG f n).1 = i := by
  rcases fstG_at f n with ⟨h, _⟩ | ⟨_, h2, h3, h4⟩
  · omega
  · have e1 := hm _ h2
    have e2 := fstG_le f n i hi
    rcases Nat.lt_trichotomy (fstG f n).1 i with h | h | h
    · obtain ⟨j, hj, hlt⟩ := hb _ h
      have := fstG_le f n j hj
      omega
    · exact h
    · have := h4 i h; omega
theorem fstG_congr {f g : Nat → Nat} {n : Nat} (h : ∀ j, j < n → f j = g j) : fstG f n = fstG g n := by
  induction n with
  | zero => rfl
  | succ n ih =>
    unfold fstG
    rw [ih (fun j hj => h j (by omega)), h n (by omega)]
theorem fstG_lim {f : Nat → Nat} {M : Nat} (h : ∀ j, f j ≤ M) (n : Nat) : (fstG f n).2 ≤ M := by
  induction n with
  | zero => exact Nat.zero_le _
  | succ n ih =>
    unfold fstG
    split
    · exact h n
    · exact ih
def wts (xs : List Cw) (j : Nat) : Nat := wt (zat xs j)
/-- the heaviest of a list: its place, its weight -/
def hv (xs : List Cw) : Nat × Nat := fstG (wts xs) xs.length
theorem hv_lim (xs : List Cw) : (hv xs).2 ≤ 9218868437227405312 := fstG_lim (fun _ => wt_le _) _
theorem fin_walk {W : World} {x : Cw} (h : okz x) : Calls Try.prog 82 #[.complex .f64 x.1 x.2] W fun e w' => e = .returned (.bool (finZ x)) ∧ w' = W := (fin_any _ _ W h.1 h.2)

theorem pwithin_any (i n : Int) (w : World) : Calls Try.prog 115 #[.int .i64 i, .int .i64 n] w fun e w' => e = .returned (.bool (decide (0 ≤ i ∧ i < n))) ∧ w' = w := by
  by_cases h1 : 0 ≤ i
  · by_cases h2 : i < n
    · rw [decide_eq_true (show 0 ≤ i ∧ i < n from ⟨h1, h2⟩)]
      go_enter Try.func115, Try.ntmps115
      go_wp2
      go_ret
      exact ⟨rfl, rfl⟩
    · rw [decide_eq_false (show ¬ (0 ≤ i ∧ i < n) from fun h => h2 h.2)]
      go_enter Try.func115, Try.ntmps115
      go_wp2
      go_ret
      exact ⟨rfl, rfl⟩
  · rw [decide_eq_false (show ¬ (0 ≤ i ∧ i < n) from fun h => h1 h.1)]
    go_enter Try.func115, Try.ntmps115
    go_wp2
    go_ret
    exact ⟨rfl, rfl⟩
set_option maxHeartbeats 1000000 in
theorem pfin_any (ao : Option Addr) (cap : Nat) (xs : List Cw) (w : World) (hsz : xs.length * 16 ≤ 140737488355328) (hc : Rc w ao xs) (hx : okl xs) :
    Calls Try.prog 116 #[.slice ao xs.length cap] w fun e w' => e = .returned (.bool (finL xs xs.length)) ∧ w' = w := by
  go_enter Try.func116, Try.ntmps116
  go_wp2
  go_loopw [7] (fun i wr => ∃ (k : Nat), k ≤ xs.length ∧ i = .int .i64 k ∧ finL xs k = true ∧ wr = w) (fun i _ => xs.length - (intOf i).toNat)
  case atStart => exact ⟨0, Nat.zero_le _, rfl, rfl, rfl⟩
  case round =>
    obtain ⟨k, hk, rfl, hf, hw⟩ := hrel
    by_cases hlt : k < xs.length
    · obtain ⟨b, off, rfl, hb, hcx⟩ := hc k hlt
      rw [← hw] at hb hcx
      have HW : Hid (wr = w) := hw
      have F1 := @finL_lt xs k
      have F2 : finL xs (k + 1) = (finL xs k && finZ (zat xs k)) := rfl
      rw [hf, Bool.true_and] at F2
      have ho := hx k
      obtain ⟨x, hxe⟩ : ∃ x, x = zat xs k := ⟨_, rfl⟩
      rw [← hxe] at hcx F1 F2 ho
      unfold cx at hcx
      have G1 : Hid (finZ x = false → finL xs xs.length = false) := fun h => F1 h _ hlt
      have G2 : Hid (finL xs (k + 1) = finZ x) := F2
      clear hxe hc hf hw F1 F2 hx
      cases f1 : finZ x
      · go_wp2_with (go_at_call 82; (with_reducible refine (fin_walk ho).mono ?_); rintro e w' ⟨rfl, rfl⟩; rw [f1])
        go_ret
        exact ⟨by rw [G1.out f1]; rfl, HW.out⟩
      · go_wp2_with (go_at_call 82; (with_reducible refine (fin_walk ho).mono ?_); rintro e w' ⟨rfl, rfl⟩; rw [f1])
        exact ⟨⟨k + 1, by omega, by go_num, by rw [G2.out]; exact f1, HW.out⟩, by simp [intOf]; omega⟩
    · have e : k = xs.length := by omega
      subst e
      have HW : Hid (wr = w) := hw
      have HF : Hid (finL xs xs.length = true) := hf
      clear hx hc hf hw
      go_wp2
      go_ret
      exact ⟨by rw [HF.out]; rfl, HW.out⟩
theorem size1_wt {W : World} {x : Cw} (h : okz x) (hf : finZ x = true) : Calls Try.prog 127 #[.complex .f64 x.1 x.2] W fun e w' => ∃ n, e = .returned (.float .f64 (wt x)) ∧ w' = W.drewN n :=
  (size1_any W (repz_anz h).1 (repz_anz h).2).mono (by
    rintro e w' ⟨r, n, rfl, hr, rfl⟩
    exact ⟨n, by rw [rep_is hr (wt_siz hf)], rfl⟩)
theorem rsize1_wt {W : World} {x : Cw} (h : okz x) (hf : finZ x = true) : Calls Try.prog 77 #[.complex .f64 x.1 x.2] W fun e w' => ∃ n, e = .returned (.float .f64 (wt x)) ∧ w' = W.drewN n :=
  (rsize1_any W (repz_anz h).1 (repz_anz h).2).mono (by
    rintro e w' ⟨r, n, rfl, hr, rfl⟩
    exact ⟨n, by rw [rep_is hr (wt_siz hf)], rfl⟩)
set_option maxHeartbeats 1000000 in
theorem pheav_any (ao : Option Addr) (cap : Nat) (xs : List Cw) (w : World) (hsz : xs.length * 16 ≤ 140737488355328) (hc : Rc w ao xs) (hx : okl xs) (hfin : finL xs xs.length = true) :
    Calls Try.prog 117 #[.slice ao xs.length cap] w fun e w' => ∃ m, e = .returned (.tuple #[.int .i64 ((hv xs).1 : Nat), .float .f64 (hv xs).2]) ∧ w' = w.drewN m := by
  go_enter Try.func117, Try.ntmps117
  go_wp2
  go_loopw [4, 5, 11] (fun p g i wr => ∃ (k m a b : Nat), k ≤ xs.length ∧ i = .int .i64 k ∧ p = .int .i64 a ∧ g = .float .f64 b ∧ (a, b) = fstG (wts xs) k ∧ wr = w.drewN m) (fun _ _ i _ => xs.length - (intOf i).toNat)
  case atStart => exact ⟨0, 0, 0, 0, Nat.zero_le _, rfl, rfl, rfl, rfl, rfl⟩
  case round =>
    obtain ⟨k, n, a, b, hk, rfl, rfl, rfl, hs, hw⟩ := hrel
    by_cases hlt : k < xs.length
    · obtain ⟨q, off, rfl, hb, hcx⟩ := hc.drewN n k hlt
      rw [← hw] at hb hcx
      have HW : Hid (wr = w.drewN n) := hw
      have ho := hx k
      have hf := finL_at hfin k hlt
      have hbl : b ≤ 9218868437227405312 := by
        have := fstG_lim (fun j => wt_le (zat xs j)) k
        rw [show fstG (fun j => wt (zat xs j)) k = (a, b) from hs.symm] at this
        exact this
      have HS : Hid (fstG (wts xs) (k + 1) = if b < wt (zat xs k) then (k, wt (zat xs k)) else (a, b)) := by
        show (if (fstG (wts xs) k).2 < wts xs k then (k, wts xs k) else fstG (wts xs) k) = _
        rw [← hs]; rfl
      obtain ⟨x, hxe⟩ : ∃ x, x = zat xs k := ⟨_, rfl⟩
      rw [← hxe] at hcx ho hf HS
      unfold cx at hcx
      have hwl := wt_le x
      clear hxe hc hs hw hx hfin
      by_cases hgt : b < wt x
      · have hord := ord_gt hwl hbl hgt
        go_wp2_with (go_at_call 127; (with_reducible refine (size1_wt ho hf).mono ?_); rintro e w' ⟨m, rfl, rfl⟩)
        refine ⟨⟨k + 1, _, k, wt x, by omega, by go_num, rfl, rfl, by rw [HS.out, if_pos hgt], by rw [HW.out]; simp only [World.drewN_drewN]; rfl⟩, by simp [intOf]; omega⟩
      · have hord := ord_ngt hwl hbl hgt
        go_wp2_with (go_at_call 127; (with_reducible refine (size1_wt ho hf).mono ?_); rintro e w' ⟨m, rfl, rfl⟩)
        refine ⟨⟨k + 1, _, a, b, by omega, by go_num, rfl, rfl, by rw [HS.out, if_neg hgt], by rw [HW.out]; simp only [World.drewN_drewN]; rfl⟩, by simp [intOf]; omega⟩
    · have e : k = xs.length := by omega
      subst e
      have HW : Hid (wr = w.drewN n) := hw
      have HS : Hid ((a, b) = hv xs) := hs
      clear hx hc hfin hw hs
      go_wp2
      go_ret2
      exact ⟨n, by rw [← HS.out]; rfl, HW.out⟩

end Go.Proofs.Ytklbgibhbnijaaa

namespace Go.Proofs.Ytklbgibhbnijaaa
open Fl RowKit

def chE (xs : List Cw) (fr : Int) : Int :=
  if 64 < xs.length then 3 else if ¬ (0 ≤ fr ∧ fr < (xs.length : Int)) then 2 else if finL (xs.drop fr.toNat) (xs.length - fr.toNat) = false then 5 else if (hv (xs.drop fr.toNat)).2 = 0 then 7 else 0
def chI (xs : List Cw) (fr : Int) : Int := if chE xs fr = 0 then fr + ((hv (xs.drop fr.toNat)).1 : Nat) else 0
theorem chE_3 {xs : List Cw} {fr : Int} (h : 64 < xs.length) : chE xs fr = 3 := if_pos h
theorem chE_2 {xs : List Cw} {fr : Int} (h : ¬ 64 < xs.length) (h2 : ¬ (0 ≤ fr ∧ fr < (xs.length : Int))) : chE xs fr = 2 := by unfold chE; rw [if_neg h, if_pos h2]
theorem chE_5 {xs : List Cw} {f : Nat} (h : ¬ 64 < xs.length) (h2 : f < xs.length) (h3 : finL (xs.drop f) (xs.length - f) = false) : chE xs f = 5 := by
  unfold chE; rw [if_neg h, if_neg (by omega), Int.toNat_natCast, if_pos h3]
theorem chE_7 {xs : List Cw} {f : Nat} (h : ¬ 64 < xs.length) (h2 : f < xs.length) (h3 : finL (xs.drop f) (xs.length - f) = true) (h4 : (hv (xs.drop f)).2 = 0) : chE xs f = 7 := by
  unfold chE; rw [if_neg h, if_neg (by omega), Int.toNat_natCast, if_neg (by rw [h3]; decide), if_pos h4]
theorem chE_0 {xs : List Cw} {f : Nat} (h : ¬ 64 < xs.length) (h2 : f < xs.length) (h3 : finL (xs.drop f) (xs.length - f) = true) (h4 : ¬ (hv (xs.drop f)).2 = 0) : chE xs f = 0 := by
  unfold chE; rw [if_neg h, if_neg (by omega), Int.toNat_natCast, if_neg (by rw [h3]; decide), if_neg h4]
theorem chI_n {xs : List Cw} {fr : Int} (h : ¬ chE xs fr = 0) : chI xs fr = 0 := if_neg h
theorem chI_0 {xs : List Cw} {f : Nat} (h : chE xs f = 0) : chI xs f = ((f + (hv (xs.drop f)).1 : Nat) : Int) := by
  unfold chI; rw [if_pos h, Int.toNat_natCast]; omega
theorem zat_drop (xs : List Cw) (f k : Nat) : zat (xs.drop f) k = zat xs (f + k) := by
  unfold zat
  rw [List.getD_eq_getElem?_getD, List.getD_eq_getElem?_getD, List.getElem?_drop]
theorem okl_drop {xs : List Cw} (h : okl xs) (f : Nat) : okl (xs.drop f) := fun k => by rw [zat_drop]; exact h _
theorem rc_drop {w : World} {b off : Nat} {xs : List Cw} (h : Rc w (some ⟨b, off, none⟩) xs) (f : Nat) : Rc w (some ⟨b, off + f, none⟩) (xs.drop f) := by
  intro k hk
  rw [List.length_drop] at hk
  obtain ⟨b', off', h1, h2, h3⟩ := h (f + k) (by omega)
  cases h1
  exact ⟨b, off + f, rfl, h2, by rw [zat_drop, Nat.add_assoc]; exact h3⟩
theorem hv_lt (xs : List Cw) : (hv xs).1 ≤ xs.length := by
  rcases fstG_at (wts xs) xs.length with ⟨_, h⟩ | ⟨_, h, _⟩
  · unfold hv; omega
  · unfold hv; omega
theorem pfin_len {W : World} {ao : Option Addr} {n cap : Nat} {xs : List Cw} (hn : xs.length = n) (hsz : n ≤ 4096) (hc : Rc W ao xs) (hx : okl xs) :
    Calls Try.prog 116 #[.slice ao n cap] W fun e w' => e = .returned (.bool (finL xs n)) ∧ w' = W := by
  subst hn
  exact pfin_any ao cap xs W (by omega) hc hx
theorem pheav_len {W : World} {ao : Option Addr} {n cap : Nat} {xs : List Cw} (hn : xs.length = n) (hsz : n ≤ 4096) (hc : Rc W ao xs) (hx : okl xs) (hf : finL xs n = true) :
    Calls Try.prog 117 #[.slice ao n cap] W fun e w' => ∃ m, e = .returned (.tuple #[.int .i64 ((hv xs).1 : Nat), .float .f64 (hv xs).2]) ∧ w' = W.drewN m := by
  subst hn
  exact pheav_any ao cap xs W (by omega) hc hx hf
set_option maxHeartbeats 1000000 in
theorem choose_any (ao : Option Addr) (cap : Nat) (xs : List Cw) (fr : Int) (w : World) (hsz : xs.length * 16 ≤ 140737488355328) (hcap : xs.length ≤ cap) (hc : Rc w ao xs) (hx : okl xs) :
    Calls Try.prog 83 #[.slice ao xs.length cap, .int .i64 fr] w fun e w' => ∃ m, e = .returned (.tuple #[.int .i64 (chI xs fr), .int .i64 (chE xs fr)]) ∧ w' = w.drewN m := by
  by_cases h1 : 64 < xs.length
  · have e0 := chE_3 (fr := fr) h1
    rw [chI_n (by rw [e0]; decide), e0]
    clear hc hx
    go_enter Try.func83, Try.ntmps83
    go_wp2
    go_ret2
    exact ⟨0, rfl, rfl⟩
  by_cases h2 : 0 ≤ fr ∧ fr < (xs.length : Int)
  case neg =>
    have e0 := chE_2 h1 h2
    rw [chI_n (by rw [e0]; decide), e0]
    clear hc hx e0
    have hd := decide_eq_false h2
    clear h2
    go_enter Try.func83, Try.ntmps83
    go_wp2_with (go_at_call 115; (with_reducible refine (pwithin_any _ _ _).mono ?_); rintro e w' ⟨rfl, rfl⟩; rw [hd])
    go_ret2
    exact ⟨0, rfl, rfl⟩
  have hd := decide_eq_true h2
  obtain ⟨f, rfl⟩ : ∃ f : Nat, fr = f := ⟨fr.toNat, by omega⟩
  obtain ⟨b, off, rfl, hb, _⟩ := hc 0 (by omega)
  have hf : f < xs.length := by omega
  have hcd := rc_drop hc f
  have hxd := okl_drop hx f
  have hl : (xs.drop f).length = xs.length - f := List.length_drop
  have hhv := hv_lim (xs.drop f)
  have hhl := hv_lt (xs.drop f)
  rw [hl] at hhl
  have E5 := chE_5 h1 hf
  have E7 := chE_7 h1 hf
  have E0 := chE_0 h1 hf
  have I0 := chI_0 (xs := xs) (f := f)
  have In := chI_n (xs := xs) (fr := f)
  obtain ⟨ys, hys⟩ : ∃ ys, ys = xs.drop f := ⟨_, rfl⟩
  rw [← hys] at hcd hxd hl E5 E7 E0 I0 hhv hhl
  obtain ⟨n, hn⟩ : ∃ n, n = xs.length := ⟨_, rfl⟩
  rw [← hn] at h1 hsz hcap hd hl hhl hf E5 E7 E0 ⊢
  obtain ⟨E, hE⟩ : ∃ E, E = chE xs f := ⟨_, rfl⟩
  obtain ⟨I, hI⟩ : ∃ I, I = chI xs f := ⟨_, rfl⟩
  rw [← hE] at E5 E7 E0 I0 In
  rw [← hI] at I0 In
  rw [← hE, ← hI]
  have HL : Hid (ys.length = n - f) := hl
  clear hc hx hys hn hE hI hl h2
  cases h3 : finL ys (n - f)
  · have e5 := E5 h3
    subst e5
    have i0 := In (by decide)
    subst i0
    clear E5 E7 E0 I0 In
    go_enter Try.func83, Try.ntmps83
    go_wp2_with (first
      | (go_at_call 115; (with_reducible refine (pwithin_any _ _ _).mono ?_); rintro e w' ⟨rfl, rfl⟩; rw [hd])
      | (go_at_call 116; (with_reducible refine (pfin_len HL.out (by omega) hcd hxd).mono ?_); rintro e w' ⟨rfl, rfl⟩; rw [h3]))
    go_ret2
    exact ⟨0, rfl, rfl⟩
  · by_cases h4 : (hv ys).2 = 0
    · have e5 := E7 h3 h4
      subst e5
      have i0 := In (by decide)
      subst i0
      clear E5 E7 E0 I0 In
      have q0 : FloatKind.f64.format.order 0 0 = some .eq := by kernel_rfl
      go_enter Try.func83, Try.ntmps83
      go_wp2_with (first
        | (go_at_call 115; (with_reducible refine (pwithin_any _ _ _).mono ?_); rintro e w' ⟨rfl, rfl⟩; rw [hd])
        | (go_at_call 116; (with_reducible refine (pfin_len HL.out (by omega) hcd hxd).mono ?_); rintro e w' ⟨rfl, rfl⟩; rw [h3])
        | (go_at_call 117; (with_reducible refine (pheav_len HL.out (by omega) hcd hxd h3).mono ?_); rintro e w' ⟨m, rfl, rfl⟩; rw [h4]))
      go_ret2
      exact ⟨m, rfl, rfl⟩
    · have e5 := E0 h3 h4
      subst e5
      have i0 := I0 rfl
      subst i0
      clear E5 E7 E0 I0 In
      have q0 := ord_gt hhv (Nat.zero_le _) (by omega : 0 < (hv ys).2)
      go_enter Try.func83, Try.ntmps83
      go_wp2_with (first
        | (go_at_call 115; (with_reducible refine (pwithin_any _ _ _).mono ?_); rintro e w' ⟨rfl, rfl⟩; rw [hd])
        | (go_at_call 116; (with_reducible refine (pfin_len HL.out (by omega) hcd hxd).mono ?_); rintro e w' ⟨rfl, rfl⟩; rw [h3])
        | (go_at_call 117; (with_reducible refine (pheav_len HL.out (by omega) hcd hxd h3).mono ?_); rintro e w' ⟨m, rfl, rfl⟩))
      go_ret2
      exact ⟨m, by first | rfl | (congr 3; go_num), rfl⟩

end Go.Proofs.Ytklbgibhbnijaaa

namespace Go.Proofs.Ytklbgibhbnijaaa
open Fl RowKit

def iat (zs : List Int) (k : Nat) : Int := zs.getD k 0
theorem iat_lt {zs : List Int} {k : Nat} (h : k < zs.length) : zs[k]? = some (iat zs k) := by simp [iat, List.getD_eq_getElem?_getD, h]
theorem iat_ext {xs ys : List Int} (hl : xs.length = ys.length) (h : ∀ k, k < xs.length → iat xs k = iat ys k) : xs = ys := by
  apply List.ext_getElem?
  intro k
  by_cases hk : k < xs.length
  · rw [iat_lt hk, iat_lt (hl ▸ hk), h k hk]
  · rw [List.getElem?_eq_none (by omega), List.getElem?_eq_none (by omega)]
theorem iat_set (zs : List Int) (i : Nat) (v : Int) (k : Nat) (hi : i < zs.length) : iat (zs.set i v) k = if k = i then v else iat zs k := by
  unfold iat
  rw [List.getD_eq_getElem?_getD, List.getD_eq_getElem?_getD, List.getElem?_set]
  by_cases h : i = k
  · subst h; simp [hi]
  · rw [if_neg h, if_neg (fun e => h e.symm)]
/-- how many of the first k are v -/
def cI (zs : List Int) (v : Int) : Nat → Nat
  | 0 => 0
  | k + 1 => cI zs v k + if iat zs k = v then 1 else 0
theorem cI_0 {zs : List Int} {v : Int} {k : Nat} : cI zs v k = 0 ↔ ∀ j, j < k → iat zs j ≠ v := by
  induction k with
  | zero => exact ⟨fun _ j hj => by omega, fun _ => rfl⟩
  | succ k ih =>
    unfold cI
    constructor
    · intro h j hj
      by_cases e : j = k
      · subst e
        intro c
        rw [if_pos c] at h
        omega
      · exact ih.1 (by omega) j (by omega)
    · intro h
      rw [ih.2 (fun j hj => h j (by omega)), if_neg (h k (by omega))]
theorem cI_mono (zs : List Int) (v : Int) {a b : Nat} (h : a ≤ b) : cI zs v a ≤ cI zs v b := by
  induction b with
  | zero => have : a = 0 := by omega
            subst this; exact Nat.le_refl _
  | succ b ih =>
    by_cases e : a = b + 1
    · subst e; exact Nat.le_refl _
    · have := ih (by omega)
      show _ ≤ cI zs v b + _
      omega
/-- are the first k in range, each new? -/
def ordK (zs : List Int) : Nat → Bool
  | 0 => true
  | k + 1 => ordK zs k && (decide (0 ≤ iat zs k ∧ iat zs k < (zs.length : Int)) && decide (cI zs (iat zs k) k = 0))
structure Ord (zs : List Int) : Prop where
  rng : ∀ j, j < zs.length → 0 ≤ iat zs j ∧ iat zs j < (zs.length : Int)
  inj : ∀ i j, i < zs.length → j < zs.length → iat zs i = iat zs j → i = j
theorem ordK_upto {zs : List Int} {k : Nat} : ordK zs k = true ↔ (∀ j, j < k → 0 ≤ iat zs j ∧ iat zs j < (zs.length : Int)) ∧ ∀ i j, i < j → j < k → iat zs i ≠ iat zs j := by
  induction k with
  | zero => exact ⟨fun _ => ⟨fun j hj => by omega, fun i j _ hj => by omega⟩, fun _ => rfl⟩
  | succ k ih =>
    unfold ordK
    rw [Bool.and_eq_true, Bool.and_eq_true, ih, decide_eq_true_eq, decide_eq_true_eq, cI_0]
    constructor
    · rintro ⟨⟨h1, h2⟩, h3, h4⟩
      refine ⟨fun j hj => ?_, fun i j hij hj => ?_⟩
      · by_cases e : j = k
        · subst e; exact h3
        · exact h1 j (by omega)
      · by_cases e : j = k
        · subst e; exact h4 i hij
        · exact h2 i j hij (by omega)
    · rintro ⟨h1, h2⟩
      exact ⟨⟨fun j hj => h1 j (by omega), fun i j hij hj => h2 i j hij (by omega)⟩, h1 k (by omega), fun j hj => h2 j k hj (by omega)⟩
theorem ordK_iff {zs : List Int} : ordK zs zs.length = true ↔ Ord zs := by
  rw [ordK_upto]
  constructor
  · rintro ⟨h1, h2⟩
    refine ⟨h1, fun i j hi hj e => ?_⟩
    rcases Nat.lt_trichotomy i j with c | c | c
    · exact absurd e (h2 i j c hj)
    · exact c
    · exact absurd e.symm (h2 j i c hi)
  · intro h
    exact ⟨h.rng, fun i j hij hj e => by have := h.inj i j (by omega) hj e; omega⟩
theorem ordK_false {zs : List Int} {k : Nat} (h : ordK zs (k + 1) = false) : ∀ n, k < n → ordK zs n = false := by
  intro n hn
  cases hh : ordK zs n
  · rfl
  · obtain ⟨h1, h2⟩ := ordK_upto.1 hh
    rw [ordK_upto.2 ⟨fun j hj => h1 j (by omega), fun i j hij hj => h2 i j hij (by omega)⟩] at h
    cases h
def rfE (zs : List Int) : Int := if 64 < zs.length then 3 else if ordK zs zs.length = true then 0 else 2
theorem rfE_0 {zs : List Int} : rfE zs = 0 ↔ zs.length ≤ 64 ∧ Ord zs := by
  unfold rfE
  by_cases h : 64 < zs.length
  · rw [if_pos h]
    exact ⟨fun c => (by cases c), fun c => (by omega)⟩
  · rw [if_neg h]
    by_cases k : ordK zs zs.length = true
    · rw [if_pos k]
      exact ⟨fun _ => ⟨by omega, ordK_iff.1 k⟩, fun _ => rfl⟩
    · rw [if_neg k]
      exact ⟨fun c => (by cases c), fun c => absurd (ordK_iff.2 c.2) k⟩
/-- sums -/
def sN (f : Nat → Nat) : Nat → Nat
  | 0 => 0
  | k + 1 => sN f k + f k
theorem sN_le {f : Nat → Nat} {n : Nat} (h : ∀ i, i < n → f i ≤ 1) : sN f n ≤ n := by
  induction n with
  | zero => exact Nat.le_refl _
  | succ n ih =>
    have := ih (fun i hi => h i (by omega))
    have := h n (by omega)
    unfold sN; omega
theorem sN_full {f : Nat → Nat} {n : Nat} (h : ∀ i, i < n → f i ≤ 1) (hs : sN f n = n) : ∀ i, i < n → f i = 1 := by
  induction n with
  | zero => intro i hi; omega
  | succ n ih =>
    have h1 := sN_le (f := f) (n := n) (fun i hi => h i (by omega))
    have h2 := h n (by omega)
    have h3 : sN f n + f n = n + 1 := hs
    intro i hi
    by_cases e : i = n
    · subst e; omega
    · exact ih (fun i hi => h i (by omega)) (by omega) i (by omega)
theorem sN_ones {f : Nat → Nat} {n : Nat} (h : ∀ i, i < n → f i = 1) : sN f n = n := by
  induction n with
  | zero => rfl
  | succ n ih => unfold sN; rw [ih (fun i hi => h i (by omega)), h n (by omega)]
theorem sN_hit (v : Int) (n : Nat) : sN (fun i => if v = (i : Int) then 1 else 0) n = if 0 ≤ v ∧ v < (n : Int) then 1 else 0 := by
  induction n with
  | zero => unfold sN; rw [if_neg (by omega)]
  | succ n ih =>
    unfold sN
    rw [ih]
    by_cases h : v = (n : Int)
    · rw [if_neg (by omega), if_pos h, if_pos (by omega)]
    · rw [if_neg h, Nat.add_zero]
      by_cases c : 0 ≤ v ∧ v < (n : Int)
      · rw [if_pos c, if_pos (by omega)]
      · rw [if_neg c, if_neg (by omega)]
theorem sN_add (f g : Nat → Nat) (n : Nat) : sN (fun i => f i + g i) n = sN f n + sN g n := by
  induction n with
  | zero => rfl
  | succ n ih => unfold sN; rw [ih]; omega
/-- all numbers that are counted, and all places in range: the same sum -/
theorem sum_both (zs : List Int) (n k : Nat) : sN (fun v => cI zs (v : Int) k) n = sN (fun j => if 0 ≤ iat zs j ∧ iat zs j < (n : Int) then 1 else 0) k := by
  induction k with
  | zero =>
    have : ∀ m, sN (fun v => cI zs (v : Int) 0) m = 0 := by
      intro m
      induction m with
      | zero => rfl
      | succ m ih => unfold sN; rw [ih]; rfl
    exact this n
  | succ k ih =>
    show sN (fun v => cI zs (v : Int) k + if iat zs k = (v : Int) then 1 else 0) n = sN _ k + _
    rw [sN_add, ih, sN_hit]
/-- has it each number once? -/
def oR (zs : List Int) : Nat → Bool
  | 0 => true
  | v + 1 => oR zs v && decide (cI zs (v : Int) zs.length = 1)
theorem oR_iff {zs : List Int} {k : Nat} : oR zs k = true ↔ ∀ v : Nat, v < k → cI zs (v : Int) zs.length = 1 := by
  induction k with
  | zero => exact ⟨fun _ v hv => by omega, fun _ => rfl⟩
  | succ k ih =>
    unfold oR
    rw [Bool.and_eq_true, ih, decide_eq_true_eq]
    constructor
    · rintro ⟨h1, h2⟩ v hv
      by_cases e : v = k
      · subst e; exact h2
      · exact h1 v (by omega)
    · intro h
      exact ⟨fun v hv => h v (by omega), h k (by omega)⟩
theorem cI_le {zs : List Int} {k : Nat} (h : ∀ i j, i < j → j < k → iat zs i ≠ iat zs j) (v : Int) : cI zs v k ≤ 1 := by
  induction k with
  | zero => exact Nat.zero_le _
  | succ k ih =>
    have := ih (fun i j a b => h i j a (by omega))
    unfold cI
    by_cases e : iat zs k = v
    · rw [if_pos e, cI_0.2 (fun j hj => by rw [← e]; exact h j k hj (by omega))]
      omega
    · rw [if_neg e]; omega
theorem oR_ord {zs : List Int} : oR zs zs.length = true ↔ Ord zs := by
  rw [oR_iff]
  constructor
  · intro h
    have hs := sum_both zs zs.length zs.length
    rw [sN_ones h] at hs
    have h1 := sN_full (f := fun j => if 0 ≤ iat zs j ∧ iat zs j < (zs.length : Int) then 1 else 0) (n := zs.length) (fun i _ => by show (if _ then 1 else 0) ≤ 1; split <;> omega) hs.symm
    have hr : ∀ j, j < zs.length → 0 ≤ iat zs j ∧ iat zs j < (zs.length : Int) := by
      intro j hj
      have h2 := h1 j hj
      by_cases c : 0 ≤ iat zs j ∧ iat zs j < (zs.length : Int)
      · exact c
      · have h3 : (if 0 ≤ iat zs j ∧ iat zs j < (zs.length : Int) then 1 else 0) = 1 := h2
        rw [if_neg c] at h3; omega
    refine ordK_iff.1 (ordK_upto.2 ⟨hr, fun i j hij hj e => ?_⟩)
    obtain ⟨r1, r2⟩ := hr j hj
    have h2 := h (iat zs j).toNat (by omega)
    rw [Int.toNat_of_nonneg r1] at h2
    have h3 := cI_mono zs (iat zs j) (show j + 1 ≤ zs.length by omega)
    have h4 : cI zs (iat zs j) (j + 1) = cI zs (iat zs j) j + 1 := by
      show cI zs (iat zs j) j + (if iat zs j = iat zs j then 1 else 0) = _
      rw [if_pos rfl]
    have h5 : cI zs (iat zs j) j = 0 := by omega
    exact cI_0.1 h5 i hij e
  · intro h v hv
    have hd : ∀ i j, i < j → j < zs.length → iat zs i ≠ iat zs j := fun i j a b e => by have := h.inj i j (by omega) b e; omega
    have hs := sum_both zs zs.length zs.length
    rw [sN_ones (f := fun j => if 0 ≤ iat zs j ∧ iat zs j < (zs.length : Int) then 1 else 0) (fun i hi => if_pos (h.rng i hi))] at hs
    exact sN_full (f := fun v => cI zs (v : Int) zs.length) (fun i _ => cI_le hd _) hs v hv
theorem oR_ordK (zs : List Int) : oR zs zs.length = ordK zs zs.length := by
  cases h : ordK zs zs.length
  · cases k : oR zs zs.length
    · rfl
    · rw [ordK_iff.2 (oR_ord.1 k)] at h; cases h
  · exact oR_ord.2 (ordK_iff.1 h)

end Go.Proofs.Ytklbgibhbnijaaa

namespace Go.Proofs.Ytklbgibhbnijaaa
open Fl RowKit

/-- two places exchanged -/
def sw (zs : List Int) (i j : Nat) : List Int := (zs.set i (iat zs j)).set j (iat zs i)
theorem sw_len (zs : List Int) (i j : Nat) : (sw zs i j).length = zs.length := by simp [sw]
theorem iat_sw {zs : List Int} {i j : Nat} (hi : i < zs.length) (hj : j < zs.length) (k : Nat) : iat (sw zs i j) k = if k = j then iat zs i else if k = i then iat zs j else iat zs k := by
  unfold sw
  rw [iat_set _ _ _ _ (by simpa using hj)]
  by_cases h : k = j
  · rw [if_pos h, if_pos h]
  · rw [if_neg h, if_neg h, iat_set _ _ _ _ hi]
theorem sw_self {zs : List Int} {i : Nat} (hi : i < zs.length) : sw zs i i = zs := by
  refine iat_ext (sw_len _ _ _) (fun k _ => ?_)
  rw [iat_sw hi hi]
  by_cases h : k = i
  · rw [if_pos h, h]
  · rw [if_neg h, if_neg h]
theorem sw_comm {zs : List Int} {i j : Nat} (hi : i < zs.length) (hj : j < zs.length) : sw zs i j = sw zs j i := by
  refine iat_ext (by rw [sw_len, sw_len]) (fun k _ => ?_)
  rw [iat_sw hi hj, iat_sw hj hi]
  by_cases h : k = j
  · by_cases g : k = i
    · rw [if_pos h, if_pos g, ← h, ← g]
    · rw [if_pos h, if_neg g, if_pos h]
  · by_cases g : k = i
    · rw [if_neg h, if_pos g, if_pos g]
    · rw [if_neg h, if_neg g, if_neg g, if_neg h]
theorem sw_sw {zs : List Int} {i j : Nat} (hi : i < zs.length) (hj : j < zs.length) : sw (sw zs i j) i j = zs := by
  refine iat_ext (by rw [sw_len, sw_len]) (fun k _ => ?_)
  rw [iat_sw (by rw [sw_len]; exact hi) (by rw [sw_len]; exact hj), iat_sw hi hj, iat_sw hi hj, iat_sw hi hj]
  by_cases h : k = j
  · rw [if_pos h]
    by_cases g : i = j
    · rw [if_pos g, h, g]
    · rw [if_neg g, if_pos rfl, h]
  · rw [if_neg h]
    by_cases g : k = i
    · rw [if_pos g, if_pos rfl, g]
    · rw [if_neg g, if_neg h, if_neg g]
theorem Ord.sw {zs : List Int} (h : Ord zs) {i j : Nat} (hi : i < zs.length) (hj : j < zs.length) : Ord (sw zs i j) := by
  have key : ∀ k, k < zs.length → ∃ k', k' < zs.length ∧ iat (Go.Proofs.Ytklbgibhbnijaaa.sw zs i j) k = iat zs k' ∧ (k' = if k = j then i else if k = i then j else k) := by
    intro k hk
    rw [iat_sw hi hj]
    by_cases a : k = j
    · exact ⟨i, hi, if_pos a, (if_pos a).symm⟩
    · by_cases b : k = i
      · exact ⟨j, hj, by rw [if_neg a, if_pos b], by rw [if_neg a, if_pos b]⟩
      · exact ⟨k, hk, by rw [if_neg a, if_neg b], by rw [if_neg a, if_neg b]⟩
  refine ⟨?_, ?_⟩
  · intro k hk
    rw [sw_len] at hk ⊢
    obtain ⟨k', h1, h2, _⟩ := key k hk
    rw [h2]; exact h.rng k' h1
  · intro a b ha hb e
    rw [sw_len] at ha hb
    obtain ⟨a', h1, h2, h3⟩ := key a ha
    obtain ⟨b', h4, h5, h6⟩ := key b hb
    rw [h2, h5] at e
    have := h.inj a' b' h1 h4 e
    rw [h3, h6] at this
    split at this <;> split at this <;> (try split at this) <;> (try split at this) <;> omega
/-- counts -/
def cl (x : Int) : List Int → Nat
  | [] => 0
  | y :: l => (if y < x then 1 else 0) + cl x l
def cg (x : Int) : List Int → Nat
  | [] => 0
  | y :: l => (if x < y then 1 else 0) + cg x l
def invL : List Int → Nat
  | [] => 0
  | x :: l => cl x l + invL l
def crs : List Int → List Int → Nat
  | [], _ => 0
  | a :: A, D => cl a D + crs A D
theorem cl_append (x : Int) (A B : List Int) : cl x (A ++ B) = cl x A + cl x B := by
  induction A with
  | nil => exact (Nat.zero_add _).symm
  | cons a A ih => show _ + cl x (A ++ B) = _ + cl x A + _; rw [ih]; omega
theorem inv_append (A D : List Int) : invL (A ++ D) = invL A + crs A D + invL D := by
  induction A with
  | nil => show invL D = 0 + 0 + invL D; omega
  | cons a A ih =>
    show cl a (A ++ D) + invL (A ++ D) = cl a A + invL A + (cl a D + crs A D) + invL D
    rw [ih, cl_append]; omega
theorem crs_cons (A : List Int) (y : Int) (D : List Int) : crs A (y :: D) = cg y A + crs A D := by
  induction A with
  | nil => rfl
  | cons a A ih =>
    show (if y < a then 1 else 0) + cl a D + crs A (y :: D) = (if y < a then 1 else 0) + cg y A + (cl a D + crs A D)
    rw [ih]; omega
theorem crs_append (A D E : List Int) : crs A (D ++ E) = crs A D + crs A E := by
  induction A with
  | nil => rfl
  | cons a A ih =>
    show cl a (D ++ E) + crs A (D ++ E) = cl a D + crs A D + (cl a E + crs A E)
    rw [ih, cl_append]; omega
theorem cl_cg {x : Int} {B : List Int} (h : ∀ b, b ∈ B → b ≠ x) : cl x B + cg x B = B.length := by
  induction B with
  | nil => rfl
  | cons b B ih =>
    have h1 := ih (fun c hc => h c (List.mem_cons_of_mem _ hc))
    have h2 := h b (List.mem_cons_self)
    show (if b < x then 1 else 0) + cl x B + ((if x < b then 1 else 0) + cg x B) = B.length + 1
    by_cases c : b < x
    · rw [if_pos c, if_neg (by omega)]; omega
    · rw [if_neg c, if_pos (by omega)]; omega
theorem inv_swap (A B C : List Int) (x y : Int) (hxy : x ≠ y) (hx : ∀ b, b ∈ B → b ≠ x) (hy : ∀ b, b ∈ B → b ≠ y) :
    (invL (A ++ x :: (B ++ y :: C)) + invL (A ++ y :: (B ++ x :: C))) % 2 = 1 := by
  have e : ∀ x y : Int, invL (A ++ x :: (B ++ y :: C)) = invL A + (cg x A + (crs A B + (cg y A + crs A C))) + ((cl x B + ((if y < x then 1 else 0) + cl x C)) + (invL B + (cg y B + crs B C) + (cl y C + invL C))) := by
    intro x y
    rw [inv_append, crs_cons, crs_append, crs_cons]
    show _ + (cl x (B ++ y :: C) + invL (B ++ y :: C)) = _
    rw [cl_append, inv_append, crs_cons]
    rfl
  rw [e x y, e y x]
  have h1 := cl_cg hx
  have h2 := cl_cg hy
  by_cases c : y < x
  · rw [if_pos c, if_neg (by omega)]; omega
  · rw [if_neg c, if_pos (by omega)]; omega
theorem split2 {l : List Int} {i j : Nat} (hij : i < j) (hj : j < l.length) : ∃ A B C, l = A ++ iat l i :: (B ++ iat l j :: C) ∧ A.length = i ∧ B.length = j - i - 1 := by
  have e1 : l.drop i = iat l i :: l.drop (i + 1) := by
    rw [List.drop_eq_getElem_cons (by omega)]
    congr 1
    simp [iat, List.getD_eq_getElem?_getD, show i < l.length by omega]
  have e2 : l.drop j = iat l j :: l.drop (j + 1) := by
    rw [List.drop_eq_getElem_cons hj]
    congr 1
    simp [iat, List.getD_eq_getElem?_getD, hj]
  refine ⟨l.take i, (l.drop (i + 1)).take (j - i - 1), l.drop (j + 1), ?_, by simp; omega, by simp; omega⟩
  have e3 : l.drop (i + 1) = (l.drop (i + 1)).take (j - i - 1) ++ l.drop j := by
    have := (List.take_append_drop (j - i - 1) (l.drop (i + 1))).symm
    rw [List.drop_drop, show i + 1 + (j - i - 1) = j by omega] at this
    exact this
  rw [← e2, ← e3, ← e1, List.take_append_drop]
theorem iat_app1 {A D : List Int} {k : Nat} (h : k < A.length) : iat (A ++ D) k = iat A k := by
  unfold iat; rw [List.getD_eq_getElem?_getD, List.getD_eq_getElem?_getD, List.getElem?_append_left h]
theorem iat_app2 {A D : List Int} {k : Nat} (h : A.length ≤ k) : iat (A ++ D) k = iat D (k - A.length) := by
  unfold iat; rw [List.getD_eq_getElem?_getD, List.getD_eq_getElem?_getD, List.getElem?_append_right h]
theorem iat_cons0 {x : Int} {l : List Int} : iat (x :: l) 0 = x := rfl
theorem iat_cons {x : Int} {l : List Int} {k : Nat} (h : 0 < k) : iat (x :: l) k = iat l (k - 1) := by
  obtain ⟨m, rfl⟩ : ∃ m, k = m + 1 := ⟨k - 1, by omega⟩
  rfl
theorem iat_mid (A B C : List Int) (x y : Int) (k : Nat) : iat (A ++ x :: (B ++ y :: C)) k = if k < A.length then iat A k else if k = A.length then x else if k < A.length + 1 + B.length then iat B (k - A.length - 1) else if k = A.length + 1 + B.length then y else iat C (k - A.length - 1 - B.length - 1) := by
  by_cases h1 : k < A.length
  · rw [if_pos h1, iat_app1 h1]
  · rw [if_neg h1, iat_app2 (by omega)]
    by_cases h2 : k = A.length
    · rw [if_pos h2, h2, Nat.sub_self]; rfl
    · rw [if_neg h2, iat_cons (by omega)]
      by_cases h3 : k < A.length + 1 + B.length
      · rw [if_pos h3, iat_app1 (by omega)]
      · rw [if_neg h3, iat_app2 (by omega)]
        by_cases h4 : k = A.length + 1 + B.length
        · rw [if_pos h4, show k - A.length - 1 - B.length = 0 by omega]; rfl
        · rw [if_neg h4, iat_cons (by omega)]
theorem inv_sw_lt {l : List Int} (ho : Ord l) {i j : Nat} (hij : i < j) (hj : j < l.length) : (invL l + invL (sw l i j)) % 2 = 1 := by
  obtain ⟨A, B, C, hl, hA, hB⟩ := split2 hij hj
  have hi : i < l.length := by omega
  have hB' : ∀ k, k < B.length → iat B k = iat l (i + 1 + k) := by
    intro k hk
    have := iat_mid A B C (iat l i) (iat l j) (i + 1 + k)
    rw [← hl, if_neg (by omega), if_neg (by omega), if_pos (by omega), show i + 1 + k - A.length - 1 = k by omega] at this
    exact this.symm
  have hs : sw l i j = A ++ iat l j :: (B ++ iat l i :: C) := by
    have len : l.length = (A ++ iat l j :: (B ++ iat l i :: C)).length := by
      have := congrArg List.length hl
      simp at this ⊢
      omega
    refine iat_ext (by rw [sw_len]; exact len) (fun k _ => ?_)
    rw [iat_sw hi hj, iat_mid]
    have m := iat_mid A B C (iat l i) (iat l j) k
    rw [← hl] at m
    by_cases a : k = j
    · rw [if_pos a, if_neg (by omega), if_neg (by omega), if_neg (by omega), if_pos (by omega)]
    · rw [if_neg a]
      by_cases b : k = i
      · rw [if_pos b, if_neg (by omega), if_pos (by omega)]
      · rw [if_neg b, m]
        by_cases c1 : k < A.length
        · rw [if_pos c1, if_pos c1]
        · have n2 : ¬ k = A.length := by omega
          have n3 : ¬ k = A.length + 1 + B.length := by omega
          rw [if_neg c1, if_neg c1, if_neg n2, if_neg n2]
          by_cases c2 : k < A.length + 1 + B.length
          · rw [if_pos c2, if_pos c2]
          · rw [if_neg c2, if_neg c2, if_neg n3, if_neg n3]
  have hne : iat l i ≠ iat l j := fun e => by have := ho.inj i j hi hj e; omega
  have hm : ∀ b, b ∈ B → ∃ k, k < B.length ∧ b = iat l (i + 1 + k) := by
    intro b hb
    obtain ⟨k, hk, e⟩ := List.getElem_of_mem hb
    refine ⟨k, hk, ?_⟩
    rw [← hB' k hk, ← e]
    simp [iat, List.getD_eq_getElem?_getD, hk]
  have r := inv_swap A B C (iat l i) (iat l j) hne (by
    intro b hb e
    obtain ⟨k, hk, hb'⟩ := hm b hb
    rw [hb'] at e
    have := ho.inj _ _ (by omega) hi e
    omega) (by
    intro b hb e
    obtain ⟨k, hk, hb'⟩ := hm b hb
    rw [hb'] at e
    have := ho.inj _ _ (by omega) hj e
    omega)
  rw [← hl, ← hs] at r
  exact r
/-- the sign of an order -/
def sgL (zs : List Int) : Int := if invL zs % 2 = 0 then 1 else -1
theorem sg_sw {l : List Int} (ho : Ord l) {i j : Nat} (hi : i < l.length) (hj : j < l.length) (hne : i ≠ j) : sgL (sw l i j) = -sgL l := by
  have key : (invL l + invL (sw l i j)) % 2 = 1 := by
    rcases Nat.lt_or_gt_of_ne hne with h | h
    · exact inv_sw_lt ho h hj
    · rw [sw_comm hi hj]; exact inv_sw_lt ho h hi
  unfold sgL
  by_cases c : invL l % 2 = 0
  · rw [if_pos c, if_neg (by omega)]
  · rw [if_neg c, if_pos (by omega)]; rfl
theorem inv_rise {l : List Int} (h : ∀ k, k < l.length → iat l k = (k : Int)) : invL l = 0 := by
  have key : ∀ (m : Nat) (l : List Int) (b : Int), l.length = m → (∀ k, k < l.length → iat l k = b + (k : Int)) → invL l = 0 ∧ ∀ x, x < b → cl x l = 0 := by
    intro m
    induction m with
    | zero => intro l b hl _; cases l with
      | nil => exact ⟨rfl, fun _ _ => rfl⟩
      | cons a l => cases hl
    | succ m ih =>
      intro l b hl hh
      cases l with
      | nil => cases hl
      | cons a l =>
        have ha : a = b := by have := hh 0 (by simp); simpa [iat] using this
        have ht := ih l (b + 1) (by simpa using hl) (fun k hk => by
          have := hh (k + 1) (by simp; omega)
          have e : iat (a :: l) (k + 1) = iat l k := rfl
          rw [e] at this
          rw [this]; omega)
        refine ⟨?_, ?_⟩
        · show cl a l + invL l = 0
          rw [ht.1, ht.2 a (by omega)]
        · intro x hx
          show (if a < x then 1 else 0) + cl x l = 0
          rw [if_neg (by omega), ht.2 x (by omega)]
  exact (key l.length l 0 rfl (fun k hk => by rw [h k hk]; omega)).1
theorem sg_rise {l : List Int} (h : ∀ k, k < l.length → iat l k = (k : Int)) : sgL l = 1 := by unfold sgL; rw [inv_rise h]; rfl

end Go.Proofs.Ytklbgibhbnijaaa

namespace Go.Proofs.Ytklbgibhbnijaaa
open Fl RowKit

def ci (z : Int) : Value := .int .i64 z
/-- what a list of integers in memory reads as -/
def Qi (w : World) (ao : Option Addr) (zs : List Int) : Prop :=
  ∀ k, k < zs.length → ∃ b off, ao = some ⟨b, off, none⟩ ∧ b < w.heap.size ∧ w.cell? ⟨b, off + k, none⟩ = some (.int .i64 (iat zs k))
theorem Qi.below {w w' : World} {ao : Option Addr} {zs : List Int} (h : Qi w ao zs) (hb : Below w.heap.size w w') : Qi w' ao zs := by
  intro k hk
  obtain ⟨b, off, h1, h2, h3⟩ := h k hk
  exact ⟨b, off, h1, Nat.lt_of_lt_of_le h2 hb.size, (hb.cell (by exact h2)).trans h3⟩
theorem Qi.drewN {w : World} {ao : Option Addr} {zs : List Int} (h : Qi w ao zs) (n : Nat) : Qi (w.drewN n) ao zs := h
theorem Try.infoI : (Try.prog.info? 3).map (fun i => (i.zero, i.size, i.bytes)) = some (some (.int .i64 0), 1, 8) := by kernel_rfl
theorem Try.infoIs : (Try.prog.info? 3).map (·.size) = some 1 := by kernel_rfl
/-- a row of integers that is owned -/
structure Ir (w : World) (b : Nat) (v : Value) (n : Nat) (zs : List Int) : Prop where
  len : zs.length = n
  own : w.ownsRow b 3 1 v n (zs.map ci)
theorem Ir.below {w w' : World} {b n : Nat} {v : Value} {zs : List Int} (h : Ir w b v n zs) (hb : Below w.heap.size w w') : Ir w' b v n zs := ⟨h.len, own_below h.own hb⟩
theorem Ir.drewN {w : World} {b n : Nat} {v : Value} {zs : List Int} (h : Ir w b v n zs) (m : Nat) : Ir (w.drewN m) b v n zs := ⟨h.len, h.own⟩
theorem Ir.base {w : World} {b b' n : Nat} {v : Value} {zs : List Int} (h : Ir w b v n zs) (hb : b' ≤ b) : Ir w b' v n zs := ⟨h.len, own_base h.own hb⟩
theorem Ir.qi {w : World} {b g n c : Nat} {zs : List Int} (h : Ir w b (.slice (some ⟨g, 0, none⟩) n c) n zs) : Qi w (some ⟨g, 0, none⟩) zs := by
  obtain ⟨rfl, h2⟩ := h
  intro k hk
  refine ⟨g, 0, rfl, (h2.lt g rfl).2, ?_⟩
  rw [Nat.zero_add, h2.cellAt k (by omega), List.getElem?_map, iat_lt hk]; rfl
theorem Ir.lt {w : World} {b n g c : Nat} {zs : List Int} (h : Ir w b (.slice (some ⟨g, 0, none⟩) n c) n zs) : b ≤ g ∧ g < w.heap.size := h.own.lt g rfl
theorem Ir.set {w : World} {b g n c : Nat} {zs : List Int} (h : Ir w b (.slice (some ⟨g, 0, none⟩) n c) n zs) (k : Nat) (v : Int) : Ir (w.setCell ⟨g, k, none⟩ (.int .i64 v)) b (.slice (some ⟨g, 0, none⟩) n c) n (zs.set k v) := by
  refine ⟨by simpa using h.len, ?_⟩
  have := (h.own.stored k (ci v)).1
  rw [← List.map_set] at this
  exact this

theorem hid_o {p : Prop} (h : p) : Hid p := h
/-- which of the 64 stand already -/
structure St (w : World) (p : Nat) (zs : List Int) (k : Nat) : Prop where
  lt : p < w.heap.size
  cell : ∀ j, j < 64 → w.cell? ⟨p, j, none⟩ = some (.bool (decide (cI zs (j : Int) k ≠ 0)))
  frozen : ∀ j, w.frozen? ⟨p, j, none⟩ = false
theorem St.next {w : World} {p k v : Nat} {zs : List Int} (h : St w p zs k) (hv : iat zs k = (v : Int)) (h64 : v < 64) : St (w.setCell ⟨p, v, none⟩ (.bool true)) p zs (k + 1) := by
  refine ⟨by simpa using h.lt, ?_, ?_⟩
  · intro j hj
    by_cases e : j = v
    · subst e
      rw [World.cell?_setCell_same _ _ _ (h.cell j hj)]
      have : cI zs (j : Int) (k + 1) ≠ 0 := by
        show cI zs (j : Int) k + _ ≠ 0
        rw [if_pos hv]; omega
      rw [decide_eq_true this]
    · rw [World.cell?_setCell_other _ _ _ _ (by intro c; cases c; exact e rfl), h.cell j hj]
      have : cI zs (j : Int) (k + 1) = cI zs (j : Int) k := by
        show cI zs (j : Int) k + _ = _
        rw [if_neg (by rw [hv]; omega)]; rfl
      rw [this]
  · intro j
    simpa using h.frozen j
theorem st_new (w : World) (t : TypeId) (zs : List Int) (cs : Array Value) (h : cs = Array.replicate 64 (.bool false)) : St (w.alloc (.cells cs t)) w.heap.size zs 0 := by
  subst h
  refine ⟨by simp, ?_, by simp⟩
  intro j hj
  rw [World.cell?_alloc_new]
  simp [hj, cI]
theorem rf_3 {zs : List Int} (h : 64 < zs.length) : rfE zs = 3 := if_pos h
theorem rf_2 {zs : List Int} (h : ¬ 64 < zs.length) (k : ordK zs zs.length = false) : rfE zs = 2 := by unfold rfE; rw [if_neg h, if_neg (by rw [k]; decide)]
theorem rf_0 {zs : List Int} (h : ¬ 64 < zs.length) (k : ordK zs zs.length = true) : rfE zs = 0 := by unfold rfE; rw [if_neg h, if_pos k]
end Go.Proofs.Ytklbgibhbnijaaa

namespace Go.Proofs.Ytklbgibhbnijaaa
open Fl RowKit

theorem splice_all {cur cs : List Value} (h : cur.length = cs.length) : splice cur 0 cs = cs := by
  unfold splice
  rw [List.take_zero, List.nil_append, Nat.zero_add, ← h, List.drop_length, List.append_nil]
theorem ir_of {w : World} {b g n : Nat} {zs : List Int} (hn : zs.length = n) (hm : n ≤ maxLen) (hb : b ≤ g) (h : w.heap[g]? = some (.cells (zs.map ci).toArray 3 (0, 0))) : Ir w b (.slice (some ⟨g, 0, none⟩) n n) n zs := by
  refine ⟨hn, by simp [hn], .inr ⟨g, n, _, rfl, hb, h, Nat.le_refl _, hm, by simp [hn], ?_⟩⟩
  rw [List.toList_toArray, Nat.mul_one]
  exact List.take_of_length_le (by simp [hn])
theorem src_at {w : World} {ao : Option Addr} {zs : List Int} (hc : Qi w ao zs) (h0 : 0 < (zs.map ci).length) : ∃ ad, ao = some ad ∧ ∀ j v, (zs.map ci)[j]? = some v → w.cell? (ad.add j) = some v := by
  rw [List.length_map] at h0
  obtain ⟨b, off, rfl, _, _⟩ := hc 0 h0
  refine ⟨_, rfl, fun j v hj => ?_⟩
  rw [List.getElem?_map] at hj
  by_cases hk : j < zs.length
  · rw [iat_lt hk] at hj
    cases hj
    obtain ⟨b', off', h1, _, h3⟩ := hc j hk
    cases h1
    unfold Addr.add
    split
    · rename_i e0
      rw [e0, Nat.add_zero] at h3
      rw [e0]; exact h3
    · exact h3
  · rw [List.getElem?_eq_none (by omega)] at hj; cases hj
theorem one_ci {zs : List Int} : ∀ v ∈ zs.map ci, v.oneCell' = true := by
  intro v hv
  obtain ⟨z, _, rfl⟩ := List.mem_map.1 hv
  rfl
theorem made_cur {w : World} {g n : Nat} {xs : List Value} (h : w.ownsRow g 3 1 (.slice (some ⟨g, 0, none⟩) n n) n xs) : ∃ cur : List Value, w.heap[g]? = some (.cells cur.toArray 3 (0, 0)) ∧ cur.length = n := by
  rcases h.2 with ⟨hv, _⟩ | ⟨g', cap, cur, hv, _, hg, _, _, hsz, _⟩
  · cases hv
  · cases hv
    exact ⟨cur.toList, by rw [hg], by rw [Array.length_toList, hsz, Nat.mul_one]⟩
end Go.Proofs.Ytklbgibhbnijaaa

namespace Go.Proofs.Ytklbgibhbnijaaa
open Fl RowKit

/-- how many cells of a row do not hold their own places -/
def misc (w : World) (g j : Nat) : Nat :=
  match w.cell? ⟨g, j, none⟩ with
  | some (.int .i64 v) => if v = (j : Int) then 0 else 1
  | _ => 1
def mis (w : World) (g n : Nat) : Nat := sN (misc w g) n
theorem sN_congr {f h : Nat → Nat} {n : Nat} (e : ∀ i, i < n → f i = h i) : sN f n = sN h n := by
  induction n with
  | zero => rfl
  | succ n ih => unfold sN; rw [ih (fun i hi => e i (by omega)), e n (by omega)]
theorem mis_eq {w : World} {b g n c : Nat} {ys : List Int} (h : Ir w b (.slice (some ⟨g, 0, none⟩) n c) n ys) : mis w g n = sN (fun j => if iat ys j = (j : Int) then 0 else 1) n := by
  unfold mis
  refine sN_congr (fun j hj => ?_)
  obtain ⟨b', o', e1, _, e3⟩ := h.qi j (by rw [h.len]; exact hj)
  cases e1
  rw [Nat.zero_add] at e3
  unfold misc
  rw [e3]
theorem sN_less {f h : Nat → Nat} {n v : Nat} (hv : v < n) (hlt : f v < h v) (hle : ∀ i, i < n → f i ≤ h i) : sN f n < sN h n := by
  have le : ∀ m, m ≤ n → sN f m ≤ sN h m := by
    intro m
    induction m with
    | zero => intro _; exact Nat.le_refl _
    | succ m ih => intro hm; have := ih (by omega); have := hle m (by omega); unfold sN; omega
  induction n with
  | zero => omega
  | succ n ih =>
    by_cases e : v = n
    · subst e
      have := le v (by omega)
      unfold sN; omega
    · have := ih (by omega) (fun i hi => hle i (by omega)) (fun m hm => le m (by omega))
      have := hle n (by omega)
      unfold sN; omega
theorem mis_less {ys : List Int} (ho : Ord ys) {k v : Nat} (hk : k < ys.length) (hv : iat ys k = (v : Int)) (hne : v ≠ k) : sN (fun j => if iat (sw ys k v) j = (j : Int) then 0 else 1) ys.length < sN (fun j => if iat ys j = (j : Int) then 0 else 1) ys.length := by
  have hvl : v < ys.length := by have := (ho.rng k hk).2; rw [hv] at this; omega
  refine sN_less hvl ?_ ?_
  · show (if iat (sw ys k v) v = (v : Int) then 0 else 1) < (if iat ys v = (v : Int) then 0 else 1)
    rw [iat_sw hk hvl, if_pos rfl, if_pos hv, if_neg (fun e => hne (ho.inj v k hvl hk (by rw [e, hv])))]
    omega
  · intro i _
    show (if iat (sw ys k v) i = (i : Int) then 0 else 1) ≤ (if iat ys i = (i : Int) then 0 else 1)
    rw [iat_sw hk hvl]
    by_cases a : i = v
    · rw [if_pos a, if_pos (by rw [hv, a])]; omega
    · rw [if_neg a]
      by_cases b : i = k
      · rw [if_pos b, if_neg (show ¬ iat ys i = (i : Int) by rw [b, hv]; omega)]
        split <;> omega
      · rw [if_neg b]; exact Nat.le_refl _
def paI (zs : List Int) : Int := if rfE zs = 0 then sgL zs else 0
theorem sg_pm (zs : List Int) : sgL zs = 1 ∨ sgL zs = -1 := by unfold sgL; split <;> simp
theorem only_below {B g : Nat} {w0 w w' : World} (h : Below B w0 w) (ho : OnlyRow g w w') (hg : B ≤ g) : Below B w0 w' :=
  h.trans ⟨ho.os, ho.tape, ho.output, Nat.le_of_eq ho.size.symm, fun k hk => ho.block k (by omega)⟩
def swE (zs : List Int) (i j : Int) : Int := if ¬ rfE zs = 0 then rfE zs else if ¬ (0 ≤ i ∧ i < (zs.length : Int)) ∨ ¬ (0 ≤ j ∧ j < (zs.length : Int)) then 2 else 0
end Go.Proofs.Ytklbgibhbnijaaa

namespace Go.Proofs.Ytklbgibhbnijaaa
open Fl RowKit

set_option maxHeartbeats 1000000 in
theorem ksameI (ao bo : Option Addr) (ca cb n : Nat) (xs : List Int) (w : World) (hn : xs.length = n) (hsz : n * 8 ≤ 140737488355328) (hc : Qi w ao xs) (hd : Qi w bo xs) :
    Calls Try.prog 39 #[.slice ao n ca, .slice bo n cb] w fun e w' => ∃ m, e = .returned (.bool true) ∧ w' = w.drewN m := by
  go_enter Try.func39, Try.ntmps39
  go_wp2
  go_loopw [5] (fun i wr => ∃ (k m : Nat), k ≤ n ∧ i = .int .i64 k ∧ wr = w.drewN m) (fun i _ => n - (intOf i).toNat)
  case atStart => exact ⟨0, 0, Nat.zero_le _, rfl, rfl⟩
  case round =>
    obtain ⟨k, m, hk, rfl, hw⟩ := hrel
    by_cases hlt : k < n
    · obtain ⟨b, off, rfl, hb, hcx⟩ := hc.drewN m k (by omega)
      obtain ⟨b2, off2, rfl, hb2, hcy⟩ := hd.drewN m k (by omega)
      rw [← hw] at hb hcx hb2 hcy
      have HW := hid_o hw
      obtain ⟨x, hxe⟩ : ∃ x, x = iat xs k := ⟨_, rfl⟩
      rw [← hxe] at hcx hcy
      clear hxe hc hd hw
      go_wp2
      go_region
      all_goals
        go_wp2
        go_roundw
        case measure => simp [intOf]; omega
        case rel => exact ⟨k + 1, _, by omega, by go_num, by rw [HW.out]; first | rfl | exact World.drewN_drewN w m 1⟩
    · have HW := hid_o hw
      clear hc hd hw
      go_wp2
      go_ret
      exact ⟨m, rfl, HW.out⟩

end Go.Proofs.Ytklbgibhbnijaaa
