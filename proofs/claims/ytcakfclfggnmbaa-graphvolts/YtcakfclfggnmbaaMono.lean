/-
  Rounding keeps the order; what a product, sum, quotient or root of words without a sign is, rounded once, and how it stands to a comparison; nothing of any program's text.
-/
import Derived.Test.YtcakfclfggnmbaaMr
namespace Go.Proofs.Ytcakfclfggnmbaa
open Fl

theorem rne_mono {n n' : Nat} (d : Nat) (h : n ≤ n') : rne n d ≤ rne n' d := by
  unfold rne
  have hp := Nat.two_pow_pos d
  have e1 := Nat.div_add_mod n (2 ^ d)
  have e2 := Nat.div_add_mod n' (2 ^ d)
  have h1 := Nat.mod_lt n hp
  have h2 := Nat.mod_lt n' hp
  have hd : n / 2 ^ d ≤ n' / 2 ^ d := Nat.div_le_div_right h
  rcases Nat.lt_or_ge (n / 2 ^ d) (n' / 2 ^ d) with hlt | hge
  · split <;> split <;> omega
  · have he : n / 2 ^ d = n' / 2 ^ d := by omega
    rw [he] at e1 ⊢
    generalize n' / 2 ^ d = q at *
    generalize n % 2 ^ d = r at *
    generalize n' % 2 ^ d = r' at *
    generalize 2 ^ d * q = y at *
    have hr : r ≤ r' := by omega
    split <;> split <;> omega
theorem rne_le {n d : Nat} (h : n < 2 ^ (d + 53)) : rne n d ≤ 2 ^ 53 := by
  unfold rne
  have : n / 2 ^ d < 2 ^ 53 := by
    rw [Nat.div_lt_iff_lt_mul (Nat.two_pow_pos _), Nat.mul_comm, ← Nat.pow_add]; exact h
  split <;> omega
theorem rne_ge {n d : Nat} (h : 2 ^ (d + 52) ≤ n) : 2 ^ 52 ≤ rne n d := by
  unfold rne
  have : 2 ^ 52 ≤ n / 2 ^ d := by
    rw [Nat.le_div_iff_mul_le (Nat.two_pow_pos _), Nat.mul_comm, ← Nat.pow_add]; exact h
  omega
theorem word_false (r : Nat) : Ieee.double.word false r = r := rfl
/-- The rung nearest to m times 2 to the power p. -/
def nr (m : Nat) (p : Int) : Nat := Ieee.double.nearest false m p
theorem nr_shift (m k : Nat) (p : Int) : nr (m * 2 ^ k) (p - (k : Int)) = nr m p := nearest_shift false m k p
theorem nr_zero (p : Int) : nr 0 p = 0 := nearest_zero false p
theorem nr_eq1 {m : Nat} (h : ¬ m = 0) (p : Int) : Ieee.double.nearest false m p = Ieee.double.word false (min ((max (p + (m.log2 : Int) - (Ieee.double.fractionBits : Int)) Ieee.double.leastPlace - Ieee.double.leastPlace).toNat * Ieee.double.binade + Ieee.Toward.even.cut false (m <<< (p - max (p + (m.log2 : Int) - (Ieee.double.fractionBits : Int)) Ieee.double.leastPlace).toNat) (max (p + (m.log2 : Int) - (Ieee.double.fractionBits : Int)) Ieee.double.leastPlace - p).toNat) Ieee.double.infRung) := by
  unfold Ieee.Format.nearest; rw [if_neg h]
theorem nr_eq {m : Nat} (h : 0 < m) {p L : Int} (hL : L = max (p + (m.log2 : Int) - 52) (-1074)) : nr m p = min ((L + 1074).toNat * 4503599627370496 + rne (m * 2 ^ (p - L).toNat) (L - p).toNat) 9218868437227405312 := by
  unfold nr
  rw [nr_eq1 (by omega)]
  have hf : (Ieee.double.fractionBits : Int) = 52 := rfl
  rw [hf, d_least, ← hL, d_bin, d_inf, word_false, cut_rne, Nat.shiftLeft_eq]
  have hk : L - -1074 = L + 1074 := by omega
  rw [hk]
theorem nr_mono {m m' : Nat} (p : Int) (h : m ≤ m') : nr m p ≤ nr m' p := by
  rcases Nat.eq_zero_or_pos m with h0 | h0
  · subst h0; rw [nr_zero]; exact Nat.zero_le _
  · have h0' : 0 < m' := by omega
    have hl : m.log2 ≤ m'.log2 := by
      have b1 := (log2_bd h0).1
      have b2 := (log2_bd h0').2
      have : 2 ^ m.log2 < 2 ^ (m'.log2 + 1) := by omega
      have := (Nat.pow_lt_pow_iff_right (by omega : 1 < 2)).1 this
      omega
    have bm := log2_bd h0
    have bm' := log2_bd h0'
    obtain ⟨L, hL⟩ : ∃ L, L = max (p + (m.log2 : Int) - 52) (-1074) := ⟨_, rfl⟩
    obtain ⟨L', hL'⟩ : ∃ L', L' = max (p + (m'.log2 : Int) - 52) (-1074) := ⟨_, rfl⟩
    rw [nr_eq h0 hL, nr_eq h0' hL']
    have hLL : L ≤ L' := by omega
    have key : (L + 1074).toNat * 4503599627370496 + rne (m * 2 ^ (p - L).toNat) (L - p).toNat ≤ (L' + 1074).toNat * 4503599627370496 + rne (m' * 2 ^ (p - L').toNat) (L' - p).toNat := by
      rcases Int.lt_or_le L L' with hlt | hge
      · have k1 : rne (m * 2 ^ (p - L).toNat) (L - p).toNat ≤ 2 ^ 53 := by
          apply rne_le
          have h1 : m * 2 ^ (p - L).toNat < 2 ^ (m.log2 + 1) * 2 ^ (p - L).toNat := (Nat.mul_lt_mul_right (Nat.two_pow_pos _)).2 bm.2
          rw [← Nat.pow_add] at h1
          refine Nat.lt_of_lt_of_le h1 (Nat.pow_le_pow_right (by omega) ?_)
          omega
        have k2 : 2 ^ 52 ≤ rne (m' * 2 ^ (p - L').toNat) (L' - p).toNat := by
          apply rne_ge
          have h1 : 2 ^ m'.log2 * 2 ^ (p - L').toNat ≤ m' * 2 ^ (p - L').toNat := Nat.mul_le_mul_right _ bm'.1
          rw [← Nat.pow_add] at h1
          refine Nat.le_trans (Nat.pow_le_pow_right (by omega) ?_) h1
          omega
        have k3 : (L + 1074).toNat + 1 ≤ (L' + 1074).toNat := by omega
        have e53 : (2 : Nat) ^ 53 = 9007199254740992 := by decide
        have e52 : (2 : Nat) ^ 52 = 4503599627370496 := by decide
        rw [e53] at k1
        rw [e52] at k2
        have k4 : ((L + 1074).toNat + 1) * 4503599627370496 ≤ (L' + 1074).toNat * 4503599627370496 := Nat.mul_le_mul_right _ k3
        omega
      · have he : L = L' := by omega
        rw [he]
        exact Nat.add_le_add_left (rne_mono (L' - p).toNat (Nat.mul_le_mul_right (2 ^ (p - L').toNat) h)) _
    exact Nat.le_min.2 ⟨Nat.le_trans (Nat.min_le_left _ _) key, Nat.min_le_right _ _⟩
theorem nr_le {m m' k : Nat} {p p' : Int} (hp : p' = p + (k : Int)) (h : m ≤ m' * 2 ^ k) : nr m p ≤ nr m' p' := by
  have : nr m' p' = nr (m' * 2 ^ k) p := by rw [← nr_shift m' k p']; congr 1; omega
  rw [this]; exact nr_mono p h
theorem nr_ge {m m' k : Nat} {p p' : Int} (hp : p' = p + (k : Int)) (h : m' * 2 ^ k ≤ m) : nr m' p' ≤ nr m p := by
  have : nr m' p' = nr (m' * 2 ^ k) p := by rw [← nr_shift m' k p']; congr 1; omega
  rw [this]; exact nr_mono p h
theorem nr_sz {r : Nat} (h : r ≤ 9218868437227405312) : nr (sz r) (-1074) = r := by
  have e := nearest_eq false (sz r) 0
  rw [Nat.pow_zero, Nat.mul_one, rung_sz, Nat.min_eq_left h, word_false] at e
  have e0 : (-1074 + ((0 : Nat) : Int)) = -1074 := by omega
  rw [e0] at e
  unfold nr
  exact e
theorem nr_lim (m : Nat) (p : Int) : nr m p ≤ 9218868437227405312 := by
  rcases Nat.eq_zero_or_pos m with h0 | h0
  · subst h0; rw [nr_zero]; omega
  · rw [nr_eq h0 rfl]; exact Nat.min_le_right _ _

/-- Words without a sign. -/
def pos (x : Nat) : Prop := x < 9218868437227405312
theorem pos.fin {x : Nat} (h : pos x) : fin x := by unfold pos at h; unfold Fl.fin mg; omega
theorem pos.mg {x : Nat} (h : pos x) : mg x = x := by unfold pos at h; unfold Fl.mg; omega
theorem pos.ng {x : Nat} (h : pos x) : ng x = false := by
  unfold pos at h; unfold Fl.ng; rw [Nat.div_eq_of_lt (by omega)]; rfl
theorem pos.read {x : Nat} (h : pos x) : Ieee.double.read x = .number false (sig x) (-1074 + (ex x : Int)) := by
  rw [read_fin x h.fin, h.ng, h.mg]
theorem mul_pos {x y : Nat} (hx : pos x) (hy : pos y) : mulO x y = some (nr (sz x * sz y) (-2148)) := by
  unfold mulO Ieee.Format.mul
  rw [hx.read, hy.read]
  show some (Ieee.double.nearest false (sig x * sig y) (-1074 + (ex x : Int) + (-1074 + (ex y : Int)))) = _
  rw [← nearest_shift false _ (ex x + ex y)]
  unfold nr sz
  congr 2
  · rw [Nat.pow_add]; ac_rfl
  · omega
theorem add_pos {x y : Nat} (hx : pos x) (hy : pos y) : addO x y = some (nr (sz x + sz y) (-1074)) := by
  unfold addO Ieee.Format.add
  rw [hx.read, hy.read]
  simp only [Ieee.Datum.sum, signed_eq, Option.map_some]
  obtain ⟨b, hb⟩ : ∃ b : Nat, b = min (ex x) (ex y) := ⟨_, rfl⟩
  have e1 : min (-1074 + (ex x : Int)) (-1074 + (ex y : Int)) = -1074 + (b : Int) := by omega
  have e2 : (-1074 + (ex x : Int) - (-1074 + (b : Int))).toNat = ex x - b := by omega
  have e3 : (-1074 + (ex y : Int) - (-1074 + (b : Int))).toNat = ex y - b := by omega
  rw [e1, e2, e3]
  have e4 : sgn false (sig x * 2 ^ (ex x - b)) + sgn false (sig y * 2 ^ (ex y - b)) = ((sig x * 2 ^ (ex x - b) + sig y * 2 ^ (ex y - b) : Nat) : Int) := by unfold sgn; simp
  rw [e4]
  obtain ⟨T, hT⟩ : ∃ T : Nat, T = sig x * 2 ^ (ex x - b) + sig y * 2 ^ (ex y - b) := ⟨_, rfl⟩
  rw [← hT]
  have e5 : (if ((T : Nat) : Int) = 0 then (false && false) else decide (((T : Nat) : Int) < 0)) = false := by
    split
    · rfl
    · exact decide_eq_false (by omega)
  rw [e5]
  show some (Ieee.double.nearest false ((T : Int).natAbs) (-1074 + (b : Int))) = _
  rw [Int.natAbs_natCast, ← nearest_shift false T b]
  unfold nr
  congr 2
  · rw [hT, Nat.add_mul, Nat.mul_assoc, Nat.mul_assoc, ← Nat.pow_add, ← Nat.pow_add, Nat.sub_add_cancel (by omega), Nat.sub_add_cancel (by omega)]; rfl
  · omega

/-- A quotient of a lesser by a greater, held against C times 2 to the power -52. -/
theorem log2_sz {x : Nat} (h : 0 < sig x) : (sz x).log2 = (sig x).log2 + ex x := log2_mul (sig x) (ex x) h
theorem log2_le {m m' : Nat} (h0 : 0 < m) (h : m ≤ m') : m.log2 ≤ m'.log2 := by
  have b1 := (log2_bd h0).1
  have b2 := (log2_bd (by omega : 0 < m')).2
  have : 2 ^ m.log2 < 2 ^ (m'.log2 + 1) := by omega
  have := (Nat.pow_lt_pow_iff_right (by omega : 1 < 2)).1 this
  omega
theorem div_pos {l g C : Nat} (hl : pos l) (hg : pos g) (h0 : 0 < sz g) (hle : sz l ≤ sz g) (hC : sz l * 2 ^ 52 ≤ C * sz g) : ∃ W, divO l g = some W ∧ W ≤ nr C (-52) := by
  unfold divO Ieee.Format.div
  rw [hl.read, hg.read]
  have hn : 0 < sig g := by
    rcases Nat.eq_zero_or_pos (sig g) with h | h
    · unfold sz at h0; rw [h, Nat.zero_mul] at h0; omega
    · exact h
  have hn0 : ¬ sig g = 0 := by omega
  simp only [Ieee.Datum.quotient, hn0, if_false, Option.map_some]
  refine ⟨_, rfl, ?_⟩
  obtain ⟨M, hM⟩ : ∃ M : Nat, M = Ieee.double.fractionBits + 2 + (sig g).log2 - (sig l).log2 := ⟨_, rfl⟩
  rw [← hM, Nat.shiftLeft_eq]
  show nr _ _ ≤ _
  rcases Nat.eq_zero_or_pos (sig l) with hz | hz
  · rw [hz, Nat.zero_mul, Nat.zero_div, Nat.zero_mod]
    show nr 0 _ ≤ _
    rw [nr_zero]; exact Nat.zero_le _
  · have hlog := log2_le (by unfold sz; exact Nat.mul_pos hz (Nat.two_pow_pos _)) hle
    rw [log2_sz hz, log2_sz hn] at hlog
    have hM54 : M = 54 + (sig g).log2 - (sig l).log2 := hM
    obtain ⟨H, hH⟩ : ∃ H : Nat, H + ex l + 52 = M + ex g := ⟨M + ex g - (ex l + 52), by omega⟩
    have hpl : (-52 : Int) = -1074 + (ex l : Int) - (-1074 + (ex g : Int)) - (M : Int) - 1 + ((H + 1 : Nat) : Int) := by clear hC hle; omega
    have hbig : sig l * 2 ^ M ≤ C * 2 ^ H * sig g := by
      have h1 : sig l * 2 ^ M * 2 ^ (ex l + 52) ≤ C * 2 ^ H * sig g * 2 ^ (ex l + 52) := by
        have h2 := Nat.mul_le_mul_right (2 ^ M) hC
        have e1 : 2 ^ (ex l + 52) = 2 ^ ex l * 2 ^ 52 := Nat.pow_add _ _ _
        have e2 : 2 ^ M * 2 ^ ex g = 2 ^ H * (2 ^ ex l * 2 ^ 52) := by
          have e3 : M + ex g = H + (ex l + 52) := by clear h2 hC hle e1; omega
          rw [← e1, ← Nat.pow_add, ← Nat.pow_add, e3]
        rw [e1]
        unfold sz at h2
        generalize 2 ^ ex l = a at *
        generalize 2 ^ ex g = b at *
        generalize 2 ^ M = c at *
        generalize 2 ^ H = d at *
        generalize (2 : Nat) ^ 52 = f at *
        generalize sig l = u at *
        generalize sig g = v at *
        have r1 : u * c * (a * f) = u * a * f * c := by simp only [Nat.mul_comm, Nat.mul_left_comm]
        have r2 : C * d * v * (a * f) = C * v * (d * (a * f)) := by simp only [Nat.mul_comm, Nat.mul_left_comm]
        have r3 : C * (v * b) * c = C * v * (c * b) := by simp only [Nat.mul_comm, Nat.mul_left_comm]
        rw [r1, r2, ← e2, ← r3]; exact h2
      exact Nat.le_of_mul_le_mul_right h1 (Nat.two_pow_pos _)
    refine nr_le (k := H + 1) hpl ?_
    · clear hpl hH hM hM54 hlog hC hle h0 hz
      generalize sig l * 2 ^ M = D at *
      generalize sig g = n at *
      have e1 := Nat.div_add_mod D n
      rw [Nat.pow_succ, ← Nat.mul_assoc]
      generalize C * 2 ^ H = Y at *
      by_cases hr : D % n = 0
      · have hb : (D % n != 0) = false := by rw [hr]; rfl
        rw [hb]
        have : D / n ≤ Y := Nat.div_le_of_le_mul (by rw [Nat.mul_comm]; exact hbig)
        show 2 * (D / n) + 0 ≤ Y * 2
        omega
      · have hb : (D % n != 0) = true := by exact bne_iff_ne.2 hr
        rw [hb]
        have : D / n < Y := by
          rw [Nat.div_lt_iff_lt_mul hn]
          rcases Nat.lt_or_ge D (Y * n) with h | h
          · exact h
          · exfalso
            have hD : D = Y * n := by omega
            rw [hD, Nat.mul_mod_left] at hr
            exact hr rfl
        show 2 * (D / n) + 1 ≤ Y * 2
        omega

/-- The whole root. -/
theorem root_from (n todo : Nat) : ∀ root, root * root ≤ n → n < (root + 2 ^ todo) * (root + 2 ^ todo) → Ieee.Datum.rootFrom n todo root * Ieee.Datum.rootFrom n todo root ≤ n ∧ n < (Ieee.Datum.rootFrom n todo root + 1) * (Ieee.Datum.rootFrom n todo root + 1) := by
  induction todo with
  | zero =>
    intro root h1 h2
    rw [Nat.pow_zero] at h2
    exact ⟨h1, h2⟩
  | succ t ih =>
    intro root h1 h2
    show Ieee.Datum.rootFrom n t (if (root + 1 <<< t) * (root + 1 <<< t) ≤ n then root + 1 <<< t else root) * Ieee.Datum.rootFrom n t (if (root + 1 <<< t) * (root + 1 <<< t) ≤ n then root + 1 <<< t else root) ≤ n ∧ n < (Ieee.Datum.rootFrom n t (if (root + 1 <<< t) * (root + 1 <<< t) ≤ n then root + 1 <<< t else root) + 1) * (Ieee.Datum.rootFrom n t (if (root + 1 <<< t) * (root + 1 <<< t) ≤ n then root + 1 <<< t else root) + 1)
    rw [Nat.shiftLeft_eq, Nat.one_mul]
    split
    · rename_i h
      refine ih _ h ?_
      have e : root + 2 ^ t + 2 ^ t = root + 2 ^ (t + 1) := by rw [Nat.pow_succ]; omega
      rw [e]; exact h2
    · rename_i h
      exact ih _ h1 (by omega)
theorem root_whole {n : Nat} (h : 0 < n) : Ieee.Datum.rootFrom n (n.log2 / 2 + 1) 0 * Ieee.Datum.rootFrom n (n.log2 / 2 + 1) 0 ≤ n ∧ n < (Ieee.Datum.rootFrom n (n.log2 / 2 + 1) 0 + 1) * (Ieee.Datum.rootFrom n (n.log2 / 2 + 1) 0 + 1) := by
  refine root_from n _ 0 (by simp) ?_
  rw [Nat.zero_add, ← Nat.pow_add]
  exact Nat.lt_of_lt_of_le (log2_bd h).2 (Nat.pow_le_pow_right (by omega) (by omega))

end Go.Proofs.Ytcakfclfggnmbaa
