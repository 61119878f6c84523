/-
  TwoProd of words: where the product is finite and not too small (or a part is a nought), it and its error are finite and together just the product of both.
-/
import Derived.Test.YtcakfclfggnmbaaTs
namespace Go.Proofs.Ytcakfclfggnmbaa.Fl

theorem neg_bd {b : Nat} (h : b < 18446744073709551616) : Op.negFloat .f64 b < 18446744073709551616 := by
  rcases Nat.lt_or_ge b 9223372036854775808 with h1 | h1
  · rw [neg_of_pos h1]; omega
  · rw [neg_of_neg h1 h]; omega
theorem neg_mg {b : Nat} (h : b < 18446744073709551616) : mg (Op.negFloat .f64 b) = mg b := by
  rcases Nat.lt_or_ge b 9223372036854775808 with h1 | h1
  · rw [neg_of_pos h1]; unfold mg; omega
  · rw [neg_of_neg h1 h]; unfold mg; omega
theorem neg_ng {b : Nat} (h : b < 18446744073709551616) : ng (Op.negFloat .f64 b) = !ng b := by
  rcases Nat.lt_or_ge b 9223372036854775808 with h1 | h1
  · rw [neg_of_pos h1]; unfold ng
    have e1 : (b + 9223372036854775808) / 9223372036854775808 = 1 := by omega
    have e2 : b / 9223372036854775808 = 0 := by omega
    rw [e1, e2]; rfl
  · rw [neg_of_neg h1 h]; unfold ng
    have e1 : (b - 9223372036854775808) / 9223372036854775808 = 0 := by omega
    have e2 : b / 9223372036854775808 = 1 := by omega
    rw [e1, e2]; rfl
theorem neg_fin {b : Nat} (h : b < 18446744073709551616) (hf : fin b) : fin (Op.negFloat .f64 b) := by unfold fin; rw [neg_mg h]; exact hf
theorem neg_val {b : Nat} (h : b < 18446744073709551616) : val (Op.negFloat .f64 b) = -val b := by unfold val; rw [neg_mg h, neg_ng h, sgn_not]
theorem sz_top (d : Nat) : sz ((d + 2) * 4503599627370496) = 4503599627370496 * 2 ^ (d + 1) := by
  unfold sz sig ex
  rw [if_neg (by omega)]
  have e1 : (d + 2) * 4503599627370496 / 4503599627370496 - 1 = d + 1 := by omega
  have e2 : (d + 2) * 4503599627370496 % 4503599627370496 = 0 := by omega
  rw [e1, e2]
/-- far below: the product of two small ones is small -/
theorem nearest_small (s : Bool) (m q : Nat) (hq : 1 ≤ q) (hm : m < 2 ^ 106) : (val (Ieee.double.nearest s m (-1074 - (q : Int)))).natAbs ≤ 2 ^ 105 := by
  by_cases h0 : m = 0
  · subst h0
    have e : Ieee.double.nearest s 0 (-1074 - (q : Int)) = Ieee.double.word s 0 := by unfold Ieee.Format.nearest; rw [if_pos rfl]
    rw [e, word_val s (by omega), sgn_abs, sz_zero]; omega
  · have hlog : m.log2 ≤ 105 := by
      have h1 := (log2_bd (by omega : 0 < m)).1
      rcases Nat.lt_or_ge m.log2 106 with h2 | h2
      · omega
      · have := Nat.pow_le_pow_right (n := 2) (by omega) h2; omega
    have key : ∃ r, Ieee.double.nearest s m (-1074 - (q : Int)) = Ieee.double.word s (min r 9218868437227405312) ∧ sz r ≤ 2 ^ 105 := by
      unfold Ieee.Format.nearest
      rw [if_neg h0]
      simp only [d_least, d_bin, d_inf, cut_rne, Nat.shiftLeft_eq]
      have hf : (Ieee.double.fractionBits : Int) = 52 := rfl
      rw [hf]
      refine ⟨_, rfl, ?_⟩
      have e2 : (-1074 - (q : Int) - max (-1074 - (q : Int) + (m.log2 : Int) - 52) (-1074)).toNat = 0 := by omega
      have e1 : (max (-1074 - (q : Int) + (m.log2 : Int) - 52) (-1074) - -1074).toNat = m.log2 - 52 - q := by omega
      have e3 : (max (-1074 - (q : Int) + (m.log2 : Int) - 52) (-1074) - (-1074 - (q : Int))).toNat = max (m.log2 - 52) q := by omega
      rw [e1, e2, e3, Nat.pow_zero, Nat.mul_one]
      have hk : rne m (max (m.log2 - 52) q) ≤ 9007199254740992 := by
        have h1 : m < 2 ^ (m.log2 + 1) := Nat.lt_log2_self
        have h2 : 2 ^ (m.log2 + 1) ≤ 2 ^ (53 + max (m.log2 - 52) q) := Nat.pow_le_pow_right (by omega) (by omega)
        rw [Nat.pow_add 2 53, show (2 : Nat) ^ 53 = 9007199254740992 by decide] at h2
        have h3 : m / 2 ^ max (m.log2 - 52) q < 9007199254740992 := (Nat.div_lt_iff_lt_mul (Nat.two_pow_pos _)).2 (by omega)
        unfold rne; split <;> omega
      have h4 : sz ((m.log2 - 52 - q) * 4503599627370496 + rne m (max (m.log2 - 52) q)) ≤ sz ((m.log2 - 52 - q + 2) * 4503599627370496) := sz_le (by omega)
      rw [sz_top] at h4
      have h5 : 2 ^ (m.log2 - 52 - q + 1) ≤ 2 ^ 53 := Nat.pow_le_pow_right (by omega) (by omega)
      have h6 : (4503599627370496 : Nat) * 2 ^ 53 = 2 ^ 105 := by decide
      have h7 := Nat.mul_le_mul_left 4503599627370496 h5
      omega
    obtain ⟨r, h1, h2⟩ := key
    rw [h1, word_val s (by omega), sgn_abs]
    exact Nat.le_trans (sz_le (Nat.min_le_left _ _)) h2
theorem sgn_xor (s t : Bool) (m n : Nat) : sgn (s ^^ t) (m * n) = sgn s m * sgn t n := by
  unfold sgn; cases s <;> cases t <;> simp [Int.neg_mul, Int.mul_neg]
theorem fin_nearest {s : Bool} {m p : Nat} (h : fin (Ieee.double.nearest s m (-1074 + (p : Int)))) : rn (m * 2 ^ p) < szI := by
  rw [nearest_eq] at h
  unfold fin at h
  rw [word_mg s (by omega)] at h
  have h1 : rung (m * 2 ^ p) < 9218868437227405312 := by omega
  rw [← sz_rung]; unfold szI; exact sz_mono h1
theorem mul_eq {a b : Nat} (ha : fin a) (hb : fin b) : mulO a b = some (Ieee.double.nearest (ng a ^^ ng b) (sig (mg a) * sig (mg b)) (-1074 + (ex (mg a) : Int) + (-1074 + (ex (mg b) : Int)))) := by
  unfold mulO Ieee.Format.mul; rw [read_fin a ha, read_fin b hb]; rfl
theorem fma_eq {a b c : Nat} (ha : fin a) (hb : fin b) (hc : fin c) : fmaO a b c = (((Ieee.Datum.number (ng a ^^ ng b) (sig (mg a) * sig (mg b)) (-1074 + (ex (mg a) : Int) + (-1074 + (ex (mg b) : Int)))).sum (.number (ng c) (sig (mg c)) (-1074 + (ex (mg c) : Int)))).map Ieee.double.write) := by
  unfold fmaO Ieee.Format.fma; rw [read_fin a ha, read_fin b hb, read_fin c hc]; rfl
theorem sig_zero {r : Nat} (h : sz r = 0) : sig r = 0 := by
  unfold sz at h
  rcases Nat.mul_eq_zero.1 h with h1 | h1
  · exact h1
  · have := Nat.two_pow_pos (ex r); omega
theorem sum_zero (s t : Bool) (i j : Int) : ∃ S k, (Ieee.Datum.number s 0 i).sum (.number t 0 j) = some (.number S 0 k) := by
  have z : ∀ u : Bool, sgn u 0 = 0 := by intro u; unfold sgn; cases u <;> rfl
  unfold Ieee.Datum.sum
  simp only [signed_eq, Nat.zero_mul, z]
  exact ⟨_, _, rfl⟩
theorem val_word_zero (s : Bool) : val (Ieee.double.word s 0) = 0 := by rw [word_val s (by omega), sz_zero]; unfold sgn; simp
theorem fin_word_zero (s : Bool) : fin (Ieee.double.word s 0) := by unfold fin; rw [word_mg s (by omega)]; omega
/-- 1074, kept shut -/
def K74 : Nat := 1074
theorem sgn_dec (S : Bool) (n : Nat) (h : sgn S n ≠ 0) : S = decide (sgn S n < 0) := by
  unfold sgn at *; cases S <;> simp at * <;> omega
theorem tp_exact {a b p : Nat} (ha : fin a) (hb : fin b) (hp : mulO a b = some p) (fp : fin p) (hbig : 2 ^ 106 ≤ (val p).natAbs ∨ val a = 0 ∨ val b = 0) :
    ∃ e, fmaO a b (Op.negFloat .f64 p) = some e ∧ fin e ∧ (val p + val e) * ((2 ^ K74 : Nat) : Int) = val a * val b := by
  have pl := (mul_bd hp).1
  have fn := neg_fin pl fp
  rw [fma_eq ha hb fn]
  rw [mul_eq ha hb] at hp
  have hV : val a * val b = sgn (ng a ^^ ng b) (sig (mg a) * 2 ^ ex (mg a) * (sig (mg b) * 2 ^ ex (mg b))) := by rw [sgn_xor]; rfl
  by_cases hz : val a = 0 ∨ val b = 0
  · have hm : sig (mg a) * sig (mg b) = 0 := by
      rcases hz with h | h
      · have : sz (mg a) = 0 := by have := congrArg Int.natAbs h; unfold val at this; rw [sgn_abs] at this; exact this
        rw [sig_zero this, Nat.zero_mul]
      · have : sz (mg b) = 0 := by have := congrArg Int.natAbs h; unfold val at this; rw [sgn_abs] at this; exact this
        rw [sig_zero this, Nat.mul_zero]
    rw [hm] at hp ⊢
    have hp0 : p = Ieee.double.word (ng a ^^ ng b) 0 := by
      have := Option.some.inj hp
      rw [← this]; unfold Ieee.Format.nearest; rw [if_pos rfl]
    have vp : val p = 0 := by rw [hp0]; exact val_word_zero _
    have vn : val (Op.negFloat .f64 p) = 0 := by rw [neg_val pl, vp]; rfl
    have sn : sig (mg (Op.negFloat .f64 p)) = 0 := by
      have := congrArg Int.natAbs vn; unfold val at this; rw [sgn_abs] at this; exact sig_zero this
    rw [sn]
    obtain ⟨S, k, hk⟩ := sum_zero (ng a ^^ ng b) (ng (Op.negFloat .f64 p)) (-1074 + (ex (mg a) : Int) + (-1074 + (ex (mg b) : Int))) (-1074 + (ex (mg (Op.negFloat .f64 p)) : Int))
    rw [hk]
    have hw : Ieee.double.write (.number S 0 k) = Ieee.double.word S 0 := by show Ieee.double.nearest S 0 k = _; unfold Ieee.Format.nearest; rw [if_pos rfl]
    refine ⟨_, rfl, by rw [hw]; exact fin_word_zero _, ?_⟩
    rw [hw, val_word_zero, vp]
    rcases hz with h | h <;> rw [h] <;> simp
  · have hbig' : 2 ^ 106 ≤ (val p).natAbs := by rcases hbig with h | h; exact h; exact absurd h hz
    have hmm : sig (mg a) * sig (mg b) < 2 ^ 106 := by
      have h1 := sig_lt (mg a); have h2 := sig_lt (mg b)
      have e : (2 : Nat) ^ 106 = 9007199254740992 * 9007199254740992 := by decide
      rw [e]
      exact Nat.mul_lt_mul'' h1 h2
    have hge : 1074 ≤ ex (mg a) + ex (mg b) := by
      rcases Nat.lt_or_ge (ex (mg a) + ex (mg b)) 1074 with h | h
      · exfalso
        have e : (-1074 + (ex (mg a) : Int) + (-1074 + (ex (mg b) : Int))) = -1074 - ((1074 - (ex (mg a) + ex (mg b)) : Nat) : Int) := by omega
        rw [e] at hp
        have hs := nearest_small (ng a ^^ ng b) (sig (mg a) * sig (mg b)) (1074 - (ex (mg a) + ex (mg b))) (by omega) hmm
        rw [Option.some.inj hp] at hs
        have : (2 : Nat) ^ 105 < 2 ^ 106 := by decide
        omega
      · exact h
    obtain ⟨q, hq⟩ : ∃ q, ex (mg a) + ex (mg b) = 1074 + q := ⟨_, (Nat.add_sub_cancel' hge).symm⟩
    have ep : (-1074 + (ex (mg a) : Int) + (-1074 + (ex (mg b) : Int))) = -1074 + (q : Int) := by omega
    rw [ep] at hp ⊢
    have hV2 : val a * val b = sgn (ng a ^^ ng b) (sig (mg a) * sig (mg b) * 2 ^ q) * ((2 ^ K74 : Nat) : Int) := by
      rw [hV, ← sgn_mul]
      refine congrArg (sgn _) ?_
      have e : 2 ^ ex (mg a) * 2 ^ ex (mg b) = 2 ^ q * 2 ^ K74 := by rw [← Nat.pow_add, ← Nat.pow_add, hq, Nat.add_comm]; rfl
      calc sig (mg a) * 2 ^ ex (mg a) * (sig (mg b) * 2 ^ ex (mg b)) = sig (mg a) * sig (mg b) * (2 ^ ex (mg a) * 2 ^ ex (mg b)) := by
            rw [Nat.mul_assoc, Nat.mul_assoc, Nat.mul_left_comm (2 ^ ex (mg a))]
        _ = sig (mg a) * sig (mg b) * 2 ^ q * 2 ^ K74 := by rw [e, Nat.mul_assoc (sig (mg a) * sig (mg b))]
    generalize hM : sig (mg a) * sig (mg b) = M at *
    generalize hS : (ng a ^^ ng b) = S at *
    have hpe := Option.some.inj hp
    have hrn : rn (M * 2 ^ q) < szI := by rw [← hpe] at fp; exact fin_nearest fp
    have hvp := (nearest_val S M q hrn).2
    rw [hpe] at hvp
    have hrI : val p = rnI (sgn S (M * 2 ^ q)) := by
      rw [hvp, ← sgn_rn (sgn S (M * 2 ^ q)) S, sgn_abs]
      exact sgn_dec S _
    have hrel := rnI_rel (sgn S (M * 2 ^ q))
    rw [← hrI, sgn_abs] at hrel
    have hd : 2 ^ q ∣ (sgn S (M * 2 ^ q) - val p).natAbs := by
      refine dvd_natAbs_sub (by rw [sgn_abs]; exact Nat.dvd_mul_left _ _) ?_
      rw [hrI]; exact rnI_dvd (by rw [sgn_abs]; exact Nat.dvd_mul_left _ _)
    have hrp : Rp (sgn S (M * 2 ^ q) - val p) := by
      obtain ⟨k, hk⟩ := hd
      refine ⟨k, q, by rw [hk, Nat.mul_comm], ?_⟩
      rw [hk] at hrel
      have h2 : 2 ^ q * (9007199254740992 * k) ≤ 2 ^ q * M := by rw [Nat.mul_left_comm, Nat.mul_comm (2 ^ q) M]; exact hrel
      have h3 := Nat.le_of_mul_le_mul_left h2 (Nat.two_pow_pos q)
      have e : (2 : Nat) ^ 106 = 9007199254740992 * 9007199254740992 := by decide
      rw [e] at hmm
      omega
    have hsum : sgn S (M * 2 ^ q) + sgn (ng (Op.negFloat .f64 p)) (sig (mg (Op.negFloat .f64 p)) * 2 ^ ex (mg (Op.negFloat .f64 p))) = sgn S (M * 2 ^ q) - val p := by
      have := neg_val pl; unfold val sz at this ⊢; omega
    have hlt : rn (sgn S (M * 2 ^ q) - val p).natAbs < szI := by
      rw [← rn_abs, rnI_exact hrp]
      have hvl : (val p).natAbs < szI := by rw [hvp, sgn_abs]; exact hrn
      have hMa : (sgn S (M * 2 ^ q)).natAbs = M * 2 ^ q := sgn_abs _ _
      generalize sgn S (M * 2 ^ q) = V at *
      clear hrI hV2 hV hvp
      omega
    obtain ⟨e, he, fe, ve⟩ := sum_write S (ng (Op.negFloat .f64 p)) M (sig (mg (Op.negFloat .f64 p))) q (ex (mg (Op.negFloat .f64 p))) (by rw [hsum]; exact hlt)
    refine ⟨e, he, fe, ?_⟩
    rw [hV2, ve, hsum, rnI_exact hrp]
    refine congrArg (· * ((2 ^ K74 : Nat) : Int)) ?_
    omega

end Go.Proofs.Ytcakfclfggnmbaa.Fl
