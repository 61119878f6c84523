/-
  To float64 and back to float32, on words: widening is exact, narrowing takes the nearest rung and keeps the order; halves; nothing of any program's text.
-/
import Derived.Test.YthkhemmpjfilaabNs
import Derived.Test.YthkhemmpjfilaabLk
namespace Go.Proofs.Ythkhemmpjfilaab.Nw

def K925 : Nat := 925
def K277 : Nat := 277
def K1202 : Nat := 1202
theorem sz3_inf : Fs.sz 2139095040 = 2 ^ K277 := by kernel_rfl
theorem sz3_lt {r : Nat} (h : r < 2139095040) : Fs.sz r < 2 ^ K277 := by rw [← sz3_inf]; exact Fs.sz_mono h
theorem sz3_le {r : Nat} (h : r ≤ 2139095040) : Fs.sz r ≤ 2 ^ K277 := by rw [← sz3_inf]; exact Fs.sz_le h
theorem pow_1202 : 2 ^ K277 * 2 ^ K925 = 2 ^ K1202 := by rw [← Nat.pow_add, show K277 + K925 = K1202 from rfl]
def K2098 : Nat := 2098
theorem szI_2098 : Fl.szI = 2 ^ K2098 := by kernel_rfl
theorem big_1202 : 4 * 2 ^ K1202 < Fl.szI := by
  rw [szI_2098, show 4 * 2 ^ K1202 = 2 ^ (2 + K1202) by rw [Nat.pow_add]]
  exact (Nat.pow_lt_pow_iff_right (by omega)).2 (by decide)
theorem rp_of_sz (r : Nat) (k : Nat) : Fl.RpN (Fs.sz r * 2 ^ k) := ⟨Fs.sig r, Fs.ex r + k, by unfold Fs.sz; rw [Nat.pow_add, Nat.mul_assoc], by have := Fs.sig_lt r; omega⟩

/-- The rung of a narrow rung among the float64's. -/
def wr (r : Nat) : Nat := if r = 2139095040 then 9218868437227405312 else Fl.rung (Fs.sz r * 2 ^ K925)
def wd (x : Nat) : Nat := Ieee.double.word (Fs.ng x) (wr (Fs.mg x))
theorem wr_fin {r : Nat} (h : r < 2139095040) : wr r < 9218868437227405312 ∧ Fl.sz (wr r) = Fs.sz r * 2 ^ K925 := by
  unfold wr
  rw [if_neg (by omega)]
  have e : Fl.rn (Fs.sz r * 2 ^ K925) = Fs.sz r * 2 ^ K925 := Fl.rn_exact (rp_of_sz r K925)
  refine ⟨Fl.rung_lt ?_, by rw [Fl.sz_rung, e]⟩
  rw [e]
  have h1 := (Nat.mul_lt_mul_right (Nat.two_pow_pos K925)).2 (sz3_lt h)
  rw [pow_1202] at h1
  have h2 := big_1202
  generalize 2 ^ K1202 = y at *
  generalize Fs.sz r * 2 ^ K925 = z at *
  omega
theorem wr_lim {r : Nat} (h : r ≤ 2139095040) : wr r ≤ 9218868437227405312 := by
  rcases Nat.lt_or_ge r 2139095040 with h1 | h1
  · exact Nat.le_of_lt (wr_fin h1).1
  · have : r = 2139095040 := by omega
    unfold wr; rw [if_pos this]; exact Nat.le_refl _
theorem wd_mg {x : Nat} (h : Fs.nan x = false) : Fl.mg (wd x) = wr (Fs.mg x) := by
  have : Fs.mg x ≤ 2139095040 := by unfold Fs.nan at h; simp at h; exact h
  unfold wd; exact word_mg _ (by have := wr_lim this; omega)
theorem wd_ng {x : Nat} (h : Fs.nan x = false) : Fl.ng (wd x) = Fs.ng x := by
  have : Fs.mg x ≤ 2139095040 := by unfold Fs.nan at h; simp at h; exact h
  unfold wd; exact Fl.word_ng _ (by have := wr_lim this; omega)
theorem wd_lt {x : Nat} (h : Fs.nan x = false) : wd x < 18446744073709551616 := by
  have : Fs.mg x ≤ 2139095040 := by unfold Fs.nan at h; simp at h; exact h
  unfold wd; exact Fl.word_lt _ (by have := wr_lim this; omega)
theorem wd_fin {x : Nat} (h : Fs.fin x) : Fl.fin (wd x) := by
  unfold Fl.fin; rw [wd_mg (Fs.fin_not_nan h)]; exact (wr_fin h).1
theorem wd_sz {x : Nat} (h : Fs.fin x) : Fl.sz (Fl.mg (wd x)) = Fs.sz (Fs.mg x) * 2 ^ K925 := by
  rw [wd_mg (Fs.fin_not_nan h)]; exact (wr_fin h).2
theorem wd_val {x : Nat} (h : Fs.fin x) : Fl.val (wd x) = Fl.sgn (Fs.ng x) (Fs.sz (Fs.mg x) * 2 ^ K925) := by
  unfold Fl.val; rw [wd_sz h, wd_ng (Fs.fin_not_nan h)]
theorem nwd_nan {x : Nat} (h : Fs.nan x = false) : Fl.nan (wd x) = false := by
  have h1 : Fs.mg x ≤ 2139095040 := by unfold Fs.nan at h; simp at h; exact h
  have := wr_lim h1
  unfold Fl.nan; rw [wd_mg h]; simp; exact this
theorem wd_inf {x : Nat} (h : Fs.mg x = 2139095040) : Fl.mg (wd x) = 9218868437227405312 := by
  rw [wd_mg (Fs.inf_not_nan h)]; unfold wr; rw [if_pos h]
theorem f2f_wd {x : Nat} (h : Fs.nan x = false) : floatToFloatBits .f32 x .f64 = some (wd x) := by
  unfold floatToFloatBits
  rw [if_neg (by decide)]
  show (match Ieee.single.read x with
    | .nan _ _ => none
    | .infinity s => some (Ieee.double.write (.infinity s))
    | .number s m e => if (Ieee.double.read (Ieee.double.write (.number s m e))).isInfinity then none else some (Ieee.double.write (.number s m e))) = some (wd x)
  rcases Fs.kinds x with hf | hi | hn
  · rw [Fs.read_fin x hf]
    have e : Ieee.double.write (.number (Fs.ng x) (Fs.sig (Fs.mg x)) (-149 + (Fs.ex (Fs.mg x) : Int))) = wd x := by
      show Ieee.double.nearest (Fs.ng x) (Fs.sig (Fs.mg x)) (-149 + (Fs.ex (Fs.mg x) : Int)) = wd x
      have e1 : (-149 + (Fs.ex (Fs.mg x) : Int)) = -1074 + ((Fs.ex (Fs.mg x) + K925 : Nat) : Int) := by have : K925 = 925 := rfl; omega
      rw [e1, Fl.nearest_eq]
      have e2 : Fs.sig (Fs.mg x) * 2 ^ (Fs.ex (Fs.mg x) + K925) = Fs.sz (Fs.mg x) * 2 ^ K925 := by unfold Fs.sz; rw [Nat.pow_add, Nat.mul_assoc]
      rw [e2]
      unfold wd
      have h3 := (wr_fin hf).1
      unfold wr at h3 ⊢
      have h4 : ¬ Fs.mg x = 2139095040 := by unfold Fs.fin at hf; omega
      rw [if_neg h4] at h3 ⊢
      rw [Nat.min_eq_left (by omega)]
    show (if (Ieee.double.read (Ieee.double.write (.number (Fs.ng x) (Fs.sig (Fs.mg x)) (-149 + (Fs.ex (Fs.mg x) : Int))))).isInfinity then none else some (Ieee.double.write (.number (Fs.ng x) (Fs.sig (Fs.mg x)) (-149 + (Fs.ex (Fs.mg x) : Int))))) = _
    rw [e, Fl.read_fin _ (wd_fin hf)]
    rfl
  · rw [Fs.read_inf x hi]
    show some (Ieee.double.word (Fs.ng x) Ieee.double.infRung) = _
    unfold wd wr
    rw [if_pos hi, Fl.d_inf]
  · rw [hn] at h; cases h

/-- The narrow rung that a finite real is narrowed to. -/
def nwr (y : Nat) : Nat := Fs.nr (Fl.sz (Fl.mg y)) (-1074)
def nw (y : Nat) : Nat := Ieee.single.word (Fl.ng y) (nwr y)
theorem write_nw {y : Nat} (_ : Fl.fin y) : Ieee.single.write (.number (Fl.ng y) (Fl.sig (Fl.mg y)) (-1074 + (Fl.ex (Fl.mg y) : Int))) = nw y := by
  show Ieee.single.nearest _ _ _ = _
  rw [Fs.nearest_nr]
  unfold nw nwr
  have e := Fs.nr_shift (Fl.sig (Fl.mg y)) (Fl.ex (Fl.mg y)) (-1074 + (Fl.ex (Fl.mg y) : Int))
  have e2 : (-1074 + (Fl.ex (Fl.mg y) : Int)) - (Fl.ex (Fl.mg y) : Int) = -1074 := by omega
  rw [e2] at e
  rw [← e]; rfl
theorem nwr_lim (y : Nat) : nwr y ≤ 2139095040 := Fs.nr_lim _ _
theorem nw_mg (y : Nat) : Fs.mg (nw y) = nwr y := Fs.word_mg _ (by have := nwr_lim y; omega)
theorem nw_ng (y : Nat) : Fs.ng (nw y) = Fl.ng y := Fs.word_ng _ (by have := nwr_lim y; omega)
theorem nw_lt (y : Nat) : nw y < 4294967296 := Fs.word_lt _ (by have := nwr_lim y; omega)
theorem f2f_nw {y : Nat} (h : Fl.fin y) (hr : nwr y < 2139095040) : floatToFloatBits .f64 y .f32 = some (nw y) := by
  unfold floatToFloatBits
  rw [if_neg (by decide)]
  show (match Ieee.double.read y with
    | .nan _ _ => none
    | .infinity s => some (Ieee.single.write (.infinity s))
    | .number s m e => if (Ieee.single.read (Ieee.single.write (.number s m e))).isInfinity then none else some (Ieee.single.write (.number s m e))) = some (nw y)
  rw [Fl.read_fin y h]
  show (if (Ieee.single.read (Ieee.single.write (.number (Fl.ng y) (Fl.sig (Fl.mg y)) (-1074 + (Fl.ex (Fl.mg y) : Int))))).isInfinity then none else some (Ieee.single.write (.number (Fl.ng y) (Fl.sig (Fl.mg y)) (-1074 + (Fl.ex (Fl.mg y) : Int))))) = _
  have hf : Fs.fin (nw y) := by unfold Fs.fin; rw [nw_mg]; exact hr
  rw [write_nw h, Fs.read_fin _ hf]
  rfl
theorem nr_925 (m : Nat) : Fs.nr (m * 2 ^ K925) (-1074) = Fs.nr m (-149) := by
  have e := Fs.nr_shift m K925 (-149)
  have e2 : (-149 : Int) - (K925 : Int) = -1074 := by decide
  rw [e2] at e; exact e
theorem nr3_sz {r : Nat} (h : r ≤ 2139095040) : Fs.nr (Fs.sz r * 2 ^ K925) (-1074) = r := by rw [nr_925]; exact Fs.nr_sz h
theorem nwr_wd {x : Nat} (h : Fs.fin x) : nwr (wd x) = Fs.mg x := by
  unfold nwr; rw [wd_sz h]; exact nr3_sz (Nat.le_of_lt h)
theorem nw_wd {x : Nat} (h : Fs.fin x) (hx : x < 4294967296) : nw (wd x) = x := by
  unfold nw; rw [nwr_wd h, wd_ng (Fs.fin_not_nan h)]; exact Fs.word_self hx
theorem nwr_between {y r : Nat} (hr : r < 2139095040) (h1 : Fs.sz r * 2 ^ K925 ≤ Fl.sz (Fl.mg y)) (h2 : Fl.sz (Fl.mg y) ≤ Fs.sz (r + 1) * 2 ^ K925) : nwr y = r ∨ nwr y = r + 1 := by
  have a := Fs.nr_mono (-1074) h1
  have b := Fs.nr_mono (-1074) h2
  rw [nr3_sz (by omega)] at a b
  unfold nwr
  omega

/-- A narrow real and the next one. -/
theorem sz3_succ (r : Nat) : Fs.sz (r + 1) = (Fs.sig r + 1) * 2 ^ Fs.ex r := by
  unfold Fs.sz
  by_cases h : Fs.ex (r + 1) = Fs.ex r
  · rw [h]; congr 1
    unfold Fs.ex at h; unfold Fs.sig
    split <;> split <;> omega
  · have h1 : Fs.ex (r + 1) = Fs.ex r + 1 := by unfold Fs.ex at *; omega
    have h2 : Fs.sig (r + 1) = 8388608 := by unfold Fs.ex at h h1; unfold Fs.sig; split <;> omega
    have h3 : Fs.sig r = 16777215 := by unfold Fs.ex at h h1; unfold Fs.sig; split <;> omega
    rw [h1, h2, h3, Nat.pow_succ]; omega
theorem mid_rep (r k : Nat) : Fl.RpN ((Fs.sz r + Fs.sz (r + 1)) * 2 ^ k) := by
  refine ⟨2 * Fs.sig r + 1, Fs.ex r + k, ?_, by have := Fs.sig_lt r; omega⟩
  rw [sz3_succ]; unfold Fs.sz
  rw [← Nat.add_mul, Nat.mul_assoc, ← Nat.pow_add]
  congr 1; omega

theorem nearest_zero (s : Bool) (p : Int) : Ieee.double.nearest s 0 p = Ieee.double.word s 0 := by unfold Ieee.Format.nearest; rw [if_pos rfl]
theorem nearest_shift (s : Bool) (m k : Nat) (p : Int) : Ieee.double.nearest s (m * 2 ^ k) (p - (k : Int)) = Ieee.double.nearest s m p := by
  by_cases h0 : m = 0
  · subst h0; rw [Nat.zero_mul, nearest_zero, nearest_zero]
  · have hm : 0 < m := by omega
    have hmk : ¬ m * 2 ^ k = 0 := Nat.ne_of_gt (Nat.mul_pos hm (Nat.two_pow_pos _))
    unfold Ieee.Format.nearest
    rw [if_neg h0, if_neg hmk]
    simp only [Fl.d_least, Fl.d_bin, Fl.d_inf, Fl.cut_rne, Nat.shiftLeft_eq, Fl.log2_mul m k hm]
    have hl : p - (k : Int) + ((m.log2 + k : Nat) : Int) - (Ieee.double.fractionBits : Int) = p + (m.log2 : Int) - (Ieee.double.fractionBits : Int) := by omega
    rw [hl]
    generalize max (p + (m.log2 : Int) - (Ieee.double.fractionBits : Int)) (-1074) = L
    congr 3
    rcases Int.lt_or_le (p - (k : Int)) L with h1 | h1
    · rcases Int.lt_or_le p L with h2 | h2
      · have e1 : (p - (k : Int) - L).toNat = 0 := by omega
        have e2 : (p - L).toNat = 0 := by omega
        have e3 : (L - (p - (k : Int))).toNat = (L - p).toNat + k := by omega
        rw [e1, e2, e3, Nat.pow_zero, Nat.mul_one, Nat.mul_one, Fl.rne_scale m k _ (by omega), Nat.add_sub_cancel]
      · have e1 : (p - (k : Int) - L).toNat = 0 := by omega
        have e3 : (L - p).toNat = 0 := by omega
        have e4 : k = (p - L).toNat + (L - (p - (k : Int))).toNat := by omega
        rw [e1, e3, Nat.pow_zero, Nat.mul_one]
        generalize (L - (p - (k : Int))).toNat = d at *
        rw [e4, Nat.pow_add, ← Nat.mul_assoc, Fl.rne_scale _ d d (Nat.le_refl _), Nat.sub_self]
    · have e1 : (L - (p - (k : Int))).toNat = 0 := by omega
      have e2 : (L - p).toNat = 0 := by omega
      have e3 : (p - L).toNat = k + (p - (k : Int) - L).toNat := by omega
      rw [e1, e2, e3, Nat.pow_add, Nat.mul_assoc]

/-- A half, where it is a real. -/
theorem div_two {y n : Nat} (hy : Fl.fin y) (h : Fl.sz (Fl.mg y) = n * 2) (hr : Fl.RpN n) : ∃ z, divO y 4611686018427387904 = some z ∧ Fl.fin z ∧ Fl.ng z = Fl.ng y ∧ Fl.sz (Fl.mg z) = n := by
  have e2 : Ieee.double.read 4611686018427387904 = .number false (2 ^ 52) (-51) := by kernel_rfl
  unfold divO Ieee.Format.div
  rw [Fl.read_fin y hy, e2]
  have hs : Fl.sig (Fl.mg y) * 2 ^ Fl.ex (Fl.mg y) = n * 2 := h
  obtain ⟨M, hM⟩ : ∃ M : Nat, M = Ieee.double.fractionBits + 2 + (2 ^ 52 : Nat).log2 - (Fl.sig (Fl.mg y)).log2 := ⟨_, rfl⟩
  simp only [Ieee.Datum.quotient, show ¬ ((2 : Nat) ^ 52 = 0) by decide, if_false, Option.map_some, Bool.xor_false]
  rw [← hM, Nat.shiftLeft_eq]
  have hl : (Fl.sig (Fl.mg y)).log2 ≤ 52 := by
    have := Fl.sig_lt (Fl.mg y)
    rcases Nat.eq_zero_or_pos (Fl.sig (Fl.mg y)) with h0 | h0
    · rw [h0]; decide
    · have b := (Fl.log2_bd h0).1
      rcases Nat.lt_or_ge 52 (Fl.sig (Fl.mg y)).log2 with h3 | h3
      · have h4 := Nat.pow_le_pow_right (n := 2) (by omega) h3
        have h5 : (2 : Nat) ^ (52 + 1) = 9007199254740992 := by decide
        have h6 : (2 : Nat) ^ (Nat.succ 52) = 9007199254740992 := by decide
        omega
      · exact h3
  have hM' : M = 54 + 52 - (Fl.sig (Fl.mg y)).log2 := by rw [hM]; rfl
  obtain ⟨k, hk⟩ : ∃ k, M = k + 52 := ⟨M - 52, by omega⟩
  have e3 : Fl.sig (Fl.mg y) * 2 ^ M = Fl.sig (Fl.mg y) * 2 ^ k * 2 ^ 52 := by rw [hk, Nat.pow_add, Nat.mul_assoc]
  rw [e3, Nat.mul_div_cancel _ (by decide), Nat.mul_mod_left]
  refine ⟨_, rfl, ?_⟩
  have e4 : Ieee.double.write (.number (Fl.ng y) (2 * (Fl.sig (Fl.mg y) * 2 ^ k) + ((0 : Nat) != 0).toNat) (-1074 + (Fl.ex (Fl.mg y) : Int) - -51 - (M : Int) - 1)) = Ieee.double.word (Fl.ng y) (Fl.rung n) := by
    show Ieee.double.nearest _ (2 * (Fl.sig (Fl.mg y) * 2 ^ k) + 0) _ = _
    have e5 : 2 * (Fl.sig (Fl.mg y) * 2 ^ k) + 0 = Fl.sig (Fl.mg y) * 2 ^ (k + 1) := by rw [Nat.pow_succ, Nat.add_zero, Nat.mul_comm 2, Nat.mul_assoc]
    have e6 : -1074 + (Fl.ex (Fl.mg y) : Int) - -51 - (M : Int) - 1 = (-1075 + (Fl.ex (Fl.mg y) : Int)) - ((k + 1 : Nat) : Int) := by omega
    rw [e5, e6, nearest_shift]
    have e7 := nearest_shift (Fl.ng y) (Fl.sig (Fl.mg y)) (Fl.ex (Fl.mg y)) (-1075 + (Fl.ex (Fl.mg y) : Int))
    have e8 : (-1075 + (Fl.ex (Fl.mg y) : Int)) - (Fl.ex (Fl.mg y) : Int) = -1074 - ((1 : Nat) : Int) := by omega
    rw [e8, hs] at e7
    have e9 := nearest_shift (Fl.ng y) n 1 (-1074)
    rw [Nat.pow_one] at e9
    rw [← e7, e9]
    have e10 := Fl.nearest_eq (Fl.ng y) n 0
    have e11 : (-1074 + ((0 : Nat) : Int)) = -1074 := by omega
    rw [e11, Nat.pow_zero, Nat.mul_one] at e10
    rw [e10, Nat.min_eq_left]
    have := Fl.rn_exact hr
    refine Nat.le_of_lt (Fl.rung_lt ?_)
    rw [this]
    have hb : Fl.sz (Fl.mg y) < Fl.szI := Fl.sz_mono hy
    rw [h] at hb
    generalize Fl.szI = B at *
    omega
  rw [e4]
  have hlt : Fl.rung n < 9218868437227405312 := by
    refine Fl.rung_lt ?_
    rw [Fl.rn_exact hr]
    have hb : Fl.sz (Fl.mg y) < Fl.szI := Fl.sz_mono hy
    rw [h] at hb
    generalize Fl.szI = B at *
    omega
  refine ⟨?_, Fl.word_ng _ (by omega), ?_⟩
  · unfold Fl.fin; rw [word_mg _ (by omega)]; exact hlt
  · rw [word_mg _ (by omega), Fl.sz_rung, Fl.rn_exact hr]

end Go.Proofs.Ythkhemmpjfilaab.Nw
