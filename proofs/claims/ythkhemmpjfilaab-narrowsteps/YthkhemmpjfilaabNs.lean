/-
  Rounding to float32 (the texts on float64, at the other width): rungs, the nearest, its order; nothing of any program's text.
-/
import Derived.Test.YthkhemmpjfilaabFs
import Derived.Test.YthkhemmpjfilaabLk
namespace Go.Proofs.Ythkhemmpjfilaab.Fs
open Go.Proofs.Ythkhemmpjfilaab.Fl (rne rne_near rne_exact log2_bd log2_mul more_if cut_rne rne_scale)

def dig (n : Nat) : Nat := n.log2 - 23
def rn (n : Nat) : Nat := rne n (dig n) * 2 ^ dig n
def RpN (n : Nat) : Prop := ∃ m e : Nat, n = m * 2 ^ e ∧ m < 16777216
theorem dig_zero {n : Nat} (h : n < 16777216) : dig n = 0 := by
  unfold dig
  by_cases h0 : n = 0
  · subst h0; simp
  · have h1 := (log2_bd (by omega : 0 < n)).1
    have : n.log2 < 24 := by
      rcases Nat.lt_or_ge n.log2 24 with h2 | h2
      · exact h2
      · have := Nat.pow_le_pow_right (n := 2) (by omega) h2
        have e : (2 : Nat) ^ 24 = 16777216 := by decide
        omega
    omega
theorem dig_pos {n : Nat} (h : 16777216 ≤ n) : 0 < dig n ∧ 8388608 * 2 ^ dig n ≤ n ∧ n < 16777216 * 2 ^ dig n := by
  have h1 := log2_bd (by omega : 0 < n)
  have hk : 24 ≤ n.log2 := by
    rcases Nat.lt_or_ge n.log2 24 with h2 | h2
    · have := Nat.pow_le_pow_right (n := 2) (by omega) (by omega : n.log2 + 1 ≤ 24)
      have e : (2 : Nat) ^ 24 = 16777216 := by decide
      omega
    · exact h2
  have e1 : (2 : Nat) ^ n.log2 = 8388608 * 2 ^ dig n := by
    rw [show (8388608 : Nat) = 2 ^ 23 by decide, ← Nat.pow_add]; unfold dig; congr 1; omega
  have e2 : (2 : Nat) ^ (n.log2 + 1) = 16777216 * 2 ^ dig n := by rw [Nat.pow_succ, e1]; omega
  unfold dig at *
  omega
theorem rn_small {n : Nat} (h : n < 16777216) : rn n = n := by
  unfold rn; rw [dig_zero h]; exact rne_exact n 0 (by simp)
theorem rn_half {n : Nat} : 2 * rn n ≤ 2 * n + 2 ^ dig n ∧ 2 * n ≤ 2 * rn n + 2 ^ dig n := by
  have := rne_near n (dig n); unfold rn; rw [← Nat.mul_assoc]; exact this
theorem rne_bd {n : Nat} (h : 16777216 ≤ n) : 8388608 ≤ rne n (dig n) ∧ rne n (dig n) ≤ 16777216 := by
  obtain ⟨h0, h1, h2⟩ := dig_pos h
  have hq1 : 8388608 ≤ n / 2 ^ dig n := (Nat.le_div_iff_mul_le (Nat.two_pow_pos _)).2 h1
  have hq2 : n / 2 ^ dig n < 16777216 := (Nat.div_lt_iff_lt_mul (Nat.two_pow_pos _)).2 h2
  unfold rne; split <;> omega
theorem rn_rep (n : Nat) : RpN (rn n) := by
  by_cases h : n < 16777216
  · rw [rn_small h]; exact ⟨n, 0, by simp, h⟩
  · have hb := rne_bd (by omega : 16777216 ≤ n)
    unfold rn
    rcases Nat.lt_or_ge (rne n (dig n)) 16777216 with h1 | h1
    · exact ⟨_, _, rfl, h1⟩
    · have : rne n (dig n) = 16777216 := by omega
      rw [this]
      exact ⟨8388608, dig n + 1, by rw [Nat.pow_succ]; omega, by omega⟩
theorem rep_dvd {f d : Nat} (h : RpN f) (hf : 8388608 * 2 ^ d ≤ f) : 2 ^ d ∣ f := by
  obtain ⟨m, e, rfl, hm⟩ := h
  rcases Nat.lt_or_ge e d with h1 | h1
  · exfalso
    have h2 : 2 ^ (e + 1) ≤ 2 ^ d := Nat.pow_le_pow_right (by omega) h1
    have h3 : m * 2 ^ e < 16777216 * 2 ^ e := (Nat.mul_lt_mul_right (Nat.two_pow_pos _)).2 hm
    rw [Nat.pow_succ] at h2
    have h4 : 8388608 * (2 ^ e * 2) ≤ 8388608 * 2 ^ d := Nat.mul_le_mul_left _ h2
    omega
  · exact Nat.dvd_trans (Nat.pow_dvd_pow 2 h1) (Nat.dvd_mul_left _ _)
theorem rn_near (n f : Nat) (hf : RpN f) : (f ≤ n → f ≤ rn n ∧ 2 * n ≤ rn n + n + (n - f) ∧ rn n ≤ n + (n - f)) ∧ (n ≤ f → rn n ≤ f ∧ n ≤ rn n + (f - n)) := by
  by_cases h : n < 16777216
  · rw [rn_small h]; constructor <;> intro _ <;> omega
  · have hn : 16777216 ≤ n := by omega
    obtain ⟨h0, h1, h2⟩ := dig_pos hn
    obtain ⟨n1, n2⟩ := @rn_half n
    -- multiples of 2^dig: the nearest one
    have key : ∀ g, 2 ^ dig n ∣ g → (g ≤ n → g ≤ rn n ∧ rn n ≤ n + (n - g)) ∧ (n ≤ g → rn n ≤ g ∧ n ≤ rn n + (g - n)) := by
      intro g hg
      have hr : 2 ^ dig n ∣ rn n := by unfold rn; exact Nat.dvd_mul_left _ _
      obtain ⟨i, rfl⟩ := hg
      obtain ⟨j, hj⟩ := hr
      rw [hj] at n1 n2 ⊢
      have hp : 0 < 2 ^ dig n := Nat.two_pow_pos _
      generalize 2 ^ dig n = p at *
      constructor
      · intro hi
        have hij : i ≤ j := by
          rcases Nat.lt_or_ge j i with h | h
          · have := Nat.mul_le_mul_left p h
            rw [Nat.mul_succ] at this
            -- then 2n ≤ 2 p j + p and p i ≤ n with i ≥ j+1: p j + p ≤ n, so 2 p j + 2p ≤ 2 n ≤ 2 p j + p
            omega
          · exact h
        have := Nat.mul_le_mul_left p hij
        rcases Nat.eq_or_lt_of_le hij with h | h
        · subst h; omega
        · have := Nat.mul_le_mul_left p h
          rw [Nat.mul_succ] at this
          omega
      · intro hi
        have hij : j ≤ i := by
          rcases Nat.lt_or_ge i j with h | h
          · have := Nat.mul_le_mul_left p h
            rw [Nat.mul_succ] at this
            omega
          · exact h
        have := Nat.mul_le_mul_left p hij
        rcases Nat.eq_or_lt_of_le hij with h | h
        · subst h; omega
        · have := Nat.mul_le_mul_left p h
          rw [Nat.mul_succ] at this
          omega
    have low := key (8388608 * 2 ^ dig n) (Nat.dvd_mul_left _ _)
    have high := key (16777216 * 2 ^ dig n) (Nat.dvd_mul_left _ _)
    rcases Nat.lt_or_ge f (8388608 * 2 ^ dig n) with h3 | h3
    · have := low.1 h1; constructor <;> intro _ <;> omega
    · rcases Nat.lt_or_ge f (16777216 * 2 ^ dig n) with h4 | h4
      · have := key f (rep_dvd hf h3); constructor <;> intro hh
        · have := this.1 hh; omega
        · have := this.2 hh; omega
      · have := high.2 (by omega); constructor <;> intro _ <;> omega
theorem rn_exact {n : Nat} (h : RpN n) : rn n = n := by
  have := rn_near n n h; have h1 := this.1 (Nat.le_refl _); have h2 := this.2 (Nat.le_refl _); omega
theorem rp_zero : RpN 0 := ⟨0, 0, by simp, by omega⟩
theorem word_mg (s : Bool) {r : Nat} (h : r < 2147483648) : mg (Ieee.single.word s r) = r := by
  unfold Ieee.Format.word mg; rw [d_sw]; split <;> omega
theorem sz_le {a b : Nat} (h : a ≤ b) : sz a ≤ sz b := by
  rcases Nat.eq_or_lt_of_le h with h1 | h1
  · rw [h1]; exact Nat.le_refl _
  · exact Nat.le_of_lt (sz_mono h1)
def rung (n : Nat) : Nat := dig n * 8388608 + rne n (dig n)
theorem nearest_eq (s : Bool) (m p : Nat) : Ieee.single.nearest s m (-149 + (p : Int)) = Ieee.single.word s (min (rung (m * 2 ^ p)) 2139095040) := by
  by_cases h0 : m = 0
  · subst h0
    have e : rung (0 * 2 ^ p) = 0 := by rw [Nat.zero_mul]; decide
    unfold Ieee.Format.nearest; rw [if_pos rfl, e]; rfl
  · have hm : 0 < m := by omega
    unfold Ieee.Format.nearest
    rw [if_neg h0]
    simp only [d_least, d_bin, d_inf, cut_rne, Nat.shiftLeft_eq]
    have hf : (Ieee.single.fractionBits : Int) = 23 := rfl
    have hlast : max (-149 + (p : Int) + (m.log2 : Int) - (Ieee.single.fractionBits : Int)) (-149) = -149 + (dig (m * 2 ^ p) : Int) := by
      unfold dig; rw [log2_mul m p hm, hf]; omega
    rw [hlast]
    have e1 : (-149 + (dig (m * 2 ^ p) : Int) - -149).toNat = dig (m * 2 ^ p) := by omega
    have e2 : (-149 + (p : Int) - (-149 + (dig (m * 2 ^ p) : Int))).toNat = p - dig (m * 2 ^ p) := by omega
    have e3 : (-149 + (dig (m * 2 ^ p) : Int) - (-149 + (p : Int))).toNat = dig (m * 2 ^ p) - p := by omega
    rw [e1, e2, e3]
    unfold rung
    generalize hd : dig (m * 2 ^ p) = d
    congr 3
    rcases Nat.le_total p d with h | h
    · rw [Nat.sub_eq_zero_of_le h, Nat.pow_zero, Nat.mul_one, rne_scale m p d h]
    · rw [Nat.sub_eq_zero_of_le h]
      have e4 : m * 2 ^ p = m * 2 ^ (p - d) * 2 ^ d := by rw [Nat.mul_assoc, ← Nat.pow_add]; congr 2; omega
      rw [e4, rne_scale _ d d (Nat.le_refl _), Nat.sub_self]
theorem sz_rung (n : Nat) : sz (rung n) = rn n := by
  unfold rung rn
  by_cases h : n < 16777216
  · rw [dig_zero h]
    have e : rne n 0 = n := by have := rne_exact n 0 (by simp); simpa using this
    rw [e]; unfold sz sig ex
    simp only [Nat.zero_mul, Nat.zero_add, Nat.pow_zero, Nat.mul_one]
    have e2 : n / 8388608 - 1 = 0 := by omega
    rw [e2, Nat.pow_zero, Nat.mul_one]
    split <;> omega
  · have hb := rne_bd (by omega : 16777216 ≤ n)
    have hd := (dig_pos (by omega : 16777216 ≤ n)).1
    generalize dig n = d at *
    generalize rne n d = k at *
    unfold sz sig ex
    rw [if_neg (by omega)]
    rcases Nat.lt_or_ge k 16777216 with h1 | h1
    · have e1 : (d * 8388608 + k) / 8388608 - 1 = d := by omega
      have e2 : (d * 8388608 + k) % 8388608 = k - 8388608 := by omega
      have e3 : 8388608 + (k - 8388608) = k := by omega
      rw [e1, e2, e3]
    · have e1 : (d * 8388608 + k) / 8388608 - 1 = d + 1 := by omega
      have e2 : (d * 8388608 + k) % 8388608 = 0 := by omega
      have e3 : k = 16777216 := by omega
      rw [e1, e2, e3, Nat.pow_succ]; omega
def szI : Nat := sz 2139095040
theorem rung_lt {n : Nat} (h : rn n < szI) : rung n < 2139095040 := by
  rcases Nat.lt_or_ge (rung n) 2139095040 with h1 | h1
  · exact h1
  · exfalso
    rw [← sz_rung] at h
    unfold szI at h
    exact Nat.not_lt.2 (sz_le h1) h
theorem word_ng (s : Bool) {r : Nat} (h : r < 2147483648) : ng (Ieee.single.word s r) = s := by
  unfold Ieee.Format.word ng; rw [d_sw]
  cases s
  · have : r / 2147483648 = 0 := by omega
    simp [this]
  · have : (2147483648 + r) / 2147483648 = 1 := by omega
    simp [this]
theorem word_val (s : Bool) {r : Nat} (h : r < 2147483648) : val (Ieee.single.word s r) = sgn s (sz r) := by
  unfold val; rw [word_ng s h, word_mg s h]
theorem word_lt (s : Bool) {r : Nat} (h : r < 2147483648) : Ieee.single.word s r < 4294967296 := by
  unfold Ieee.Format.word; rw [d_sw]; split <;> omega
theorem nearest_val (s : Bool) (m p : Nat) (h : rn (m * 2 ^ p) < szI) :
    fin (Ieee.single.nearest s m (-149 + (p : Int))) ∧ val (Ieee.single.nearest s m (-149 + (p : Int))) = sgn s (rn (m * 2 ^ p)) := by
  have hr := rung_lt h
  rw [nearest_eq, Nat.min_eq_left (by omega)]
  refine ⟨?_, by rw [word_val s (by omega), sz_rung]⟩
  unfold fin; rw [word_mg s (by omega)]; exact hr
theorem sgn_abs (s : Bool) (n : Nat) : (sgn s n).natAbs = n := by unfold sgn; split <;> omega
theorem nearest_word (m : Nat) (p : Int) : ∃ r, r ≤ 2139095040 ∧ ∀ s, Ieee.single.nearest s m p = Ieee.single.word s r := by
  by_cases h : m = 0
  · exact ⟨0, by omega, fun s => by unfold Ieee.Format.nearest; rw [if_pos h]⟩
  · refine ⟨min ((max (p + (m.log2 : Int) - (Ieee.single.fractionBits : Int)) Ieee.single.leastPlace - Ieee.single.leastPlace).toNat * Ieee.single.binade + Ieee.Toward.even.cut false (m <<< (p - max (p + (m.log2 : Int) - (Ieee.single.fractionBits : Int)) Ieee.single.leastPlace).toNat) (max (p + (m.log2 : Int) - (Ieee.single.fractionBits : Int)) Ieee.single.leastPlace - p).toNat) Ieee.single.infRung, ?_, fun s => by unfold Ieee.Format.nearest; rw [if_neg h]; rfl⟩
    exact Nat.min_le_right _ _
theorem nearest_zero (s : Bool) (p : Int) : Ieee.single.nearest s 0 p = Ieee.single.word s 0 := by unfold Ieee.Format.nearest; rw [if_pos rfl]
theorem nearest_shift (s : Bool) (m k : Nat) (p : Int) : Ieee.single.nearest s (m * 2 ^ k) (p - (k : Int)) = Ieee.single.nearest s m p := by
  by_cases h0 : m = 0
  · subst h0; rw [Nat.zero_mul, nearest_zero, nearest_zero]
  · have hm : 0 < m := by omega
    have hmk : ¬ m * 2 ^ k = 0 := Nat.ne_of_gt (Nat.mul_pos hm (Nat.two_pow_pos _))
    unfold Ieee.Format.nearest
    rw [if_neg h0, if_neg hmk]
    simp only [d_least, d_bin, d_inf, cut_rne, Nat.shiftLeft_eq, log2_mul m k hm]
    have hl : p - (k : Int) + ((m.log2 + k : Nat) : Int) - (Ieee.single.fractionBits : Int) = p + (m.log2 : Int) - (Ieee.single.fractionBits : Int) := by omega
    rw [hl]
    generalize max (p + (m.log2 : Int) - (Ieee.single.fractionBits : Int)) (-149) = L
    congr 3
    rcases Int.lt_or_le (p - (k : Int)) L with h1 | h1
    · rcases Int.lt_or_le p L with h2 | h2
      · have e1 : (p - (k : Int) - L).toNat = 0 := by omega
        have e2 : (p - L).toNat = 0 := by omega
        have e3 : (L - (p - (k : Int))).toNat = (L - p).toNat + k := by omega
        rw [e1, e2, e3, Nat.pow_zero, Nat.mul_one, Nat.mul_one, rne_scale m k _ (by omega), Nat.add_sub_cancel]
      · have e1 : (p - (k : Int) - L).toNat = 0 := by omega
        have e3 : (L - p).toNat = 0 := by omega
        have e4 : k = (p - L).toNat + (L - (p - (k : Int))).toNat := by omega
        rw [e1, e3, Nat.pow_zero, Nat.mul_one]
        generalize (L - (p - (k : Int))).toNat = d at *
        rw [e4, Nat.pow_add, ← Nat.mul_assoc, rne_scale _ d d (Nat.le_refl _), Nat.sub_self]
    · have e1 : (L - (p - (k : Int))).toNat = 0 := by omega
      have e2 : (L - p).toNat = 0 := by omega
      have e3 : (p - L).toNat = k + (p - (k : Int) - L).toNat := by omega
      rw [e1, e2, e3, Nat.pow_add, Nat.mul_assoc]
theorem rung_sz (r : Nat) : rung (sz r) = r := by
  apply sz_inj
  rw [sz_rung]
  exact rn_exact ⟨sig r, ex r, rfl, sig_lt r⟩
theorem word_self {x : Nat} (h : x < 4294967296) : Ieee.single.word (ng x) (mg x) = x := by
  unfold Ieee.Format.word ng mg; rw [d_sw]
  rcases Nat.mod_two_eq_zero_or_one (x / 2147483648) with h2 | h2
  · rw [h2]; simp only [show ((0 : Nat) == 1) = false from rfl, Bool.false_eq_true, if_false]; omega
  · rw [h2]; simp only [beq_self_eq_true, if_true]; omega
theorem nearest_read {x : Nat} (hx : fin x) (h : x < 4294967296) : Ieee.single.nearest (ng x) (sig (mg x)) (-149 + (ex (mg x) : Int)) = x := by
  rw [nearest_eq]
  have e : sig (mg x) * 2 ^ ex (mg x) = sz (mg x) := rfl
  rw [e, rung_sz, Nat.min_eq_left (by unfold fin at hx; omega), word_self h]
theorem rne_mono {n n' : Nat} (d : Nat) (h : n ≤ n') : rne n d ≤ rne n' d := by
  unfold rne
  have hp := Nat.two_pow_pos d
  have e1 := Nat.div_add_mod n (2 ^ d)
  have e2 := Nat.div_add_mod n' (2 ^ d)
  have h1 := Nat.mod_lt n hp
  have h2 := Nat.mod_lt n' hp
  have hd : n / 2 ^ d ≤ n' / 2 ^ d := Nat.div_le_div_right h
  rcases Nat.lt_or_ge (n / 2 ^ d) (n' / 2 ^ d) with hlt | hge
  · split <;> split <;> omega
  · have he : n / 2 ^ d = n' / 2 ^ d := by omega
    rw [he] at e1 ⊢
    generalize n' / 2 ^ d = q at *
    generalize n % 2 ^ d = r at *
    generalize n' % 2 ^ d = r' at *
    generalize 2 ^ d * q = y at *
    have hr : r ≤ r' := by omega
    split <;> split <;> omega
theorem rne_le {n d : Nat} (h : n < 2 ^ (d + 24)) : rne n d ≤ 2 ^ 24 := by
  unfold rne
  have : n / 2 ^ d < 2 ^ 24 := by
    rw [Nat.div_lt_iff_lt_mul (Nat.two_pow_pos _), Nat.mul_comm, ← Nat.pow_add]; exact h
  split <;> omega
theorem rne_ge {n d : Nat} (h : 2 ^ (d + 23) ≤ n) : 2 ^ 23 ≤ rne n d := by
  unfold rne
  have : 2 ^ 23 ≤ n / 2 ^ d := by
    rw [Nat.le_div_iff_mul_le (Nat.two_pow_pos _), Nat.mul_comm, ← Nat.pow_add]; exact h
  omega
theorem word_false (r : Nat) : Ieee.single.word false r = r := rfl
def nr (m : Nat) (p : Int) : Nat := Ieee.single.nearest false m p
theorem nr_shift (m k : Nat) (p : Int) : nr (m * 2 ^ k) (p - (k : Int)) = nr m p := nearest_shift false m k p
theorem nr_zero (p : Int) : nr 0 p = 0 := nearest_zero false p
theorem nr_eq1 {m : Nat} (h : ¬ m = 0) (p : Int) : Ieee.single.nearest false m p = Ieee.single.word false (min ((max (p + (m.log2 : Int) - (Ieee.single.fractionBits : Int)) Ieee.single.leastPlace - Ieee.single.leastPlace).toNat * Ieee.single.binade + Ieee.Toward.even.cut false (m <<< (p - max (p + (m.log2 : Int) - (Ieee.single.fractionBits : Int)) Ieee.single.leastPlace).toNat) (max (p + (m.log2 : Int) - (Ieee.single.fractionBits : Int)) Ieee.single.leastPlace - p).toNat) Ieee.single.infRung) := by
  unfold Ieee.Format.nearest; rw [if_neg h]
theorem nr_eq {m : Nat} (h : 0 < m) {p L : Int} (hL : L = max (p + (m.log2 : Int) - 23) (-149)) : nr m p = min ((L + 149).toNat * 8388608 + rne (m * 2 ^ (p - L).toNat) (L - p).toNat) 2139095040 := by
  unfold nr
  rw [nr_eq1 (by omega)]
  have hf : (Ieee.single.fractionBits : Int) = 23 := rfl
  rw [hf, d_least, ← hL, d_bin, d_inf, word_false, cut_rne, Nat.shiftLeft_eq]
  have hk : L - -149 = L + 149 := by omega
  rw [hk]
theorem nr_mono {m m' : Nat} (p : Int) (h : m ≤ m') : nr m p ≤ nr m' p := by
  rcases Nat.eq_zero_or_pos m with h0 | h0
  · subst h0; rw [nr_zero]; exact Nat.zero_le _
  · have h0' : 0 < m' := by omega
    have hl : m.log2 ≤ m'.log2 := by
      have b1 := (log2_bd h0).1
      have b2 := (log2_bd h0').2
      have : 2 ^ m.log2 < 2 ^ (m'.log2 + 1) := by omega
      have := (Nat.pow_lt_pow_iff_right (by omega : 1 < 2)).1 this
      omega
    have bm := log2_bd h0
    have bm' := log2_bd h0'
    obtain ⟨L, hL⟩ : ∃ L, L = max (p + (m.log2 : Int) - 23) (-149) := ⟨_, rfl⟩
    obtain ⟨L', hL'⟩ : ∃ L', L' = max (p + (m'.log2 : Int) - 23) (-149) := ⟨_, rfl⟩
    rw [nr_eq h0 hL, nr_eq h0' hL']
    have hLL : L ≤ L' := by omega
    have key : (L + 149).toNat * 8388608 + rne (m * 2 ^ (p - L).toNat) (L - p).toNat ≤ (L' + 149).toNat * 8388608 + rne (m' * 2 ^ (p - L').toNat) (L' - p).toNat := by
      rcases Int.lt_or_le L L' with hlt | hge
      · have k1 : rne (m * 2 ^ (p - L).toNat) (L - p).toNat ≤ 2 ^ 24 := by
          apply rne_le
          have h1 : m * 2 ^ (p - L).toNat < 2 ^ (m.log2 + 1) * 2 ^ (p - L).toNat := (Nat.mul_lt_mul_right (Nat.two_pow_pos _)).2 bm.2
          rw [← Nat.pow_add] at h1
          refine Nat.lt_of_lt_of_le h1 (Nat.pow_le_pow_right (by omega) ?_)
          omega
        have k2 : 2 ^ 23 ≤ rne (m' * 2 ^ (p - L').toNat) (L' - p).toNat := by
          apply rne_ge
          have h1 : 2 ^ m'.log2 * 2 ^ (p - L').toNat ≤ m' * 2 ^ (p - L').toNat := Nat.mul_le_mul_right _ bm'.1
          rw [← Nat.pow_add] at h1
          refine Nat.le_trans (Nat.pow_le_pow_right (by omega) ?_) h1
          omega
        have k3 : (L + 149).toNat + 1 ≤ (L' + 149).toNat := by omega
        have e24 : (2 : Nat) ^ 24 = 16777216 := by decide
        have e52 : (2 : Nat) ^ 23 = 8388608 := by decide
        rw [e24] at k1
        rw [e52] at k2
        have k4 : ((L + 149).toNat + 1) * 8388608 ≤ (L' + 149).toNat * 8388608 := Nat.mul_le_mul_right _ k3
        omega
      · have he : L = L' := by omega
        rw [he]
        exact Nat.add_le_add_left (rne_mono (L' - p).toNat (Nat.mul_le_mul_right (2 ^ (p - L').toNat) h)) _
    exact Nat.le_min.2 ⟨Nat.le_trans (Nat.min_le_left _ _) key, Nat.min_le_right _ _⟩
theorem nr_le {m m' k : Nat} {p p' : Int} (hp : p' = p + (k : Int)) (h : m ≤ m' * 2 ^ k) : nr m p ≤ nr m' p' := by
  have : nr m' p' = nr (m' * 2 ^ k) p := by rw [← nr_shift m' k p']; congr 1; omega
  rw [this]; exact nr_mono p h
theorem nr_ge {m m' k : Nat} {p p' : Int} (hp : p' = p + (k : Int)) (h : m' * 2 ^ k ≤ m) : nr m' p' ≤ nr m p := by
  have : nr m' p' = nr (m' * 2 ^ k) p := by rw [← nr_shift m' k p']; congr 1; omega
  rw [this]; exact nr_mono p h
theorem nr_sz {r : Nat} (h : r ≤ 2139095040) : nr (sz r) (-149) = r := by
  have e := nearest_eq false (sz r) 0
  rw [Nat.pow_zero, Nat.mul_one, rung_sz, Nat.min_eq_left h, word_false] at e
  have e0 : (-149 + ((0 : Nat) : Int)) = -149 := by omega
  rw [e0] at e
  unfold nr
  exact e
theorem nr_lim (m : Nat) (p : Int) : nr m p ≤ 2139095040 := by
  rcases Nat.eq_zero_or_pos m with h0 | h0
  · subst h0; rw [nr_zero]; omega
  · rw [nr_eq h0 rfl]; exact Nat.min_le_right _ _
theorem nearest_nr (s : Bool) (m : Nat) (p : Int) : Ieee.single.nearest s m p = Ieee.single.word s (nr m p) := by
  obtain ⟨r, hr, e⟩ := nearest_word m p
  unfold nr
  rw [e, e, word_false]

end Go.Proofs.Ythkhemmpjfilaab.Fs
