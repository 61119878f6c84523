/-
  Several texts in one: Rn Lk Ts Tp Pt Pa Pd.
-/
import Derived.Test.YtmpkcioeodlbcaaGreatDoorK12
namespace Go.Proofs.YtmpkcioeodlbcaaGreatDoor.Fl
/-- n over two to the d, to the nearest, ties to even -/
def rne (n d : Nat) : Nat := n / 2 ^ d + (if 2 ^ d < 2 * (n % 2 ^ d) ∨ (2 ^ d = 2 * (n % 2 ^ d) ∧ n / 2 ^ d % 2 = 1) then 1 else 0)
def dig (n : Nat) : Nat := n.log2 - 52
def rn (n : Nat) : Nat := rne n (dig n) * 2 ^ dig n
def rnI (v : Int) : Int := if v < 0 then -(rn v.natAbs : Int) else rn v.natAbs
def Rp (v : Int) : Prop := ∃ m e : Nat, v.natAbs = m * 2 ^ e ∧ m < 9007199254740992
def RpN (n : Nat) : Prop := ∃ m e : Nat, n = m * 2 ^ e ∧ m < 9007199254740992

theorem rne_near (n d : Nat) : 2 * rne n d * 2 ^ d ≤ 2 * n + 2 ^ d ∧ 2 * n ≤ 2 * rne n d * 2 ^ d + 2 ^ d := by
  have h := Nat.div_add_mod n (2 ^ d)
  have hlt : n % 2 ^ d < 2 ^ d := Nat.mod_lt _ (Nat.two_pow_pos _)
  unfold rne
  generalize n / 2 ^ d = q at *
  generalize n % 2 ^ d = r at *
  generalize 2 ^ d = p at *
  split
  · have e : 2 * (q + 1) * p = 2 * (p * q) + 2 * p := by rw [Nat.mul_assoc, Nat.add_mul, Nat.mul_comm q p, Nat.mul_add]; omega
    rw [e]; omega
  · have e : 2 * (q + 0) * p = 2 * (p * q) := by rw [Nat.add_zero, Nat.mul_assoc, Nat.mul_comm q p]
    rw [e]; omega
theorem rne_exact (n d : Nat) (h : 2 ^ d ∣ n) : rne n d * 2 ^ d = n := by
  have h0 : n % 2 ^ d = 0 := Nat.mod_eq_zero_of_dvd h
  have hp : 0 < 2 ^ d := Nat.two_pow_pos _
  unfold rne; rw [h0, if_neg (by omega), Nat.add_zero]
  exact Nat.div_mul_cancel h
theorem log2_bd {n : Nat} (h : 0 < n) : 2 ^ n.log2 ≤ n ∧ n < 2 ^ (n.log2 + 1) := ⟨Nat.log2_self_le (by omega), Nat.lt_log2_self⟩
theorem dig_zero {n : Nat} (h : n < 9007199254740992) : dig n = 0 := by
  unfold dig
  by_cases h0 : n = 0
  · subst h0; simp
  · have h1 := (log2_bd (by omega : 0 < n)).1
    have : n.log2 < 53 := by
      rcases Nat.lt_or_ge n.log2 53 with h2 | h2
      · exact h2
      · have := Nat.pow_le_pow_right (n := 2) (by omega) h2
        have e : (2 : Nat) ^ 53 = 9007199254740992 := by decide
        omega
    omega
theorem dig_pos {n : Nat} (h : 9007199254740992 ≤ n) : 0 < dig n ∧ 4503599627370496 * 2 ^ dig n ≤ n ∧ n < 9007199254740992 * 2 ^ dig n := by
  have h1 := log2_bd (by omega : 0 < n)
  have hk : 53 ≤ n.log2 := by
    rcases Nat.lt_or_ge n.log2 53 with h2 | h2
    · have := Nat.pow_le_pow_right (n := 2) (by omega) (by omega : n.log2 + 1 ≤ 53)
      have e : (2 : Nat) ^ 53 = 9007199254740992 := by decide
      omega
    · exact h2
  have e1 : (2 : Nat) ^ n.log2 = 4503599627370496 * 2 ^ dig n := by
    rw [show (4503599627370496 : Nat) = 2 ^ 52 by decide, ← Nat.pow_add]; unfold dig; congr 1; omega
  have e2 : (2 : Nat) ^ (n.log2 + 1) = 9007199254740992 * 2 ^ dig n := by rw [Nat.pow_succ, e1]; omega
  unfold dig at *
  omega
theorem rn_small {n : Nat} (h : n < 9007199254740992) : rn n = n := by
  unfold rn; rw [dig_zero h]; exact rne_exact n 0 (by simp)
theorem rn_half {n : Nat} : 2 * rn n ≤ 2 * n + 2 ^ dig n ∧ 2 * n ≤ 2 * rn n + 2 ^ dig n := by
  have := rne_near n (dig n); unfold rn; rw [← Nat.mul_assoc]; exact this
theorem rne_bd {n : Nat} (h : 9007199254740992 ≤ n) : 4503599627370496 ≤ rne n (dig n) ∧ rne n (dig n) ≤ 9007199254740992 := by
  obtain ⟨h0, h1, h2⟩ := dig_pos h
  have hq1 : 4503599627370496 ≤ n / 2 ^ dig n := (Nat.le_div_iff_mul_le (Nat.two_pow_pos _)).2 h1
  have hq2 : n / 2 ^ dig n < 9007199254740992 := (Nat.div_lt_iff_lt_mul (Nat.two_pow_pos _)).2 h2
  unfold rne; split <;> omega
theorem rep_dvd {f d : Nat} (h : RpN f) (hf : 4503599627370496 * 2 ^ d ≤ f) : 2 ^ d ∣ f := by
  obtain ⟨m, e, rfl, hm⟩ := h
  rcases Nat.lt_or_ge e d with h1 | h1
  · exfalso
    have h2 : 2 ^ (e + 1) ≤ 2 ^ d := Nat.pow_le_pow_right (by omega) h1
    have h3 : m * 2 ^ e < 9007199254740992 * 2 ^ e := (Nat.mul_lt_mul_right (Nat.two_pow_pos _)).2 hm
    rw [Nat.pow_succ] at h2
    have h4 : 4503599627370496 * (2 ^ e * 2) ≤ 4503599627370496 * 2 ^ d := Nat.mul_le_mul_left _ h2
    omega
  · exact Nat.dvd_trans (Nat.pow_dvd_pow 2 h1) (Nat.dvd_mul_left _ _)
/-- rounding goes to the nearest -/
theorem rn_near (n f : Nat) (hf : RpN f) : (f ≤ n → f ≤ rn n ∧ 2 * n ≤ rn n + n + (n - f) ∧ rn n ≤ n + (n - f)) ∧ (n ≤ f → rn n ≤ f ∧ n ≤ rn n + (f - n)) := by
  by_cases h : n < 9007199254740992
  · rw [rn_small h]; constructor <;> intro _ <;> omega
  · have hn : 9007199254740992 ≤ n := by omega
    obtain ⟨h0, h1, h2⟩ := dig_pos hn
    obtain ⟨n1, n2⟩ := @rn_half n
    -- multiples of 2^dig: the nearest one
    have key : ∀ g, 2 ^ dig n ∣ g → (g ≤ n → g ≤ rn n ∧ rn n ≤ n + (n - g)) ∧ (n ≤ g → rn n ≤ g ∧ n ≤ rn n + (g - n)) := by
      intro g hg
      have hr : 2 ^ dig n ∣ rn n := by unfold rn; exact Nat.dvd_mul_left _ _
      obtain ⟨i, rfl⟩ := hg
      obtain ⟨j, hj⟩ := hr
      rw [hj] at n1 n2 ⊢
      have hp : 0 < 2 ^ dig n := Nat.two_pow_pos _
      generalize 2 ^ dig n = p at *
      constructor
      · intro hi
        have hij : i ≤ j := by
          rcases Nat.lt_or_ge j i with h | h
          · have := Nat.mul_le_mul_left p h
            rw [Nat.mul_succ] at this
            -- then 2n ≤ 2 p j + p and p i ≤ n with i ≥ j+1: p j + p ≤ n, so 2 p j + 2p ≤ 2 n ≤ 2 p j + p
            omega
          · exact h
        have := Nat.mul_le_mul_left p hij
        rcases Nat.eq_or_lt_of_le hij with h | h
        · subst h; omega
        · have := Nat.mul_le_mul_left p h
          rw [Nat.mul_succ] at this
          omega
      · intro hi
        have hij : j ≤ i := by
          rcases Nat.lt_or_ge i j with h | h
          · have := Nat.mul_le_mul_left p h
            rw [Nat.mul_succ] at this
            omega
          · exact h
        have := Nat.mul_le_mul_left p hij
        rcases Nat.eq_or_lt_of_le hij with h | h
        · subst h; omega
        · have := Nat.mul_le_mul_left p h
          rw [Nat.mul_succ] at this
          omega
    have low := key (4503599627370496 * 2 ^ dig n) (Nat.dvd_mul_left _ _)
    have high := key (9007199254740992 * 2 ^ dig n) (Nat.dvd_mul_left _ _)
    rcases Nat.lt_or_ge f (4503599627370496 * 2 ^ dig n) with h3 | h3
    · have := low.1 h1; constructor <;> intro _ <;> omega
    · rcases Nat.lt_or_ge f (9007199254740992 * 2 ^ dig n) with h4 | h4
      · have := key f (rep_dvd hf h3); constructor <;> intro hh
        · have := this.1 hh; omega
        · have := this.2 hh; omega
      · have := high.2 (by omega); constructor <;> intro _ <;> omega
theorem rn_exact {n : Nat} (h : RpN n) : rn n = n := by
  have := rn_near n n h; have h1 := this.1 (Nat.le_refl _); have h2 := this.2 (Nat.le_refl _); omega
theorem Rp.nat {v : Int} (h : Rp v) : RpN v.natAbs := h
theorem rp_zero : RpN 0 := ⟨0, 0, by simp, by omega⟩
theorem Rp.neg {v : Int} (h : Rp v) : Rp (-v) := by obtain ⟨m, e, h1, h2⟩ := h; exact ⟨m, e, by rw [Int.natAbs_neg]; exact h1, h2⟩
theorem rnI_near (v f : Int) (hf : Rp f) : (v - rnI v).natAbs ≤ (v - f).natAbs ∧ (f ≤ v → f ≤ rnI v) ∧ (v ≤ f → rnI v ≤ f) := by
  have h0 := rn_near v.natAbs 0 rp_zero
  have h1 := rn_near v.natAbs f.natAbs hf.nat
  have h0' := h0.1 (Nat.zero_le _)
  unfold rnI
  by_cases hv : v < 0
  · rw [if_pos hv]
    by_cases hs : f < 0
    · rcases Nat.le_total f.natAbs v.natAbs with hh | hh
      · have := h1.1 hh; omega
      · have := h1.2 hh; omega
    · omega
  · rw [if_neg hv]
    by_cases hs : f < 0
    · omega
    · rcases Nat.le_total f.natAbs v.natAbs with hh | hh
      · have := h1.1 hh; omega
      · have := h1.2 hh; omega
theorem rnI_exact {v : Int} (h : Rp v) : rnI v = v := by have := rnI_near v v h; omega
end Go.Proofs.YtmpkcioeodlbcaaGreatDoor.Fl
namespace Go.Proofs.YtmpkcioeodlbcaaGreatDoor.Fl
theorem log2_mul (m p : Nat) (h : 0 < m) : (m * 2 ^ p).log2 = m.log2 + p := by
  have h1 := log2_bd h
  have hp : 0 < 2 ^ p := Nat.two_pow_pos _
  refine (Nat.log2_eq_iff (Nat.mul_ne_zero (by omega) (by omega))).2 ⟨?_, ?_⟩
  · rw [Nat.pow_add]; exact Nat.mul_le_mul_right _ h1.1
  · rw [show m.log2 + p + 1 = (m.log2 + 1) + p by omega, Nat.pow_add]; exact (Nat.mul_lt_mul_right hp).2 h1.2
theorem more_if (p r q : Nat) : (decide (p < 2 * r) || (p == 2 * r && q % 2 == 1)).toNat = if p < 2 * r ∨ (p = 2 * r ∧ q % 2 = 1) then 1 else 0 := by
  by_cases h1 : p < 2 * r
  · simp [h1]
  · by_cases h2 : p = 2 * r
    · by_cases h3 : q % 2 = 1
      · simp [h2, h3]
      · have h4 : (q % 2 == 1) = false := by simpa using h3
        rw [h4]; simp [h3, h1]
    · have h4 : (p == 2 * r) = false := by simpa using h2
      rw [h4]; simp [h2, h1]
theorem sz_le {a b : Nat} (h : a ≤ b) : sz a ≤ sz b := by
  rcases Nat.eq_or_lt_of_le h with h1 | h1
  · rw [h1]; exact Nat.le_refl _
  · exact Nat.le_of_lt (sz_mono h1)
theorem cut_rne (s : Bool) (n d : Nat) : Ieee.Toward.even.cut s n d = rne n d := by
  have key : Ieee.Toward.even.cut s n d = rne n (min d (n.log2 + 2)) := by
    unfold Ieee.Toward.cut rne
    simp only [Nat.shiftLeft_eq, Nat.one_mul]
    congr 1
    generalize 2 ^ min d (n.log2 + 2) = p
    exact more_if p (n % p) (n / p)
  rw [key]
  rcases Nat.le_total d (n.log2 + 2) with h | h
  · rw [Nat.min_eq_left h]
  · rw [Nat.min_eq_right h]
    have z : ∀ e, n.log2 + 2 ≤ e → rne n e = 0 := by
      intro e he
      have h1 : n < 2 ^ (n.log2 + 1) := Nat.lt_log2_self
      have h2 : 2 ^ (n.log2 + 1 + 1) ≤ 2 ^ e := Nat.pow_le_pow_right (by omega) he
      rw [Nat.pow_succ] at h2
      unfold rne
      rw [Nat.div_eq_of_lt (by omega), Nat.mod_eq_of_lt (by omega), if_neg (by omega)]
    rw [z _ (Nat.le_refl _), z _ h]
theorem rne_scale (m p d : Nat) (h : p ≤ d) : rne (m * 2 ^ p) d = rne m (d - p) := by
  have hd : 2 ^ d = 2 ^ (d - p) * 2 ^ p := by rw [← Nat.pow_add]; congr 1; omega
  have hp : 0 < 2 ^ p := Nat.two_pow_pos _
  have h1 : m * 2 ^ p / 2 ^ d = m / 2 ^ (d - p) := by rw [hd]; exact Nat.mul_div_mul_right _ _ hp
  have h2 : m * 2 ^ p % 2 ^ d = m % 2 ^ (d - p) * 2 ^ p := by rw [hd]; exact Nat.mul_mod_mul_right _ _ _
  unfold rne
  rw [h1, h2]
  congr 1
  have e1 : (2 ^ d < 2 * (m % 2 ^ (d - p) * 2 ^ p)) ↔ (2 ^ (d - p) < 2 * (m % 2 ^ (d - p))) := by
    rw [hd, ← Nat.mul_assoc]; exact Nat.mul_lt_mul_right hp
  have e2 : (2 ^ d = 2 * (m % 2 ^ (d - p) * 2 ^ p)) ↔ (2 ^ (d - p) = 2 * (m % 2 ^ (d - p))) := by
    rw [hd, ← Nat.mul_assoc]; exact ⟨fun h => Nat.eq_of_mul_eq_mul_right hp h, fun h => congrArg (· * 2 ^ p) h⟩
  simp only [e1, e2]
/-- the place in the row of words of a rounded whole number -/
def rung (n : Nat) : Nat := dig n * 4503599627370496 + rne n (dig n)
theorem nearest_eq (s : Bool) (m p : Nat) : Ieee.double.nearest s m (-1074 + (p : Int)) = Ieee.double.word s (min (rung (m * 2 ^ p)) 9218868437227405312) := by
  by_cases h0 : m = 0
  · subst h0
    have e : rung (0 * 2 ^ p) = 0 := by rw [Nat.zero_mul]; decide
    unfold Ieee.Format.nearest; rw [if_pos rfl, e]; rfl
  · have hm : 0 < m := by omega
    unfold Ieee.Format.nearest
    rw [if_neg h0]
    simp only [d_least, d_bin, d_inf, cut_rne, Nat.shiftLeft_eq]
    have hf : (Ieee.double.fractionBits : Int) = 52 := rfl
    have hlast : max (-1074 + (p : Int) + (m.log2 : Int) - (Ieee.double.fractionBits : Int)) (-1074) = -1074 + (dig (m * 2 ^ p) : Int) := by
      unfold dig; rw [log2_mul m p hm, hf]; omega
    rw [hlast]
    have e1 : (-1074 + (dig (m * 2 ^ p) : Int) - -1074).toNat = dig (m * 2 ^ p) := by omega
    have e2 : (-1074 + (p : Int) - (-1074 + (dig (m * 2 ^ p) : Int))).toNat = p - dig (m * 2 ^ p) := by omega
    have e3 : (-1074 + (dig (m * 2 ^ p) : Int) - (-1074 + (p : Int))).toNat = dig (m * 2 ^ p) - p := by omega
    rw [e1, e2, e3]
    unfold rung
    generalize hd : dig (m * 2 ^ p) = d
    congr 3
    rcases Nat.le_total p d with h | h
    · rw [Nat.sub_eq_zero_of_le h, Nat.pow_zero, Nat.mul_one, rne_scale m p d h]
    · rw [Nat.sub_eq_zero_of_le h]
      have e4 : m * 2 ^ p = m * 2 ^ (p - d) * 2 ^ d := by rw [Nat.mul_assoc, ← Nat.pow_add]; congr 2; omega
      rw [e4, rne_scale _ d d (Nat.le_refl _), Nat.sub_self]
theorem sz_rung (n : Nat) : sz (rung n) = rn n := by
  unfold rung rn
  by_cases h : n < 9007199254740992
  · rw [dig_zero h]
    have e : rne n 0 = n := by have := rne_exact n 0 (by simp); simpa using this
    rw [e]; unfold sz sig ex
    simp only [Nat.zero_mul, Nat.zero_add, Nat.pow_zero, Nat.mul_one]
    have e2 : n / 4503599627370496 - 1 = 0 := by omega
    rw [e2, Nat.pow_zero, Nat.mul_one]
    split <;> omega
  · have hb := rne_bd (by omega : 9007199254740992 ≤ n)
    have hd := (dig_pos (by omega : 9007199254740992 ≤ n)).1
    generalize dig n = d at *
    generalize rne n d = k at *
    unfold sz sig ex
    rw [if_neg (by omega)]
    rcases Nat.lt_or_ge k 9007199254740992 with h1 | h1
    · have e1 : (d * 4503599627370496 + k) / 4503599627370496 - 1 = d := by omega
      have e2 : (d * 4503599627370496 + k) % 4503599627370496 = k - 4503599627370496 := by omega
      have e3 : 4503599627370496 + (k - 4503599627370496) = k := by omega
      rw [e1, e2, e3]
    · have e1 : (d * 4503599627370496 + k) / 4503599627370496 - 1 = d + 1 := by omega
      have e2 : (d * 4503599627370496 + k) % 4503599627370496 = 0 := by omega
      have e3 : k = 9007199254740992 := by omega
      rw [e1, e2, e3, Nat.pow_succ]; omega
def szI : Nat := sz 9218868437227405312
theorem rung_lt {n : Nat} (h : rn n < szI) : rung n < 9218868437227405312 := by
  rcases Nat.lt_or_ge (rung n) 9218868437227405312 with h1 | h1
  · exact h1
  · exfalso
    rw [← sz_rung] at h
    unfold szI at h
    exact Nat.not_lt.2 (sz_le h1) h
theorem word_ng (s : Bool) {r : Nat} (h : r < 9223372036854775808) : ng (Ieee.double.word s r) = s := by
  unfold Ieee.Format.word ng; rw [d_sw]
  cases s
  · have : r / 9223372036854775808 = 0 := by omega
    simp [this]
  · have : (9223372036854775808 + r) / 9223372036854775808 = 1 := by omega
    simp [this]
theorem word_val (s : Bool) {r : Nat} (h : r < 9223372036854775808) : val (Ieee.double.word s r) = sgn s (sz r) := by
  unfold val; rw [word_ng s h, word_mg s h]
/-- writing a finite number -/
theorem nearest_val (s : Bool) (m p : Nat) (h : rn (m * 2 ^ p) < szI) :
    fin (Ieee.double.nearest s m (-1074 + (p : Int))) ∧ val (Ieee.double.nearest s m (-1074 + (p : Int))) = sgn s (rn (m * 2 ^ p)) := by
  have hr := rung_lt h
  rw [nearest_eq, Nat.min_eq_left (by omega)]
  refine ⟨?_, by rw [word_val s (by omega), sz_rung]⟩
  unfold fin; rw [word_mg s (by omega)]; exact hr
theorem sgn_abs (s : Bool) (n : Nat) : (sgn s n).natAbs = n := by unfold sgn; split <;> omega
theorem val_rep (x : Nat) : Rp (val x) := by
  exact ⟨sig (mg x), ex (mg x), sgn_abs _ _, sig_lt _⟩
theorem sgn_rn (v : Int) (s : Bool) (h : v ≠ 0 → s = decide (v < 0)) : sgn s (rn v.natAbs) = rnI v := by
  by_cases hv : v = 0
  · subst hv
    have : rn 0 = 0 := rn_small (by omega)
    unfold rnI sgn; simp [this]
  · rw [h hv]; unfold rnI sgn; by_cases h2 : v < 0 <;> simp [h2]
/-- the sum of two numbers, written -/
theorem sum_write (s t : Bool) (m n p q : Nat) (h : rn (sgn s (m * 2 ^ p) + sgn t (n * 2 ^ q)).natAbs < szI) :
    ∃ r, (((Ieee.Datum.number s m (-1074 + (p : Int))).sum (.number t n (-1074 + (q : Int)))).map Ieee.double.write) = some r ∧ fin r ∧ val r = rnI (sgn s (m * 2 ^ p) + sgn t (n * 2 ^ q)) := by
  unfold Ieee.Datum.sum
  simp only [signed_eq, Option.map_some]
  have e1 : (-1074 + (p : Int) - min (-1074 + (p : Int)) (-1074 + (q : Int))).toNat = p - min p q := by omega
  have e2 : (-1074 + (q : Int) - min (-1074 + (p : Int)) (-1074 + (q : Int))).toNat = q - min p q := by omega
  have e3 : min (-1074 + (p : Int)) (-1074 + (q : Int)) = -1074 + ((min p q : Nat) : Int) := by omega
  rw [e1, e2, e3]
  have e4 : (sgn s (m * 2 ^ (p - min p q)) + sgn t (n * 2 ^ (q - min p q))) * ((2 ^ min p q : Nat) : Int) = sgn s (m * 2 ^ p) + sgn t (n * 2 ^ q) := by
    rw [Int.add_mul, ← sgn_mul, ← sgn_mul, Nat.mul_assoc, Nat.mul_assoc, ← Nat.pow_add, ← Nat.pow_add, Nat.sub_add_cancel (Nat.min_le_left _ _), Nat.sub_add_cancel (Nat.min_le_right _ _)]
  generalize hT : sgn s (m * 2 ^ (p - min p q)) + sgn t (n * 2 ^ (q - min p q)) = T at *
  have hk : 0 < 2 ^ min p q := Nat.two_pow_pos _
  have e5 : (sgn s (m * 2 ^ p) + sgn t (n * 2 ^ q)).natAbs = T.natAbs * 2 ^ min p q := by rw [← e4, Int.natAbs_mul]; rfl
  rw [e5] at h
  generalize hS : (if T = 0 then s && t else decide (T < 0)) = S
  obtain ⟨h1, h2⟩ := nearest_val S T.natAbs (min p q) h
  refine ⟨_, rfl, h1, ?_⟩
  show val (Ieee.double.nearest S T.natAbs (-1074 + ((min p q : Nat) : Int))) = _
  rw [h2, ← e5, sgn_rn]
  intro hne
  rw [← hS, ← e4]
  have hT0 : T ≠ 0 := by intro h; apply hne; rw [← e4, h]; simp
  rw [if_neg hT0]
  congr 1
  have hk' : (0 : Int) < ((2 ^ min p q : Nat) : Int) := by omega
  rw [eq_iff_iff]
  constructor
  · intro h; exact Int.mul_neg_of_neg_of_pos h hk'
  · intro h
    rcases Int.lt_or_le T 0 with h3 | h3
    · exact h3
    · exact absurd (Int.mul_nonneg h3 (Int.le_of_lt hk')) (by omega)
theorem add_fin {x y : Nat} (hx : fin x) (hy : fin y) (h : rn (val x + val y).natAbs < szI) :
    ∃ r, addO x y = some r ∧ fin r ∧ val r = rnI (val x + val y) := by
  unfold addO Ieee.Format.add
  rw [read_fin x hx, read_fin y hy]
  exact sum_write _ _ _ _ _ _ h
theorem sgn_not (s : Bool) (n : Nat) : sgn (!s) n = -sgn s n := by unfold sgn; cases s <;> simp
theorem sub_fin {x y : Nat} (hx : fin x) (hy : fin y) (h : rn (val x - val y).natAbs < szI) :
    ∃ r, subO x y = some r ∧ fin r ∧ val r = rnI (val x - val y) := by
  unfold subO Ieee.Format.sub
  rw [read_fin x hx, read_fin y hy]
  have e : val x - val y = sgn (ng x) (sig (mg x) * 2 ^ ex (mg x)) + sgn (!ng y) (sig (mg y) * 2 ^ ex (mg y)) := by rw [sgn_not]; unfold val sz; omega
  rw [e] at h ⊢
  exact sum_write _ _ _ _ _ _ h

end Go.Proofs.YtmpkcioeodlbcaaGreatDoor.Fl
namespace Go.Proofs.YtmpkcioeodlbcaaGreatDoor.Fl
def HE : Nat := 2096
def HH : Nat := 2 ^ HE
theorem rn_abs (v : Int) : (rnI v).natAbs = rn v.natAbs := by unfold rnI; split <;> omega
theorem ans_fin {x : Nat} (h : fin x) : ans x = some x := ans_num (fin_not_nan h)
end Go.Proofs.YtmpkcioeodlbcaaGreatDoor.Fl
namespace Go.Proofs.YtmpkcioeodlbcaaGreatDoor.Fl
theorem mul_eq {a b : Nat} (ha : fin a) (hb : fin b) : mulO a b = some (Ieee.double.nearest (ng a ^^ ng b) (sig (mg a) * sig (mg b)) (-1074 + (ex (mg a) : Int) + (-1074 + (ex (mg b) : Int)))) := by
  unfold mulO Ieee.Format.mul; rw [read_fin a ha, read_fin b hb]; rfl
/-- 1074, kept shut -/
def K74 : Nat := 1074
end Go.Proofs.YtmpkcioeodlbcaaGreatDoor.Fl
namespace Go.Proofs.YtmpkcioeodlbcaaGreatDoor
open Fl
theorem retc {a b c d : Nat} (h : a = b) (h2 : c = d) : Ending.returned (.complex .f64 a c) = .returned (.complex .f64 b d) := by rw [h, h2]

section small
variable (a b c d : Nat) (w : World)
theorem apart_any : Calls Tryz.prog 89 #[.complex .f64 a b] w fun e w' => e = .returned (.tuple #[.float .f64 a, .float .f64 b]) ∧ w' = w := by
  go_enter Tryz.func89, Tryz.ntmps89
  go_wp2
  go_ret2
  exact ⟨rfl, rfl⟩
theorem fin_any (ha : a < 18446744073709551616) (hb : b < 18446744073709551616) : Calls Tryz.prog 59 #[.complex .f64 a b] w fun e w' => e = .returned (.bool (finB a && finB b)) ∧ w' = w := by
  cases h1 : finB a <;> cases h2 : finB b
  all_goals
    go_enter Tryz.func59, Tryz.ntmps59
    go_wp2_with (first | (go_at_call 93; refine (finite_any _ _ (by assumption)).mono ?_; rintro e w' ⟨rfl, rfl⟩))
    go_ret
    exact ⟨rfl, rfl⟩
end small
end Go.Proofs.YtmpkcioeodlbcaaGreatDoor
namespace Go.Proofs.YtmpkcioeodlbcaaGreatDoor
open Fl
/-- Products, quotients. -/
def mulRe (A B C D : Option Nat) : Option Nat := subA (mulA A C) (mulA B D)
def mulIm (A B C D : Option Nat) : Option Nat := addA (mulA A D) (mulA B C)
def geA (C D : Option Nat) : Bool := ordA C D == some .gt || ordA C D == some .eq
def divRe1 (A B C D : Option Nat) : Option Nat := divA (addA A (mulA B (divA D C))) (addA C (mulA D (divA D C)))
def divIm1 (A B C D : Option Nat) : Option Nat := divA (subA B (mulA A (divA D C))) (addA C (mulA D (divA D C)))
def divRe2 (A B C D : Option Nat) : Option Nat := divA (addA (mulA A (divA C D)) B) (addA (mulA C (divA C D)) D)
def divIm2 (A B C D : Option Nat) : Option Nat := divA (subA (mulA B (divA C D)) A) (addA (mulA C (divA C D)) D)
def divRe (A B C D : Option Nat) : Option Nat := if geA (sizA C) (sizA D) then divRe1 A B C D else divRe2 A B C D
def divIm (A B C D : Option Nat) : Option Nat := if geA (sizA C) (sizA D) then divIm1 A B C D else divIm2 A B C D

section one
variable (a b c d : Nat) (w : World)
end one
section two
variable {A B C D X : Option Nat} {a b c d x : Nat} (w : World) (ha : rep A a) (hb : rep B b) (hc : rep C c) (hd : rep D d) (hx : rep X x)
include ha hb
include hc hd
theorem add_any : Calls Tryz.prog 129 #[.complex .f64 a b, .complex .f64 c d] w fun e w' => ∃ re im n, e = .returned (.complex .f64 re im) ∧ rep (addA A C) re ∧ rep (addA B D) im ∧ w' = w.drewN n := by
  go_enter Tryz.func129, Tryz.ntmps129
  go_wp2_with (first | (go_at_call 89; refine (apart_any _ _ _).mono ?_; rintro e w' ⟨rfl, rfl⟩))
  go_ret
  exact ⟨_, _, _, rfl, rep_add ha hc _, rep_add hb hd _, rfl⟩
theorem sub_any : Calls Tryz.prog 47 #[.complex .f64 a b, .complex .f64 c d] w fun e w' => ∃ re im n, e = .returned (.complex .f64 re im) ∧ rep (subA A C) re ∧ rep (subA B D) im ∧ w' = w.drewN n := by
  go_enter Tryz.func47, Tryz.ntmps47
  go_wp2_with (first | (go_at_call 89; refine (apart_any _ _ _).mono ?_; rintro e w' ⟨rfl, rfl⟩))
  go_ret
  exact ⟨_, _, _, rfl, rep_sub ha hc _, rep_sub hb hd _, rfl⟩
theorem mul_any : Calls Tryz.prog 215 #[.complex .f64 a b, .complex .f64 c d] w fun e w' => ∃ re im n, e = .returned (.complex .f64 re im) ∧ rep (mulRe A B C D) re ∧ rep (mulIm A B C D) im ∧ w' = w.drewN n := by
  go_enter Tryz.func215, Tryz.ntmps215
  go_wp2_with (first | (go_at_call 89; refine (apart_any _ _ _).mono ?_; rintro e w' ⟨rfl, rfl⟩))
  go_ret
  exact ⟨_, _, _, rfl, rep_sub (rep_mul ha hc _) (rep_mul hb hd _) _, rep_add (rep_mul ha hd _) (rep_mul hb hc _) _, rfl⟩
end two
end Go.Proofs.YtmpkcioeodlbcaaGreatDoor
namespace Go.Proofs.YtmpkcioeodlbcaaGreatDoor
open Fl
section two
variable {A B C D X : Option Nat} {a b c d x : Nat} (w : World) (ha : rep A a) (hb : rep B b) (hc : rep C c) (hd : rep D d) (hx : rep X x)
include ha hb hc hd
set_option maxHeartbeats 1000000 in
theorem div_any : Calls Tryz.prog 188 #[.complex .f64 a b, .complex .f64 c d] w fun e w' => ∃ re im n, e = .returned (.complex .f64 re im) ∧ rep (divRe A B C D) re ∧ rep (divIm A B C D) im ∧ w' = w.drewN n := by
  have lc := hc.1
  have ld := hd.1
  have ho := ordA_of (rep_sz hc) (rep_sz hd)
  have h1 := fun W => rep_div hd hc W
  have h2 := fun W => rep_div hc hd W
  cases e1 : (ordA (sizA C) (sizA D) == some Ordering.gt)
  · cases e2 : (ordA (sizA C) (sizA D) == some Ordering.eq)
    · have hg : geA (sizA C) (sizA D) = false := by unfold geA; rw [e1, e2]; rfl
      go_enter Tryz.func188, Tryz.ntmps188
      go_wp2_with (first
      | (go_at_call 89; refine (apart_any _ _ _).mono ?_; rintro e w' ⟨rfl, rfl⟩)
      | (go_at_call 170; refine (size_any _ _ (by assumption)).mono ?_; rintro e w' ⟨rfl, rfl⟩))
      go_ret
      refine ⟨_, _, _, rfl, ?_, ?_, rfl⟩
      · simp only [divRe, divRe2, hg, Bool.false_eq_true, if_false]
        exact rep_div (rep_add (rep_mul ha (h2 _) _) hb _) (rep_add (rep_mul hc (h2 _) _) hd _) _
      · simp only [divIm, divIm2, hg, Bool.false_eq_true, if_false]
        exact rep_div (rep_sub (rep_mul hb (h2 _) _) ha _) (rep_add (rep_mul hc (h2 _) _) hd _) _
    · have hg : geA (sizA C) (sizA D) = true := by unfold geA; rw [e1, e2]; rfl
      go_enter Tryz.func188, Tryz.ntmps188
      go_wp2_with (first
      | (go_at_call 89; refine (apart_any _ _ _).mono ?_; rintro e w' ⟨rfl, rfl⟩)
      | (go_at_call 170; refine (size_any _ _ (by assumption)).mono ?_; rintro e w' ⟨rfl, rfl⟩))
      go_ret
      refine ⟨_, _, _, rfl, ?_, ?_, rfl⟩
      · simp only [divRe, divRe1, hg, if_true]
        exact rep_div (rep_add ha (rep_mul hb (h1 _) _) _) (rep_add hc (rep_mul hd (h1 _) _) _) _
      · simp only [divIm, divIm1, hg, if_true]
        exact rep_div (rep_sub hb (rep_mul ha (h1 _) _) _) (rep_add hc (rep_mul hd (h1 _) _) _) _
  · have hg : geA (sizA C) (sizA D) = true := by unfold geA; rw [e1]; rfl
    go_enter Tryz.func188, Tryz.ntmps188
    go_wp2_with (first
      | (go_at_call 89; refine (apart_any _ _ _).mono ?_; rintro e w' ⟨rfl, rfl⟩)
      | (go_at_call 170; refine (size_any _ _ (by assumption)).mono ?_; rintro e w' ⟨rfl, rfl⟩))
    go_ret
    refine ⟨_, _, _, rfl, ?_, ?_, rfl⟩
    · simp only [divRe, divRe1, hg, if_true]
      exact rep_div (rep_add ha (rep_mul hb (h1 _) _) _) (rep_add hc (rep_mul hd (h1 _) _) _) _
    · simp only [divIm, divIm1, hg, if_true]
      exact rep_div (rep_sub hb (rep_mul ha (h1 _) _) _) (rep_add hc (rep_mul hd (h1 _) _) _) _
end two
end Go.Proofs.YtmpkcioeodlbcaaGreatDoor
