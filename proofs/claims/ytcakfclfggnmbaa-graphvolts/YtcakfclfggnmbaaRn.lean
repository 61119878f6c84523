/-
  Rounding whole numbers to 53 binary digits, ties to even, and the sum with its error, as facts on whole numbers alone.
-/
import Derived.Test.YtcakfclfggnmbaaFl
namespace Go.Proofs.Ytcakfclfggnmbaa.Fl

/-- n over two to the d, to the nearest, ties to even -/
def rne (n d : Nat) : Nat := n / 2 ^ d + (if 2 ^ d < 2 * (n % 2 ^ d) ∨ (2 ^ d = 2 * (n % 2 ^ d) ∧ n / 2 ^ d % 2 = 1) then 1 else 0)
def dig (n : Nat) : Nat := n.log2 - 52
def rn (n : Nat) : Nat := rne n (dig n) * 2 ^ dig n
def rnI (v : Int) : Int := if v < 0 then -(rn v.natAbs : Int) else rn v.natAbs
def Rp (v : Int) : Prop := ∃ m e : Nat, v.natAbs = m * 2 ^ e ∧ m < 9007199254740992
def RpN (n : Nat) : Prop := ∃ m e : Nat, n = m * 2 ^ e ∧ m < 9007199254740992

theorem rne_near (n d : Nat) : 2 * rne n d * 2 ^ d ≤ 2 * n + 2 ^ d ∧ 2 * n ≤ 2 * rne n d * 2 ^ d + 2 ^ d := by
  have h := Nat.div_add_mod n (2 ^ d)
  have hlt : n % 2 ^ d < 2 ^ d := Nat.mod_lt _ (Nat.two_pow_pos _)
  unfold rne
  generalize n / 2 ^ d = q at *
  generalize n % 2 ^ d = r at *
  generalize 2 ^ d = p at *
  split
  · have e : 2 * (q + 1) * p = 2 * (p * q) + 2 * p := by rw [Nat.mul_assoc, Nat.add_mul, Nat.mul_comm q p, Nat.mul_add]; omega
    rw [e]; omega
  · have e : 2 * (q + 0) * p = 2 * (p * q) := by rw [Nat.add_zero, Nat.mul_assoc, Nat.mul_comm q p]
    rw [e]; omega
theorem rne_exact (n d : Nat) (h : 2 ^ d ∣ n) : rne n d * 2 ^ d = n := by
  have h0 : n % 2 ^ d = 0 := Nat.mod_eq_zero_of_dvd h
  have hp : 0 < 2 ^ d := Nat.two_pow_pos _
  unfold rne; rw [h0, if_neg (by omega), Nat.add_zero]
  exact Nat.div_mul_cancel h
theorem log2_bd {n : Nat} (h : 0 < n) : 2 ^ n.log2 ≤ n ∧ n < 2 ^ (n.log2 + 1) := ⟨Nat.log2_self_le (by omega), Nat.lt_log2_self⟩
theorem dig_zero {n : Nat} (h : n < 9007199254740992) : dig n = 0 := by
  unfold dig
  by_cases h0 : n = 0
  · subst h0; simp
  · have h1 := (log2_bd (by omega : 0 < n)).1
    have : n.log2 < 53 := by
      rcases Nat.lt_or_ge n.log2 53 with h2 | h2
      · exact h2
      · have := Nat.pow_le_pow_right (n := 2) (by omega) h2
        have e : (2 : Nat) ^ 53 = 9007199254740992 := by decide
        omega
    omega
theorem dig_pos {n : Nat} (h : 9007199254740992 ≤ n) : 0 < dig n ∧ 4503599627370496 * 2 ^ dig n ≤ n ∧ n < 9007199254740992 * 2 ^ dig n := by
  have h1 := log2_bd (by omega : 0 < n)
  have hk : 53 ≤ n.log2 := by
    rcases Nat.lt_or_ge n.log2 53 with h2 | h2
    · have := Nat.pow_le_pow_right (n := 2) (by omega) (by omega : n.log2 + 1 ≤ 53)
      have e : (2 : Nat) ^ 53 = 9007199254740992 := by decide
      omega
    · exact h2
  have e1 : (2 : Nat) ^ n.log2 = 4503599627370496 * 2 ^ dig n := by
    rw [show (4503599627370496 : Nat) = 2 ^ 52 by decide, ← Nat.pow_add]; unfold dig; congr 1; omega
  have e2 : (2 : Nat) ^ (n.log2 + 1) = 9007199254740992 * 2 ^ dig n := by rw [Nat.pow_succ, e1]; omega
  unfold dig at *
  omega
theorem rn_small {n : Nat} (h : n < 9007199254740992) : rn n = n := by
  unfold rn; rw [dig_zero h]; exact rne_exact n 0 (by simp)
theorem rn_half {n : Nat} : 2 * rn n ≤ 2 * n + 2 ^ dig n ∧ 2 * n ≤ 2 * rn n + 2 ^ dig n := by
  have := rne_near n (dig n); unfold rn; rw [← Nat.mul_assoc]; exact this
theorem rne_bd {n : Nat} (h : 9007199254740992 ≤ n) : 4503599627370496 ≤ rne n (dig n) ∧ rne n (dig n) ≤ 9007199254740992 := by
  obtain ⟨h0, h1, h2⟩ := dig_pos h
  have hq1 : 4503599627370496 ≤ n / 2 ^ dig n := (Nat.le_div_iff_mul_le (Nat.two_pow_pos _)).2 h1
  have hq2 : n / 2 ^ dig n < 9007199254740992 := (Nat.div_lt_iff_lt_mul (Nat.two_pow_pos _)).2 h2
  unfold rne; split <;> omega
theorem rn_rep (n : Nat) : RpN (rn n) := by
  by_cases h : n < 9007199254740992
  · rw [rn_small h]; exact ⟨n, 0, by simp, h⟩
  · have hb := rne_bd (by omega : 9007199254740992 ≤ n)
    unfold rn
    rcases Nat.lt_or_ge (rne n (dig n)) 9007199254740992 with h1 | h1
    · exact ⟨_, _, rfl, h1⟩
    · have : rne n (dig n) = 9007199254740992 := by omega
      rw [this]
      exact ⟨4503599627370496, dig n + 1, by rw [Nat.pow_succ]; omega, by omega⟩
theorem rep_dvd {f d : Nat} (h : RpN f) (hf : 4503599627370496 * 2 ^ d ≤ f) : 2 ^ d ∣ f := by
  obtain ⟨m, e, rfl, hm⟩ := h
  rcases Nat.lt_or_ge e d with h1 | h1
  · exfalso
    have h2 : 2 ^ (e + 1) ≤ 2 ^ d := Nat.pow_le_pow_right (by omega) h1
    have h3 : m * 2 ^ e < 9007199254740992 * 2 ^ e := (Nat.mul_lt_mul_right (Nat.two_pow_pos _)).2 hm
    rw [Nat.pow_succ] at h2
    have h4 : 4503599627370496 * (2 ^ e * 2) ≤ 4503599627370496 * 2 ^ d := Nat.mul_le_mul_left _ h2
    omega
  · exact Nat.dvd_trans (Nat.pow_dvd_pow 2 h1) (Nat.dvd_mul_left _ _)
/-- rounding goes to the nearest -/
theorem rn_near (n f : Nat) (hf : RpN f) : (f ≤ n → f ≤ rn n ∧ 2 * n ≤ rn n + n + (n - f) ∧ rn n ≤ n + (n - f)) ∧ (n ≤ f → rn n ≤ f ∧ n ≤ rn n + (f - n)) := by
  by_cases h : n < 9007199254740992
  · rw [rn_small h]; constructor <;> intro _ <;> omega
  · have hn : 9007199254740992 ≤ n := by omega
    obtain ⟨h0, h1, h2⟩ := dig_pos hn
    obtain ⟨n1, n2⟩ := @rn_half n
    -- multiples of 2^dig: the nearest one
    have key : ∀ g, 2 ^ dig n ∣ g → (g ≤ n → g ≤ rn n ∧ rn n ≤ n + (n - g)) ∧ (n ≤ g → rn n ≤ g ∧ n ≤ rn n + (g - n)) := by
      intro g hg
      have hr : 2 ^ dig n ∣ rn n := by unfold rn; exact Nat.dvd_mul_left _ _
      obtain ⟨i, rfl⟩ := hg
      obtain ⟨j, hj⟩ := hr
      rw [hj] at n1 n2 ⊢
      have hp : 0 < 2 ^ dig n := Nat.two_pow_pos _
      generalize 2 ^ dig n = p at *
      constructor
      · intro hi
        have hij : i ≤ j := by
          rcases Nat.lt_or_ge j i with h | h
          · have := Nat.mul_le_mul_left p h
            rw [Nat.mul_succ] at this
            -- then 2n ≤ 2 p j + p and p i ≤ n with i ≥ j+1: p j + p ≤ n, so 2 p j + 2p ≤ 2 n ≤ 2 p j + p
            omega
          · exact h
        have := Nat.mul_le_mul_left p hij
        rcases Nat.eq_or_lt_of_le hij with h | h
        · subst h; omega
        · have := Nat.mul_le_mul_left p h
          rw [Nat.mul_succ] at this
          omega
      · intro hi
        have hij : j ≤ i := by
          rcases Nat.lt_or_ge i j with h | h
          · have := Nat.mul_le_mul_left p h
            rw [Nat.mul_succ] at this
            omega
          · exact h
        have := Nat.mul_le_mul_left p hij
        rcases Nat.eq_or_lt_of_le hij with h | h
        · subst h; omega
        · have := Nat.mul_le_mul_left p h
          rw [Nat.mul_succ] at this
          omega
    have low := key (4503599627370496 * 2 ^ dig n) (Nat.dvd_mul_left _ _)
    have high := key (9007199254740992 * 2 ^ dig n) (Nat.dvd_mul_left _ _)
    rcases Nat.lt_or_ge f (4503599627370496 * 2 ^ dig n) with h3 | h3
    · have := low.1 h1; constructor <;> intro _ <;> omega
    · rcases Nat.lt_or_ge f (9007199254740992 * 2 ^ dig n) with h4 | h4
      · have := key f (rep_dvd hf h3); constructor <;> intro hh
        · have := this.1 hh; omega
        · have := this.2 hh; omega
      · have := high.2 (by omega); constructor <;> intro _ <;> omega
theorem rn_exact {n : Nat} (h : RpN n) : rn n = n := by
  have := rn_near n n h; have h1 := this.1 (Nat.le_refl _); have h2 := this.2 (Nat.le_refl _); omega
theorem rn_dvd {n g : Nat} (h : 2 ^ g ∣ n) : 2 ^ g ∣ rn n := by
  rcases Nat.lt_or_ge (dig n) g with h1 | h1
  · have : rn n = n := rne_exact n (dig n) (Nat.dvd_trans (Nat.pow_dvd_pow 2 (by omega)) h)
    rw [this]; exact h
  · unfold rn; exact Nat.dvd_trans (Nat.pow_dvd_pow 2 h1) (Nat.dvd_mul_left _ _)
theorem rn_rel (n : Nat) : 9007199254740992 * (rn n) ≤ 9007199254740992 * n + n ∧ 9007199254740992 * n ≤ 9007199254740992 * rn n + n := by
  by_cases h : n < 9007199254740992
  · rw [rn_small h]; omega
  · obtain ⟨h0, h1, h2⟩ := dig_pos (by omega : 9007199254740992 ≤ n)
    obtain ⟨n1, n2⟩ := @rn_half n
    omega

theorem Rp.nat {v : Int} (h : Rp v) : RpN v.natAbs := h
theorem rp_zero : RpN 0 := ⟨0, 0, by simp, by omega⟩
theorem Rp.neg {v : Int} (h : Rp v) : Rp (-v) := by obtain ⟨m, e, h1, h2⟩ := h; exact ⟨m, e, by rw [Int.natAbs_neg]; exact h1, h2⟩
theorem rnI_neg (v : Int) : rnI (-v) = -rnI v := by
  unfold rnI; rw [Int.natAbs_neg]
  rcases Int.lt_trichotomy v 0 with h | h | h
  · rw [if_neg (by omega), if_pos h]; omega
  · subst h; simp; have : rn 0 = 0 := rn_small (by omega); rw [this]; rfl
  · rw [if_pos (by omega), if_neg (by omega)]
theorem rnI_rep (v : Int) : Rp (rnI v) := by
  have h := rn_rep v.natAbs
  obtain ⟨m, e, h1, h2⟩ := h
  refine ⟨m, e, ?_, h2⟩
  unfold rnI; split <;> omega
theorem rnI_near (v f : Int) (hf : Rp f) : (v - rnI v).natAbs ≤ (v - f).natAbs ∧ (f ≤ v → f ≤ rnI v) ∧ (v ≤ f → rnI v ≤ f) := by
  have h0 := rn_near v.natAbs 0 rp_zero
  have h1 := rn_near v.natAbs f.natAbs hf.nat
  have h0' := h0.1 (Nat.zero_le _)
  unfold rnI
  by_cases hv : v < 0
  · rw [if_pos hv]
    by_cases hs : f < 0
    · rcases Nat.le_total f.natAbs v.natAbs with hh | hh
      · have := h1.1 hh; omega
      · have := h1.2 hh; omega
    · omega
  · rw [if_neg hv]
    by_cases hs : f < 0
    · omega
    · rcases Nat.le_total f.natAbs v.natAbs with hh | hh
      · have := h1.1 hh; omega
      · have := h1.2 hh; omega
theorem rnI_exact {v : Int} (h : Rp v) : rnI v = v := by have := rnI_near v v h; omega
theorem rnI_rel (v : Int) : 9007199254740992 * (v - rnI v).natAbs ≤ v.natAbs := by
  have h := rn_rel v.natAbs
  unfold rnI; split <;> omega
/-- a multiple of two to the g, no greater than 53 digits of it: representable -/
theorem rp_of {v c : Int} {m g : Nat} (hc : c.natAbs = m * 2 ^ g) (hm : m < 9007199254740992) (hd : (2 ^ g : Nat) ∣ v.natAbs) (hv : v.natAbs ≤ c.natAbs) : Rp v := by
  obtain ⟨k, hk⟩ := hd
  refine ⟨k, g, by rw [hk, Nat.mul_comm], ?_⟩
  have : k * 2 ^ g ≤ m * 2 ^ g := by rw [← hc, Nat.mul_comm k, ← hk]; exact hv
  have := Nat.le_of_mul_le_mul_right this (Nat.two_pow_pos g)
  omega
theorem dvd_natAbs_add {a b : Int} {p : Nat} (ha : p ∣ a.natAbs) (hb : p ∣ b.natAbs) : p ∣ (a + b).natAbs := by
  rw [← Int.ofNat_dvd_left] at ha hb ⊢; exact Int.dvd_add ha hb
theorem dvd_natAbs_sub {a b : Int} {p : Nat} (ha : p ∣ a.natAbs) (hb : p ∣ b.natAbs) : p ∣ (a - b).natAbs := by
  rw [← Int.ofNat_dvd_left] at ha hb ⊢; exact Int.dvd_sub ha hb
/-- two representable numbers have a common grain, which one of them fills -/
theorem grain {a b : Int} (ha : Rp a) (hb : Rp b) : ∃ g : Nat, 2 ^ g ∣ a.natAbs ∧ 2 ^ g ∣ b.natAbs ∧ ((∃ m, a.natAbs = m * 2 ^ g ∧ m < 9007199254740992) ∨ (∃ m, b.natAbs = m * 2 ^ g ∧ m < 9007199254740992)) := by
  obtain ⟨m, e, h1, h2⟩ := ha
  obtain ⟨n, f, h3, h4⟩ := hb
  rcases Nat.le_total e f with h | h
  · exact ⟨e, by rw [h1]; exact Nat.dvd_mul_left _ _, by rw [h3]; exact Nat.dvd_trans (Nat.pow_dvd_pow 2 h) (Nat.dvd_mul_left _ _), .inl ⟨m, h1, h2⟩⟩
  · exact ⟨f, by rw [h1]; exact Nat.dvd_trans (Nat.pow_dvd_pow 2 h) (Nat.dvd_mul_left _ _), by rw [h3]; exact Nat.dvd_mul_left _ _, .inr ⟨n, h3, h4⟩⟩
theorem rnI_dvd {v : Int} {g : Nat} (h : 2 ^ g ∣ v.natAbs) : 2 ^ g ∣ (rnI v).natAbs := by
  have := rn_dvd h
  have e : (rnI v).natAbs = rn v.natAbs := by unfold rnI; split <;> omega
  rw [e]; exact this
/-- a difference no greater than either of both -/
theorem sterb {x y : Int} (hx : Rp x) (hy : Rp y) (h1 : (x - y).natAbs ≤ x.natAbs) (h2 : (x - y).natAbs ≤ y.natAbs) : Rp (x - y) := by
  obtain ⟨g, d1, d2, ⟨m, h3, h4⟩ | ⟨m, h3, h4⟩⟩ := grain hx hy
  · exact rp_of h3 h4 (dvd_natAbs_sub d1 d2) h1
  · exact rp_of h3 h4 (dvd_natAbs_sub d1 d2) h2
/-- the error of a sum is representable -/
theorem err_rep {a b : Int} (ha : Rp a) (hb : Rp b) : Rp (a + b - rnI (a + b)) := by
  have n1 := (rnI_near (a + b) a ha).1
  have n2 := (rnI_near (a + b) b hb).1
  obtain ⟨g, d1, d2, ⟨m, h3, h4⟩ | ⟨m, h3, h4⟩⟩ := grain ha hb
  · exact rp_of h3 h4 (dvd_natAbs_sub (dvd_natAbs_add d1 d2) (rnI_dvd (dvd_natAbs_add d1 d2))) (by omega)
  · exact rp_of h3 h4 (dvd_natAbs_sub (dvd_natAbs_add d1 d2) (rnI_dvd (dvd_natAbs_add d1 d2))) (by omega)
theorem rp_double {a : Int} (h : Rp a) : Rp (2 * a) := by
  obtain ⟨m, e, h1, h2⟩ := h
  exact ⟨m, e + 1, by rw [Int.natAbs_mul, h1, Nat.pow_succ, Nat.mul_comm (2 ^ e) 2, ← Nat.mul_assoc, ← Nat.mul_assoc, Nat.mul_comm m 2]; rfl, h2⟩
theorem rp_half {a : Int} (h : Rp a) (hl : 9007199254740992 ≤ a.natAbs) : ∃ c, a = 2 * c ∧ Rp c := by
  obtain ⟨m, e, h1, h2⟩ := h
  cases e with
  | zero => rw [Nat.pow_zero, Nat.mul_one] at h1; omega
  | succ e =>
    have h3 : a.natAbs = 2 * (m * 2 ^ e) := by rw [h1, Nat.pow_succ, ← Nat.mul_assoc, Nat.mul_comm]
    generalize hk : m * 2 ^ e = k at h3
    rcases Int.lt_or_le a 0 with h | h
    · exact ⟨-(k : Int), by omega, m, e, by rw [hk]; omega, h2⟩
    · exact ⟨(k : Int), by omega, m, e, by rw [hk]; omega, h2⟩
theorem small_exact {v : Int} (h : v.natAbs < 9007199254740992) : rnI v = v := rnI_exact ⟨v.natAbs, 0, by simp, h⟩
/-- what a sum is more than its greater part is representable -/
theorem fast {a b : Int} (ha : Rp a) (hb : Rp b) (h : b.natAbs ≤ a.natAbs) : Rp (rnI (a + b) - a) := by
  by_cases hs : (a + b).natAbs ≤ b.natAbs
  · have e : a + b = a - (-b) := by omega
    have := sterb ha hb.neg (by omega) (by omega)
    rw [← e] at this
    rw [rnI_exact this]
    have e2 : a + b - a = b := by omega
    rw [e2]; exact hb
  · by_cases hex : rnI (a + b) = a + b
    · rw [hex]
      have e2 : a + b - a = b := by omega
      rw [e2]; exact hb
    · have hl : 9007199254740992 ≤ (a + b).natAbs := by
        rcases Nat.lt_or_ge (a + b).natAbs 9007199254740992 with h3 | h3
        · exact absurd (small_exact h3) hex
        · exact h3
      have n1 := rnI_near (a + b) a ha
      have n2 := rnI_near (a + b) (2 * a) (rp_double ha)
      by_cases hsame : (0 ≤ a ∧ 0 ≤ b) ∨ (a ≤ 0 ∧ b ≤ 0)
      · refine sterb (rnI_rep _) ha ?_ ?_ <;> omega
      · have hal : 9007199254740992 ≤ a.natAbs := by omega
        obtain ⟨c, hc, hcr⟩ := rp_half ha hal
        have n3 := rnI_near (a + b) c hcr
        refine sterb (rnI_rep _) ha ?_ ?_ <;> omega
/-- THE SUM WITH ITS ERROR -/
theorem two_sum {a b : Int} (ha : Rp a) (hb : Rp b) :
    rnI (rnI (a - rnI (rnI (a + b) - rnI (rnI (a + b) - a))) + rnI (b - rnI (rnI (a + b) - a))) = a + b - rnI (a + b) := by
  have hE := err_rep ha hb
  generalize hs : rnI (a + b) = s at *
  have hsr : Rp s := by rw [← hs]; exact rnI_rep _
  by_cases h : b.natAbs ≤ a.natAbs
  · have hf := fast ha hb h
    rw [hs] at hf
    rw [rnI_exact hf]
    have e1 : s - (s - a) = a := by omega
    rw [e1, rnI_exact ha]
    have e2 : a - a = 0 := by omega
    have e3 : b - (s - a) = a + b - s := by omega
    rw [e2, e3, rnI_exact hE, small_exact (v := 0) (by decide)]
    have e4 : 0 + (a + b - s) = a + b - s := by omega
    rw [e4, rnI_exact hE]
  · by_cases hx : s.natAbs < a.natAbs
    · have n1 := rnI_near (a + b) a ha
      have n2 := rnI_near (a + b) (-a) ha.neg
      rw [hs] at n1 n2
      have hab : (a + b).natAbs ≤ a.natAbs := by omega
      have e : a + b = a - (-b) := by omega
      have hr := sterb ha hb.neg (by omega) (by omega)
      rw [← e] at hr
      have hsx : s = a + b := by rw [← hs]; exact rnI_exact hr
      have e1 : s - a = b := by omega
      rw [e1, rnI_exact hb]
      have e2 : s - b = a := by omega
      rw [e2, rnI_exact ha]
      have e3 : a - a = 0 := by omega
      have e4 : b - b = 0 := by omega
      rw [e3, e4, small_exact (v := 0) (by decide)]
      have e5 : a + b - s = 0 := by omega
      rw [e5]; exact small_exact (by decide)
    · have hfa := fast hsr ha.neg (by rw [Int.natAbs_neg]; omega)
      have ee := err_rep hsr ha.neg
      have e0 : s + -a = s - a := by omega
      rw [e0] at hfa ee
      have nt := (rnI_near (s - a) b hb).1
      have rel := rnI_rel (a + b)
      rw [hs] at rel
      generalize ht : rnI (s - a) = t at *
      have htr : Rp t := by rw [← ht]; exact rnI_rep _
      have h1 : Rp (s - t) := by have := hfa.neg; have e : -(t - s) = s - t := by omega
                                 rw [e] at this; exact this
      rw [rnI_exact h1]
      have e1 : a - (s - t) = -(s - a - t) := by omega
      rw [e1, rnI_exact ee.neg]
      have h2 : Rp (b - t) := sterb hb htr (by omega) (by omega)
      rw [rnI_exact h2]
      have e2 : -(s - a - t) + (b - t) = a + b - s := by omega
      rw [e2, rnI_exact hE]

end Go.Proofs.Ytcakfclfggnmbaa.Fl
