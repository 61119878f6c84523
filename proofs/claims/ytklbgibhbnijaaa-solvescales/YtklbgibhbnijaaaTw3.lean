/-
  Powers of two through a whole quotient of numbers whose parts are whole and small; nothing of any program's text.
-/
import Derived.Test.YtklbgibhbnijaaaTw2
import Derived.Test.YtklbgibhbnijaaaBna
namespace Go.Proofs.Ytklbgibhbnijaaa
open Fl

def T74 : Nat := 1074
def T89 : Nat := 1089
def T90 : Nat := 1090
def T58 : Nat := 1058
def T06 : Nat := 1006
def T05 : Nat := 1105
def T16 : Nat := 1106
def T33 : Nat := 1233
def T98 : Nat := 2098
theorem szI_big : szI = 2 ^ T98 := by kernel_rfl
theorem two_05 : 2 ^ T16 = 2 ^ T05 + 2 ^ T05 := by rw [show T16 = T05 + 1 from rfl, Nat.pow_succ, Nat.mul_two]
theorem lt_szI {n a : Nat} (h : n ≤ 2 ^ a) (ha : a ≤ 2097) : n < szI := by
  rw [szI_big]
  exact Nat.lt_of_le_of_lt h ((Nat.pow_lt_pow_iff_right (by omega : 1 < 2)).2 (by unfold T98; omega))
theorem rp_pow (a : Nat) : RpN (2 ^ a) := ⟨1, a, by rw [Nat.one_mul], by omega⟩
theorem rn_up {n a : Nat} (h : n ≤ 2 ^ a) : rn n ≤ 2 ^ a := ((rn_near n (2 ^ a) (rp_pow a)).2 h).1
theorem rn_dn {n a : Nat} (h : 2 ^ a ≤ n) : 2 ^ a ≤ rn n := ((rn_near n (2 ^ a) (rp_pow a)).1 h).1
theorem nr_pow_up {N a : Nat} {p : Int} {b : Nat} (h : N ≤ 2 ^ a) (hp : p + (a : Int) = -1074 + (b : Int)) (hb : b ≤ 2097) : sz (nr N p) ≤ 2 ^ b := by
  have h1 : nr N p ≤ nr (2 ^ b) (-1074) := by
    have e : nr (2 ^ b) (-1074) = nr 1 (p + (a : Int)) := by
      rw [← nr_shift 1 b (p + (a : Int)), Nat.one_mul]; congr 1; omega
    rw [e]; exact nr_le (k := a) rfl (by rw [Nat.one_mul]; exact h)
  have h2 := (nr_unit (n := 2 ^ b) (lt_szI (rn_up (Nat.le_refl _)) hb)).2
  rw [rn_exact (rp_pow b)] at h2
  rw [← h2]; exact sz_le h1
theorem nr_pow_dn {N a : Nat} {p : Int} {b : Nat} (h : 2 ^ a ≤ N) (hp : p + (a : Int) = -1074 + (b : Int)) (hb : b ≤ 2097) : 2 ^ b ≤ sz (nr N p) := by
  have h1 : nr (2 ^ b) (-1074) ≤ nr N p := by
    have e : nr (2 ^ b) (-1074) = nr 1 (p + (a : Int)) := by
      rw [← nr_shift 1 b (p + (a : Int)), Nat.one_mul]; congr 1; omega
    rw [e]; exact nr_ge (k := a) rfl (by rw [Nat.one_mul]; exact h)
  have h2 := (nr_unit (n := 2 ^ b) (lt_szI (rn_up (Nat.le_refl _)) hb)).2
  rw [rn_exact (rp_pow b)] at h2
  rw [← h2]; exact sz_le h1
theorem grid_of_low {r a : Nat} (h : sz r = 0 ∨ 2 ^ a ≤ sz r) (g : Nat) (hg : g + 53 ≤ a + 1) : 2 ^ g ∣ sz r := by
  rcases h with h | h
  · rw [h]; exact Nat.dvd_zero _
  · have := ex_low h
    unfold sz
    exact Nat.dvd_trans (Nat.pow_dvd_pow 2 (by omega)) (Nat.dvd_mul_left _ _)

/-- A word that is a whole number of at most fifteen digits, and 2 to the power 15. -/
structure isI (x : Nat) : Prop where
  fin : Fl.fin x
  lt : x < 18446744073709551616
  low : sz (mg x) = 0 ∨ 2 ^ T74 ≤ sz (mg x)
  up : sz (mg x) ≤ 2 ^ T89
theorem val_abs (x : Nat) : (val x).natAbs = sz (mg x) := by unfold val; exact sgn_abs _ _
structure okQ (q : Nat) : Prop where
  fin : Fl.fin q
  lt : q < 18446744073709551616
  low : sz (mg q) = 0 ∨ 2 ^ T18 ≤ sz (mg q)
  up : sz (mg q) ≤ 2 ^ T13

/-- A sum of a whole number and a product, over t. -/
theorem sum_step {k x x' m m' t : Nat} (hk : k ≤ 255) (hx : sc k x x') (hm : sc k m m') (lx : sz (mg x) = 0 ∨ 2 ^ T58 ≤ sz (mg x)) (lm : sz (mg m) = 0 ∨ 2 ^ T58 ≤ sz (mg m))
    (ux : sz (mg x) ≤ 2 ^ T05) (um : sz (mg m) ≤ 2 ^ T05) (ht : fin t) (lt : 2 ^ T74 ≤ sz (mg t)) (ut : sz (mg t) ≤ 2 ^ T16) :
    ∃ u u' q q', addO x m = some u ∧ addO x' m' = some u' ∧ divO u t = some q ∧ divO u' t = some q' ∧ sc k q q' ∧ okQ q := by
  have n1 : (val x + val m).natAbs ≤ 2 ^ T16 := by
    have a1 := val_abs x
    have a2 := val_abs m
    have a3 := two_05
    omega
  have n2 : (val x' + val m').natAbs ≤ 2 ^ T33 := by
    have hv : (val x' + val m') * ((2 ^ 128 : Nat) : Int) = (val x + val m) * ((2 ^ k : Nat) : Int) := by rw [Int.add_mul, Int.add_mul, hx.val, hm.val]
    have hn := congrArg Int.natAbs hv
    rw [Int.natAbs_mul, Int.natAbs_mul, Int.natAbs_natCast, Int.natAbs_natCast] at hn
    have a1 : (val x' + val m').natAbs * 2 ^ 128 ≤ 2 ^ T33 * 2 ^ 128 := by
      rw [hn]
      refine Nat.le_trans (Nat.mul_le_mul n1 (Nat.pow_le_pow_right (by omega) hk)) ?_
      rw [← Nat.pow_add, ← Nat.pow_add]
      exact Nat.pow_le_pow_right (by omega) (by unfold T16 T33; omega)
    exact Nat.le_of_mul_le_mul_right a1 (Nat.two_pow_pos 128)
  obtain ⟨u, u', e1, e2, s1, v1⟩ := sc_add hx hm (lt_szI (rn_up n1) (by unfold T16; omega)) (lt_szI (rn_up n2) (by unfold T33; omega))
  have hu : sz (mg u) = rn (val x + val m).natAbs := by rw [← val_abs, v1, rn_abs]
  have lu : mg u = 0 ∨ 2 ^ T9 ≤ sz (mg u) := by
    have d1 : 2 ^ T06 ∣ (val x).natAbs := by rw [val_abs]; exact grid_of_low lx _ (by unfold T06 T58; omega)
    have d2 : 2 ^ T06 ∣ (val m).natAbs := by rw [val_abs]; exact grid_of_low lm _ (by unfold T06 T58; omega)
    have d3 := rnI_dvd (dvd_natAbs_add d1 d2)
    rw [rn_abs, ← hu] at d3
    rcases Nat.eq_zero_or_pos (sz (mg u)) with h | h
    · exact Or.inl (zero_of_sz h)
    · right
      exact Nat.le_trans (Nat.pow_le_pow_right (by omega) (by unfold T9 T06; omega)) (Nat.le_of_dvd h d3)
  have uu : sz (mg u) ≤ 2 ^ T11 := by
    rw [hu]; exact Nat.le_trans (rn_up n1) (Nat.pow_le_pow_right (by omega) (by unfold T16 T11; omega))
  obtain ⟨q, q', f1, f2, s2, l2, u2, b2⟩ := sc_div s1 ht hk lu uu (Nat.le_trans (Nat.pow_le_pow_right (by omega) (by unfold T9 T74; omega)) lt) (Nat.le_trans ut (Nat.pow_le_pow_right (by omega) (by unfold T16 T11; omega)))
  exact ⟨u, u', q, q', e1, e2, f1, f2, s2, s2.1, b2, l2, u2⟩
theorem core {k x x' y y' c d : Nat} (hk : k ≤ 255) (ix : isI x) (iy : isI y) (ic : isI c) (id : isI d) (c0 : ¬ mg c = 0) (hx : sc k x x') (hy : sc k y y') (lx' : x' < 18446744073709551616) :
    ∃ r w1 t m m', divO d c = some r ∧ mulO d r = some w1 ∧ addO c w1 = some t ∧ mulO y r = some m ∧ mulO y' r = some m' ∧
      (∃ u u' q q', addO x m = some u ∧ addO x' m' = some u' ∧ divO u t = some q ∧ divO u' t = some q' ∧ sc k q q' ∧ okQ q) ∧
      (∃ u u' q q', subO x m = some u ∧ subO x' m' = some u' ∧ divO u t = some q ∧ divO u' t = some q' ∧ sc k q q' ∧ okQ q) ∧
      (∃ u u' q q', subO m x = some u ∧ subO m' x' = some u' ∧ divO u t = some q ∧ divO u' t = some q' ∧ sc k q q' ∧ okQ q) := by
  have e52 : (2 : Nat) ^ 52 = 4503599627370496 := by decide
  have big : ∀ r a, 52 ≤ a → 2 ^ a ≤ sz r → 4503599627370496 ≤ sz r := fun r a ha h => by
    rw [← e52]; exact Nat.le_trans (Nat.pow_le_pow_right (by omega) ha) h
  have lc : 2 ^ T74 ≤ sz (mg c) := by
    rcases ic.low with h | h
    · exact absurd (zero_of_sz h) c0
    · exact h
  obtain ⟨_, gc⟩ := sig_big (big _ T74 (by unfold T74; omega) lc)
  have n0 : ¬ sig (mg c) = 0 := by omega
  have e1 := div_gen id.fin ic.fin n0
  -- the ratio
  obtain ⟨r, hr⟩ : ∃ r, r = Ieee.double.word (ng d ^^ ng c) (dq (mg d) (mg c)) := ⟨_, rfl⟩
  rw [← hr] at e1
  have hrb : dq (mg d) (mg c) < 9223372036854775808 := by unfold dq; exact nr_bd _ _
  have mr : mg r = dq (mg d) (mg c) := by rw [hr]; exact word_mg _ hrb
  have nr' : ng r = (ng d ^^ ng c) := by rw [hr]; exact word_ng _ hrb
  have br : (sz (mg r) = 0 ∨ 2 ^ T58 ≤ sz (mg r)) ∧ sz (mg r) ≤ 2 ^ T90 := by
    rw [mr]
    rcases id.low with h | h
    · rw [zero_of_sz h]
      have dz : dq 0 (mg c) = 0 := by
        unfold dq
        rw [show sig 0 = 0 from by decide, Nat.zero_mul, Nat.zero_div, Nat.zero_mod]
        exact nr_zero _
      rw [dz, sz_0]; exact ⟨Or.inl rfl, Nat.zero_le _⟩
    · obtain ⟨_, gd⟩ := sig_big (big _ T74 (by unfold T74; omega) h)
      have x1 := ex_low h
      have x2 := ex_up gd id.up
      have t1 := ex_low lc
      have t2 := ex_up gc ic.up
      obtain ⟨q1, q2⟩ := qd_bd gd gc
      rw [dq_eq gd gc]
      unfold T74 at x1 t1
      unfold T89 at x2 t2
      constructor
      · right
        have := nr_pow_dn (N := qd (mg d) (mg c)) (a := 54) (p := (ex (mg d) : Int) - (ex (mg c) : Int) - 55) (b := (1074 + ((ex (mg d) : Int) - (ex (mg c) : Int) - 1)).toNat) q1 (by omega) (by omega)
        exact Nat.le_trans (Nat.pow_le_pow_right (by omega) (by unfold T58; omega)) this
      · have := nr_pow_up (N := qd (mg d) (mg c)) (a := 56) (p := (ex (mg d) : Int) - (ex (mg c) : Int) - 55) (b := (1074 + ((ex (mg d) : Int) - (ex (mg c) : Int) + 1)).toNat) q2 (by omega) (by omega)
        exact Nat.le_trans this (Nat.pow_le_pow_right (by omega) (by unfold T90; omega))
  have fr : fin r := by
    unfold Fl.fin
    rcases Nat.lt_or_ge (mg r) 9218868437227405312 with h | h
    · exact h
    · exfalso
      have h1 := sz_le h
      have h2 : sz 9218868437227405312 < szI := by
        refine Nat.lt_of_le_of_lt (Nat.le_trans h1 br.2) (lt_szI (Nat.le_refl _) (by unfold T90; omega))
      exact absurd h2 (Nat.lt_irrefl _)
  -- what a product with it is
  have hprod : ∀ z, isI z → (sz (mg z) * sz (mg r) = 0 ∨ 2 ^ (T74 + T58) ≤ sz (mg z) * sz (mg r)) ∧ sz (mg z) * sz (mg r) ≤ 2 ^ (T89 + T90) := by
    intro z iz
    refine ⟨?_, by rw [Nat.pow_add]; exact Nat.mul_le_mul iz.up br.2⟩
    rcases iz.low with h | h
    · left; rw [h, Nat.zero_mul]
    · rcases br.1 with h2 | h2
      · left; rw [h2, Nat.mul_zero]
      · right; rw [Nat.pow_add]; exact Nat.mul_le_mul h h2
  have hsize : ∀ z, isI z → (sz (nr (sz (mg z) * sz (mg r)) (-2148)) = 0 ∨ 2 ^ T58 ≤ sz (nr (sz (mg z) * sz (mg r)) (-2148))) ∧ sz (nr (sz (mg z) * sz (mg r)) (-2148)) ≤ 2 ^ T05 := by
    intro z iz
    obtain ⟨h1, h2⟩ := hprod z iz
    refine ⟨?_, nr_pow_up h2 (by unfold T89 T90 T05; omega) (by unfold T05; omega)⟩
    rcases h1 with h | h
    · left; rw [h, nr_zero, sz_0]
    · right; exact nr_pow_dn h (by unfold T74 T58; omega) (by unfold T58; omega)
  -- t
  have e2 := mul_gen id.fin fr
  obtain ⟨w1, hw1⟩ : ∃ w1, w1 = Ieee.double.word (ng d ^^ ng r) (nr (sz (mg d) * sz (mg r)) (-2148)) := ⟨_, rfl⟩
  rw [← hw1] at e2
  have hwb := nr_bd (sz (mg d) * sz (mg r)) (-2148)
  have mw : mg w1 = nr (sz (mg d) * sz (mg r)) (-2148) := by rw [hw1]; exact word_mg _ hwb
  have nw : ng w1 = ng c := by
    rw [hw1, word_ng _ hwb, nr']; cases ng d <;> cases ng c <;> rfl
  obtain ⟨_, sw⟩ := hsize d id
  rw [← mw] at sw
  have fw : fin w1 := by
    unfold Fl.fin
    rcases Nat.lt_or_ge (mg w1) 9218868437227405312 with h | h
    · exact h
    · exfalso
      have h1 := sz_le h
      have h2 : sz 9218868437227405312 < szI := by
        refine Nat.lt_of_le_of_lt (Nat.le_trans h1 sw) (lt_szI (Nat.le_refl _) (by unfold T05; omega))
      exact absurd h2 (Nat.lt_irrefl _)
  have ht0 : (val c + val w1).natAbs = sz (mg c) + sz (mg w1) := by
    unfold val; rw [nw]; unfold sgn; cases ng c <;> simp <;> omega
  have ht1 : (val c + val w1).natAbs ≤ 2 ^ T16 := by
    rw [ht0]
    have a3 := two_05
    have a4 : 2 ^ T89 ≤ 2 ^ T05 := Nat.pow_le_pow_right (by omega) (by unfold T89 T05; omega)
    have a5 := ic.up
    omega
  have ht2 : 2 ^ T74 ≤ (val c + val w1).natAbs := by rw [ht0]; omega
  obtain ⟨t, e3, ft, vt⟩ := add_fin ic.fin fw (lt_szI (rn_up ht1) (by unfold T16; omega))
  have st : sz (mg t) = rn (val c + val w1).natAbs := by rw [← val_abs, vt, rn_abs]
  have lt : 2 ^ T74 ≤ sz (mg t) := by rw [st]; exact rn_dn ht2
  have ut : sz (mg t) ≤ 2 ^ T16 := by rw [st]; exact rn_up ht1
  -- the product
  obtain ⟨p1, p2⟩ := hprod y iy
  obtain ⟨m, m', e4, e5, sm, mm, nm, bm, bm'⟩ := sc_mul hy fr hk (by
      rcases p1 with h | h
      · exact Or.inl h
      · exact Or.inr (Nat.le_trans (Nat.pow_le_pow_right (by omega) (by unfold T12 T74 T58; omega)) h))
    (Nat.le_trans p2 (Nat.pow_le_pow_right (by omega) (by unfold T89 T90 T22; omega)))
  obtain ⟨sm1, sm2⟩ := hsize y iy
  rw [← mm] at sm1 sm2
  have lx : sz (mg x) = 0 ∨ 2 ^ T58 ≤ sz (mg x) := by
    rcases ix.low with h | h
    · exact Or.inl h
    · exact Or.inr (Nat.le_trans (Nat.pow_le_pow_right (by omega) (by unfold T58 T74; omega)) h)
  have ux : sz (mg x) ≤ 2 ^ T05 := Nat.le_trans ix.up (Nat.pow_le_pow_right (by omega) (by unfold T89 T05; omega))
  refine ⟨r, w1, t, m, m', e1, e2, e3, e4, e5, sum_step hk hx sm lx sm1 ux sm2 ft lt ut, ?_, ?_⟩
  · have h := sum_step hk hx (sm.ng bm bm') lx (by rw [mg_ngW bm]; exact sm1) ux (by rw [mg_ngW bm]; exact sm2) ft lt ut
    rw [subO_add x bm, subO_add x' bm']
    exact h
  · have h := sum_step hk sm (hx.ng ix.lt lx') sm1 (by rw [mg_ngW ix.lt]; exact lx) sm2 (by rw [mg_ngW ix.lt]; exact ux) ft lt ut
    rw [subO_add m ix.lt, subO_add m' lx']
    exact h

end Go.Proofs.Ytklbgibhbnijaaa
