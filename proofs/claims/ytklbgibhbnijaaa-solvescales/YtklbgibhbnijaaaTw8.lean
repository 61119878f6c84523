/-
  Reals that are multiples of a power of two and not too great, times a power of two: through products, sums, quotients.
-/
import Derived.Test.YtklbgibhbnijaaaTw7
import Derived.Test.YtklbgibhbnijaaaTw5
import Derived.Test.YtklbgibhbnijaaaBna
namespace Go.Proofs.Ytklbgibhbnijaaa
open Fl

/-- a real and the same times 2 to the k - 128: a multiple of 2 to the g - 1074, at most 2 to the B - 1074 -/
structure Gz (k g B x x' : Nat) : Prop where
  s : sc k x x'
  d : 2 ^ g ∣ sz (mg x)
  u : sz (mg x) ≤ 2 ^ B
  l : x < 18446744073709551616
  l' : x' < 18446744073709551616
/-- a real that stays as it is -/
structure Fx (h C z : Nat) : Prop where
  f : fin z
  d : 2 ^ h ∣ sz (mg z)
  u : sz (mg z) ≤ 2 ^ C
  l : z < 18446744073709551616
theorem Gz.fx {k g B x x' : Nat} (h : Gz k g B x x') : Fx g B x := ⟨h.s.1, h.d, h.u, h.l⟩
theorem Fx.gz {h C z : Nat} (a : Fx h C z) : Gz 128 h C z z := ⟨⟨a.f, a.f, rfl, rfl⟩, a.d, a.u, a.l, a.l⟩
theorem Gz.weak {k g B g' B' x x' : Nat} (h : Gz k g B x x') (hg : g' ≤ g) (hB : B ≤ B') : Gz k g' B' x x' := ⟨h.s, Nat.dvd_trans (Nat.pow_dvd_pow 2 hg) h.d, Nat.le_trans h.u (Nat.pow_le_pow_right (by omega) hB), h.l, h.l'⟩
theorem Gz.low {k g B x x' : Nat} (h : Gz k g B x x') : mg x = 0 ∨ 2 ^ g ≤ sz (mg x) := by
  rcases Nat.eq_zero_or_pos (sz (mg x)) with h0 | h0
  · exact .inl (zero_of_sz h0)
  · exact .inr (Nat.le_of_dvd h0 h.d)
theorem rn_dvd {m g : Nat} (h : 2 ^ g ∣ m) : 2 ^ g ∣ rn m := by
  have := rnI_dvd (v := (m : Int)) (g := g) (by rw [Int.natAbs_natCast]; exact h)
  unfold rnI at this
  rw [if_neg (by omega), Int.natAbs_natCast, Int.natAbs_natCast] at this
  exact this
/-- the product, with wide bounds -/
theorem gz_mul {k g B x x' h C z : Nat} (hx : Gz k g B x x') (hz : Fx h C z) (hk : k ≤ 255) (h1 : 1254 ≤ g + h) (h2 : B + C ≤ 2900) (h3 : 1074 ≤ B + C) :
    ∃ r r', mulO x z = some r ∧ mulO x' z = some r' ∧ Gz k (g + h - 1074) (B + C - 1074) r r' := by
  have e1 := mul_gen hx.s.1 hz.f
  have e2 := mul_gen hx.s.2.1 hz.f
  rw [hx.s.2.2.1] at e2
  have hN' : sz (mg x') * sz (mg z) * 2 ^ 128 = sz (mg x) * sz (mg z) * 2 ^ k := by
    rw [Nat.mul_right_comm, hx.s.2.2.2, Nat.mul_right_comm]
  have hd : 2 ^ (g + h) ∣ sz (mg x) * sz (mg z) := by rw [Nat.pow_add]; exact Nat.mul_dvd_mul hx.d hz.d
  have hu : sz (mg x) * sz (mg z) ≤ 2 ^ (B + C) := by rw [Nat.pow_add]; exact Nat.mul_le_mul hx.u hz.u
  have hb1 := nr_bd (sz (mg x) * sz (mg z)) (-2148)
  have hb2 := nr_bd (sz (mg x') * sz (mg z)) (-2148)
  generalize sz (mg x) * sz (mg z) = N at *
  generalize sz (mg x') * sz (mg z) = N' at *
  -- the size of the product
  obtain ⟨M, hM⟩ : 2 ^ T74 ∣ N := Nat.dvd_trans (Nat.pow_dvd_pow 2 (by unfold T74; omega)) hd
  rw [Nat.mul_comm] at hM
  have hMd : 2 ^ (g + h - T74) ∣ M := by
    have : 2 ^ (g + h - T74) * 2 ^ T74 ∣ M * 2 ^ T74 := by rw [← Nat.pow_add, ← hM, show g + h - T74 + T74 = g + h by unfold T74; omega]; exact hd
    exact Nat.dvd_of_mul_dvd_mul_right (Nat.two_pow_pos _) this
  have hMu : M ≤ 2 ^ (B + C - T74) := by
    have : M * 2 ^ T74 ≤ 2 ^ (B + C - T74) * 2 ^ T74 := by rw [← Nat.pow_add, ← hM, show B + C - T74 + T74 = B + C by unfold T74; omega]; exact hu
    exact Nat.le_of_mul_le_mul_right this (Nat.two_pow_pos _)
  have q : nr N (-2148) = nr M (-1074) := by rw [hM, show (-2148 : Int) = -1074 - ((T74 : Nat) : Int) by decide, nr_shift]
  have hr := rn_up hMu
  obtain ⟨f0, f1⟩ := nr_unit (lt_szI hr (by unfold T74; omega))
  refine ⟨_, _, e1, e2, ?_, ?_, ?_, word_lt _ hb1, word_lt _ hb2⟩
  · rcases Nat.eq_zero_or_pos N with h0 | h0
    · subst h0
      rw [Nat.zero_mul] at hN'
      have : N' = 0 := by
        rcases Nat.mul_eq_zero.1 hN' with h | h
        · exact h
        · exact absurd h (Nat.ne_of_gt (Nat.two_pow_pos 128))
      subst this
      rw [nr_zero]
      exact sc_word _ (by omega) (by omega) (by rw [sz_0, Nat.zero_mul, Nat.zero_mul])
    · have hl : g + h ≤ N.log2 := (Nat.le_log2 (by omega)).2 (Nat.le_of_dvd h0 hd)
      have q1 : nr N (-2148) = nr N (-2276 + ((128 : Nat) : Int)) := by congr 1
      have q2 : nr N' (-2148) = nr N (-2276 + (k : Int)) := by
        rw [← nr_shift N' 128 (-2148), hN', ← nr_shift N k (-2276 + (k : Int))]
        congr 1; omega
      obtain ⟨f1, f2, f3⟩ := pair_up (p0 := -2276) (k := k) h0 (by omega) hu (by omega) hk
      rw [q1, q2]
      exact sc_word _ f2 f1 f3
  · rw [word_mg _ hb1, q, f1]; exact rn_dvd hMd
  · rw [word_mg _ hb1, q, f1]; exact hr
theorem Gz.ng {k g B x x' : Nat} (h : Gz k g B x x') : Gz k g B (ngW x) (ngW x') := ⟨h.s.ng h.l h.l', by rw [mg_ngW h.l]; exact h.d, by rw [mg_ngW h.l]; exact h.u, ngW_lt h.l, ngW_lt h.l'⟩
theorem val_dvd {g x : Nat} (h : 2 ^ g ∣ sz (mg x)) : ((2 ^ g : Nat) : Int) ∣ val x := Int.ofNat_dvd_left.2 (by rw [val_abs]; exact h)
theorem gz_add {k g B x x' y y' : Nat} (hx : Gz k g B x x') (hy : Gz k g B y y') (hk : k ≤ 255) (hB : B ≤ 1900) :
    ∃ r r', addO x y = some r ∧ addO x' y' = some r' ∧ Gz k g (B + 1) r r' := by
  have hv : (val x + val y).natAbs ≤ 2 ^ (B + 1) := by
    have a := hx.u
    have b := hy.u
    rw [← val_abs] at a b
    rw [Nat.pow_succ]
    omega
  have hv' := sc_abs hk hx.s hy.s hv
  obtain ⟨r, r', e1, e2, e3, e4⟩ := sc_add hx.s hy.s (lt_szI (rn_up hv) (by omega)) (lt_szI (rn_up hv') (by omega))
  have hr : sz (mg r) = rn (val x + val y).natAbs := by
    rw [← val_abs, e4]
    unfold rnI
    split <;> omega
  refine ⟨r, r', e1, e2, e3, ?_, ?_, (bd_addA (some x) (some y) r e1).1, (bd_addA (some x') (some y') r' e2).1⟩
  · rw [hr]
    refine rn_dvd ?_
    exact Int.ofNat_dvd_left.1 (Int.dvd_add (val_dvd hx.d) (val_dvd hy.d))
  · rw [hr]; exact rn_up hv
theorem gz_sub {k g B x x' y y' : Nat} (hx : Gz k g B x x') (hy : Gz k g B y y') (hk : k ≤ 255) (hB : B ≤ 1900) :
    ∃ r r', subO x y = some r ∧ subO x' y' = some r' ∧ Gz k g (B + 1) r r' := by
  obtain ⟨r, r', e1, e2, e3⟩ := gz_add hx hy.ng hk hB
  exact ⟨r, r', by rw [subO_add x hy.l]; exact e1, by rw [subO_add x' hy.l']; exact e2, e3⟩
theorem gz_div {k g B x x' c C t : Nat} (hx : Gz k g B x x') (ft : fin t) (lt : 2 ^ c ≤ sz (mg t)) (ut : sz (mg t) ≤ 2 ^ C) (hk : k ≤ 255) (ha : 180 ≤ g) (hc : 52 ≤ c) (had : C ≤ g + 890) (hbc : B ≤ c + 770) :
    ∃ r r', divO x t = some r ∧ divO x' t = some r' ∧ Gz k (1021 + g - C) (1076 + B - c) r r' ∧ (mg x ≤ mg t → sz (mg r) ≤ 2 ^ T75) := by
  obtain ⟨r, r', e1, e2, e3, e4, e5, e6, e7, e8⟩ := sc_divg hx.s ft hk hx.low hx.u lt ut ha hc had hbc
  exact ⟨r, r', e1, e2, ⟨e3, grid_of_low e4 _ (by omega), e5, e6, e7⟩, e8⟩
/-- a ratio of two that stay, the lesser by the greater -/
theorem fx_ratio {h C d c : Nat} (hd : Fx h C d) (hc : Fx h C c) (h0 : ¬ mg c = 0) (hle : mg d ≤ mg c) (ha : 180 ≤ h) (had : C ≤ h + 770) (hC : h ≤ 1074) (_hC2 : 1021 ≤ C) :
    ∃ r, divO d c = some r ∧ Fx (1021 + h - C) T75 r ∧ ng r = (ng d ^^ ng c) := by
  have lt : 2 ^ h ≤ sz (mg c) := by
    rcases hc.gz.low with e | e
    · exact absurd e h0
    · exact e
  obtain ⟨r, r', e1, _, e3, e4⟩ := gz_div hd.gz hc.f lt hc.u (by decide) ha (by omega) (by omega) (by omega)
  refine ⟨r, e1, ⟨e3.s.1, e3.d, e4 hle, e3.l⟩, ?_⟩
  have hb : 4503599627370496 ≤ sz (mg c) := by
    have e52 : (2 : Nat) ^ 52 = 4503599627370496 := by decide
    rw [← e52]; exact Nat.le_trans (Nat.pow_le_pow_right (by omega) (by omega)) lt
  have := div_gen hd.f hc.f (by have := (sig_big hb).2; omega)
  rw [e1] at this
  injection this with this
  rw [this]
  exact word_ng _ (nr_bd _ _)
/-- the divisor: c and what is of its sign -/
theorem fx_denom {h C c d r : Nat} (hc : Fx h C c) (hd : Fx h C d) (h0 : ¬ mg c = 0) (hr : Fx (1021 + h - C) T75 r) (hs : ng r = (ng d ^^ ng c)) (h1 : 1254 ≤ h + (1021 + h - C)) (h2 : h ≤ 1074) (hC : C ≤ 1500) (hC2 : 1021 ≤ C) :
    ∃ m t, mulO d r = some m ∧ addO c m = some t ∧ fin t ∧ 2 ^ h ≤ sz (mg t) ∧ sz (mg t) ≤ 2 ^ (C + 2) ∧ t < 18446744073709551616 := by
  have hT : T75 = 1075 := rfl
  obtain ⟨m, m', e1, _, e3⟩ := gz_mul hd.gz hr (by decide) h1 (by omega) (by omega)
  have hm : ng m = ng c := by
    have := mul_gen hd.f hr.f
    rw [e1] at this
    injection this with this
    rw [this, word_ng _ (nr_bd _ _), hs]
    cases ng d <;> cases ng c <;> rfl
  have hc' := (hc.gz).weak (g' := h + (1021 + h - C) - 1074) (B' := C + 1) (by omega) (by omega)
  have hm' := e3.weak (g' := h + (1021 + h - C) - 1074) (B' := C + 1) (Nat.le_refl _) (by omega)
  have hm2 : Gz 128 (h + (1021 + h - C) - 1074) (C + 1) m m := hm'.fx.gz
  obtain ⟨t, t', f1, _, f3⟩ := gz_add hc' hm2 (by decide) (by omega)
  refine ⟨m, t, e1, f1, f3.s.1, ?_, f3.u, f3.l⟩
  have lt : 2 ^ h ≤ sz (mg c) := by
    rcases hc.gz.low with e | e
    · exact absurd e h0
    · exact e
  have hv : (val c + val m).natAbs = sz (mg c) + sz (mg m) := by
    unfold val sgn
    rw [hm]
    cases ng c <;> simp <;> omega
  have hb : (val c + val m).natAbs ≤ 2 ^ (C + 2) := by
    rw [hv]
    have a := hc'.u
    have b := hm2.u
    rw [show C + 2 = C + 1 + 1 by omega, Nat.pow_succ]
    omega
  obtain ⟨t2, g1, _, g3⟩ := add_fin hc.f hm2.s.1 (lt_szI (rn_up hb) (by omega))
  rw [f1] at g1
  injection g1 with g1
  subst g1
  have hr2 : sz (mg t) = rn (val c + val m).natAbs := by
    rw [← val_abs, g3]
    unfold rnI
    split <;> omega
  rw [hr2]
  refine rn_dn ?_
  rw [hv]
  omega

end Go.Proofs.Ytklbgibhbnijaaa
