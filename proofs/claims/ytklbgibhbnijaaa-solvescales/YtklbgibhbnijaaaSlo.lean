/-
  A product of two numbers that are home is finite and not nought.
-/
import Derived.Test.YtklbgibhbnijaaaSln
namespace Go.Proofs.Ytklbgibhbnijaaa
open Fl RowKit

theorem szE (E : Nat) (h : 1 ≤ E) : sz (E * 4503599627370496) = 2 ^ (52 + (E - 1)) := by
  unfold sz sig ex
  rw [if_neg (by omega), Nat.mul_mod_left, Nat.mul_div_cancel _ (by omega), Nat.pow_add]
theorem szK (j : Nat) (h : j ≤ 100) : sz ((1019 + j) * 4503599627370496) = 2 ^ (K74 - 4 + j) := by
  rw [szE _ (by omega)]
  congr 1
  unfold K74
  omega
def pr (x y : Nat) : Nat := nr (sz (mg x) * sz (mg y)) (-2148)
/-- the word of 2 to the j - 4 -/
def Wj (j : Nat) : Nat := (1019 + j) * 4503599627370496
theorem szWj (j : Nat) (h : j ≤ 100) : sz (Wj j) = 2 ^ (K74 - 4 + j) := szK j h
theorem nrWj (j : Nat) (h : j ≤ 100) : nr (sz (Wj j)) (-1074) = Wj j := nr_sz (by unfold Wj; omega)
theorem pow_K (i j : Nat) (h : 4 ≤ i + j) : 2 ^ (K74 - 4 + i) * 2 ^ (K74 - 4 + j) = 2 ^ (K74 - 4 + (i + j - 4)) * 2 ^ K74 := by
  rw [← Nat.pow_add, ← Nat.pow_add]
  congr 1
  unfold K74
  omega
theorem pr_le {x y : Nat} (i j : Nat) (hi : i ≤ 50) (hj : j ≤ 50) (h : 4 ≤ i + j) (hx : mg x ≤ Wj i) (hy : mg y ≤ Wj j) : pr x y ≤ Wj (i + j - 4) := by
  rw [← nrWj (i + j - 4) (by omega)]
  refine nr_le (k := K74) (by decide) ?_
  rw [szWj _ (by omega), ← pow_K i j h, ← szWj i (by omega), ← szWj j (by omega)]
  exact Nat.mul_le_mul (sz_le hx) (sz_le hy)
theorem pr_ge {x y : Nat} (i j : Nat) (hi : i ≤ 50) (hj : j ≤ 50) (h : 4 ≤ i + j) (hx : Wj i ≤ mg x) (hy : Wj j ≤ mg y) : Wj (i + j - 4) ≤ pr x y := by
  rw [← nrWj (i + j - 4) (by omega)]
  refine nr_ge (k := K74) (by decide) ?_
  rw [szWj _ (by omega), ← pow_K i j h, ← szWj i (by omega), ← szWj j (by omega)]
  exact Nat.mul_le_mul (sz_le hx) (sz_le hy)
theorem Wj_lt {i j : Nat} (h : i < j) : Wj i < Wj j := by unfold Wj; omega
/-- where a product is 1 at least, both are 1/4 at least -/
theorem pr_q {x y : Nat} (h : Wj 4 ≤ pr x y) (hx : mg x < W2) (hy : mg y < W2) : Wj 2 ≤ mg x ∧ Wj 2 ≤ mg y := by
  have hw : W2 = Wj 5 := rfl
  rw [hw] at hx hy
  constructor
  · rcases Nat.lt_or_ge (mg x) (Wj 2) with h1 | h1
    · have := pr_le (x := x) (y := y) 2 5 (by omega) (by omega) (by omega) (by omega) (by omega)
      have h3 : Wj (2 + 5 - 4) < Wj 4 := Wj_lt (by omega)
      omega
    · exact h1
  · rcases Nat.lt_or_ge (mg y) (Wj 2) with h1 | h1
    · have := pr_le (x := x) (y := y) 5 2 (by omega) (by omega) (by omega) (by omega) (by omega)
      have h3 : Wj (5 + 2 - 4) < Wj 4 := Wj_lt (by omega)
      omega
    · exact h1
theorem pr_pos {x y : Nat} (hx : Wj 2 ≤ mg x) (hy : Wj 2 ≤ mg y) : 0 < pr x y := by
  have := pr_ge (x := x) (y := y) 2 2 (by omega) (by omega) (by omega) hx hy
  have h3 : 0 < Wj (2 + 2 - 4) := by unfold Wj; omega
  omega
theorem pr_top {x y : Nat} (hx : mg x < W2) (hy : mg y < W2) : pr x y ≤ Wj 6 := by
  have hw : W2 = Wj 5 := rfl
  rw [hw] at hx hy
  exact pr_le 5 5 (by omega) (by omega) (by omega) (by omega) (by omega)
theorem mulO_pr {x y : Nat} (hx : fin x) (hy : fin y) : mulO x y = some (Ieee.double.word (ng x ^^ ng y) (pr x y)) := mul_gen hx hy
theorem prw {x y : Nat} (s : Bool) (hx : mg x < W2) (hy : mg y < W2) : fin (Ieee.double.word s (pr x y)) ∧ val (Ieee.double.word s (pr x y)) = sgn s (sz (pr x y)) ∧ sz (pr x y) ≤ 2 ^ (K74 - 4 + 6) := by
  have h := pr_top hx hy
  have hl : pr x y < 9218868437227405312 := by unfold Wj at h; omega
  have hm : mg (Ieee.double.word s (pr x y)) = pr x y := word_mg s (by omega)
  refine ⟨by unfold fin; rw [hm]; exact hl, word_val s (by omega), ?_⟩
  rw [← szWj 6 (by omega)]
  exact sz_le h
/-- a sum that is not too great is finite, and nought alone where it is so -/
theorem rn_top {v : Int} (h : v.natAbs ≤ 2 ^ (K74 - 4 + 7)) : rn v.natAbs < szI := by
  have hr : Rp ((2 ^ (K74 - 4 + 7) : Nat) : Int) := by
    have := val_rep (Wj 7)
    have e : val (Wj 7) = ((2 ^ (K74 - 4 + 7) : Nat) : Int) := by
      unfold val
      have h1 : mg (Wj 7) = Wj 7 := by decide
      have h2 : ng (Wj 7) = false := by decide
      rw [h1, h2, szWj 7 (by omega)]
      rfl
    rw [e] at this
    exact this
  have h1 := (rnI_near ((v.natAbs : Nat) : Int) _ hr).2.2 (by omega)
  have h2 : rnI ((v.natAbs : Nat) : Int) = ((rn v.natAbs : Nat) : Int) := by unfold rnI; rw [if_neg (by omega), Int.natAbs_natCast]
  rw [h2] at h1
  have h3 : sz (Wj 7) < szI := sz_mono (by decide)
  rw [szWj 7 (by omega)] at h3
  omega
theorem rnI_nz {v : Int} (h : v ≠ 0) : rnI v ≠ 0 := by
  have h1 : Rp (1 : Int) := by
    have := val_rep 1
    exact this
  have h2 := rnI_near v 1 h1
  have h3 := rnI_near (-v) 1 h1
  rw [rnI_neg] at h3
  omega
theorem val_nz {r : Nat} (h : val r ≠ 0) : 0 < mg r := by
  rcases Nat.eq_zero_or_pos (mg r) with h0 | h0
  · exact absurd (by unfold val sgn; rw [h0, sz_zero]; split <;> rfl) h
  · exact h0
theorem sgn_bnd {s t : Bool} {m n k : Nat} (h1 : m ≤ 2 ^ k) (h2 : n ≤ 2 ^ k) : (sgn s m - sgn t n).natAbs ≤ 2 ^ (k + 1) ∧ (sgn s m + sgn t n).natAbs ≤ 2 ^ (k + 1) := by
  rw [Nat.pow_succ]
  unfold sgn
  cases s <;> cases t <;> simp <;> omega
theorem prod_ok {z u : Cw} (hz : hom z) (hu : hom u) : ∃ r : Cw, mulZ (anz z) (anz u) = (some r.1, some r.2) ∧ okz r ∧ fin r.1 ∧ fin r.2 ∧ 0 < gz r := by
  obtain ⟨a, b⟩ := z
  obtain ⟨c, e⟩ := u
  obtain ⟨fa, fb, la, lb⟩ := hz.fin1
  obtain ⟨fc, fe, lc, le⟩ := hu.fin1
  have g1 := hz.2.1
  have g2 := hu.2.1
  simp only at fa fb la lb fc fe lc le
  unfold gz at g1 g2
  simp only at g1 g2
  obtain ⟨A1, A2, A3⟩ := prw (ng a ^^ ng c) la lc
  obtain ⟨B1, B2, B3⟩ := prw (ng b ^^ ng e) lb le
  obtain ⟨C1, C2, C3⟩ := prw (ng a ^^ ng e) la le
  obtain ⟨D1, D2, D3⟩ := prw (ng b ^^ ng c) lb lc
  have k6 : K74 - 4 + 6 + 1 = K74 - 4 + 7 := by omega
  have s1 := (sgn_bnd (s := ng a ^^ ng c) (t := ng b ^^ ng e) A3 B3).1
  have s2 := (sgn_bnd (s := ng a ^^ ng e) (t := ng b ^^ ng c) C3 D3).2
  rw [k6, ← A2, ← B2] at s1
  rw [k6, ← C2, ← D2] at s2
  obtain ⟨r1, R1, R2, R3⟩ := sub_fin A1 B1 (rn_top s1)
  obtain ⟨r2, Q1, Q2, Q3⟩ := add_fin C1 D1 (rn_top s2)
  have na := ans_fin fa
  have nb := ans_fin fb
  have nc := ans_fin fc
  have ne := ans_fin fe
  have E1 : mulRe (ans a) (ans b) (ans c) (ans e) = some r1 := by
    unfold mulRe
    rw [na, nb, nc, ne]
    show subA (mulO a c) (mulO b e) = _
    rw [mulO_pr fa fc, mulO_pr fb fe]
    exact R1
  have E2 : mulIm (ans a) (ans b) (ans c) (ans e) = some r2 := by
    unfold mulIm
    rw [na, nb, nc, ne]
    show addA (mulO a e) (mulO b c) = _
    rw [mulO_pr fa fe, mulO_pr fb fc]
    exact Q1
  refine ⟨(r1, r2), Prod.ext E1 E2, ⟨?_, ?_⟩, R2, Q2, ?_⟩
  · exact (bd_subA _ _ r1 E1).1
  · exact (bd_addA _ _ r2 E2).1
  · rcases Nat.eq_zero_or_pos (gz (r1, r2)) with h0 | h0
    · exfalso
      have m1 : mg r1 = 0 := by have := Nat.le_max_left (mg r1) (mg r2); unfold gz at h0; simp only at h0; omega
      have m2 : mg r2 = 0 := by have := Nat.le_max_right (mg r1) (mg r2); unfold gz at h0; simp only at h0; omega
      have v1 : val r1 = 0 := by unfold val sgn; rw [m1, sz_zero]; split <;> rfl
      have v2 : val r2 = 0 := by unfold val sgn; rw [m2, sz_zero]; split <;> rfl
      have w1 : val (Ieee.double.word (ng a ^^ ng c) (pr a c)) - val (Ieee.double.word (ng b ^^ ng e) (pr b e)) = 0 := by
        by_cases h : val (Ieee.double.word (ng a ^^ ng c) (pr a c)) - val (Ieee.double.word (ng b ^^ ng e) (pr b e)) = 0
        · exact h
        · exact absurd (R3.symm.trans v1) (rnI_nz h)
      have w2 : val (Ieee.double.word (ng a ^^ ng e) (pr a e)) + val (Ieee.double.word (ng b ^^ ng c) (pr b c)) = 0 := by
        by_cases h : val (Ieee.double.word (ng a ^^ ng e) (pr a e)) + val (Ieee.double.word (ng b ^^ ng c) (pr b c)) = 0
        · exact h
        · exact absurd (Q3.symm.trans v2) (rnI_nz h)
      rw [A2, B2] at w1
      rw [C2, D2] at w2
      -- equal sizes
      have x1 : pr a c = pr b e := sz_inj (by have := congrArg Int.natAbs (show sgn (ng a ^^ ng c) (sz (pr a c)) = sgn (ng b ^^ ng e) (sz (pr b e)) by omega); rw [sgn_abs, sgn_abs] at this; exact this)
      have x2 : pr a e = pr b c := sz_inj (by have := congrArg Int.natAbs (show sgn (ng a ^^ ng e) (sz (pr a e)) = -sgn (ng b ^^ ng c) (sz (pr b c)) by omega); rw [Int.natAbs_neg, sgn_abs, sgn_abs] at this; exact this)
      have hw : W1 = Wj 4 := rfl
      rw [hw] at g1 g2
      have one : ∀ x y : Nat, Wj 4 ≤ mg x → Wj 4 ≤ mg y → Wj 4 ≤ pr x y := fun x y hx hy => pr_ge 4 4 (by omega) (by omega) (by omega) hx hy
      have quarter : Wj 2 ≤ mg a ∧ Wj 2 ≤ mg b ∧ Wj 2 ≤ mg c ∧ Wj 2 ≤ mg e := by
        rcases Nat.le_total (mg a) (mg b) with h1 | h1
        · rw [Nat.max_eq_right h1] at g1
          rcases Nat.le_total (mg c) (mg e) with h2 | h2
          · rw [Nat.max_eq_right h2] at g2
            have h3 := one b e g1 g2
            have q1 := pr_q h3 lb le
            have q2 := pr_q (x := a) (y := c) (by rw [x1]; exact h3) la lc
            exact ⟨q2.1, q1.1, q2.2, q1.2⟩
          · rw [Nat.max_eq_left h2] at g2
            have h3 := one b c g1 g2
            have q1 := pr_q h3 lb lc
            have q2 := pr_q (x := a) (y := e) (by rw [x2]; exact h3) la le
            exact ⟨q2.1, q1.1, q1.2, q2.2⟩
        · rw [Nat.max_eq_left h1] at g1
          rcases Nat.le_total (mg c) (mg e) with h2 | h2
          · rw [Nat.max_eq_right h2] at g2
            have h3 := one a e g1 g2
            have q1 := pr_q h3 la le
            have q2 := pr_q (x := b) (y := c) (by rw [← x2]; exact h3) lb lc
            exact ⟨q1.1, q2.1, q2.2, q1.2⟩
          · rw [Nat.max_eq_left h2] at g2
            have h3 := one a c g1 g2
            have q1 := pr_q h3 la lc
            have q2 := pr_q (x := b) (y := e) (by rw [← x1]; exact h3) lb le
            exact ⟨q1.1, q2.1, q1.2, q2.2⟩
      have p1 := sz_pos (pr_pos quarter.1 quarter.2.2.1)
      have p2 := sz_pos (pr_pos quarter.1 quarter.2.2.2)
      rw [← x1] at w1
      rw [← x2] at w2
      generalize sz (pr a c) = X at p1 w1
      generalize sz (pr a e) = Y at p2 w2
      generalize ng a = sa at w1 w2
      generalize ng b = sb at w1 w2
      generalize ng c = sc at w1 w2
      generalize ng e = se at w1 w2
      unfold sgn at w1 w2
      cases sa <;> cases sb <;> cases sc <;> cases se <;> simp at w1 w2 <;> omega
    · exact h0

end Go.Proofs.Ytklbgibhbnijaaa
