/-
  The middle of a narrow real and the next one, reckoned in float64, is narrowed to one of both; places of neighbours. Nothing of any program's text is used but Next's answers.
-/
import Derived.Test.YthkhemmpjfilaabNw
import Derived.Test.YthkhemmpjfilaabWNeigh
namespace Go.Proofs.Ythkhemmpjfilaab
open Nw

theorem mg3_lt (x : Nat) : Fs.mg x < 2147483648 := Nat.mod_lt _ (by omega)
theorem word3_cases {x : Nat} (hx : x < 4294967296) : (Fs.ng x = false ∧ x = Fs.mg x) ∨ (Fs.ng x = true ∧ x = 2147483648 + Fs.mg x) := by
  cases h : Fs.ng x
  · exact Or.inl ⟨rfl, ng_pos hx h⟩
  · exact Or.inr ⟨rfl, ng_neg hx h⟩
theorem mk3_pos {r : Nat} (h : r < 2147483648) : Fs.ng r = false ∧ Fs.mg r = r := by
  unfold Fs.ng Fs.mg
  have h1 : r / 2147483648 = 0 := by omega
  rw [h1]; exact ⟨rfl, by omega⟩
theorem mk3_neg {r : Nat} (h : r < 2147483648) : Fs.ng (2147483648 + r) = true ∧ Fs.mg (2147483648 + r) = r := by
  unfold Fs.ng Fs.mg
  have h1 : (2147483648 + r) / 2147483648 = 1 := by omega
  rw [h1]; exact ⟨rfl, by omega⟩
/-- what is next above: its sign and rung -/
theorem nx3_up {x : Nat} (hx : x < 4294967296) (hn : Fs.nan x = false) (hf : ¬ (Fs.ng x = false ∧ Fs.mg x = 2139095040)) :
    (0 ≤ Fs.plc x ∧ Fs.ng (nx3 x true) = false ∧ Fs.mg (nx3 x true) = Fs.mg x + 1 ∧ (Fs.ng x = true → Fs.mg x = 0)) ∨ (Fs.ng x = true ∧ 0 < Fs.mg x ∧ Fs.ng (nx3 x true) = true ∧ Fs.mg (nx3 x true) = Fs.mg x - 1) := by
  have hm := not_nan3 hn
  unfold nx3
  rw [hn, if_neg (by decide)]
  by_cases h0 : Fs.mg x = 0
  · rw [if_pos h0, if_pos rfl]
    left
    refine ⟨?_, by decide, by rw [h0]; decide, fun _ => h0⟩
    unfold Fs.plc Fs.sgn; rw [h0]; split <;> simp
  · rw [if_neg h0]
    rcases word3_cases hx with ⟨h1, h2⟩ | ⟨h1, h2⟩
    · rw [h1, if_neg (by decide)]
      have h3 : ¬ Fs.mg x = 2139095040 := fun h => hf ⟨h1, h⟩
      rw [if_neg h3]
      obtain ⟨a, b⟩ := mk3_pos (r := Fs.mg x + 1) (by omega)
      left
      refine ⟨?_, ?_, ?_, fun h => by cases h⟩
      · unfold Fs.plc Fs.sgn; rw [h1]; simp
      · rw [show x + 1 = Fs.mg x + 1 by omega]; exact a
      · rw [show x + 1 = Fs.mg x + 1 by omega]; exact b
    · rw [h1, if_pos rfl]
      obtain ⟨a, b⟩ := mk3_neg (r := Fs.mg x - 1) (by omega)
      right
      refine ⟨rfl, by omega, ?_, ?_⟩
      · rw [show x - 1 = 2147483648 + (Fs.mg x - 1) by omega]; exact a
      · rw [show x - 1 = 2147483648 + (Fs.mg x - 1) by omega]; exact b
theorem plc3_up {x : Nat} (hx : x < 4294967296) (hn : Fs.nan x = false) (hf : ¬ (Fs.ng x = false ∧ Fs.mg x = 2139095040)) : Fs.plc (nx3 x true) = Fs.plc x + 1 := by
  rcases nx3_up hx hn hf with ⟨h0, h1, h2, h3⟩ | ⟨h0, h1, h2, h3⟩
  · unfold Fs.plc Fs.sgn; rw [h1, h2]
    cases h : Fs.ng x
    · simp
    · rw [h3 h]; rfl
  · unfold Fs.plc Fs.sgn; rw [h0, h2, h3]; simp; omega
theorem plc3_down {x : Nat} (hx : x < 4294967296) (hn : Fs.nan x = false) (hf : ¬ (Fs.ng x = true ∧ Fs.mg x = 2139095040)) : Fs.plc (nx3 x false) = Fs.plc x - 1 := by
  have hm := not_nan3 hn
  unfold nx3
  rw [hn, if_neg (by decide)]
  by_cases h0 : Fs.mg x = 0
  · rw [if_pos h0, if_neg (by decide)]
    have : Fs.plc x = 0 := by unfold Fs.plc Fs.sgn; rw [h0]; split <;> rfl
    rw [this]; decide
  · rw [if_neg h0]
    rcases word3_cases hx with ⟨h1, h2⟩ | ⟨h1, h2⟩
    · rw [h1, if_pos rfl]
      obtain ⟨a, b⟩ := mk3_pos (r := Fs.mg x - 1) (by omega)
      rw [show x - 1 = Fs.mg x - 1 by omega]
      unfold Fs.plc Fs.sgn; rw [a, b, h1]; simp; omega
    · rw [h1, if_neg (by decide)]
      have h3 : ¬ Fs.mg x = 2139095040 := fun h => hf ⟨h1, h⟩
      rw [if_neg h3]
      obtain ⟨a, b⟩ := mk3_neg (r := Fs.mg x + 1) (by omega)
      rw [show x + 1 = 2147483648 + (Fs.mg x + 1) by omega]
      unfold Fs.plc Fs.sgn; rw [a, b, h1]; simp; omega
theorem nx3_lt {x : Nat} (hx : x < 4294967296) (hn : Fs.nan x = false) (up : Bool) : nx3 x up < 4294967296 := by
  have hm := not_nan3 hn
  unfold nx3; rw [hn, if_neg (by decide)]
  have := word3_cases hx
  split
  · split <;> omega
  · split
    · omega
    · split <;> omega
theorem nan3_of {x : Nat} (h : Fs.mg x ≤ 2139095040) : Fs.nan x = false := by unfold Fs.nan; simp; exact h
theorem plc3_abs (x : Nat) : (Fs.plc x).natAbs = Fs.mg x := by unfold Fs.plc Fs.sgn; split <;> omega
theorem nx3_nan {x : Nat} (hx : x < 4294967296) (hn : Fs.nan x = false) (up : Bool) : Fs.nan (nx3 x up) = false := by
  have hm := not_nan3 hn
  have hp := plc3_abs x
  cases up
  · by_cases hf : Fs.ng x = true ∧ Fs.mg x = 2139095040
    · have : nx3 x false = x := by unfold nx3; rw [hn, if_neg (by decide), if_neg (by omega), hf.1, if_neg (by decide), if_pos hf.2]
      rw [this]; exact hn
    · have h1 := plc3_down hx hn hf
      have h2 := plc3_abs (nx3 x false)
      refine nan3_of ?_
      rw [h1] at h2
      have : ¬ Fs.plc x = -2139095040 := fun h => hf (by
        rcases word3_cases hx with ⟨a, b⟩ | ⟨a, b⟩
        · exfalso; unfold Fs.plc Fs.sgn at h; rw [a] at h; simp at h <;> omega
        · exact ⟨a, by omega⟩)
      omega
  · by_cases hf : Fs.ng x = false ∧ Fs.mg x = 2139095040
    · have : nx3 x true = x := by unfold nx3; rw [hn, if_neg (by decide), if_neg (by omega), hf.1, if_neg (by decide), if_pos hf.2]
      rw [this]; exact hn
    · have h1 := plc3_up hx hn hf
      have h2 := plc3_abs (nx3 x true)
      refine nan3_of ?_
      rw [h1] at h2
      have : ¬ Fs.plc x = 2139095040 := fun h => hf (by
        rcases word3_cases hx with ⟨a, b⟩ | ⟨a, b⟩
        · exact ⟨a, by omega⟩
        · exfalso; unfold Fs.plc Fs.sgn at h; rw [a] at h; simp at h <;> omega)
      omega
theorem ord3 {x y : Nat} (hx : Fs.nan x = false) (hy : Fs.nan y = false) : FloatKind.f32.format.order x y = some (compare (Fs.plc x) (Fs.plc y)) := by
  rw [Fs.f32_single, Fs.order_eq, hx, hy]; rfl

def K924 : Nat := 924
theorem pow_925 : 2 ^ K925 = 2 ^ K924 * 2 := by rw [show K925 = K924 + 1 from rfl, Nat.pow_succ]
theorem sum_core {a b k : Nat} (s : Bool) (ha : Fl.fin a) (hb : Fl.fin b) (hk : k < 2139095040) (hv : Fl.val a + Fl.val b = Fl.sgn s ((Fs.sz k + Fs.sz (k + 1)) * 2 ^ K925)) :
    ∃ S z, addO a b = some S ∧ divO S 4611686018427387904 = some z ∧ Fl.fin z ∧ Fl.ng z = s ∧ (nwr z = k ∨ nwr z = k + 1) := by
  have hR := mid_rep k K925
  have hRp : Fl.Rp (Fl.val a + Fl.val b) := by
    obtain ⟨m, e, h1, h2⟩ := hR
    exact ⟨m, e, by rw [hv, Fl.sgn_abs]; exact h1, h2⟩
  have hbig : Fl.rn (Fl.val a + Fl.val b).natAbs < Fl.szI := by
    have h1 : Fl.rn (Fl.val a + Fl.val b).natAbs = (Fl.val a + Fl.val b).natAbs := Fl.rn_exact hRp
    rw [h1, hv, Fl.sgn_abs]
    have h2 := sz3_le (r := k) (by omega)
    have h3 := sz3_le (r := k + 1) (by omega)
    have h4 : (Fs.sz k + Fs.sz (k + 1)) * 2 ^ K925 ≤ (2 ^ K277 + 2 ^ K277) * 2 ^ K925 := Nat.mul_le_mul_right _ (Nat.add_le_add h2 h3)
    rw [Nat.add_mul (2 ^ K277), pow_1202] at h4
    have h5 := big_1202
    generalize 2 ^ K1202 = y at *
    omega
  obtain ⟨S, h1, h2, h3⟩ := Fl.add_fin ha hb hbig
  rw [Fl.rnI_exact hRp, hv] at h3
  have hS : Fl.sz (Fl.mg S) = ((Fs.sz k + Fs.sz (k + 1)) * 2 ^ K924) * 2 := by
    have : (Fl.val S).natAbs = Fl.sz (Fl.mg S) := Fl.sgn_abs _ _
    rw [← this, h3, Fl.sgn_abs, pow_925, Nat.mul_assoc]
  have hpos : 0 < (Fs.sz k + Fs.sz (k + 1)) * 2 ^ K925 := Nat.mul_pos (by have := Fs.sz_pos (a := k + 1) (by omega); omega) (Nat.two_pow_pos _)
  have hng : Fl.ng S = s := by
    unfold Fl.val at h3
    have hpos2 : 0 < Fl.sz (Fl.mg S) := by rw [hS, Nat.mul_assoc, ← pow_925]; exact hpos
    revert h3
    generalize (Fs.sz k + Fs.sz (k + 1)) * 2 ^ K925 = y at *
    generalize Fl.sz (Fl.mg S) = t at *
    unfold Fl.sgn
    cases Fl.ng S <;> cases s <;> simp <;> omega
  obtain ⟨z, g1, g2, g3, g4⟩ := div_two h2 hS (mid_rep k K924)
  refine ⟨S, z, h1, g1, g2, by rw [g3, hng], ?_⟩
  refine nwr_between hk ?_ ?_
  · rw [g4, pow_925, Nat.mul_comm (2 ^ K924) 2, ← Nat.mul_assoc]
    refine Nat.mul_le_mul_right _ ?_
    have := Fs.sz_mono (a := k) (b := k + 1) (by omega); omega
  · rw [g4, pow_925, Nat.mul_comm (2 ^ K924) 2, ← Nat.mul_assoc]
    refine Nat.mul_le_mul_right _ ?_
    have := Fs.sz_mono (a := k) (b := k + 1) (by omega); omega
theorem sgn_f (n : Nat) : Fl.sgn false n = (n : Int) := rfl
theorem sgn_t (n : Nat) : Fl.sgn true n = -(n : Int) := rfl
theorem mid_core {x : Nat} (hx : x < 4294967296) (hf : Fs.fin x) (hu : Fs.fin (nx3 x true)) : ∃ S z, addO (wd x) (wd (nx3 x true)) = some S ∧ divO S 4611686018427387904 = some z ∧ Fl.fin z ∧ nwr z < 2139095040 ∧ (Fs.plc (nw z) = Fs.plc x ∨ Fs.plc (nw z) = Fs.plc (nx3 x true)) := by
  have hn := Fs.fin_not_nan hf
  have hnf : ¬ (Fs.ng x = false ∧ Fs.mg x = 2139095040) := fun h => by unfold Fs.fin at hf; omega
  have v1 := wd_val hf
  have v2 := wd_val hu
  unfold Fs.fin at hf hu
  rcases nx3_up hx hn hnf with ⟨h0, h1, h2, h3⟩ | ⟨h0, h1, h2, h3⟩
  · obtain ⟨S, z, a, b, c, d, e⟩ := sum_core (k := Fs.mg x) false (wd_fin hf) (wd_fin hu) (by omega) (by
      rw [v1, v2, h1, h2, Nat.add_mul, sgn_f, sgn_f]
      cases h : Fs.ng x
      · rw [sgn_f]
        generalize Fs.sz (Fs.mg x) * 2 ^ K925 = p
        generalize Fs.sz (Fs.mg x + 1) * 2 ^ K925 = q
        omega
      · rw [h3 h, Fs.sz_zero, Nat.zero_mul, Nat.zero_add, sgn_t]
        generalize Fs.sz (0 + 1) * 2 ^ K925 = q
        omega)
    refine ⟨S, z, a, b, c, by omega, ?_⟩
    have hp : Fs.plc (nw z) = (nwr z : Int) := by unfold Fs.plc; rw [nw_mg, nw_ng, d]; rfl
    have hq : Fs.plc (nx3 x true) = ((Fs.mg x + 1 : Nat) : Int) := by unfold Fs.plc; rw [h1, h2]; rfl
    have hr : Fs.plc x = (Fs.mg x : Int) := by
      unfold Fs.plc Fs.sgn
      cases h : Fs.ng x
      · rfl
      · rw [h3 h]; rfl
    rw [hp, hq, hr]; omega
  · obtain ⟨S, z, a, b, c, d, e⟩ := sum_core (k := Fs.mg x - 1) true (wd_fin hf) (wd_fin hu) (by omega) (by
      rw [v1, v2, h0, h2, h3, show Fs.mg x - 1 + 1 = Fs.mg x by omega, Nat.add_mul, sgn_t, sgn_t, sgn_t]
      generalize Fs.sz (Fs.mg x) * 2 ^ K925 = p
      generalize Fs.sz (Fs.mg x - 1) * 2 ^ K925 = q
      omega)
    refine ⟨S, z, a, b, c, by omega, ?_⟩
    have hp : Fs.plc (nw z) = -(nwr z : Int) := by unfold Fs.plc; rw [nw_mg, nw_ng, d]; rfl
    have hq : Fs.plc (nx3 x true) = -((Fs.mg x - 1 : Nat) : Int) := by unfold Fs.plc; rw [h2, h3]; rfl
    have hr : Fs.plc x = -(Fs.mg x : Int) := by unfold Fs.plc; rw [h0]; rfl
    rw [hp, hq, hr]; omega

end Go.Proofs.Ythkhemmpjfilaab
