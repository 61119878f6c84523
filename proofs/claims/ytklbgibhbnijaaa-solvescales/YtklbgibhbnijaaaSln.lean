/-
  Numbers that are brought home, and their products: the greater part's size is from 1 on and below 2; a product of two such is finite and not nought.
-/
import Derived.Test.YtklbgibhbnijaaaSlm
import Derived.Test.YtklbgibhbnijaaaLmb
namespace Go.Proofs.Ytklbgibhbnijaaa
open Fl RowKit

abbrev W1 : Nat := 4607182418800017408
abbrev W2 : Nat := 4611686018427387904
def gz (z : Cw) : Nat := max (mg z.1) (mg z.2)
/-- brought home, and the power of two -/
def hmP (z : Cw) : Int := nX (gz z) - 1023
def hmW (z : Cw) : Cw := (ldx z.1 (-(hmP z)), ldx z.2 (-(hmP z)))
def hom (z : Cw) : Prop := okz z ∧ W1 ≤ gz z ∧ gz z < W2
theorem nX_rng {m : Nat} (h0 : 0 < m) (hf : m < 9218868437227405312) : -51 ≤ nX m ∧ nX m ≤ 2046 := by
  obtain ⟨E, f, h1, h2, h3, h4⟩ := nG_rng h0 hf
  unfold nX
  rw [h1]
  have hc : nC m ≤ 52 := by unfold nC; split <;> omega
  omega
theorem ldM_lt {m g : Nat} (h : m ≤ g) (_h0 : 0 < g) : ldM m (1023 - nX g) < W2 := by
  unfold ldM W2
  by_cases hz : m = 0
  · rw [if_pos hz]; omega
  · rw [if_neg hz]
    have hX := nX_mono (by omega) h
    split
    · omega
    · split
      · have : nG m % 4503599627370496 < 4503599627370496 := Nat.mod_lt _ (by omega)
        omega
      · rename_i h1 h2
        have hb : nr (sz 4368491638549381120 * sz ((nX m + (1023 - nX g) + 53).toNat * 4503599627370496 + nG m % 4503599627370496)) (-2148) ≤ 54 * 4503599627370496 := by
          have e1 : nr (sz (54 * 4503599627370496)) (-1074) = 54 * 4503599627370496 := nr_sz (by omega)
          rw [← e1]
          refine nr_le (k := K74) (by decide) ?_
          rw [Nat.mul_comm]
          refine Nat.mul_le_mul (sz_le (by have : nG m % 4503599627370496 < 4503599627370496 := Nat.mod_lt _ (by omega); omega)) ?_
          have c3 : sig 4368491638549381120 = 2 ^ 52 := by decide
          have c4 : ex 4368491638549381120 = K74 - 105 := by decide
          unfold sz
          rw [c3, c4, ← Nat.pow_add]
          exact pow_le_of (by unfold K74; omega)
        omega
theorem ldM_top {g : Nat} (h0 : 0 < g) : W1 ≤ ldM g (1023 - nX g) := by
  unfold ldM
  rw [if_neg (by omega), if_neg (by omega), if_pos (by omega), show (nX g + (1023 - nX g)).toNat = 1023 by omega]
  unfold W1
  omega
theorem mg_ldx {x : Nat} {p : Int} (h : ldM (mg x) p < 9223372036854775808) : mg (ldx x p) = ldM (mg x) p := word_mg _ h
theorem neg_hmP (z : Cw) : -(hmP z) = 1023 - nX (gz z) := by unfold hmP; omega
theorem hm_hom {z : Cw} (h0 : 0 < gz z) : hom (hmW z) := by
  have a1 := ldM_lt (m := mg z.1) (g := gz z) (Nat.le_max_left _ _) h0
  have a2 := ldM_lt (m := mg z.2) (g := gz z) (Nat.le_max_right _ _) h0
  have e1 : mg (hmW z).1 = ldM (mg z.1) (1023 - nX (gz z)) := by unfold hmW; rw [neg_hmP]; exact mg_ldx (by unfold W2 at a1; omega)
  have e2 : mg (hmW z).2 = ldM (mg z.2) (1023 - nX (gz z)) := by unfold hmW; rw [neg_hmP]; exact mg_ldx (by unfold W2 at a2; omega)
  refine ⟨⟨?_, ?_⟩, ?_, ?_⟩
  · unfold hmW ldx; rw [neg_hmP]; exact word_lt _ (by unfold W2 at a1; omega)
  · unfold hmW ldx; rw [neg_hmP]; exact word_lt _ (by unfold W2 at a2; omega)
  · unfold gz
    rw [e1, e2]
    have ht := ldM_top h0
    rcases Nat.le_total (mg z.1) (mg z.2) with h | h
    · have : gz z = mg z.2 := Nat.max_eq_right h
      rw [this] at ht ⊢
      exact Nat.le_trans ht (Nat.le_max_right _ _)
    · have : gz z = mg z.1 := Nat.max_eq_left h
      rw [this] at ht ⊢
      exact Nat.le_trans ht (Nat.le_max_left _ _)
  · unfold gz
    rw [e1, e2]
    exact Nat.max_lt.2 ⟨a1, a2⟩
theorem hom.fin1 {z : Cw} (h : hom z) : fin z.1 ∧ fin z.2 ∧ mg z.1 < W2 ∧ mg z.2 < W2 := by
  obtain ⟨_, _, h3⟩ := h
  have a := Nat.max_lt.1 h3
  unfold fin
  unfold W2 at a
  exact ⟨by omega, by omega, a.1, a.2⟩
theorem ldx_ng {x : Nat} (h : x < 18446744073709551616) (p : Int) (hl : ldM (mg x) p < 9223372036854775808) : ldx (ngW x) p = ngW (ldx x p) := by
  unfold ldx
  rw [mg_ngW h, ng_ngW h, word_not _ hl]

end Go.Proofs.Ytklbgibhbnijaaa
