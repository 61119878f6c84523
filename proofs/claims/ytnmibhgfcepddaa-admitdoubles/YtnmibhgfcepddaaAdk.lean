/-
  Twice as great an omega: what a Capacitor's and a Coil's calls hand back.
-/
import Derived.Test.YtnmibhgfcepddaaAdj
namespace Go.Proofs.Ytnmibhgfcepddaa
open Fl RowKit
set_option linter.unusedVariables false

def lo17 : Nat := 103582791429521408
def hi17 : Nat := 9110782046170513408
theorem pos_of {o : Nat} (h : o < 18446744073709551616) (hf : fin o) (hn : ng o = false) : pos o := by
  unfold Fl.fin mg at hf
  unfold Fl.ng at hn
  unfold pos
  have : o / 9223372036854775808 % 2 = 0 := by
    rcases Nat.mod_two_eq_zero_or_one (o / 9223372036854775808) with q | q
    · exact q
    · rw [q] at hn; cases hn
  omega
theorem fr_pos {o : Nat} (h : pos o) (h0 : 0 < o) : frI o = 0 := by
  unfold frI
  rw [finB_iff.2 h.fin]
  have : posV o = true := by
    unfold posV plc sgn; rw [h.ng, h.mg]; simp; exact h0
  rw [this]; rfl
structure Dbl (o v m q q' : Nat) : Prop where
  p1 : prA o v = (0, m, 0)
  p2 : prA (o + 4503599627370496) v = (0, m + 4503599627370496, 0)
  o1 : ovA o v = (0, ngW q, 0)
  o2 : ovA (o + 4503599627370496) v = (0, ngW q', 0)
  m1 : mulO 4611686018427387904 m = some (m + 4503599627370496)
  m2 : mulO 4611686018427387904 (ngW q') = some (ngW q)
  m3 : mulO 4611686018427387904 o = some (o + 4503599627370496)
  fr : frI (o + 4503599627370496) = 0
  n1 : nan (m + 4503599627370496) = false
  n2 : nan (ngW q) = false
  o64 : o + 4503599627370496 < 18446744073709551616
theorem finB_pos {x : Nat} (h : pos x) : finB x = true := finB_iff.2 h.fin
theorem dbl_of {o v : Nat} (lo : o < 18446744073709551616) (lv : v < 18446744073709551616) (ho : fin o) (hv : fin v) (no : ng o = false) (nv : ng v = false) (h1 : lo17 ≤ mW o v) (h2 : mW o v ≤ hi17) (h3 : o ≤ hi17) (h4 : lo17 ≤ o) :
    ∃ q q', Dbl o v (mW o v) q q' := by
  unfold lo17 hi17 at *
  have po := pos_of lo ho no
  have pv := pos_of lv hv nv
  have hm := mul_some ho hv
  obtain ⟨m, hmm⟩ : ∃ m, m = mW o v := ⟨_, rfl⟩
  rw [← hmm] at h1 h2 hm ⊢
  have pm : pos m := by unfold pos; omega
  have pm2 : pos (m + 4503599627370496) := by unfold pos; omega
  have po2 : pos (o + 4503599627370496) := by unfold pos; omega
  have hm2 := mul_dbl po po2 pv (by omega) hm (by omega) (by omega)
  have e2 : mW (o + 4503599627370496) v = m + 4503599627370496 := by unfold mW; rw [hm2]; rfl
  obtain ⟨d1, d2, d3⟩ := dq_dbl (p := m) (by omega) h1 h2
  rw [← dW_dq pm (by omega), ← dW_dq pm2 (by omega)] at d1
  rw [← dW_dq pm2 (by omega)] at d2 d3
  obtain ⟨q', hq'⟩ : ∃ q', q' = dW (m + 4503599627370496) := ⟨_, rfl⟩
  rw [← hq'] at d1 d2 d3
  have pq' : pos q' := by unfold pos; omega
  have pq : pos (q' + 4503599627370496) := by unfold pos; omega
  have lq : q' + 4503599627370496 < 18446744073709551616 := by unfold pos at pq; omega
  have lq' : q' < 18446744073709551616 := by omega
  have fq : finB (ngW (q' + 4503599627370496)) = true := by rw [finB_ng lq]; exact finB_pos pq
  have fq' : finB (ngW q') = true := by rw [finB_ng lq']; exact finB_pos pq'
  refine ⟨q' + 4503599627370496, q', ?_, ?_, ?_, ?_, mul_2 pm (by omega) (by omega), mul_2n pq' d3 (by unfold pos at pq; omega), mul_2 po (by omega) (by omega), fr_pos po2 (by omega), fin_not_nan pm2.fin, ?_, by omega⟩
  · unfold prA toA; rw [← hmm, fin0, finB_pos pm]; rfl
  · unfold prA toA; rw [e2, fin0, finB_pos pm2]; rfl
  · unfold ovA toA; rw [← hmm, finB_pos pm, d1, fin0, fq]; rfl
  · unfold ovA toA; rw [e2, finB_pos pm2, ← hq', fin0, fq']; rfl
  · rw [nan_ngW lq]; exact fin_not_nan pq.fin
theorem ofT_zero {x : Elm} {o : Nat} (h : (ofT x o).2.2 = 0) : ckA x o = 0 := by
  unfold ofT at h
  by_cases hc : ckA x o = 0
  · exact hc
  · rw [if_neg hc] at h; exact h
def N2074 : Nat := 2074
theorem ldx_lo (w : World) : Calls Try.prog 27 #[.float .f64 4607182418800017408, .int .i64 (-1000)] w fun e w' => ∃ n, e = .returned (.float .f64 103582791429521408) ∧ w' = w.drewN n := by
  have hr : rung (1 * 2 ^ 74) = 103582791429521408 := by kernel_rfl
  have h := ldexp_any 1 74 w (by decide) (by decide) (by rw [hr]; decide) ⟨1, 74, rfl, by decide⟩
  rw [hr, show floatOfInt .f64 ((1 : Nat) : Int) = 4607182418800017408 by kernel_rfl] at h
  exact h
theorem ldx_hi (w : World) : Calls Try.prog 27 #[.float .f64 4607182418800017408, .int .i64 1000] w fun e w' => ∃ n, e = .returned (.float .f64 9110782046170513408) ∧ w' = w.drewN n := by
  have hr : rung (1 * 2 ^ N2074) = 9110782046170513408 := by kernel_rfl
  have h := ldexp_any 1 N2074 w (by decide) (by decide) (by rw [hr]; decide) ⟨1, N2074, rfl, by decide⟩
  rw [hr, show floatOfInt .f64 ((1 : Nat) : Int) = 4607182418800017408 by kernel_rfl] at h
  exact h
end Go.Proofs.Ytnmibhgfcepddaa
