/-
  SolveScales' numbers: what elimination leaves of a matrix of two rows (or one), as multiples of powers of two.
-/
import Derived.Test.YtklbgibhbnijaaaTw9
import Derived.Test.YtklbgibhbnijaaaSlv
import Derived.Test.YtklbgibhbnijaaaSlg
namespace Go.Proofs.Ytklbgibhbnijaaa
open Fl RowKit

theorem FX.anz {h C : Nat} {z : Cw} (a : FX h C z) : anz z = (some z.1, some z.2) := by
  unfold Go.Proofs.Ytklbgibhbnijaaa.anz
  rw [ans_fin a.a.f, ans_fin a.b.f]
theorem GZ.anz' {k g B : Nat} {z z' : Cw} (a : GZ k g B z z') : anz z' = (some z'.1, some z'.2) := by
  unfold Go.Proofs.Ytklbgibhbnijaaa.anz
  rw [ans_fin a.a.s.2.1, ans_fin a.b.s.2.1]
/-- an entry over the pivot -/
theorem fx_quot {z p : Cw} (hz : FX 1074 1083 z) (hp : FX 1074 1083 p) (h0 : ¬ wt p = 0) :
    ∃ r : Cw, divZ (anz z) (anz p) = anz r ∧ toW (divZ (anz z) (anz p)) = r ∧ FX 938 1097 r := by
  obtain ⟨r, r', e1, _, e3⟩ := GZ.div hz.gz hp (fun e => h0 (wt_z e.1 e.2)) (by decide) (by decide) (by decide) (by decide) (by decide) (by decide) (by decide) (by decide) (by decide) (by decide) (by decide) (by decide) (by decide)
  refine ⟨r, ?_, ?_, (e3.fx).weak (by decide) (by decide)⟩
  · rw [e1, e3.fx.anz]
  · rw [e1]; rfl
/-- an entry less the quotient times the pivot's row -/
theorem fx_less {a l p : Cw} (ha : FX 1074 1083 a) (hl : FX 938 1097 l) (hp : FX 1074 1083 p) :
    ∃ r : Cw, subZ (anz a) (mulZ (anz l) (anz p)) = anz r ∧ toW (subZ (anz a) (mulZ (anz l) (anz p))) = r ∧ FX 938 1108 r := by
  obtain ⟨m, m', e1, _, e3⟩ := GZ.mul hp.gz hl (by decide) (by decide) (by decide) (by decide)
  have e3' := e3.weak (g' := 938) (B' := 1107) (by decide) (by decide)
  have hm : mulZ (anz l) (anz p) = anz m := by rw [e1, e3.fx.anz]
  obtain ⟨r, r', f1, _, f3⟩ := GZ.sub (ha.weak (h' := 938) (C' := 1107) (by decide) (by decide)).gz e3'.fx.gz (by decide) (by decide)
  refine ⟨r, ?_, ?_, f3.fx⟩
  · rw [hm, f1, f3.fx.anz]
  · rw [hm, f1]; rfl
/-- two rows: what stands there behind both columns -/
theorem elm_two {M : Nat → Nat → Cw} (h : (elm 2 M 2).1.1 = 0) :
    ∃ q, q < 2 ∧ ¬ wt (M q 0) = 0 ∧ ∀ i j, i < 2 → (elm 2 M 2).2.M i j = redM (swM M 0 q) 0 i j := by
  have h1 : (elm 2 M 1).1.1 = 0 := by
    by_cases e : (elm 2 M 1).1.1 = 0
    · exact e
    · rw [elm_stay e 2 (by omega)] at h; exact absurd h e
  have h2 := elm_succ (k := 1) h1
  have h3 := elm_succ (n := 2) (k := 0) (M0 := M) rfl
  rw [h2] at h
  have k1 := stp_o (show (stp 2 1 (elm 2 M 1).2).1 = 0 from h)
  rw [h3] at h1
  have k0 := stp_o (show (stp 2 0 (elm 2 M 0).2).1 = 0 from h1)
  have q0 := pvt_lt k0.1
  have q1 := pvt_lt k1.1
  have z1 : (pvt 2 (elm 2 M 1).2.M 1).1 = 0 := by omega
  have m1 : (elm 2 M 1).2.M = redM (swM M 0 (0 + (pvt 2 M 0).1)) 0 := by
    rw [h3]
    show (stp 2 0 (elm 2 M 0).2).2.M = _
    rw [k0.2.2]
    rfl
  refine ⟨0 + (pvt 2 M 0).1, q0, ?_, fun i j hi => ?_⟩
  · have hk := fstG_at (fun i => wt (M (0 + i) 0)) (2 - 0)
    have hp := k0.1
    rcases hk with ⟨e, _⟩ | ⟨a, _, c, _⟩
    · exact absurd e hp
    · intro e
      have c' : wt (M (0 + (pvt 2 M 0).1) 0) = (pvt 2 M 0).2 := c
      rw [e] at c'
      exact hp c'.symm
  · rw [show elm 2 M 2 = _ from h2]
    show (stp 2 1 (elm 2 M 1).2).2.M i j = _
    rw [k1.2.2]
    show redM (swM (elm 2 M 1).2.M 1 (1 + (pvt 2 (elm 2 M 1).2.M 1).1)) 1 i j = _
    rw [z1, show 1 + 0 = 1 from rfl, swM_self, m1]
    exact if_pos (show i ≤ 1 by omega)
/-- the sizes of what stands there -/
structure E2 (M : Nat → Nat → Cw) : Prop where
  a : FX 1074 1083 (M 0 0)
  b : FX 1074 1083 (M 0 1)
  c : FX 938 1097 (M 1 0)
  d : FX 938 1108 (M 1 1)
theorem elm_two_fx {M : Nat → Nat → Cw} (hM : ∀ i j, i < 2 → j < 2 → FX 1074 1083 (M i j)) (h : (elm 2 M 2).1.1 = 0) : E2 (elm 2 M 2).2.M := by
  obtain ⟨q, hq, hw, hm⟩ := elm_two h
  have hs : ∀ i j, i < 2 → j < 2 → FX 1074 1083 (swM M 0 q i j) := by
    intro i j hi hj
    unfold swM
    split
    · exact hM q j hq hj
    · split
      · exact hM 0 j (by omega) hj
      · exact hM i j hi hj
  have h0 : ¬ wt (swM M 0 q 0 0) = 0 := hw
  obtain ⟨l, l1, l2, l3⟩ := fx_quot (hs 1 0 (by omega) (by omega)) (hs 0 0 (by omega) (by omega)) h0
  obtain ⟨u, u1, u2, u3⟩ := fx_less (hs 1 1 (by omega) (by omega)) l3 (hs 0 1 (by omega) (by omega))
  refine ⟨?_, ?_, ?_, ?_⟩
  · rw [hm 0 0 (by omega)]; exact hs 0 0 (by omega) (by omega)
  · rw [hm 0 1 (by omega)]; exact hs 0 1 (by omega) (by omega)
  · rw [hm 1 0 (by omega)]
    have : redM (swM M 0 q) 0 1 0 = l := by
      unfold redM
      rw [if_neg (by omega), redZ_eq, l2]
    rw [this]; exact l3
  · rw [hm 1 1 (by omega)]
    have : redM (swM M 0 q) 0 1 1 = u := by
      unfold redM
      rw [if_neg (by omega), redZ_gt (by omega), l1, u2]
    rw [this]; exact u3

end Go.Proofs.Ytklbgibhbnijaaa
