/-
  SolveScales' numbers: the unknowns of a right side times a power of two.
-/
import Derived.Test.YtklbgibhbnijaaaTxa
namespace Go.Proofs.Ytklbgibhbnijaaa
open Fl RowKit

theorem FX.finN {h C : Nat} {z : Cw} (a : FX h C z) : Go.Proofs.Ytklbgibhbnijaaa.finN (Go.Proofs.Ytklbgibhbnijaaa.anz z) = true := by
  rw [a.anz]
  unfold Go.Proofs.Ytklbgibhbnijaaa.finN finO finB
  rw [Bool.and_eq_true]
  exact ⟨decide_eq_true a.a.f, decide_eq_true a.b.f⟩
theorem GZ.finN' {k g B : Nat} {z z' : Cw} (a : GZ k g B z z') : finN (anz z') = true := by
  rw [a.anz']
  unfold Go.Proofs.Ytklbgibhbnijaaa.finN finO finB
  rw [Bool.and_eq_true]
  exact ⟨decide_eq_true a.a.s.2.1, decide_eq_true a.b.s.2.1⟩
/-- the two steps, said of words -/
theorem gz_quot {k g B h C : Nat} {z z' y : Cw} (hz : GZ k g B z z') (hy : FX h C y) (h0 : ¬ wt y = 0) (hk : k ≤ 255)
    (c1 : 180 ≤ h) (c2 : C ≤ h + 770) (c3 : h ≤ 1074) (c4 : 1021 ≤ C) (c5 : 1254 ≤ h + (1021 + h - C)) (c6 : C ≤ 1500)
    (c7 : 1254 ≤ g + (1021 + h - C)) (c8 : B ≤ 1800) (c9 : g + (1021 + h - C) - 1074 ≤ g) (c10 : 180 ≤ g + (1021 + h - C) - 1074) (c11 : C + 2 ≤ g + (1021 + h - C) - 1074 + 890) (c12 : B + 2 ≤ h + 770) :
    ∃ r r' : Cw, divZ (anz z) (anz y) = anz r ∧ divZ (anz z') (anz y) = anz r' ∧ GZ k (1021 + (g + (1021 + h - C) - 1074) - (C + 2)) (1076 + (B + 2) - h) r r' := by
  obtain ⟨r, r', e1, e2, e3⟩ := GZ.div hz hy (fun e => h0 (wt_z e.1 e.2)) hk c1 c2 c3 c4 c5 c6 c7 c8 c9 c10 c11 c12
  exact ⟨r, r', by rw [e1, e3.fx.anz], by rw [e2, e3.anz'], e3⟩
theorem gz_less {k g B h C G T : Nat} {a a' z z' y : Cw} (ha : GZ k G T a a') (hz : GZ k g B z z') (hy : FX h C y) (hk : k ≤ 255) (h1 : 1254 ≤ g + h) (h2 : B + C ≤ 2900) (h3 : 1074 ≤ B + C) (h4 : g + h - 1074 ≤ G) (h5 : T ≤ B + C - 1073) (h6 : B + C - 1073 ≤ 1900) :
    ∃ r r' : Cw, subZ (anz a) (mulZ (anz y) (anz z)) = anz r ∧ subZ (anz a') (mulZ (anz y) (anz z')) = anz r' ∧ GZ k (g + h - 1074) (B + C - 1073 + 1) r r' := by
  obtain ⟨m, m', e1, e2, e3⟩ := GZ.mul hz hy hk h1 h2 h3
  obtain ⟨r, r', f1, f2, f3⟩ := GZ.sub (ha.weak h4 h5) e3 hk h6
  exact ⟨r, r', by rw [e1, ← e3.fx.anz, f1, f3.fx.anz], by rw [e2, ← e3.anz', f2, f3.anz'], f3⟩
/-- two rows -/
theorem sol_two {k : Nat} {M : Nat → Nat → Cw} {c c' : Nat → Cw} (hM : E2 M) (w0 : ¬ wt (M 0 0) = 0) (w1 : ¬ wt (M 1 1) = 0) (hk : k ≤ 255) (hc : ∀ i, i < 2 → GZ k 1074 1083 (c i) (c' i)) :
    ∃ x x' : Nat → Cw, (∀ i, i < 2 → slS 2 (mzL M) (mzU M) (fun j => anz (c j)) i = anz (x i) ∧ slS 2 (mzL M) (mzU M) (fun j => anz (c' j)) i = anz (x' i) ∧ GZ k 500 1263 (x i) (x' i))
      ∧ okS 2 (mzL M) (mzU M) (fun j => anz (c j)) = true ∧ okS 2 (mzL M) (mzU M) (fun j => anz (c' j)) = true := by
  have c0 := hc 0 (by omega)
  obtain ⟨y, y', y1, y2, y3⟩ := gz_less (hc 1 (by omega)) c0 hM.c hk (by decide) (by decide) (by decide) (by decide) (by decide) (by decide)
  have y3' := y3.weak (g' := 938) (B' := 1108) (by decide) (by decide)
  obtain ⟨p, p', p1, p2, p3⟩ := gz_quot y3' hM.d w1 hk (by decide) (by decide) (by decide) (by decide) (by decide) (by decide) (by decide) (by decide) (by decide) (by decide) (by decide) (by decide)
  have p3' := p3.weak (g' := 626) (B' := 1248) (by decide) (by decide)
  obtain ⟨s, s', s1, s2, s3⟩ := gz_less c0 p3' hM.b hk (by decide) (by decide) (by decide) (by decide) (by decide) (by decide)
  have s3' := s3.weak (g' := 626) (B' := 1259) (by decide) (by decide)
  obtain ⟨q, q', q1, q2, q3⟩ := gz_quot s3' hM.a w0 hk (by decide) (by decide) (by decide) (by decide) (by decide) (by decide) (by decide) (by decide) (by decide) (by decide) (by decide) (by decide)
  have q3' := q3.weak (g' := 500) (B' := 1263) (by decide) (by decide)
  have p4 := p3'.weak (g' := 500) (B' := 1263) (by decide) (by decide)
  have gen : ∀ (d : Nat → Cw) (Y P S Q : Cw), subZ (anz (d 1)) (mulZ (anz (M 1 0)) (anz (d 0))) = anz Y → divZ (anz Y) (anz (M 1 1)) = anz P → subZ (anz (d 0)) (mulZ (anz (M 0 1)) (anz P)) = anz S → divZ (anz S) (anz (M 0 0)) = anz Q →
      frw 2 (mzL M) (fun j => anz (d j)) 0 = anz (d 0) ∧ frw 2 (mzL M) (fun j => anz (d j)) 1 = anz Y ∧ slS 2 (mzL M) (mzU M) (fun j => anz (d j)) 0 = anz Q ∧ slS 2 (mzL M) (mzU M) (fun j => anz (d j)) 1 = anz P := by
    intro d Y P S Q h1 h2 h3 h4
    have f0 : frw 2 (mzL M) (fun j => anz (d j)) 0 = anz (d 0) := rfl
    have f1 : frw 2 (mzL M) (fun j => anz (d j)) 1 = anz Y := h1
    have g1 : bwS 2 (mzU M) divZ (frw 2 (mzL M) (fun j => anz (d j))) 1 1 = anz P := by
      show divZ (frw 2 (mzL M) (fun j => anz (d j)) 1) (anz (M 1 1)) = _
      rw [f1, h2]
    refine ⟨f0, f1, ?_, g1⟩
    show divZ (subZ (frw 2 (mzL M) (fun j => anz (d j)) 0) (mulZ (anz (M 0 1)) (bwS 2 (mzU M) divZ (frw 2 (mzL M) (fun j => anz (d j))) 1 1))) (anz (M 0 0)) = _
    rw [f0, g1, h3, h4]
  obtain ⟨a0, a1, a2, a3⟩ := gen c y p s q y1 p1 s1 q1
  obtain ⟨b0, b1, b2, b3⟩ := gen c' y' p' s' q' y2 p2 s2 q2
  refine ⟨fun i => if i = 0 then q else p, fun i => if i = 0 then q' else p', fun i hi => ?_, ?_, ?_⟩
  · rcases (show i = 0 ∨ i = 1 by omega) with rfl | rfl
    · exact ⟨a2, b2, q3'⟩
    · exact ⟨a3, b3, p4⟩
  · unfold okS finS finS finS
    rw [a0, a1, a2, a3, c0.fx.finN, y3.fx.finN, q3.fx.finN, p3.fx.finN]; rfl
  · unfold okS finS finS finS
    rw [b0, b1, b2, b3, c0.finN', y3.finN', q3.finN', p3.finN']; rfl
/-- one row -/
theorem sol_one {k : Nat} {M : Nat → Nat → Cw} {c c' : Nat → Cw} (hM : FX 1074 1083 (M 0 0)) (w0 : ¬ wt (M 0 0) = 0) (hk : k ≤ 255) (hc : GZ k 1074 1083 (c 0) (c' 0)) :
    ∃ x x' : Nat → Cw, (∀ i, i < 1 → slS 1 (mzL M) (mzU M) (fun j => anz (c j)) i = anz (x i) ∧ slS 1 (mzL M) (mzU M) (fun j => anz (c' j)) i = anz (x' i) ∧ GZ k 500 1263 (x i) (x' i))
      ∧ okS 1 (mzL M) (mzU M) (fun j => anz (c j)) = true ∧ okS 1 (mzL M) (mzU M) (fun j => anz (c' j)) = true := by
  obtain ⟨q, q', q1, q2, q3⟩ := gz_quot hc hM w0 hk (by decide) (by decide) (by decide) (by decide) (by decide) (by decide) (by decide) (by decide) (by decide) (by decide) (by decide) (by decide)
  have q3' := q3.weak (g' := 500) (B' := 1263) (by decide) (by decide)
  have a0 : frw 1 (mzL M) (fun j => anz (c j)) 0 = anz (c 0) := rfl
  have b0 : frw 1 (mzL M) (fun j => anz (c' j)) 0 = anz (c' 0) := rfl
  have a2 : slS 1 (mzL M) (mzU M) (fun j => anz (c j)) 0 = anz q := q1
  have b2 : slS 1 (mzL M) (mzU M) (fun j => anz (c' j)) 0 = anz q' := q2
  refine ⟨fun _ => q, fun _ => q', fun i hi => ?_, ?_, ?_⟩
  · rcases (show i = 0 by omega) with rfl
    exact ⟨a2, b2, q3'⟩
  · unfold okS finS finS
    rw [a0, a2, hc.fx.finN, q3.fx.finN]; rfl
  · unfold okS finS finS
    rw [b0, b2, hc.finN', q3.finN']; rfl

end Go.Proofs.Ytklbgibhbnijaaa
