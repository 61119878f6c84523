/-
  The same through products, differences and quotients of numbers.
-/
import Derived.Test.YtklbgibhbnijaaaTw8
import Derived.Test.YtklbgibhbnijaaaLma
namespace Go.Proofs.Ytklbgibhbnijaaa
open Fl RowKit

structure GZ (k g B : Nat) (z z' : Cw) : Prop where
  a : Gz k g B z.1 z'.1
  b : Gz k g B z.2 z'.2
structure FX (h C : Nat) (z : Cw) : Prop where
  a : Fx h C z.1
  b : Fx h C z.2
theorem GZ.weak {k g B g' B' : Nat} {z z' : Cw} (h : GZ k g B z z') (hg : g' ≤ g) (hB : B ≤ B') : GZ k g' B' z z' := ⟨h.a.weak hg hB, h.b.weak hg hB⟩
theorem GZ.fx {k g B : Nat} {z z' : Cw} (h : GZ k g B z z') : FX g B z := ⟨h.a.fx, h.b.fx⟩
theorem FX.gz {h C : Nat} {z : Cw} (a : FX h C z) : GZ 128 h C z z := ⟨a.a.gz, a.b.gz⟩
theorem FX.weak {h C h' C' : Nat} {z : Cw} (a : FX h C z) (hg : h' ≤ h) (hB : C ≤ C') : FX h' C' z := (a.gz.weak hg hB).fx
theorem mulA_some (x y : Nat) : mulA (some x) (some y) = mulO x y := rfl
theorem addA_some (x y : Nat) : addA (some x) (some y) = addO x y := rfl
theorem subA_some (x y : Nat) : subA (some x) (some y) = subO x y := rfl
theorem divA_some (x y : Nat) : divA (some x) (some y) = divO x y := rfl
theorem GZ.mul {k g B h C : Nat} {z z' y : Cw} (hz : GZ k g B z z') (hy : FX h C y) (hk : k ≤ 255) (h1 : 1254 ≤ g + h) (h2 : B + C ≤ 2900) (h3 : 1074 ≤ B + C) :
    ∃ r r' : Cw, mulZ (anz y) (anz z) = (some r.1, some r.2) ∧ mulZ (anz y) (anz z') = (some r'.1, some r'.2) ∧ GZ k (g + h - 1074) (B + C - 1073) r r' := by
  obtain ⟨a, a', e1, e2, e3⟩ := gz_mul hz.a hy.a hk h1 h2 h3
  obtain ⟨b, b', f1, f2, f3⟩ := gz_mul hz.b hy.b hk h1 h2 h3
  obtain ⟨c, c', g1, g2, g3⟩ := gz_mul hz.b hy.a hk h1 h2 h3
  obtain ⟨d, d', i1, i2, i3⟩ := gz_mul hz.a hy.b hk h1 h2 h3
  obtain ⟨p, p', j1, j2, j3⟩ := gz_sub e3 f3 hk (by omega)
  obtain ⟨q, q', l1, l2, l3⟩ := gz_add g3 i3 hk (by omega)
  rw [show B + C - 1074 + 1 = B + C - 1073 by omega] at j3 l3
  have hc : ∀ x y : Nat, mulA (some x) (some y) = mulO y x := fun x y => by rw [mulA_comm]; rfl
  refine ⟨(p, q), (p', q'), ?_, ?_, j3, l3⟩
  · unfold mulZ anz
    simp only
    rw [ans_fin hy.a.f, ans_fin hy.b.f, ans_fin hz.a.s.1, ans_fin hz.b.s.1]
    unfold mulRe mulIm
    rw [hc, hc, hc, hc, e1, f1, g1, i1, subA_some, addA_some, j1, l1]
  · unfold mulZ anz
    simp only
    rw [ans_fin hy.a.f, ans_fin hy.b.f, ans_fin hz.a.s.2.1, ans_fin hz.b.s.2.1]
    unfold mulRe mulIm
    rw [hc, hc, hc, hc, e2, f2, g2, i2, subA_some, addA_some, j2, l2]
theorem GZ.sub {k g B : Nat} {z z' y y' : Cw} (hz : GZ k g B z z') (hy : GZ k g B y y') (hk : k ≤ 255) (hB : B ≤ 1900) :
    ∃ r r' : Cw, subZ (anz z) (anz y) = (some r.1, some r.2) ∧ subZ (anz z') (anz y') = (some r'.1, some r'.2) ∧ GZ k g (B + 1) r r' := by
  obtain ⟨p, p', j1, j2, j3⟩ := gz_sub hz.a hy.a hk hB
  obtain ⟨q, q', l1, l2, l3⟩ := gz_sub hz.b hy.b hk hB
  refine ⟨(p, q), (p', q'), ?_, ?_, j3, l3⟩
  · unfold subZ anz
    simp only
    rw [ans_fin hz.a.s.1, ans_fin hz.b.s.1, ans_fin hy.a.s.1, ans_fin hy.b.s.1, subA_some, subA_some, j1, l1]
  · unfold subZ anz
    simp only
    rw [ans_fin hz.a.s.2.1, ans_fin hz.b.s.2.1, ans_fin hy.a.s.2.1, ans_fin hy.b.s.2.1, subA_some, subA_some, j2, l2]
theorem b_1900 {B t : Nat} (ht : t = 1075) (h : B ≤ 1800) : B + t - 1074 ≤ 1900 := by omega
theorem GZ.div {k g B h C : Nat} {z z' y : Cw} (hz : GZ k g B z z') (hy : FX h C y) (h0 : ¬ (mg y.1 = 0 ∧ mg y.2 = 0)) (hk : k ≤ 255)
    (c1 : 180 ≤ h) (c2 : C ≤ h + 770) (c3 : h ≤ 1074) (c4 : 1021 ≤ C) (c5 : 1254 ≤ h + (1021 + h - C)) (c6 : C ≤ 1500)
    (c7 : 1254 ≤ g + (1021 + h - C)) (c8 : B ≤ 1800) (c9 : g + (1021 + h - C) - 1074 ≤ g) (c10 : 180 ≤ g + (1021 + h - C) - 1074) (c11 : C + 2 ≤ g + (1021 + h - C) - 1074 + 890) (c12 : B + 2 ≤ h + 770) :
    ∃ r r' : Cw, divZ (anz z) (anz y) = (some r.1, some r.2) ∧ divZ (anz z') (anz y) = (some r'.1, some r'.2) ∧ GZ k (1021 + (g + (1021 + h - C) - 1074) - (C + 2)) (1076 + (B + 2) - h) r r' := by
  have c0 : 52 ≤ h := by omega
  have hT : T75 = 1075 := rfl
  have c13 : B + T75 - 1074 ≤ 1900 := b_1900 hT c8
  have nc : nan y.1 = false := fin_not_nan hy.a.f
  have nd : nan y.2 = false := fin_not_nan hy.b.f
  have a1 := ans_fin hy.a.f
  have a2 := ans_fin hy.b.f
  have b1 := ans_fin hz.a.s.1
  have b2 := ans_fin hz.b.s.1
  have b1' := ans_fin hz.a.s.2.1
  have b2' := ans_fin hz.b.s.2.1
  have wp := hz.a.weak (g' := g + (1021 + h - C) - 1074) (B' := B + T75 - 1074) c9 (by omega)
  have wq := hz.b.weak (g' := g + (1021 + h - C) - 1074) (B' := B + T75 - 1074) c9 (by omega)
  unfold divZ divRe divIm anz
  simp only
  rw [a1, a2, b1, b2, b1', b2']
  cases hg : geA (sizA (some y.1)) (sizA (some y.2))
  · have hlt := geA_yes (C := some y.1) (D := some y.2) rfl rfl nc nd hg
    obtain ⟨r, r1, r2, r3⟩ := fx_ratio hy.a hy.b (by omega) (by omega) c1 c2 c3 c4
    obtain ⟨m, t, t1, t2, t3, t4, t5, _⟩ := fx_denom hy.b hy.a (by omega) r2 r3 c5 c3 c6 c4
    obtain ⟨u, u', u1, u2, u3⟩ := gz_mul hz.a r2 hk c7 (by omega) (by omega)
    obtain ⟨v, v', v1, v2, v3⟩ := gz_mul hz.b r2 hk c7 (by omega) (by omega)
    obtain ⟨p, p', p1, p2, p3⟩ := gz_add u3 wq hk c13
    obtain ⟨q, q', q1, q2, q3⟩ := gz_sub v3 wp hk c13
    have hB : B + T75 - 1074 + 1 = B + 2 := by omega
    rw [hB] at p3 q3
    obtain ⟨s, s', s1, s2, s3, _⟩ := gz_div p3 t3 t4 t5 hk c10 c0 c11 c12
    obtain ⟨w, w', w1, w2, w3, _⟩ := gz_div q3 t3 t4 t5 hk c10 c0 c11 c12
    have ht : addA (some m) (some y.2) = some t := by rw [addA_comm]; exact t2
    simp only [Bool.false_eq_true, if_false]
    unfold divRe2 divIm2
    rw [divA_some, r1, mulA_some, mulA_some, mulA_some, mulA_some, mulA_some, t1, u1, v1, u2, v2, ht, addA_some, subA_some, addA_some, subA_some, p1, q1, p2, q2, divA_some, divA_some, divA_some, divA_some, s1, w1, s2, w2]
    exact ⟨(s, w), (s', w'), rfl, rfl, s3, w3⟩
  · have hle := geA_no (C := some y.1) (D := some y.2) rfl rfl nc nd hg
    have hc0 : ¬ mg y.1 = 0 := fun e => h0 ⟨e, by omega⟩
    obtain ⟨r, r1, r2, r3⟩ := fx_ratio hy.b hy.a hc0 hle c1 c2 c3 c4
    obtain ⟨m, t, t1, t2, t3, t4, t5, _⟩ := fx_denom hy.a hy.b hc0 r2 r3 c5 c3 c6 c4
    obtain ⟨u, u', u1, u2, u3⟩ := gz_mul hz.a r2 hk c7 (by omega) (by omega)
    obtain ⟨v, v', v1, v2, v3⟩ := gz_mul hz.b r2 hk c7 (by omega) (by omega)
    obtain ⟨p, p', p1, p2, p3⟩ := gz_add wp v3 hk c13
    obtain ⟨q, q', q1, q2, q3⟩ := gz_sub wq u3 hk c13
    have hB : B + T75 - 1074 + 1 = B + 2 := by omega
    rw [hB] at p3 q3
    obtain ⟨s, s', s1, s2, s3, _⟩ := gz_div p3 t3 t4 t5 hk c10 c0 c11 c12
    obtain ⟨w, w', w1, w2, w3, _⟩ := gz_div q3 t3 t4 t5 hk c10 c0 c11 c12
    have ht : addA (some y.1) (some m) = some t := t2
    simp only [if_true]
    unfold divRe1 divIm1
    rw [divA_some, r1, mulA_some, mulA_some, mulA_some, mulA_some, mulA_some, t1, u1, v1, u2, v2, ht, addA_some, subA_some, addA_some, subA_some, p1, q1, p2, q2, divA_some, divA_some, divA_some, divA_some, s1, w1, s2, w2]
    exact ⟨(s, w), (s', w'), rfl, rfl, s3, w3⟩

end Go.Proofs.Ytklbgibhbnijaaa
