/-
  Several texts in one: Txa Txb Txc Txd Txe Txf Txg.
-/
import Derived.Test.YtklbgibhbnijaaaBne
import Derived.Test.YtklbgibhbnijaaaSlv
import Derived.Test.YtklbgibhbnijaaaSlg
import Derived.Test.YtklbgibhbnijaaaSlm
import Derived.Test.YtklbgibhbnijaaaLkb
import Derived.Deep.AppendLies
import Derived.Deep.RegionHeldLaw
namespace Go.Proofs.Ytklbgibhbnijaaa
open Fl RowKit

theorem FX.anz {h C : Nat} {z : Cw} (a : FX h C z) : anz z = (some z.1, some z.2) := by
  unfold Go.Proofs.Ytklbgibhbnijaaa.anz
  rw [ans_fin a.a.f, ans_fin a.b.f]
theorem GZ.anz' {k g B : Nat} {z z' : Cw} (a : GZ k g B z z') : anz z' = (some z'.1, some z'.2) := by
  unfold Go.Proofs.Ytklbgibhbnijaaa.anz
  rw [ans_fin a.a.s.2.1, ans_fin a.b.s.2.1]
/-- an entry over the pivot -/
theorem fx_quot {z p : Cw} (hz : FX 1074 1083 z) (hp : FX 1074 1083 p) (h0 : ¬ wt p = 0) :
    ∃ r : Cw, divZ (anz z) (anz p) = anz r ∧ toW (divZ (anz z) (anz p)) = r ∧ FX 938 1097 r := by
  obtain ⟨r, r', e1, _, e3⟩ := GZ.div hz.gz hp (fun e => h0 (wt_z e.1 e.2)) (by decide) (by decide) (by decide) (by decide) (by decide) (by decide) (by decide) (by decide) (by decide) (by decide) (by decide) (by decide) (by decide)
  refine ⟨r, ?_, ?_, (e3.fx).weak (by decide) (by decide)⟩
  · rw [e1, e3.fx.anz]
  · rw [e1]; rfl
/-- an entry less the quotient times the pivot's row -/
theorem fx_less {a l p : Cw} (ha : FX 1074 1083 a) (hl : FX 938 1097 l) (hp : FX 1074 1083 p) :
    ∃ r : Cw, subZ (anz a) (mulZ (anz l) (anz p)) = anz r ∧ toW (subZ (anz a) (mulZ (anz l) (anz p))) = r ∧ FX 938 1108 r := by
  obtain ⟨m, m', e1, _, e3⟩ := GZ.mul hp.gz hl (by decide) (by decide) (by decide) (by decide)
  have e3' := e3.weak (g' := 938) (B' := 1107) (by decide) (by decide)
  have hm : mulZ (anz l) (anz p) = anz m := by rw [e1, e3.fx.anz]
  obtain ⟨r, r', f1, _, f3⟩ := GZ.sub (ha.weak (h' := 938) (C' := 1107) (by decide) (by decide)).gz e3'.fx.gz (by decide) (by decide)
  refine ⟨r, ?_, ?_, f3.fx⟩
  · rw [hm, f1, f3.fx.anz]
  · rw [hm, f1]; rfl
/-- two rows: what stands there behind both columns -/
theorem elm_two {M : Nat → Nat → Cw} (h : (elm 2 M 2).1.1 = 0) :
    ∃ q, q < 2 ∧ ¬ wt (M q 0) = 0 ∧ ∀ i j, i < 2 → (elm 2 M 2).2.M i j = redM (swM M 0 q) 0 i j := by
  have h1 : (elm 2 M 1).1.1 = 0 := by
    by_cases e : (elm 2 M 1).1.1 = 0
    · exact e
    · rw [elm_stay e 2 (by omega)] at h; exact absurd h e
  have h2 := elm_succ (k := 1) h1
  have h3 := elm_succ (n := 2) (k := 0) (M0 := M) rfl
  rw [h2] at h
  have k1 := stp_o (show (stp 2 1 (elm 2 M 1).2).1 = 0 from h)
  rw [h3] at h1
  have k0 := stp_o (show (stp 2 0 (elm 2 M 0).2).1 = 0 from h1)
  have q0 := pvt_lt k0.1
  have q1 := pvt_lt k1.1
  have z1 : (pvt 2 (elm 2 M 1).2.M 1).1 = 0 := by omega
  have m1 : (elm 2 M 1).2.M = redM (swM M 0 (0 + (pvt 2 M 0).1)) 0 := by
    rw [h3]
    show (stp 2 0 (elm 2 M 0).2).2.M = _
    rw [k0.2.2]
    rfl
  refine ⟨0 + (pvt 2 M 0).1, q0, ?_, fun i j hi => ?_⟩
  · have hk := fstG_at (fun i => wt (M (0 + i) 0)) (2 - 0)
    have hp := k0.1
    rcases hk with ⟨e, _⟩ | ⟨a, _, c, _⟩
    · exact absurd e hp
    · intro e
      have c' : wt (M (0 + (pvt 2 M 0).1) 0) = (pvt 2 M 0).2 := c
      rw [e] at c'
      exact hp c'.symm
  · rw [show elm 2 M 2 = _ from h2]
    show (stp 2 1 (elm 2 M 1).2).2.M i j = _
    rw [k1.2.2]
    show redM (swM (elm 2 M 1).2.M 1 (1 + (pvt 2 (elm 2 M 1).2.M 1).1)) 1 i j = _
    rw [z1, show 1 + 0 = 1 from rfl, swM_self, m1]
    exact if_pos (show i ≤ 1 by omega)
/-- the sizes of what stands there -/
structure E2 (M : Nat → Nat → Cw) : Prop where
  a : FX 1074 1083 (M 0 0)
  b : FX 1074 1083 (M 0 1)
  c : FX 938 1097 (M 1 0)
  d : FX 938 1108 (M 1 1)
theorem elm_two_fx {M : Nat → Nat → Cw} (hM : ∀ i j, i < 2 → j < 2 → FX 1074 1083 (M i j)) (h : (elm 2 M 2).1.1 = 0) : E2 (elm 2 M 2).2.M := by
  obtain ⟨q, hq, hw, hm⟩ := elm_two h
  have hs : ∀ i j, i < 2 → j < 2 → FX 1074 1083 (swM M 0 q i j) := by
    intro i j hi hj
    unfold swM
    split
    · exact hM q j hq hj
    · split
      · exact hM 0 j (by omega) hj
      · exact hM i j hi hj
  have h0 : ¬ wt (swM M 0 q 0 0) = 0 := hw
  obtain ⟨l, l1, l2, l3⟩ := fx_quot (hs 1 0 (by omega) (by omega)) (hs 0 0 (by omega) (by omega)) h0
  obtain ⟨u, u1, u2, u3⟩ := fx_less (hs 1 1 (by omega) (by omega)) l3 (hs 0 1 (by omega) (by omega))
  refine ⟨?_, ?_, ?_, ?_⟩
  · rw [hm 0 0 (by omega)]; exact hs 0 0 (by omega) (by omega)
  · rw [hm 0 1 (by omega)]; exact hs 0 1 (by omega) (by omega)
  · rw [hm 1 0 (by omega)]
    have : redM (swM M 0 q) 0 1 0 = l := by
      unfold redM
      rw [if_neg (by omega), redZ_eq, l2]
    rw [this]; exact l3
  · rw [hm 1 1 (by omega)]
    have : redM (swM M 0 q) 0 1 1 = u := by
      unfold redM
      rw [if_neg (by omega), redZ_gt (by omega), l1, u2]
    rw [this]; exact u3

end Go.Proofs.Ytklbgibhbnijaaa

namespace Go.Proofs.Ytklbgibhbnijaaa
open Fl RowKit

theorem FX.finN {h C : Nat} {z : Cw} (a : FX h C z) : Go.Proofs.Ytklbgibhbnijaaa.finN (Go.Proofs.Ytklbgibhbnijaaa.anz z) = true := by
  rw [a.anz]
  unfold Go.Proofs.Ytklbgibhbnijaaa.finN finO finB
  rw [Bool.and_eq_true]
  exact ⟨decide_eq_true a.a.f, decide_eq_true a.b.f⟩
theorem GZ.finN' {k g B : Nat} {z z' : Cw} (a : GZ k g B z z') : finN (anz z') = true := by
  rw [a.anz']
  unfold Go.Proofs.Ytklbgibhbnijaaa.finN finO finB
  rw [Bool.and_eq_true]
  exact ⟨decide_eq_true a.a.s.2.1, decide_eq_true a.b.s.2.1⟩
/-- the two steps, said of words -/
theorem gz_quot {k g B h C : Nat} {z z' y : Cw} (hz : GZ k g B z z') (hy : FX h C y) (h0 : ¬ wt y = 0) (hk : k ≤ 255)
    (c1 : 180 ≤ h) (c2 : C ≤ h + 770) (c3 : h ≤ 1074) (c4 : 1021 ≤ C) (c5 : 1254 ≤ h + (1021 + h - C)) (c6 : C ≤ 1500)
    (c7 : 1254 ≤ g + (1021 + h - C)) (c8 : B ≤ 1800) (c9 : g + (1021 + h - C) - 1074 ≤ g) (c10 : 180 ≤ g + (1021 + h - C) - 1074) (c11 : C + 2 ≤ g + (1021 + h - C) - 1074 + 890) (c12 : B + 2 ≤ h + 770) :
    ∃ r r' : Cw, divZ (anz z) (anz y) = anz r ∧ divZ (anz z') (anz y) = anz r' ∧ GZ k (1021 + (g + (1021 + h - C) - 1074) - (C + 2)) (1076 + (B + 2) - h) r r' := by
  obtain ⟨r, r', e1, e2, e3⟩ := GZ.div hz hy (fun e => h0 (wt_z e.1 e.2)) hk c1 c2 c3 c4 c5 c6 c7 c8 c9 c10 c11 c12
  exact ⟨r, r', by rw [e1, e3.fx.anz], by rw [e2, e3.anz'], e3⟩
theorem gz_less {k g B h C G T : Nat} {a a' z z' y : Cw} (ha : GZ k G T a a') (hz : GZ k g B z z') (hy : FX h C y) (hk : k ≤ 255) (h1 : 1254 ≤ g + h) (h2 : B + C ≤ 2900) (h3 : 1074 ≤ B + C) (h4 : g + h - 1074 ≤ G) (h5 : T ≤ B + C - 1073) (h6 : B + C - 1073 ≤ 1900) :
    ∃ r r' : Cw, subZ (anz a) (mulZ (anz y) (anz z)) = anz r ∧ subZ (anz a') (mulZ (anz y) (anz z')) = anz r' ∧ GZ k (g + h - 1074) (B + C - 1073 + 1) r r' := by
  obtain ⟨m, m', e1, e2, e3⟩ := GZ.mul hz hy hk h1 h2 h3
  obtain ⟨r, r', f1, f2, f3⟩ := GZ.sub (ha.weak h4 h5) e3 hk h6
  exact ⟨r, r', by rw [e1, ← e3.fx.anz, f1, f3.fx.anz], by rw [e2, ← e3.anz', f2, f3.anz'], f3⟩
/-- two rows -/
theorem sol_two {k : Nat} {M : Nat → Nat → Cw} {c c' : Nat → Cw} (hM : E2 M) (w0 : ¬ wt (M 0 0) = 0) (w1 : ¬ wt (M 1 1) = 0) (hk : k ≤ 255) (hc : ∀ i, i < 2 → GZ k 1074 1083 (c i) (c' i)) :
    ∃ x x' : Nat → Cw, (∀ i, i < 2 → slS 2 (mzL M) (mzU M) (fun j => anz (c j)) i = anz (x i) ∧ slS 2 (mzL M) (mzU M) (fun j => anz (c' j)) i = anz (x' i) ∧ GZ k 500 1263 (x i) (x' i))
      ∧ okS 2 (mzL M) (mzU M) (fun j => anz (c j)) = true ∧ okS 2 (mzL M) (mzU M) (fun j => anz (c' j)) = true := by
  have c0 := hc 0 (by omega)
  obtain ⟨y, y', y1, y2, y3⟩ := gz_less (hc 1 (by omega)) c0 hM.c hk (by decide) (by decide) (by decide) (by decide) (by decide) (by decide)
  have y3' := y3.weak (g' := 938) (B' := 1108) (by decide) (by decide)
  obtain ⟨p, p', p1, p2, p3⟩ := gz_quot y3' hM.d w1 hk (by decide) (by decide) (by decide) (by decide) (by decide) (by decide) (by decide) (by decide) (by decide) (by decide) (by decide) (by decide)
  have p3' := p3.weak (g' := 626) (B' := 1248) (by decide) (by decide)
  obtain ⟨s, s', s1, s2, s3⟩ := gz_less c0 p3' hM.b hk (by decide) (by decide) (by decide) (by decide) (by decide) (by decide)
  have s3' := s3.weak (g' := 626) (B' := 1259) (by decide) (by decide)
  obtain ⟨q, q', q1, q2, q3⟩ := gz_quot s3' hM.a w0 hk (by decide) (by decide) (by decide) (by decide) (by decide) (by decide) (by decide) (by decide) (by decide) (by decide) (by decide) (by decide)
  have q3' := q3.weak (g' := 500) (B' := 1263) (by decide) (by decide)
  have p4 := p3'.weak (g' := 500) (B' := 1263) (by decide) (by decide)
  have gen : ∀ (d : Nat → Cw) (Y P S Q : Cw), subZ (anz (d 1)) (mulZ (anz (M 1 0)) (anz (d 0))) = anz Y → divZ (anz Y) (anz (M 1 1)) = anz P → subZ (anz (d 0)) (mulZ (anz (M 0 1)) (anz P)) = anz S → divZ (anz S) (anz (M 0 0)) = anz Q →
      frw 2 (mzL M) (fun j => anz (d j)) 0 = anz (d 0) ∧ frw 2 (mzL M) (fun j => anz (d j)) 1 = anz Y ∧ slS 2 (mzL M) (mzU M) (fun j => anz (d j)) 0 = anz Q ∧ slS 2 (mzL M) (mzU M) (fun j => anz (d j)) 1 = anz P := by
    intro d Y P S Q h1 h2 h3 h4
    have f0 : frw 2 (mzL M) (fun j => anz (d j)) 0 = anz (d 0) := rfl
    have f1 : frw 2 (mzL M) (fun j => anz (d j)) 1 = anz Y := h1
    have g1 : bwS 2 (mzU M) divZ (frw 2 (mzL M) (fun j => anz (d j))) 1 1 = anz P := by
      show divZ (frw 2 (mzL M) (fun j => anz (d j)) 1) (anz (M 1 1)) = _
      rw [f1, h2]
    refine ⟨f0, f1, ?_, g1⟩
    show divZ (subZ (frw 2 (mzL M) (fun j => anz (d j)) 0) (mulZ (anz (M 0 1)) (bwS 2 (mzU M) divZ (frw 2 (mzL M) (fun j => anz (d j))) 1 1))) (anz (M 0 0)) = _
    rw [f0, g1, h3, h4]
  obtain ⟨a0, a1, a2, a3⟩ := gen c y p s q y1 p1 s1 q1
  obtain ⟨b0, b1, b2, b3⟩ := gen c' y' p' s' q' y2 p2 s2 q2
  refine ⟨fun i => if i = 0 then q else p, fun i => if i = 0 then q' else p', fun i hi => ?_, ?_, ?_⟩
  · rcases (show i = 0 ∨ i = 1 by omega) with rfl | rfl
    · exact ⟨a2, b2, q3'⟩
    · exact ⟨a3, b3, p4⟩
  · unfold okS finS finS finS
    rw [a0, a1, a2, a3, c0.fx.finN, y3.fx.finN, q3.fx.finN, p3.fx.finN]; rfl
  · unfold okS finS finS finS
    rw [b0, b1, b2, b3, c0.finN', y3.finN', q3.finN', p3.finN']; rfl
/-- one row -/
theorem sol_one {k : Nat} {M : Nat → Nat → Cw} {c c' : Nat → Cw} (hM : FX 1074 1083 (M 0 0)) (w0 : ¬ wt (M 0 0) = 0) (hk : k ≤ 255) (hc : GZ k 1074 1083 (c 0) (c' 0)) :
    ∃ x x' : Nat → Cw, (∀ i, i < 1 → slS 1 (mzL M) (mzU M) (fun j => anz (c j)) i = anz (x i) ∧ slS 1 (mzL M) (mzU M) (fun j => anz (c' j)) i = anz (x' i) ∧ GZ k 500 1263 (x i) (x' i))
      ∧ okS 1 (mzL M) (mzU M) (fun j => anz (c j)) = true ∧ okS 1 (mzL M) (mzU M) (fun j => anz (c' j)) = true := by
  obtain ⟨q, q', q1, q2, q3⟩ := gz_quot hc hM w0 hk (by decide) (by decide) (by decide) (by decide) (by decide) (by decide) (by decide) (by decide) (by decide) (by decide) (by decide) (by decide)
  have q3' := q3.weak (g' := 500) (B' := 1263) (by decide) (by decide)
  have a0 : frw 1 (mzL M) (fun j => anz (c j)) 0 = anz (c 0) := rfl
  have b0 : frw 1 (mzL M) (fun j => anz (c' j)) 0 = anz (c' 0) := rfl
  have a2 : slS 1 (mzL M) (mzU M) (fun j => anz (c j)) 0 = anz q := q1
  have b2 : slS 1 (mzL M) (mzU M) (fun j => anz (c' j)) 0 = anz q' := q2
  refine ⟨fun _ => q, fun _ => q', fun i hi => ?_, ?_, ?_⟩
  · rcases (show i = 0 by omega) with rfl
    exact ⟨a2, b2, q3'⟩
  · unfold okS finS finS
    rw [a0, a2, hc.fx.finN, q3.fx.finN]; rfl
  · unfold okS finS finS
    rw [b0, b2, hc.finN', q3.finN']; rfl

end Go.Proofs.Ytklbgibhbnijaaa

namespace Go.Proofs.Ytklbgibhbnijaaa
open Fl RowKit

theorem ld_mid {m k : Nat} (h0 : 128 ≤ m / 4503599627370496) (h1 : m / 4503599627370496 ≤ 1900) (hk : 8 ≤ k) (hk2 : k ≤ 255) :
    ldM m ((k : Int) - 128) + 128 * 4503599627370496 = m + k * 4503599627370496 ∧ 1 ≤ ldM m ((k : Int) - 128) / 4503599627370496 ∧ ldM m ((k : Int) - 128) / 4503599627370496 ≤ 2046 := by
  have hb : ¬ m < 4503599627370496 := by omega
  have hX : nX m = ((m / 4503599627370496 : Nat) : Int) := by
    unfold nX
    rw [(nG_big hb).1, (nG_big hb).2]; simp
  unfold ldM
  rw [if_neg (by omega), hX, if_neg (by omega), if_pos (by omega), (nG_big hb).1]
  have : (((m / 4503599627370496 : Nat) : Int) + ((k : Int) - 128)).toNat = m / 4503599627370496 + k - 128 := by omega
  rw [this]
  omega
theorem sz_rng {m C : Nat} (hC : C ≤ 1800) (h0 : 2 ^ 180 ≤ sz m) (h1 : sz m ≤ 2 ^ C) : 128 ≤ m / 4503599627370496 ∧ m / 4503599627370496 ≤ 1900 := by
  constructor
  · by_cases h : 128 ≤ m / 4503599627370496
    · exact h
    · have := sz_le (show m ≤ (126 + 2) * 4503599627370496 by omega)
      rw [sz_top] at this
      have h2 := Nat.le_trans h0 this
      exact absurd h2 (by decide)
  · by_cases h : m / 4503599627370496 ≤ 1900
    · exact h
    · obtain ⟨d, hd⟩ : ∃ d : Nat, d = 1899 := ⟨_, rfl⟩
      have := sz_le (show (d + 2) * 4503599627370496 ≤ m by omega)
      rw [sz_top] at this
      have h2 := Nat.le_trans this h1
      have h3 : 2 ^ C ≤ 2 ^ (d + 1) := Nat.pow_le_pow_right (show 0 < 2 by decide) (show C ≤ d + 1 by omega)
      have := Nat.two_pow_pos C
      generalize 2 ^ C = t at *
      generalize 2 ^ (d + 1) = u at *
      omega
/-- a real that stays, and the same through Ldexp -/
theorem Fx.ld {h C x : Nat} (a : Fx h C x) (k : Nat) (hh : 180 ≤ h) (hC : C ≤ 1800) (hk : 8 ≤ k) (hk2 : k ≤ 255) :
    Gz k h C x (ldx x ((k : Int) - 128)) ∧ (mg x ≠ 0 → nX (mg x) + ((k : Int) - 128) ≤ 2046) := by
  by_cases h0 : mg x = 0
  · have e : ldx x ((k : Int) - 128) = x := by
      unfold ldx ldM
      rw [if_pos h0]
      conv => rhs; rw [ng_mg a.l, h0]
    rw [e]
    exact ⟨⟨⟨a.f, a.f, rfl, by rw [h0, sz_zero, Nat.zero_mul, Nat.zero_mul]⟩, a.d, a.u, a.l, a.l⟩, fun n => absurd h0 n⟩
  · have hl : 2 ^ 180 ≤ sz (mg x) := by
      rcases a.gz.low with e | e
      · exact absurd e h0
      · exact Nat.le_trans (Nat.pow_le_pow_right (by omega) hh) e
    obtain ⟨r0, r1⟩ := sz_rng hC hl a.u
    obtain ⟨e1, e2, e3⟩ := ld_mid r0 r1 hk hk2
    have hX : nX (mg x) = ((mg x / 4503599627370496 : Nat) : Int) := by
      have hb : ¬ mg x < 4503599627370496 := by omega
      unfold nX
      rw [(nG_big hb).1, (nG_big hb).2]; simp
    have hs : sz (ldM (mg x) ((k : Int) - 128)) * 2 ^ 128 = sz (mg x) * 2 ^ k := by
      rw [← sz_up 128 (by omega), e1, sz_up k (by omega)]
    have hw : ldM (mg x) ((k : Int) - 128) = ldM (mg x) ((k : Int) - 128) / 4503599627370496 * 4503599627370496 + ldM (mg x) ((k : Int) - 128) % 4503599627370496 := by omega
    have hq := fields_w (s := ng x) (f := ldM (mg x) ((k : Int) - 128) % 4503599627370496) (Nat.mod_lt _ (by omega)) e2 e3
    rw [← hw] at hq
    obtain ⟨q1, q2, q3⟩ := hq
    refine ⟨⟨⟨a.f, q1, q2, ?_⟩, a.d, a.u, a.l, word_lt64 _ (by omega)⟩, fun _ => by rw [hX]; omega⟩
    unfold ldx
    rw [q3]; exact hs
/-- there is but one -/
theorem Gz.uniq {k g B x y z : Nat} (h : Gz k g B x y) (h' : Gz k g B x z) : y = z := by
  have e1 : sz (mg y) = sz (mg z) := by
    have := h.s.2.2.2.trans h'.s.2.2.2.symm
    exact Nat.eq_of_mul_eq_mul_right (Nat.two_pow_pos 128) this
  rw [ng_mg h.l', ng_mg h'.l', h.s.2.2.1, h'.s.2.2.1, sz_inj e1]
theorem Gz.ld {k g B x x' : Nat} (h : Gz k g B x x') (hh : 180 ≤ g) (hC : B ≤ 1800) (hk : 8 ≤ k) (hk2 : k ≤ 255) : ldx x ((k : Int) - 128) = x' := (h.fx.ld k hh hC hk hk2).1.uniq h

end Go.Proofs.Ytklbgibhbnijaaa

namespace Go.Proofs.Ytklbgibhbnijaaa
open Fl RowKit

theorem elm_one {M : Nat → Nat → Cw} (h : (elm 1 M 1).1.1 = 0) : (elm 1 M 1).2.M 0 0 = M 0 0 := by
  have h3 := elm_succ (n := 1) (k := 0) (M0 := M) rfl
  rw [h3] at h
  have k0 := stp_o (show (stp 1 0 (elm 1 M 0).2).1 = 0 from h)
  have q0 := pvt_lt k0.1
  have z0 : (pvt 1 M 0).1 = 0 := by
    have : 0 + (pvt 1 M 0).1 < 1 := q0
    omega
  rw [show elm 1 M 1 = _ from h3]
  show (stp 1 0 (elm 1 M 0).2).2.M 0 0 = _
  rw [k0.2.2]
  show redM (swM M 0 (0 + (pvt 1 M 0).1)) 0 0 0 = _
  rw [z0, show 0 + 0 = 0 from rfl, swM_self]
  rfl
/-- every unknown of the shifted side is the unknown, shifted; all is finite -/
theorem sol_sc {n k : Nat} {M : Nat → Nat → Cw} {c c' : Nat → Cw} (hn : n ≤ 2) (hM : ∀ i j, i < n → j < n → FX 1074 1083 (M i j)) (h : (elm n M n).1.1 = 0) (hk : 8 ≤ k) (hk2 : k ≤ 255) (hc : ∀ i, i < n → GZ k 1074 1083 (c i) (c' i)) :
    ∃ x : Nat → Cw, (∀ i, i < n → slS n (mzL (elm n M n).2.M) (mzU (elm n M n).2.M) (fun j => anz (c j)) i = anz (x i) ∧ FX 500 1263 (x i)
        ∧ slS n (mzL (elm n M n).2.M) (mzU (elm n M n).2.M) (fun j => anz (c' j)) i = anz (ldx (x i).1 ((k : Int) - 128), ldx (x i).2 ((k : Int) - 128)))
      ∧ okS n (mzL (elm n M n).2.M) (mzU (elm n M n).2.M) (fun j => anz (c j)) = true ∧ okS n (mzL (elm n M n).2.M) (mzU (elm n M n).2.M) (fun j => anz (c' j)) = true := by
  have key : ∀ {x x' : Cw}, GZ k 500 1263 x x' → x' = (ldx x.1 ((k : Int) - 128), ldx x.2 ((k : Int) - 128)) := by
    intro x x' g
    rw [g.a.ld (by decide) (by decide) hk hk2, g.b.ld (by decide) (by decide) hk hk2]
  have hp := elm_piv n (Nat.le_refl _) h
  rcases (show n = 0 ∨ n = 1 ∨ n = 2 by omega) with rfl | rfl | rfl
  · exact ⟨fun _ => (0, 0), fun i hi => absurd hi (by omega), rfl, rfl⟩
  · obtain ⟨x, x', h1, h2, h3⟩ := sol_one (M := (elm 1 M 1).2.M) (c := c) (c' := c') (by rw [elm_one h]; exact hM 0 0 (by omega) (by omega)) (hp 0 (by omega)) hk2 (hc 0 (by omega))
    refine ⟨x, fun i hi => ?_, h2, h3⟩
    obtain ⟨a, b, g⟩ := h1 i hi
    exact ⟨a, g.fx, by rw [b, key g]⟩
  · obtain ⟨x, x', h1, h2, h3⟩ := sol_two (elm_two_fx hM h) (hp 0 (by omega)) (hp 1 (by omega)) hk2 hc
    refine ⟨x, fun i hi => ?_, h2, h3⟩
    obtain ⟨a, b, g⟩ := h1 i hi
    exact ⟨a, g.fx, by rw [b, key g]⟩
/-- a number that stays, and the same through Ldexp -/
theorem FX.ld {h C : Nat} {z : Cw} (a : FX h C z) (k : Nat) (hh : 180 ≤ h) (hC : C ≤ 1800) (hk : 8 ≤ k) (hk2 : k ≤ 255) : GZ k h C z (ldx z.1 ((k : Int) - 128), ldx z.2 ((k : Int) - 128)) := ⟨(a.a.ld k hh hC hk hk2).1, (a.b.ld k hh hC hk hk2).1⟩

end Go.Proofs.Ytklbgibhbnijaaa

namespace Go.Proofs.Ytklbgibhbnijaaa
open Fl RowKit

theorem fx_fw {p : Int} (h : p.natAbs ≤ 512) : Fx 1074 1083 (fw p) := by
  have e : sz (mg (fw p)) = p.natAbs * 2 ^ T74 := by
    have := congrArg Int.natAbs (fw_val (n := p) (by omega))
    rw [Int.natAbs_mul, Int.natAbs_natCast] at this
    unfold Fl.val at this
    rw [sgn_abs] at this
    exact this
  have hT : T74 = 1074 := rfl
  refine ⟨fw_fin (by omega), ?_, ?_, fw_lt _⟩
  · rw [e, ← hT]; exact Nat.dvd_mul_left _ _
  · rw [e, show 1083 = 9 + T74 from rfl, Nat.pow_add]
    exact Nat.mul_le_mul_right _ (by omega)
theorem FX_fw {p q : Int} (h : p.natAbs ≤ 512) (k : q.natAbs ≤ 512) : FX 1074 1083 (fw p, fw q) := ⟨fx_fw h, fx_fw k⟩

end Go.Proofs.Ytklbgibhbnijaaa

namespace Go.Proofs.Ytklbgibhbnijaaa
open Fl RowKit

/-- a whole number out of bits -/
def whI (x : Nat) : Int := ((x % 1001 : Nat) : Int) - 500
def whZ (z : Cw) : Cw := (fw (whI z.1), fw (whI z.2))
theorem whI_bd (x : Nat) : (whI x).natAbs ≤ 512 := by unfold whI; omega
theorem whZ_fx (z : Cw) : FX 1074 1083 (whZ z) := FX_fw (whI_bd _) (whI_bd _)
set_option maxRecDepth 20000 in
set_option maxHeartbeats 4000000 in
theorem whole10_any (ao : Option Addr) (cap n : Nat) (xs : List Cw) (w : World) (hn : xs.length = n) (hsz : n * 16 ≤ 140737488355328) (hc : Rz w ao xs) :
    Calls Try.prog 25 #[.slice ao n cap] w fun e w' => ∃ A c, e = .returned (.slice A n c) ∧ Rw w' w.heap.size (.slice A n c) n (ro n (fun k => whZ (zat xs k))) ∧ Below w.heap.size w w' := by
  obtain ⟨i0, hi, hz0, hz1, hz2⟩ := info_parts Try.infoC
  have HC := hid_o hc
  clear hc
  go_enter Try.func25, Try.ntmps25
  go_wp2
  go_loopw [3, 4] (fun v i wr => ∃ (k c : Nat) (A : Option Addr), k ≤ n ∧ i = .int .i64 k ∧ v = .slice A k c ∧ wr.ownsRow w.heap.size 52 1 (.slice A k c) k ((ro k (fun k => whZ (zat xs k))).map cx) ∧ Below w.heap.size w wr) (fun _ i _ => n - (intOf i).toNat)
  case atStart => exact ⟨0, 0, none, Nat.zero_le _, rfl, rfl, World.ownsRow_nil _ _ _ _, Below.refl _ _⟩
  case round =>
    obtain ⟨k, c, A, hk, rfl, rfl, hown, hbel⟩ := hrel
    have hS := hbel.size
    by_cases hlt : k < n
    · obtain ⟨b, off, rfl, hb, hc1, hc2⟩ := HC.out.below hbel k (by omega)
      obtain ⟨x, hxe⟩ : ∃ x, x = zat xs k := ⟨_, rfl⟩
      rw [← hxe] at hc1 hc2
      have HXE := hid_o hxe
      have HB := hid_o hbel
      clear hxe hbel
      have HE : Hid (whZ x = (floatOfInt .f64 ((x.1 : Int) % 1001 - 500), floatOfInt .f64 ((x.2 : Int) % 1001 - 500))) := by
        show _ = _
        unfold whZ whI fw
        rw [Int.natCast_emod, Int.natCast_emod]; rfl
      go_wp2_with (at_builtin; refine wpList_append_lies _ (by rfl) _ _ 24 (by rfl) w.heap.size 52 i0 (.complex .f64 0 0) 1 16 Try.underlying24 hi hz0 hz1 hz2 (by rfl) (by decide) (.slice A k c) k ((ro k (fun k => whZ (zat xs k))).map cx) (by rfl) (hown.alloc _) ⟨_, 0, none⟩ 1 1 [.complex .f64 (floatOfInt .f64 ((x.1 : Int) % 1001 - 500)) (floatOfInt .f64 ((x.2 : Int) % 1001 - 500))] (by rfl) (by rfl) (fun j u hj => by match j, hj with | 0, hj => (simp at hj; subst hj; simp [Addr.add])) (fun u hu => by simp at hu; subst hu; rfl) (by decide) (by unfold maxLen; omega) (by omega) (by simp; omega) _ rfl ?_; intro g cap1 w1 hown1 hgrow hat hlt1; (have R2 : Below w.heap.size w w1 := (HB.out.alloc hS _).grown hgrow (by simp; omega) (fun j hj => own_ge hown hj)))
      have R : w1.ownsRow w.heap.size 52 1 (.slice (some ⟨g, 0, none⟩) (k + 1) cap1) (k + 1) ((ro (k + 1) (fun k => whZ (zat xs k))).map cx) := by
        rw [ro_snoc]
        refine push_own ?_
        rw [← HXE.out, HE.out]
        exact hown1
      clear hown1 hgrow hat hown
      go_roundw
      case measure => simp [intOf]; omega
      case rel => exact ⟨k + 1, _, _, by omega, by go_num, rfl, R, R2⟩
    · have e : k = n := by omega
      subst e
      clear HC
      go_wp2
      go_ret
      exact ⟨A, c, rfl, ⟨ro_len _ _, hown⟩, hbel⟩

end Go.Proofs.Ytklbgibhbnijaaa

namespace Go.Proofs.Ytklbgibhbnijaaa
open Fl RowKit

theorem ppick_big (a : Int) (n : Nat) (hn : 0 < n) (hb : n ≤ 201) : ∃ j : Nat, j < n ∧ ∀ w, Calls Try.prog 13 #[.int .i64 a, .int .i64 n] w fun e w' => e = .returned (.int .i64 (j : Int)) ∧ w' = w := by
  have h1 := Int.natAbs_tmod a (n : Int)
  have h2 : (a.tmod n).natAbs < n := by
    rw [h1, Int.natAbs_natCast]; exact Nat.mod_lt _ hn
  have hne : ¬ (n : Int) = 0 := by omega
  by_cases h0 : a.tmod n < 0
  · obtain ⟨j, hj⟩ := Int.eq_ofNat_of_zero_le (show 0 ≤ a.tmod n + (n : Int) by omega)
    refine ⟨j, by omega, fun w => ?_⟩
    have hwr : IntKind.i64.wrap (a.tmod n + (n : Int)) = (j : Int) := by rw [IntKind.wrap_i64]; omega
    clear h1 h2
    go_enter Try.func13, Try.ntmps13
    go_wp2
    go_ret
    exact ⟨by first | rfl | (rw [hj]; rfl) | (simp [hj]), rfl⟩
  · obtain ⟨j, hj⟩ := Int.eq_ofNat_of_zero_le (show 0 ≤ a.tmod n by omega)
    refine ⟨j, by omega, fun w => ?_⟩
    clear h1 h2
    go_enter Try.func13, Try.ntmps13
    go_wp2
    go_ret
    exact ⟨by first | rfl | (rw [hj]; rfl) | (simp [hj]), rfl⟩
theorem pick_same {j n : Nat} (hj : j < n) (_hn : n ≤ 201) (w : World) : Calls Try.prog 13 #[.int .i64 (j : Int), .int .i64 n] w fun e w' => e = .returned (.int .i64 (j : Int)) ∧ w' = w := by
  have h1 : (j : Int).tmod n = j := Int.tmod_eq_of_lt (by omega) (by omega)
  have hne : ¬ (n : Int) = 0 := by omega
  have h0 : ¬ (j : Int) < 0 := by omega
  go_enter Try.func13, Try.ntmps13
  go_wp2
  go_ret
  exact ⟨by first | rfl | (rw [h1]), rfl⟩
set_option maxHeartbeats 4000000 in
/-- Square of just so many rows -/
theorem square_of {a : Int} {N : Nat} (hN : N ≤ 64) (hP : ∀ w, Calls Try.prog 13 #[.int .i64 a, .int .i64 (65 : Nat)] w fun e w' => e = .returned (.int .i64 (N : Int)) ∧ w' = w) : ∀ (ao : Option Addr) (cap n : Nat) (xs : List Cw) (w : World), xs.length = n → n * 16 ≤ 140737488355328 → Rz w ao xs →
    Calls Try.prog 9 #[.int .i64 a, .slice ao n cap] w fun e w' => ∃ A c, e = .returned (.agg #[.int .i64 N, .int .i64 N, .slice A (N * N) c]) ∧ Rw w' w.heap.size (.slice A (N * N) c) (N * N) (ro (N * N) (zat xs)) ∧ Below w.heap.size w w' := by
  intro ao cap n xs w hn hsz hc
  obtain ⟨i0, hi, hz0, hz1, hz2⟩ := info_parts Try.infoC
  have h4 := le_4096 (R := N) (C := N) (by omega) (by omega)
  have HM := hid_o (wrap_mul (i := N) (C := N) (by omega) (by omega))
  obtain ⟨T, hT⟩ : ∃ T, T = N * N := ⟨_, rfl⟩
  rw [← hT] at h4 HM ⊢
  have HP := hid_o hP
  have HC := hid_o hc
  clear hT hP hc
  have S0 : Hid (Sq w.heap.size N 0 0 none (zat xs) ((w.alloc (.cells #[.int .i64 0, .int .i64 0, .slice none 0 0] 26)).alloc (.cells #[.int .i64 N, .int .i64 N, .slice none 0 0] 26))) := by
    refine ⟨?_, (v3_new w _ _ _ _).below (bal _ _), World.ownsRow_nil _ _ _ _⟩
    have := v3_new (w.alloc (.cells #[.int .i64 0, .int .i64 0, .slice none 0 0] 26)) (.int .i64 N) (.int .i64 N) (.slice none 0 0) 26
    rw [size_al] at this
    exact this
  have B0 : Hid (Below w.heap.size w ((w.alloc (.cells #[.int .i64 0, .int .i64 0, .slice none 0 0] 26)).alloc (.cells #[.int .i64 N, .int .i64 N, .slice none 0 0] 26))) := ba (bal _ _) _
  go_enter Try.func9, Try.ntmps9
  go_wp2_with (go_at_call 13; (refine (HP.out _).mono ?_); rintro e w1 ⟨rfl, hw1⟩; subst w1)
  go_loopw [6] (fun iv wr => ∃ (k c : Nat) (A : Option Addr), k ≤ T ∧ iv = .int .i64 k ∧ Sq w.heap.size N k c A (zat xs) wr ∧ Below w.heap.size w wr) (fun iv _ => T - (intOf iv).toNat)
  case atStart => exact ⟨0, 0, none, Nat.zero_le _, rfl, S0.out, B0.out⟩
  case round =>
    clear S0 B0
    obtain ⟨k, c, A, hk, rfl, hS, hbel⟩ := hrel
    have q0 := hS.v.c0
    have q1 := hS.v.c1
    have q2 := hS.v.c2
    have q5 := hS.v.f2
    have HS := hid_o hS
    have HB := hid_o hbel
    have sz : w.heap.size + 1 < wr.heap.size := hS.v.lt
    by_cases hlt : k < T
    · have hnx : k + 1 ≤ 4096 := by omega
      by_cases hkl : k < n
      · obtain ⟨b, off, rfl, hb, hc1, hc2⟩ := HC.out.below hbel k (by omega)
        have O2 := hid_o ((hS.alloc (.cells #[.int .u64 ((zat xs k).1 : Int), .int .u64 ((zat xs k).2 : Int)] 72)).drew)
        obtain ⟨x, hxe⟩ : ∃ x, x = zat xs k := ⟨_, rfl⟩
        rw [← hxe] at hc1 hc2 O2
        have HX := hid_o hxe
        clear hxe hbel hS
        have hm := HM.out
        go_wp2_with (first
          | (go_at_call 34; (with_reducible refine (number_any _ _ _).mono ?_); rintro e w2 ⟨rfl, hw2⟩; (have O3 := hid_o (hw2 ▸ O2.out)); (have B3 : Hid (Below w.heap.size w w2) := by (rw [hw2]; exact below_drewN (HB.out.alloc HB.out.size _) 1)); (have p2 := O3.out.v.c2); (have pl := O3.out.v.lt); clear hw2 O2)
          | (at_builtin; refine wpList_append_lies _ (by rfl) _ _ 24 (by rfl) (w.heap.size + 2) 52 i0 (.complex .f64 0 0) 1 16 Try.underlying24 hi hz0 hz1 hz2 (by rfl) (by decide) (.slice A k c) k ((ro k (zat xs)).map cx) (by rfl) (O3.out.alloc _).own ⟨_, 0, none⟩ 1 1 [.complex .f64 x.1 x.2] (by rfl) (by rfl) (fun j u hj => by match j, hj with | 0, hj => (simp at hj; subst hj; simp [Addr.add])) (fun u hu => by simp at hu; subst hu; rfl) (by decide) (Nat.le_trans hnx (by unfold maxLen; decide)) (Nat.le_trans (Nat.mul_le_mul_right 16 hnx) (by decide)) (Nat.le_trans (show w.heap.size + 2 ≤ w2.heap.size from O3.out.v.lt) (by simp)) _ rfl ?_; intro g1 cap1 w5 hown1 hgrow1 hat1 hlt1; (have P5 := hid_o ((O3.out.alloc _).push HX.out hown1 hgrow1)); (have v5 := (O3.out.alloc _).v.later P5.out.2 (Nat.lt_succ_self _)); (have t0 := v5.c0); (have t1 := v5.c1); (have t2 := v5.c2); (have t3 := v5.f2); (have tl := v5.lt); (have B5 := hid_o (B3.out.trans (((Below.refl w.heap.size w2).alloc B3.out.size _).trans (P5.out.2.mono (Nat.le_trans (Nat.le_succ _) (Nat.le_succ _)))))); clear hown1 hgrow1 hat1 hlt1 v5))
        clear hm
        go_roundw
        case measure => simp [intOf]; omega
        case rel => exact ⟨k + 1, cap1, _, by omega, by go_num, P5.out.1, B5.out.setCell (p := ⟨w.heap.size + 1, 2, none⟩) (Nat.le_succ _) _⟩
      · have HX : Hid (((0, 0) : Cw) = zat xs k) := by show _ = _; rw [zat_ge (by omega)]
        have O3 := hid_o hS
        have B3 := hid_o hbel
        have hm := HM.out
        clear hbel hS
        go_wp2_with (first
          | (at_builtin; refine wpList_append_lies _ (by rfl) _ _ 24 (by rfl) (w.heap.size + 2) 52 i0 (.complex .f64 0 0) 1 16 Try.underlying24 hi hz0 hz1 hz2 (by rfl) (by decide) (.slice A k c) k ((ro k (zat xs)).map cx) (by rfl) (O3.out.alloc _).own ⟨_, 0, none⟩ 1 1 [.complex .f64 0 0] (by rfl) (by rfl) (fun j u hj => by match j, hj with | 0, hj => (simp at hj; subst hj; simp [Addr.add])) (fun u hu => by simp at hu; subst hu; rfl) (by decide) (Nat.le_trans hnx (by unfold maxLen; decide)) (Nat.le_trans (Nat.mul_le_mul_right 16 hnx) (by decide)) (Nat.le_trans (show w.heap.size + 2 ≤ wr.heap.size from O3.out.v.lt) (by simp)) _ rfl ?_; intro g1 cap1 w5 hown1 hgrow1 hat1 hlt1; (have P5 := hid_o ((O3.out.alloc _).push HX.out hown1 hgrow1)); (have v5 := (O3.out.alloc _).v.later P5.out.2 (Nat.lt_succ_self _)); (have t0 := v5.c0); (have t1 := v5.c1); (have t2 := v5.c2); (have t3 := v5.f2); (have tl := v5.lt); (have B5 := hid_o (B3.out.trans (((Below.refl w.heap.size wr).alloc B3.out.size _).trans (P5.out.2.mono (Nat.le_trans (Nat.le_succ _) (Nat.le_succ _)))))); clear hown1 hgrow1 hat1 hlt1 v5))
        clear hm
        go_roundw
        case measure => simp [intOf]; omega
        case rel => exact ⟨k + 1, cap1, _, by omega, by go_num, P5.out.1, B5.out.setCell (p := ⟨w.heap.size + 1, 2, none⟩) (Nat.le_succ _) _⟩
    · have e : k = T := by omega
      subst e
      have r0 := hS.r.c0
      have r1 := hS.r.c1
      have r2 := hS.r.c2
      have r3 := hS.r.f0
      have r4 := hS.r.f1
      have r5 := hS.r.f2
      have rl := hS.r.lt
      obtain ⟨m0, m1, m2⟩ := hS.r.reads
      have hm := HM.out
      clear hS hbel
      go_wp2
      refine bodyPost_ret (by simp [results, Try.results9, go_sem, m0, m1, m2]; try rfl) rfl ?_
      refine ⟨A, c, rfl, ⟨ro_len _ _, own_base (own_at HS.out.own (fun g hg => set3_block (Nat.ne_of_lt (Nat.lt_of_lt_of_le (Nat.lt_succ_of_lt (Nat.lt_succ_self _)) (HS.out.own.lt g hg).1)))) (Nat.le_trans (Nat.le_succ _) (Nat.le_succ _))⟩, below_set3 HB.out (Nat.le_refl _) _ _ _⟩


end Go.Proofs.Ytklbgibhbnijaaa
