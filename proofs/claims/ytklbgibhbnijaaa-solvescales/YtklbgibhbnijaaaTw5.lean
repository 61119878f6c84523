/-
  Powers of two in and out of a product and a quotient of numbers whose parts are whole and small; quotients by units: on answers; nothing of any program's text.
-/
import Derived.Test.YtklbgibhbnijaaaTw4
namespace Go.Proofs.Ytklbgibhbnijaaa
open Fl

theorem eq_of_val {x y : Nat} (hx : fin x) (hy : fin y) (h : val x = val y) : FloatKind.f64.format.order x y = some .eq := eq_of_beq (eqB_val hx hy h)
theorem sc_abs {k x x' y y' b : Nat} (hk : k ≤ 255) (hx : sc k x x') (hy : sc k y y') (h : (val x + val y).natAbs ≤ 2 ^ b) : (val x' + val y').natAbs ≤ 2 ^ (b + 127) := by
  have hv : (val x' + val y') * ((2 ^ 128 : Nat) : Int) = (val x + val y) * ((2 ^ k : Nat) : Int) := by rw [Int.add_mul, Int.add_mul, hx.val, hy.val]
  have hn := congrArg Int.natAbs hv
  rw [Int.natAbs_mul, Int.natAbs_mul, Int.natAbs_natCast, Int.natAbs_natCast] at hn
  have a1 : (val x' + val y').natAbs * 2 ^ 128 ≤ 2 ^ (b + 127) * 2 ^ 128 := by
    rw [hn]
    refine Nat.le_trans (Nat.mul_le_mul h (Nat.pow_le_pow_right (by omega) hk)) ?_
    rw [← Nat.pow_add, ← Nat.pow_add]
    exact Nat.pow_le_pow_right (by omega) (by omega)
  exact Nat.le_of_mul_le_mul_right a1 (Nat.two_pow_pos 128)

/-- The power of two. -/
structure isT (k t : Nat) : Prop where
  pos : Go.Proofs.Ytklbgibhbnijaaa.pos t
  sz : Fl.sz t = 2 ^ (946 + k)
  le : k ≤ 255
theorem isT.ans {k t : Nat} (h : isT k t) : ans t = some t := ans_num (fin_not_nan h.pos.fin)
theorem t_rung {k : Nat} (hk : k ≤ 255) : rung (1 * 2 ^ (946 + k)) < 9218868437227405312 ∧ RpN (1 * 2 ^ (946 + k)) ∧ isT k (rung (1 * 2 ^ (946 + k))) := by
  have hr : RpN (1 * 2 ^ (946 + k)) := ⟨1, 946 + k, rfl, by omega⟩
  have hl : rung (1 * 2 ^ (946 + k)) < 9218868437227405312 := rung_lt (by rw [rn_exact hr, Nat.one_mul]; exact lt_szI (Nat.le_refl _) (by omega))
  refine ⟨hl, hr, hl, ?_, hk⟩
  rw [sz_rung, rn_exact hr, Nat.one_mul]

section tk
variable {k t : Nat} (ht : isT k t)
include ht
theorem t_int {n : Int} (hn : n.natAbs ≤ 2147483648) : ∃ r, mulO t (fw n) = some r ∧ sc k (fw n) r := by
  have hs : n.natAbs < 9007199254740992 := by omega
  refine sc_scale (fw_fin hs) (fw_lt n) ht.pos ht.sz ht.le ?_ ?_
  · rcases fw_low hs with h | h
    · exact Or.inl h
    · exact Or.inr (Nat.le_trans (Nat.pow_le_pow_right (by omega) (by unfold T18 T74; omega)) h)
  · rw [fw_sz hs]
    have e31 : (2 : Nat) ^ 31 = 2147483648 := by decide
    refine Nat.le_trans (Nat.mul_le_mul_right _ (show n.natAbs ≤ 2 ^ 31 from by rw [e31]; exact hn)) ?_
    rw [← Nat.pow_add]
    exact Nat.pow_le_pow_right (by omega) (by unfold T74 T13; omega)
/-- A scaled whole number times a whole number. -/
theorem t_prod {a b : Int} {a' m : Nat} (ha : a.natAbs ≤ 32768) (hb : b.natAbs ≤ 32768) (hs : sc k (fw a) a') (hm : mulO (fw a) (fw b) = some m) : ∃ m', mulO a' (fw b) = some m' ∧ sc k m m' ∧ m' < 18446744073709551616 := by
  have ia := fw_isI ha
  have ib := fw_isI hb
  obtain ⟨r, r', e1, e2, s, _, _, _, l⟩ := sc_mul hs ib.fin ht.le (by
      rcases ia.low with h | h
      · left; rw [h, Nat.zero_mul]
      · rcases ib.low with h2 | h2
        · left; rw [h2, Nat.mul_zero]
        · right
          refine Nat.le_trans ?_ (Nat.mul_le_mul h h2)
          rw [← Nat.pow_add]; exact Nat.pow_le_pow_right (by omega) (by unfold T12 T74; omega))
    (by
      refine Nat.le_trans (Nat.mul_le_mul ia.up ib.up) ?_
      rw [← Nat.pow_add]; exact Nat.pow_le_pow_right (by omega) (by unfold T89 T22; omega))
  rw [hm] at e1
  cases e1
  exact ⟨r', e2, s, l⟩
omit ht in
theorem same_scaled {n : Int} {r r' v : Nat} (hn : n.natAbs < 9007199254740992) (hr : val r = n * ((2 ^ T74 : Nat) : Int)) (s1 : sc k r r') (s2 : sc k (fw n) v) : FloatKind.f64.format.order r' v = some .eq := by
  refine eq_of_val s1.2.1 s2.2.1 ?_
  have h1 := s1.val
  have h2 := s2.val
  rw [hr, ← fw_val hn, ← h2] at h1
  exact Int.eq_of_mul_eq_mul_right (by have := Nat.two_pow_pos 128; omega) h1
variable {p q c d : Int} (hp : p.natAbs ≤ 32768) (hq : q.natAbs ≤ 32768) (hc : c.natAbs ≤ 32768) (hd : d.natAbs ≤ 32768)
include hp hq hc hd
theorem t_msRe {r s : Nat} (h1 : rep (mulRe (mulA (ans t) (ans (fw p))) (mulA (ans t) (ans (fw q))) (ans (fw c)) (ans (fw d))) r) (h2 : rep (mulA (ans t) (ans (fw (p * c - q * d)))) s) : FloatKind.f64.format.order r s = some .eq := by
  obtain ⟨m1, m2, r0, e1, e2, e3, f3, v3, hb, hb2, fm1, fm2, lm2⟩ := t_mulRe hp hq hc hd
  obtain ⟨p', ep, sp⟩ := t_int ht (n := p) (by omega)
  obtain ⟨q', eq', sq⟩ := t_int ht (n := q) (by omega)
  obtain ⟨v, ev, sv⟩ := t_int ht hb2
  obtain ⟨n1, g1, s1, l1⟩ := t_prod ht hp hc sp e1
  obtain ⟨n2, g2, s2, l2⟩ := t_prod ht hq hd sq e2
  rw [subO_add m1 lm2] at e3
  have hsum : val m1 + val (ngW m2) = (p * c - q * d) * ((2 ^ T74 : Nat) : Int) := by
    obtain ⟨m1', x1, _, w1⟩ := mul_whole (small_of hp) (small_of hc) (by have := mul_small hp hc; omega)
    obtain ⟨m2', x2, _, w2⟩ := mul_whole (small_of hq) (small_of hd) (by have := mul_small hq hd; omega)
    rw [e1] at x1; cases x1
    rw [e2] at x2; cases x2
    have hneg : val (ngW m2) = -val m2 := by unfold val; rw [mg_ngW lm2, ng_ngW lm2, sgn_not]
    rw [hneg, w1, w2, Int.sub_mul]; omega
  have hle : (val m1 + val (ngW m2)).natAbs ≤ 2 ^ (53 + T74) := by
    rw [hsum, Int.natAbs_mul, Int.natAbs_natCast, Nat.pow_add]; exact Nat.mul_le_mul_right _ (Nat.le_of_lt hb)
  obtain ⟨u, u', k1, k2, su, vu⟩ := sc_add s1 (s2.ng lm2 l2) (by rw [hsum]; exact fw_rn hb) (lt_szI (rn_up (sc_abs ht.le s1 (s2.ng lm2 l2) hle)) (by unfold T74; omega))
  rw [← subO_add n1 l2] at k2
  have he : mulRe (mulA (ans t) (ans (fw p))) (mulA (ans t) (ans (fw q))) (ans (fw c)) (ans (fw d)) = some u' := by
    rw [ht.ans, fw_ans (small_of hp), fw_ans (small_of hq), fw_ans (small_of hc), fw_ans (small_of hd)]
    show subA (mulA (mulO t (fw p)) (some (fw c))) (mulA (mulO t (fw q)) (some (fw d))) = some u'
    rw [ep, eq']
    show subA (mulO p' (fw c)) (mulO q' (fw d)) = some u'
    rw [g1, g2]; exact k2
  have he2 : mulA (ans t) (ans (fw (p * c - q * d))) = some v := by rw [ht.ans, fw_ans hb]; exact ev
  rw [he] at h1
  rw [he2] at h2
  obtain ⟨_, rfl⟩ := ans_some h1.2
  obtain ⟨_, rfl⟩ := ans_some h2.2
  exact same_scaled hb (by rw [vu, hsum, rnI_exact (fw_rp hb)]) su sv
theorem t_msIm {r s : Nat} (h1 : rep (mulIm (mulA (ans t) (ans (fw p))) (mulA (ans t) (ans (fw q))) (ans (fw c)) (ans (fw d))) r) (h2 : rep (mulA (ans t) (ans (fw (p * d + q * c)))) s) : FloatKind.f64.format.order r s = some .eq := by
  obtain ⟨m1, m2, r0, e1, e2, e3, f3, v3, hb, hb2, fm1, fm2⟩ := t_mulIm hp hq hc hd
  obtain ⟨p', ep, sp⟩ := t_int ht (n := p) (by omega)
  obtain ⟨q', eq', sq⟩ := t_int ht (n := q) (by omega)
  obtain ⟨v, ev, sv⟩ := t_int ht hb2
  obtain ⟨n1, g1, s1, l1⟩ := t_prod ht hp hd sp e1
  obtain ⟨n2, g2, s2, l2⟩ := t_prod ht hq hc sq e2
  have hsum : val m1 + val m2 = (p * d + q * c) * ((2 ^ T74 : Nat) : Int) := by
    obtain ⟨m1', x1, _, w1⟩ := mul_whole (small_of hp) (small_of hd) (by have := mul_small hp hd; omega)
    obtain ⟨m2', x2, _, w2⟩ := mul_whole (small_of hq) (small_of hc) (by have := mul_small hq hc; omega)
    rw [e1] at x1; cases x1
    rw [e2] at x2; cases x2
    rw [w1, w2, Int.add_mul]
  have hle : (val m1 + val m2).natAbs ≤ 2 ^ (53 + T74) := by
    rw [hsum, Int.natAbs_mul, Int.natAbs_natCast, Nat.pow_add]; exact Nat.mul_le_mul_right _ (Nat.le_of_lt hb)
  obtain ⟨u, u', k1, k2, su, vu⟩ := sc_add s1 s2 (by rw [hsum]; exact fw_rn hb) (lt_szI (rn_up (sc_abs ht.le s1 s2 hle)) (by unfold T74; omega))
  have he : mulIm (mulA (ans t) (ans (fw p))) (mulA (ans t) (ans (fw q))) (ans (fw c)) (ans (fw d)) = some u' := by
    rw [ht.ans, fw_ans (small_of hp), fw_ans (small_of hq), fw_ans (small_of hc), fw_ans (small_of hd)]
    show addA (mulA (mulO t (fw p)) (some (fw d))) (mulA (mulO t (fw q)) (some (fw c))) = some u'
    rw [ep, eq']
    show addA (mulO p' (fw d)) (mulO q' (fw c)) = some u'
    rw [g1, g2]; exact k2
  have he2 : mulA (ans t) (ans (fw (p * d + q * c))) = some v := by rw [ht.ans, fw_ans hb]; exact ev
  rw [he] at h1
  rw [he2] at h2
  obtain ⟨_, rfl⟩ := ans_some h1.2
  obtain ⟨_, rfl⟩ := ans_some h2.2
  exact same_scaled hb (by rw [vu, hsum, rnI_exact (fw_rp hb)]) su sv
omit hp hq hc hd in
/-- What is divided, scaled ahead or behind. -/
theorem t_done {Q Q' : Option Nat} {q0 q' r s : Nat} (e1 : Q = some q0) (e2 : Q' = some q') (sq : sc k q0 q') (ok : okQ q0) (h1 : rep Q' r) (h2 : rep (mulA (ans t) Q) s) : FloatKind.f64.format.order r s = some .eq := by
  subst e1 e2
  obtain ⟨v, ev, sv⟩ := sc_scale ok.fin ok.lt ht.pos ht.sz ht.le ok.low ok.up
  have he : mulA (ans t) (some q0) = some v := by rw [ht.ans]; exact ev
  rw [he] at h2
  obtain ⟨_, rfl⟩ := ans_some h1.2
  obtain ⟨_, rfl⟩ := ans_some h2.2
  exact eq_of_val sq.2.1 sv.2.1 (sq.uniq sv)
theorem t_div {r1 s1 r2 s2 : Nat} (hb : ¬ (mg (fw c) = 0 ∧ mg (fw d) = 0))
    (h1 : rep (divRe (mulA (ans t) (ans (fw p))) (mulA (ans t) (ans (fw q))) (ans (fw c)) (ans (fw d))) r1) (k1 : rep (mulA (ans t) (divRe (ans (fw p)) (ans (fw q)) (ans (fw c)) (ans (fw d)))) s1)
    (h2 : rep (divIm (mulA (ans t) (ans (fw p))) (mulA (ans t) (ans (fw q))) (ans (fw c)) (ans (fw d))) r2) (k2 : rep (mulA (ans t) (divIm (ans (fw p)) (ans (fw q)) (ans (fw c)) (ans (fw d)))) s2) :
    FloatKind.f64.format.order r1 s1 = some .eq ∧ FloatKind.f64.format.order r2 s2 = some .eq := by
  have ip := fw_isI hp
  have iq := fw_isI hq
  have ic := fw_isI hc
  have id := fw_isI hd
  obtain ⟨p', ep, sp⟩ := t_int ht (n := p) (by omega)
  obtain ⟨q', eq', sq⟩ := t_int ht (n := q) (by omega)
  have lp := (mul_bd ep).1
  have lq := (mul_bd eq').1
  have hA : mulA (ans t) (ans (fw p)) = some p' := by rw [ht.ans, fw_ans (small_of hp)]; exact ep
  have hB : mulA (ans t) (ans (fw q)) = some q' := by rw [ht.ans, fw_ans (small_of hq)]; exact eq'
  rw [hA, hB] at h1 h2
  rw [fw_ans (small_of hp), fw_ans (small_of hq), fw_ans (small_of hc), fw_ans (small_of hd)] at *
  have nc : nan (mg (fw c)) = false := by rw [nan_mg]; exact fin_not_nan ic.fin
  have nd : nan (mg (fw d)) = false := by rw [nan_mg]; exact fin_not_nan id.fin
  have og : geA (sizA (some (fw c))) (sizA (some (fw d))) = decide (mg (fw d) ≤ mg (fw c)) := by
    show (Ieee.double.order (mg (fw c)) (mg (fw d)) == some .gt || Ieee.double.order (mg (fw c)) (mg (fw d)) == some .eq) = _
    rw [← f64_double, order_gt nc nd, order_eqb nc nd, plc_mg, plc_mg]
    by_cases h : mg (fw d) ≤ mg (fw c)
    · rw [decide_eq_true h]
      rcases Nat.lt_or_ge (mg (fw d)) (mg (fw c)) with h3 | h3
      · rw [decide_eq_true (by omega)]; rfl
      · rw [Bool.or_eq_true]; right; exact decide_eq_true (by omega)
    · rw [decide_eq_false h, decide_eq_false (by omega), decide_eq_false (by omega)]; rfl
  by_cases hge : mg (fw d) ≤ mg (fw c)
  · have c0 : ¬ mg (fw c) = 0 := fun h => hb ⟨h, by omega⟩
    rw [decide_eq_true hge] at og
    have d1 : ∀ A B, divRe A B (some (fw c)) (some (fw d)) = divRe1 A B (some (fw c)) (some (fw d)) := fun A B => by unfold divRe; rw [og]; rfl
    have d2 : ∀ A B, divIm A B (some (fw c)) (some (fw d)) = divIm1 A B (some (fw c)) (some (fw d)) := fun A B => by unfold divIm; rw [og]; rfl
    rw [d1] at h1 k1
    rw [d2] at h2 k2
    constructor
    · obtain ⟨r, w1, T, m, m', x1, x2, x3, x4, x5, ⟨u, u', a, a', y1, y2, y3, y4, y5, y6⟩, _, _⟩ := core ht.le ip iq ic id c0 sp sq lp
      refine t_done ht ?_ ?_ y5 y6 h1 k1
      · show divA (addA (some (fw p)) (mulA (some (fw q)) (divO (fw d) (fw c)))) (addA (some (fw c)) (mulA (some (fw d)) (divO (fw d) (fw c)))) = _
        rw [x1]
        show divA (addA (some (fw p)) (mulO (fw q) r)) (addA (some (fw c)) (mulO (fw d) r)) = _
        rw [x2, x4]
        show divA (addO (fw p) m) (addO (fw c) w1) = _
        rw [x3, y1]; exact y3
      · show divA (addA (some p') (mulA (some q') (divO (fw d) (fw c)))) (addA (some (fw c)) (mulA (some (fw d)) (divO (fw d) (fw c)))) = _
        rw [x1]
        show divA (addA (some p') (mulO q' r)) (addA (some (fw c)) (mulO (fw d) r)) = _
        rw [x2, x5]
        show divA (addO p' m') (addO (fw c) w1) = _
        rw [x3, y2]; exact y4
    · obtain ⟨r, w1, T, m, m', x1, x2, x3, x4, x5, _, ⟨u, u', a, a', y1, y2, y3, y4, y5, y6⟩, _⟩ := core ht.le iq ip ic id c0 sq sp lq
      refine t_done ht ?_ ?_ y5 y6 h2 k2
      · show divA (subA (some (fw q)) (mulA (some (fw p)) (divO (fw d) (fw c)))) (addA (some (fw c)) (mulA (some (fw d)) (divO (fw d) (fw c)))) = _
        rw [x1]
        show divA (subA (some (fw q)) (mulO (fw p) r)) (addA (some (fw c)) (mulO (fw d) r)) = _
        rw [x2, x4]
        show divA (subO (fw q) m) (addO (fw c) w1) = _
        rw [x3, y1]; exact y3
      · show divA (subA (some q') (mulA (some p') (divO (fw d) (fw c)))) (addA (some (fw c)) (mulA (some (fw d)) (divO (fw d) (fw c)))) = _
        rw [x1]
        show divA (subA (some q') (mulO p' r)) (addA (some (fw c)) (mulO (fw d) r)) = _
        rw [x2, x5]
        show divA (subO q' m') (addO (fw c) w1) = _
        rw [x3, y2]; exact y4
  · have d0 : ¬ mg (fw d) = 0 := fun h => by omega
    rw [decide_eq_false hge] at og
    have d1 : ∀ A B, divRe A B (some (fw c)) (some (fw d)) = divRe2 A B (some (fw c)) (some (fw d)) := fun A B => by unfold divRe; rw [og]; rfl
    have d2 : ∀ A B, divIm A B (some (fw c)) (some (fw d)) = divIm2 A B (some (fw c)) (some (fw d)) := fun A B => by unfold divIm; rw [og]; rfl
    rw [d1] at h1 k1
    rw [d2] at h2 k2
    constructor
    · obtain ⟨r, w1, T, m, m', x1, x2, x3, x4, x5, ⟨u, u', a, a', y1, y2, y3, y4, y5, y6⟩, _, _⟩ := core ht.le iq ip id ic d0 sq sp lq
      refine t_done ht ?_ ?_ y5 y6 h1 k1
      · show divA (addA (mulA (some (fw p)) (divO (fw c) (fw d))) (some (fw q))) (addA (mulA (some (fw c)) (divO (fw c) (fw d))) (some (fw d))) = _
        rw [x1]
        show divA (addA (mulO (fw p) r) (some (fw q))) (addA (mulO (fw c) r) (some (fw d))) = _
        rw [x2, x4]
        show divA (addO m (fw q)) (addO w1 (fw d)) = _
        rw [addO_comm m, addO_comm w1, x3, y1]; exact y3
      · show divA (addA (mulA (some p') (divO (fw c) (fw d))) (some q')) (addA (mulA (some (fw c)) (divO (fw c) (fw d))) (some (fw d))) = _
        rw [x1]
        show divA (addA (mulO p' r) (some q')) (addA (mulO (fw c) r) (some (fw d))) = _
        rw [x2, x5]
        show divA (addO m' q') (addO w1 (fw d)) = _
        rw [addO_comm m', addO_comm w1, x3, y2]; exact y4
    · obtain ⟨r, w1, T, m, m', x1, x2, x3, x4, x5, _, _, ⟨u, u', a, a', y1, y2, y3, y4, y5, y6⟩⟩ := core ht.le ip iq id ic d0 sp sq lp
      refine t_done ht ?_ ?_ y5 y6 h2 k2
      · show divA (subA (mulA (some (fw q)) (divO (fw c) (fw d))) (some (fw p))) (addA (mulA (some (fw c)) (divO (fw c) (fw d))) (some (fw d))) = _
        rw [x1]
        show divA (subA (mulO (fw q) r) (some (fw p))) (addA (mulO (fw c) r) (some (fw d))) = _
        rw [x2, x4]
        show divA (subO m (fw p)) (addO w1 (fw d)) = _
        rw [addO_comm w1, x3, y1]; exact y3
      · show divA (subA (mulA (some q') (divO (fw c) (fw d))) (some p')) (addA (mulA (some (fw c)) (divO (fw c) (fw d))) (some (fw d))) = _
        rw [x1]
        show divA (subA (mulO q' r) (some p')) (addA (mulO (fw c) r) (some (fw d))) = _
        rw [x2, x5]
        show divA (subO m' p') (addO w1 (fw d)) = _
        rw [addO_comm w1, x3, y2]; exact y4
end tk

end Go.Proofs.Ytklbgibhbnijaaa
