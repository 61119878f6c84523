/-
  Two accounts beside each other, by the answers that they hold.
-/
import Derived.Test.YtiohceelphpifaaRfc
import Derived.Test.YtiohceelphpifaaRfd
import Derived.Test.YtiohceelphpifaaRfe
import Derived.Test.YtiohceelphpifaaRff
namespace Go.Proofs.Ytiohceelphpifaa
open Fl RowKit

theorem negF_ngW {b : Nat} (h : b < 18446744073709551616) : Op.negFloat .f64 b = ngW b := by
  have h1 := neg_mg h
  have h2 := neg_ng h
  have h3 := neg_bd h
  have h4 := mg_ngW h
  have h5 := ng_ngW h
  have h6 := ngW_lt h
  have e1 := h1.trans h4.symm
  have e2 := h2.trans h5.symm
  unfold mg at e1
  unfold ng at e2
  have d1 := Nat.div_add_mod (Op.negFloat .f64 b) 9223372036854775808
  have d2 := Nat.div_add_mod (ngW b) 9223372036854775808
  have b1 : Op.negFloat .f64 b / 9223372036854775808 < 2 := by omega
  have b2 : ngW b / 9223372036854775808 < 2 := by omega
  rw [Nat.mod_eq_of_lt b1, Nat.mod_eq_of_lt b2] at e2
  have e3 : Op.negFloat .f64 b / 9223372036854775808 = ngW b / 9223372036854775808 := by
    rcases (show Op.negFloat .f64 b / 9223372036854775808 = 0 ∨ Op.negFloat .f64 b / 9223372036854775808 = 1 by omega) with h | h <;> rcases (show ngW b / 9223372036854775808 = 0 ∨ ngW b / 9223372036854775808 = 1 by omega) with h' | h' <;> rw [h, h'] at e2 <;> simp at e2 <;> omega
  omega
theorem fma_nan {a b z : Nat} (h : nan z = true) : fmaO a b z = none := by
  unfold fmaO Ieee.Format.fma
  rw [read_nan z h]
  generalize (Ieee.double.read a).product (Ieee.double.read b) = o
  cases o with
  | none => rfl
  | some d => cases d <;> rfl
/-- what rounding took off a product -/
def tpE (a b : Nat) : Option Nat := (mulO a b).bind fun p => fmaO a b (ngW p)
theorem tp_rep {a b pr er : Nat} (h1 : rep (mulO a b) pr) (h2 : rep (fmaO a b (Op.negFloat .f64 pr)) er) : rep (tpE a b) er := by
  refine ⟨h2.1, ?_⟩
  rw [h2.2, negF_ngW h1.1]
  unfold tpE
  cases hm : mulO a b with
  | none =>
    rw [hm] at h1
    exact fma_nan (by rw [nan_ngW h1.1]; exact ans_none h1.2)
  | some p =>
    rw [hm] at h1
    obtain ⟨_, rfl⟩ := ans_some h1.2
    rfl
theorem rep_negF {o : Option Nat} {x : Nat} (h : rep o x) : rep (negA o) (Op.negFloat .f64 x) := by rw [negF_ngW h.1]; exact rep_ng h
/-- two accounts that lie apart -/
def Two (b p q : Nat) (T L T' L' : List Nat) (w : World) : Prop := ∃ gt ct gl cl gt' ct' gl' cl', Acc b p gt ct gl cl T L w ∧ Acc b q gt' ct' gl' cl' T' L' w ∧ (p ≠ q ∧ p ≠ gt' ∧ p ≠ gl') ∧ (gt ≠ q ∧ gt ≠ gt' ∧ gt ≠ gl') ∧ (gl ≠ q ∧ gl ≠ gt' ∧ gl ≠ gl')
theorem Two.symm {b p q : Nat} {T L T' L' : List Nat} {w : World} (h : Two b p q T L T' L' w) : Two b q p T' L' T L w := by
  obtain ⟨gt, ct, gl, cl, gt', ct', gl', cl', h1, h2, ⟨a1, a2, a3⟩, ⟨a4, a5, a6⟩, ⟨a7, a8, a9⟩⟩ := h
  exact ⟨gt', ct', gl', cl', gt, ct, gl, cl, h2, h1, ⟨a1.symm, a4.symm, a7.symm⟩, ⟨a2.symm, a5.symm, a8.symm⟩, ⟨a3.symm, a6.symm, a9.symm⟩⟩
theorem two_up {b p q gt ct gl cl gt' ct' gl' cl' r s : Nat} {T L T' L' : List Nat} {w w' : World} (_ : Acc b p gt ct gl cl T L w) (h2 : Acc b q gt' ct' gl' cl' T' L' w) (d1 : p ≠ q ∧ p ≠ gt' ∧ p ≠ gl') (d2 : gt ≠ q ∧ gt ≠ gt' ∧ gt ≠ gl') (d3 : gl ≠ q ∧ gl ≠ gt' ∧ gl ≠ gl')
    (hu : AccUp b p gt gl T L r s w w') : Two b p q (T ++ [r]) (L ++ [s]) T' L' w' ∧ Below b w w' := by
  obtain ⟨gt2, ct2, gl2, cl2, A, B, sz, fr, e1, e2⟩ := hu
  have l1 := h2.lt
  have l2 := (own_lt h2.ot).2
  have l3 := (own_lt h2.ol).2
  refine ⟨⟨gt2, ct2, gl2, cl2, gt', ct', gl', cl', A, h2.below sz (fr q l1 d1.1.symm d2.1.symm d3.1.symm) (fr gt' l2 d1.2.1.symm d2.2.1.symm d3.2.1.symm) (fr gl' l3 d1.2.2.symm d2.2.2.symm d3.2.2.symm), d1, ⟨?_, ?_, ?_⟩, ⟨?_, ?_, ?_⟩⟩, B⟩ <;> omega
theorem Two.later {b p q : Nat} {T L T' L' : List Nat} {w w' : World} (h : Two b p q T L T' L' w) (hb : Below w.heap.size w w') : Two b p q T L T' L' w' := by
  obtain ⟨gt, ct, gl, cl, gt', ct', gl', cl', h1, h2, d1, d2, d3⟩ := h
  exact ⟨gt, ct, gl, cl, gt', ct', gl', cl', h1.below hb.size (hb.block _ h1.lt) (hb.block _ (own_lt h1.ot).2) (hb.block _ (own_lt h1.ol).2), h2.below hb.size (hb.block _ h2.lt) (hb.block _ (own_lt h2.ot).2) (hb.block _ (own_lt h2.ol).2), d1, d2, d3⟩
/-- words of 64 bits -/
def okw (l : List Nat) : Prop := ∀ k, l.getD k 0 < 18446744073709551616
theorem okw.push {l : List Nat} {r : Nat} (h : okw l) (hr : r < 18446744073709551616) : okw (l ++ [r]) :=
  getD_append_lt h (fun k => by cases k with | zero => exact hr | succ k => simp)
/-- two accounts, by their answers -/
def Tw2 (b p q : Nat) (A B A' B' : List (Option Nat)) (w : World) : Prop := ∃ T L T' L', Two b p q T L T' L' w ∧ (T.map ans = A ∧ L.map ans = B ∧ T'.map ans = A' ∧ L'.map ans = B') ∧ okw T ∧ okw L ∧ okw T' ∧ okw L'
theorem Tw2.symm {b p q : Nat} {A B A' B' : List (Option Nat)} {w : World} (h : Tw2 b p q A B A' B' w) : Tw2 b q p A' B' A B w := by
  obtain ⟨T, L, T', L', h, ⟨a1, a2, a3, a4⟩, o1, o2, o3, o4⟩ := h
  exact ⟨T', L', T, L, h.symm, ⟨a3, a4, a1, a2⟩, o3, o4, o1, o2⟩
theorem Tw2.later {b p q : Nat} {A B A' B' : List (Option Nat)} {w w' : World} (h : Tw2 b p q A B A' B' w) (hb : Below w.heap.size w w') : Tw2 b p q A B A' B' w' := by
  obtain ⟨T, L, T', L', h, a, o⟩ := h
  exact ⟨T, L, T', L', h.later hb, a, o⟩
theorem tw_take {b p q x y : Nat} {A B A' B' : List (Option Nat)} {w : World} (h : Tw2 b p q A B A' B' w) (h1 : A.length ≤ 1000000) (h2 : B.length ≤ 1000000) :
    Calls Try.prog 57 #[.pointer (some ⟨p, 0, none⟩), .float .f64 x, .float .f64 y] w fun e w' => e = .returned (.tuple #[]) ∧ Tw2 b p q (A ++ [negA (mulO x y)]) (B ++ [negA (tpE x y)]) A' B' w' ∧ Below b w w' := by
  obtain ⟨T, L, T', L', ⟨gt, ct, gl, cl, gt', ct', gl', cl', t1, t2, d1, d2, d3⟩, ⟨rfl, rfl, a3, a4⟩, o1, o2, o3, o4⟩ := h
  refine (take_any b p gt ct gl cl T.length L.length T L x y w t1 rfl rfl (by simpa using h1) (by simpa using h2)).mono ?_
  rintro e w' ⟨pr, er, rfl, hp, he, hu⟩
  obtain ⟨t3, B1⟩ := two_up t1 t2 d1 d2 d3 hu
  have r1 := rep_negF hp
  have r2 := rep_negF (tp_rep hp he)
  refine ⟨rfl, ⟨_, _, _, _, t3, ⟨?_, ?_, a3, a4⟩, o1.push r1.1, o2.push r2.1, o3, o4⟩, B1⟩
  · rw [List.map_append, List.map_cons, List.map_nil, r1.2]
  · rw [List.map_append, List.map_cons, List.map_nil, r2.2]
theorem tw_put {b p q x y : Nat} {A B A' B' : List (Option Nat)} {w : World} (h : Tw2 b p q A B A' B' w) (h1 : A.length ≤ 1000000) (h2 : B.length ≤ 1000000) :
    Calls Try.prog 58 #[.pointer (some ⟨p, 0, none⟩), .float .f64 x, .float .f64 y] w fun e w' => e = .returned (.tuple #[]) ∧ Tw2 b p q (A ++ [mulO x y]) (B ++ [tpE x y]) A' B' w' ∧ Below b w w' := by
  obtain ⟨T, L, T', L', ⟨gt, ct, gl, cl, gt', ct', gl', cl', t1, t2, d1, d2, d3⟩, ⟨rfl, rfl, a3, a4⟩, o1, o2, o3, o4⟩ := h
  refine (put_any b p gt ct gl cl T.length L.length T L x y w t1 rfl rfl (by simpa using h1) (by simpa using h2)).mono ?_
  rintro e w' ⟨pr, er, rfl, hp, he, hu⟩
  obtain ⟨t3, B1⟩ := two_up t1 t2 d1 d2 d3 hu
  have r2 := tp_rep hp he
  refine ⟨rfl, ⟨_, _, _, _, t3, ⟨?_, ?_, a3, a4⟩, o1.push hp.1, o2.push r2.1, o3, o4⟩, B1⟩
  · rw [List.map_append, List.map_cons, List.map_nil, hp.2]
  · rw [List.map_append, List.map_cons, List.map_nil, r2.2]
theorem tw_sum {b p q : Nat} {A B A' B' : List (Option Nat)} {w : World} (h : Tw2 b p q A B A' B' w) (h0 : 0 < A.length) (h1 : A.length ≤ 1000000) (h2 : B.length ≤ 1000000) :
    Calls Try.prog 59 #[.pointer (some ⟨p, 0, none⟩)] w fun e w' => ∃ r, e = .returned (.float .f64 r) ∧ rep (partA A B) r ∧ Below w.heap.size w w' := by
  obtain ⟨T, L, T', L', ⟨gt, ct, gl, cl, gt', ct', gl', cl', t1, t2, d1, d2, d3⟩, ⟨rfl, rfl, a3, a4⟩, o1, o2, o3, o4⟩ := h
  exact accsum_any b p gt ct gl cl T.length L.length T L w t1 rfl rfl (by simpa using h0) (by simpa using h1) (by simpa using h2) o1 o2
theorem two_new {b p gt ct gl cl q gt' ct' gl' cl' : Nat} {T L T' L' : List Nat} {w w' : World} (h1 : Acc b p gt ct gl cl T L w) (h2 : Acc w.heap.size q gt' ct' gl' cl' T' L' w') (hb : Below w.heap.size w w') : Two b p q T L T' L' w' := by
  have l1 := h1.lt
  have l2 := own_lt h1.ot
  have l3 := own_lt h1.ol
  have m1 := h2.ge
  have m2 := own_lt h2.ot
  have m3 := own_lt h2.ol
  have bp := h1.ge
  refine ⟨gt, ct, gl, cl, gt', ct', gl', cl', h1.below hb.size (hb.block _ h1.lt) (hb.block _ l2.2) (hb.block _ l3.2), ⟨h2.c0, h2.c1, h2.fz, h2.lt, by omega, ⟨h2.ot.1, ?_⟩, ⟨h2.ol.1, ?_⟩, h2.a1, h2.a2, h2.a3⟩, ⟨by omega, by omega, by omega⟩, ⟨by omega, by omega, by omega⟩, ⟨by omega, by omega, by omega⟩⟩
  · rcases h2.ot.2 with h | ⟨g, c, cur, hv, hg, rest⟩
    · exact .inl h
    · exact .inr ⟨g, c, cur, hv, by omega, rest⟩
  · rcases h2.ol.2 with h | ⟨g, c, cur, hv, hg, rest⟩
    · exact .inl h
    · exact .inr ⟨g, c, cur, hv, by omega, rest⟩
end Go.Proofs.Ytiohceelphpifaa
