/-
  What an account's sum of package refine hands back: the terms' sum, with all that rounding took off.
-/
import Derived.Test.YtiohceelphpifaaRfb
namespace Go.Proofs.Ytiohceelphpifaa
open Fl RowKit

/-- sums and errors of answers -/
def sumA (l : List (Option Nat)) : Option Nat := l.foldl addA (some 0)
def errsA (l : List (Option Nat)) : List (Option Nat) := (List.range l.length).map fun k => tsE (sumA (l.take k)) (l.getD k none)
def partA (T L : List (Option Nat)) : Option Nat := addA (sumA T) (sumA (errsA T ++ L))
theorem sumO_map (l : List Nat) : sumO l = sumA (l.map ans) := by unfold sumO sumA; rw [List.foldl_map]
theorem errO_map (l : List Nat) {k : Nat} (h : k < l.length) : errO l k = tsE (sumA ((l.map ans).take k)) ((l.map ans).getD k none) := by
  unfold errO
  rw [sumO_map, List.map_take]
  congr 1
  simp [List.getD_eq_getElem?_getD, h]
theorem errs_map {es l : List Nat} (hl : es.length = l.length) (he : ∀ j, j < l.length → rep (errO l j) (es.getD j 0)) : es.map ans = errsA (l.map ans) := by
  apply List.ext_getElem?
  intro i
  unfold errsA
  simp only [List.length_map, List.getElem?_map]
  by_cases h : i < l.length
  · have := (he i h).2
    rw [errO_map l h] at this
    rw [List.getElem?_range h]
    simp only [Option.map_some]
    rw [List.getElem?_eq_getElem (by omega)]
    simp only [Option.map_some]
    rw [← this]
    simp [List.getD_eq_getElem?_getD, hl, h]
  · rw [List.getElem?_eq_none (by omega), List.getElem?_eq_none (by simp; omega)]; rfl
theorem own_rdN {w : World} {b g c n : Nat} {xs : List Nat} (hn : xs.length = n) (h : w.ownsRow b 48 1 (.slice (some ⟨g, 0, none⟩) n c) n (xs.map (Value.float .f64))) : Rd w (some ⟨g, 0, none⟩) xs := by
  intro k hk
  refine ⟨g, 0, rfl, (own_lt h).2, ?_⟩
  rw [Nat.zero_add, h.cellAt k (by omega), List.getElem?_map]
  simp [List.getD_eq_getElem?_getD, hk]
theorem sumErr_n (ao : Option Addr) (cap n : Nat) (xs : List Nat) (w : World) (hn : xs.length = n) (hsz : n * 8 ≤ 140737488355328) (hc : Rd w ao xs) (hx : ∀ k, xs.getD k 0 < 18446744073709551616) :
    Calls Try.prog 84 #[.slice ao n cap] w fun e w' => ∃ (s : Nat) (es : List Nat), e = .returned (.tuple #[.float .f64 s, .slice (some ⟨w.heap.size, 0, none⟩) n n]) ∧ rep (sumO xs) s ∧ es.length = n ∧ es.map ans = errsA (xs.map ans) ∧ (∀ j, es.getD j 0 < 18446744073709551616) ∧ w'.ownsRow w.heap.size 48 1 (.slice (some ⟨w.heap.size, 0, none⟩) n n) n (es.map (Value.float .f64)) ∧ Below w.heap.size w w' := by
  subst hn
  refine (sumErr_any ao cap xs w hsz hc hx).mono ?_
  rintro e w' ⟨s, es, rfl, h1, h2, h3, h4, h5⟩
  rw [List.take_length] at h1
  refine ⟨s, es, rfl, h1, h2, errs_map h2 h3, ?_, h4, h5⟩
  intro j
  by_cases h : j < xs.length
  · exact (h3 j h).1
  · rw [List.getD_eq_getElem?_getD, List.getElem?_eq_none (by omega)]; simp
theorem sum_n (ao : Option Addr) (cap n : Nat) (xs : List Nat) (w : World) (hn : xs.length = n) (hsz : n * 8 ≤ 140737488355328) (hc : Rd w ao xs) (hx : ∀ k, xs.getD k 0 < 18446744073709551616) :
    Calls Try.prog 85 #[.slice ao n cap] w fun e w' => ∃ s m, e = .returned (.float .f64 s) ∧ rep (sumO xs) s ∧ w' = w.drewN m := by
  subst hn
  exact sum_any ao cap xs w hsz hc hx
theorem getD_append_lt {xs ys : List Nat} (h : ∀ k, xs.getD k 0 < 18446744073709551616) (h2 : ∀ k, ys.getD k 0 < 18446744073709551616) (k : Nat) : (xs ++ ys).getD k 0 < 18446744073709551616 := by
  rw [List.getD_eq_getElem?_getD, List.getElem?_append]
  split
  · rw [← List.getD_eq_getElem?_getD]; exact h k
  · rw [← List.getD_eq_getElem?_getD]; exact h2 _
set_option maxHeartbeats 4000000 in
theorem accsum_any (b p gt ct gl cl nT nL : Nat) (T L : List Nat) (w : World) (hA : Acc b p gt ct gl cl T L w) (hT : T.length = nT) (hL : L.length = nL) (h0 : 0 < nT) (h1 : nT ≤ 1000000) (h2 : nL ≤ 1000000)
    (oT : ∀ k, T.getD k 0 < 18446744073709551616) (oL : ∀ k, L.getD k 0 < 18446744073709551616) :
    Calls Try.prog 59 #[.pointer (some ⟨p, 0, none⟩)] w fun e w' => ∃ r, e = .returned (.float .f64 r) ∧ rep (partA (T.map ans) (L.map ans)) r ∧ Below w.heap.size w w' := by
  obtain ⟨i0, hi, hz0, hz1, hz2⟩ := info_parts Try.infoF
  have c0 := hA.c0
  have c1 := hA.c1
  have lt := hA.lt
  have ot := hA.ot
  have ol := hA.ol
  rw [hT] at c0 ot
  rw [hL] at c1 ol
  have HT := hid_o hT
  have HL := hid_o hL
  have HOT := hid_o oT
  have HOL := hid_o oL
  have Hot := hid_o ot
  have Hol := hid_o ol
  clear hA hT hL oT oL ot ol
  go_enter Try.func59, Try.ntmps59
  go_wp2_with (first
    | (go_at_call 84; refine (sumErr_n _ ct nT T _ HT.out (by omega) (own_rdN HT.out Hot.out) HOT.out).mono ?_; rintro e w1 ⟨s, es, rfl, hs, le, me, oe, own1, B1⟩; have q1 := (B1.cell (p := ⟨p, 1, none⟩) lt).trans c1; have HS := hid_o hs; have HLE := hid_o le; have HME := hid_o me; have HOE := hid_o oe; have HO1 := hid_o own1; have HB1 := hid_o B1; have ll1 := B1.size; have lw := (own_lt own1).2; clear hs le me oe own1 B1)
    | (at_builtin; refine wpList_append_own _ rfl _ _ 103 rfl w.heap.size 48 i0 (.float .f64 0) 1 8 Try.underlying103 hi hz0 hz1 hz2 rfl (by decide) _ _ _ rfl HO1.out ⟨gl, 0, none⟩ nL cl (L.map (Value.float .f64)) rfl ?c0 ?c1 ?c2 ?c3 ?c4 ?c5 ?_)
    | (go_at_call 85; refine (sum_n _ k2 (nT + nL) (es ++ L) _ (by rw [List.length_append, HLE.out, HL.out]) (by omega) (own_rdN (by rw [List.length_append, HLE.out, HL.out]) HO2.out) (getD_append_lt HOE.out HOL.out)).mono ?_; rintro e w3 ⟨f, m, rfl, hf, rfl⟩; have HF := hid_o hf; clear hf))
  case c0 => rw [List.length_map, HL.out]; simp
  case c1 =>
    intro j u hj
    have own' := own_below Hol.out HB1.out
    have hj2 : j < nL := by
      have := (List.getElem?_eq_some_iff.1 hj).1
      rw [List.length_map, HL.out] at this; exact this
    have := own'.cellAt j (by omega)
    simp only [Addr.add, Nat.zero_add]
    split
    · rename_i e; subst e; rw [this]; exact hj
    · rw [this]; exact hj
  case c2 => intro u hu; rw [List.mem_map] at hu; obtain ⟨t, _, rfl⟩ := hu; rfl
  case c3 => unfold maxLen; omega
  case c4 => omega
  case c5 => omega
  · intro v' w2 own2 grow2 _
    obtain ⟨g2, k2, rfl, hg2, hl2⟩ := own2.form (by omega)
    have B2 : Below w.heap.size w w2 := HB1.out.grown grow2 ll1 (fun k hk => by have := Option.some.inj hk; simp at this; omega)
    have HB2 := hid_o B2
    rw [← List.map_append] at own2
    have HO2 := hid_o own2
    clear B2 own2 grow2 hg2 hl2
    go_wp2_with (go_at_call 85; refine (sum_n _ k2 (nT + nL) (es ++ L) _ (by rw [List.length_append, HLE.out, HL.out]) (by omega) (own_rdN (by rw [List.length_append, HLE.out, HL.out]) HO2.out) (getD_append_lt HOE.out HOL.out)).mono ?_; rintro e w3 ⟨f, m, rfl, hf, rfl⟩; have HF := hid_o hf; clear hf)
    go_ret
    refine ⟨_, rfl, ?_, below_drewN HB2.out _⟩
    have := rep_add HS.out HF.out (w2.drewN m)
    rw [sumO_map, sumO_map, List.map_append, HME.out] at this
    exact this
end Go.Proofs.Ytiohceelphpifaa
