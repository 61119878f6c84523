/-
  Halves and opposites: weights of numbers that are twice others, of conjugates and opposites; what is taken of them.
-/
import Derived.Test.YtgpjlobclcbniaaXb
import Derived.Test.YtgpjlobclcbniaaTw
namespace Go.Proofs.Ytgpjlobclcbniaa
open Fl RowKit

theorem nr_rung (m : Nat) : nr m (-1074) = min (rung m) 9218868437227405312 := by
  have := nearest_eq false m 0
  rw [Nat.pow_zero, Nat.mul_one] at this
  unfold nr
  rw [show (-1074 : Int) = -1074 + ((0 : Nat) : Int) from by omega, this, word_false]
theorem nr_two {m : Nat} (h : nr (2 * m) (-1074) < 9218868437227405312) : sz (nr (2 * m) (-1074)) = 2 * sz (nr m (-1074)) ∧ nr m (-1074) < 9218868437227405312 := by
  have hm : nr m (-1074) < 9218868437227405312 := Nat.lt_of_le_of_lt (nr_mono (-1074) (by omega)) h
  have e1 : nr (2 * m) (-1074) = rung (2 * m) := by rw [nr_rung] at h ⊢; omega
  have e2 : nr m (-1074) = rung m := by rw [nr_rung] at hm ⊢; omega
  refine ⟨?_, hm⟩
  rw [e1, e2, sz_rung, sz_rung, Nat.mul_comm 2 m, show m * 2 = m * 2 ^ 1 from rfl, rn_hom, Nat.pow_one, Nat.mul_comm]
/-- the order of two answers is that they are equal -/
def eqA (A B : Option Nat) : Bool := ordA A B == some .eq
theorem eqA_of {A B : Option Nat} {x y : Nat} (hx : rep A x) (hy : rep B y) : eqB x y = eqA A B := by unfold eqB eqA; rw [ordA_of hx hy]
theorem mg_word (s : Bool) (m : Nat) : mg (Ieee.double.word s (nr m (-1074))) = nr m (-1074) := word_mg s (by have := nr_lim m (-1074); omega)
theorem add_inf1 : addO 9218868437227405312 9218868437227405312 = some 9218868437227405312 := by kernel_rfl
theorem add_inf2 : addO 18442240474082181120 18442240474082181120 = some 18442240474082181120 := by kernel_rfl
theorem twice {t x : Nat} (hx : Fl.fin x) (ht : t < 18446744073709551616) (h : eqA (addA (ans t) (ans t)) (ans x) = true) : Fl.fin t ∧ sz (mg x) = 2 * sz (mg t) := by
  have nx : nan x = false := by unfold nan; unfold Fl.fin at hx; exact decide_eq_false (by omega)
  cases hn : nan t
  · rw [ans_num hn, ans_num nx, show addA (some t) (some t) = addO t t from rfl] at h
    by_cases hf : Fl.fin t
    · refine ⟨hf, ?_⟩
      have hs := add_gen hf hf
      rw [hs] at h
      change (FloatKind.f64.format.order _ x == some .eq) = true at h
      obtain ⟨s, hse⟩ : ∃ s, s = Ieee.double.word (if val t + val t = 0 then (ng t && ng t) else decide (val t + val t < 0)) (nr (val t + val t).natAbs (-1074)) := ⟨_, rfl⟩
      have hms : mg s = nr (val t + val t).natAbs (-1074) := by rw [hse]; exact mg_word _ _
      rw [← hse] at h
      have ns : nan s = false := by unfold nan; rw [hms]; have := nr_lim (val t + val t).natAbs (-1074); exact decide_eq_false (by omega)
      rw [order_eqb ns nx] at h
      have hp := of_decide_eq_true h
      have hab : (val t + val t).natAbs = 2 * sz (mg t) := by
        have e : (val t).natAbs = sz (mg t) := by unfold val; rw [sgn_abs]
        omega
      rw [hab] at hms
      have hm : mg s = mg x := by
        have e1 : (plc s).natAbs = mg s := by unfold plc; rw [sgn_abs]
        have e2 : (plc x).natAbs = mg x := by unfold plc; rw [sgn_abs]
        rw [← e1, ← e2, hp]
      rw [hm] at hms
      have hlt : nr (2 * sz (mg t)) (-1074) < 9218868437227405312 := by rw [← hms]; exact hx
      have := (nr_two hlt).1
      rw [← hms] at this
      rw [this]
      rw [nr_sz (by unfold Fl.fin at hf; omega)]
    · exfalso
      have hi : mg t = 9218868437227405312 := by
        unfold nan at hn
        have := of_decide_eq_false hn
        unfold Fl.fin at hf
        omega
      have hr : addO t t = some t := by
        have : t = 9218868437227405312 ∨ t = 18442240474082181120 := by unfold mg at hi; omega
        rcases this with rfl | rfl
        · exact add_inf1
        · exact add_inf2
      rw [hr] at h
      change (FloatKind.f64.format.order t x == some .eq) = true at h
      rw [order_eqb hn nx] at h
      have hp := of_decide_eq_true h
      have e1 : (plc t).natAbs = mg t := by unfold plc; rw [sgn_abs]
      have e2 : (plc x).natAbs = mg x := by unfold plc; rw [sgn_abs]
      unfold Fl.fin at hx
      have : mg t = mg x := by rw [← e1, ← e2, hp]
      omega
  · exfalso
    rw [ans_nan hn] at h
    cases h
/-- x is twice h, weight and all -/
def Half (x h : Cw) : Prop := finZ x = true → finZ h = true ∧ sz (wt x) = 2 * sz (wt h)
/-- all that is asked of a half -/
def exq (x : Cw) (H : Cn) : Bool := eqA (addA H.1 H.1) (anz x).1 && eqA (addA H.2 H.2) (anz x).2
def fnq (x : Cw) : Bool := finB ((sizZ (anz x)).getD 9218868437227405312)
theorem half_of {x h : Cw} {H : Cn} (hh : repz H h) (q : exq x H = true) (f : fnq x = true) : Half x h := by
  intro hf
  have hw : wt x < 9218868437227405312 := by
    unfold fnq at f
    rw [wt_siz hf] at f
    have h1 := fin_of f
    have h2 := wt_le x
    have h3 : (some (wt x)).getD 9218868437227405312 = wt x := rfl
    rw [h3] at h1
    unfold Fl.fin at h1
    rwa [show mg (wt x) = wt x from Nat.mod_eq_of_lt (by omega)] at h1
  unfold finZ at hf
  rw [Bool.and_eq_true] at hf
  unfold exq at q
  rw [Bool.and_eq_true, ← hh.1.2, ← hh.2.2] at q
  obtain ⟨f1, e1⟩ := twice (fin_of hf.1) hh.1.1 q.1
  obtain ⟨f2, e2⟩ := twice (fin_of hf.2) hh.2.1 q.2
  refine ⟨by unfold finZ; rw [Bool.and_eq_true]; exact ⟨decide_eq_true f1, decide_eq_true f2⟩, ?_⟩
  unfold wt at hw ⊢
  rw [e1, e2, ← Nat.mul_add] at hw ⊢
  exact (nr_two hw).1
theorem half_lt {x h y k : Cw} (a : sz (wt x) = 2 * sz (wt h)) (b : sz (wt y) = 2 * sz (wt k)) : wt x < wt y ↔ wt h < wt k := by
  constructor
  · intro c
    rcases Nat.lt_or_ge (wt h) (wt k) with d | d
    · exact d
    · have := sz_mono c
      have := sz_le d
      omega
  · intro c
    rcases Nat.lt_or_ge (wt x) (wt y) with d | d
    · exact d
    · have := sz_mono c
      have := sz_le d
      omega
theorem half_0 {x h : Cw} (a : sz (wt x) = 2 * sz (wt h)) : 0 < wt x ↔ 0 < wt h := by
  constructor
  · intro c
    have := sz_pos c
    rcases Nat.eq_zero_or_pos (wt h) with d | d
    · rw [d, sz_zero] at a; omega
    · exact d
  · intro c
    have := sz_pos c
    rcases Nat.eq_zero_or_pos (wt x) with d | d
    · rw [d, sz_zero] at a; omega
    · exact d
theorem fstG_iso {f g : Nat → Nat} {n : Nat} (h : ∀ i j, i < n → j < n → (f i < f j ↔ g i < g j)) (h0 : ∀ j, j < n → (0 < f j ↔ 0 < g j)) : (fstG f n).1 = (fstG g n).1 ∧ ((fstG f n).2 = 0 ↔ (fstG g n).2 = 0) := by
  induction n with
  | zero => exact ⟨rfl, Iff.rfl⟩
  | succ n ih =>
    obtain ⟨e1, e2⟩ := ih (fun i j hi hj => h i j (by omega) (by omega)) (fun j hj => h0 j (by omega))
    have key : (fstG f n).2 < f n ↔ (fstG g n).2 < g n := by
      rcases fstG_at f n with ⟨a1, _⟩ | ⟨a1, a2, a3, _⟩
      · rw [a1, e2.1 a1]; exact h0 n (by omega)
      · rcases fstG_at g n with ⟨b1, _⟩ | ⟨_, _, b3, _⟩
        · have := e2.2 b1; omega
        · rw [← a3, ← b3, ← e1]; exact h _ _ (by omega) (by omega)
    have z := h0 n (by omega)
    unfold fstG
    by_cases c : (fstG f n).2 < f n
    · rw [if_pos c, if_pos (key.1 c)]
      refine ⟨rfl, ?_⟩
      show f n = 0 ↔ g n = 0
      omega
    · rw [if_neg c, if_neg (fun d => c (key.2 d))]
      exact ⟨e1, e2⟩
theorem finL_all {xs : List Cw} {n : Nat} (h : ∀ j, j < n → finZ (zat xs j) = true) : finL xs n = true := by
  induction n with
  | zero => rfl
  | succ n ih =>
    unfold finL
    rw [ih (fun j hj => h j (by omega)), h n (by omega)]; rfl
/-- what is taken of a list whose weights stand to each other alike -/
theorem ch_iso {xs ys : List Cw} {fr : Int} (hl : ys.length = xs.length) (h0 : chE xs fr = 0) (hf : ∀ j, fr.toNat ≤ j → j < xs.length → finZ (zat ys j) = true)
    (hi : ∀ i j, fr.toNat ≤ i → i < xs.length → fr.toNat ≤ j → j < xs.length → (wt (zat xs i) < wt (zat xs j) ↔ wt (zat ys i) < wt (zat ys j))) (hz : ∀ j, fr.toNat ≤ j → j < xs.length → (0 < wt (zat xs j) ↔ 0 < wt (zat ys j))) : chE ys fr = 0 ∧ chI ys fr = chI xs fr := by
  by_cases h1 : 64 < xs.length
  · rw [chE_3 h1] at h0; cases h0
  by_cases h2 : 0 ≤ fr ∧ fr < (xs.length : Int)
  case neg => rw [chE_2 h1 h2] at h0; cases h0
  obtain ⟨f, rfl⟩ : ∃ f : Nat, fr = f := ⟨fr.toNat, by omega⟩
  rw [Int.toNat_natCast] at hf hi hz
  have hlt : f < xs.length := by omega
  cases h3 : finL (xs.drop f) (xs.length - f)
  · rw [chE_5 h1 hlt h3] at h0; cases h0
  by_cases h4 : (hv (xs.drop f)).2 = 0
  · rw [chE_7 h1 hlt h3 h4] at h0; cases h0
  have hL : (xs.drop f).length = (ys.drop f).length := by rw [List.length_drop, List.length_drop, hl]
  obtain ⟨e1, e2⟩ := fstG_iso (f := wts (xs.drop f)) (g := wts (ys.drop f)) (n := xs.length - f) (by
    intro i j hi' hj'
    unfold wts
    rw [zat_drop, zat_drop, zat_drop, zat_drop]
    exact hi _ _ (by omega) (by omega) (by omega) (by omega)) (by
    intro j hj
    unfold wts
    rw [zat_drop, zat_drop]
    exact hz _ (by omega) (by omega))
  have v1 : hv (xs.drop f) = fstG (wts (xs.drop f)) (xs.length - f) := by unfold hv; rw [List.length_drop]
  have v2 : hv (ys.drop f) = fstG (wts (ys.drop f)) (xs.length - f) := by unfold hv; rw [List.length_drop, hl]
  rw [← v1, ← v2] at e1 e2
  have k3 : finL (ys.drop f) (ys.length - f) = true := by
    rw [hl]
    exact finL_all (fun j hj => by rw [zat_drop]; exact hf _ (by omega) (by omega))
  have r := chE_0 (xs := ys) (by omega) (by omega) k3 (fun h => h4 (e2.2 h))
  refine ⟨r, ?_⟩
  rw [chI_0 r, chI_0 h0, e1]
/-- opposites of conjugates weigh the same -/
theorem turn_wt {x t : Cw} (hx : okz x) (h1 : rep (negA (ans x.1)) t.1) (h2 : rep (negA (negA (ans x.2))) t.2) (hf : finZ x = true) : finZ t = true ∧ wt t = wt x := by
  unfold finZ at hf
  rw [Bool.and_eq_true] at hf
  have n1 := fin_nan hf.1
  have n2 := fin_nan hf.2
  rw [ans_num n1] at h1
  rw [ans_num n2] at h2
  have e1 : t.1 = ngW x.1 := rep_is h1 rfl
  have e2 : t.2 = ngW (ngW x.2) := rep_is h2 rfl
  have m1 : mg t.1 = mg x.1 := by rw [e1]; exact mg_ngW hx.1
  have m2 : mg t.2 = mg x.2 := by rw [e2, ngW_ngW hx.2]
  refine ⟨?_, by unfold wt; rw [m1, m2]⟩
  unfold finZ finB
  rw [m1, m2, Bool.and_eq_true]
  exact hf

end Go.Proofs.Ytgpjlobclcbniaa
