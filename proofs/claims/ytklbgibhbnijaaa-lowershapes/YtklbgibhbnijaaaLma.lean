/-
  A nought's sign in what is multiplied and divided; conjugates through sums, products and quotients.
-/
import Derived.Test.YtklbgibhbnijaaaLwh
import Derived.Test.YtklbgibhbnijaaaBnb
import Derived.Test.YtklbgibhbnijaaaBnd
namespace Go.Proofs.Ytklbgibhbnijaaa
open Fl RowKit

theorem eqz.symm {A B : Option Nat} (h : eqz A B) : eqz B A := by
  rcases h with rfl | ⟨x, y, rfl, rfl, h1, h2⟩
  · exact Or.inl rfl
  · exact Or.inr ⟨y, x, rfl, rfl, h2, h1⟩
theorem eqz.mul {A B : Option Nat} (h : eqz A B) (X : Option Nat) : eqz (mulA A X) (mulA B X) := by
  rcases h with rfl | ⟨x, y, rfl, rfl, h1, h2⟩
  · exact Or.inl rfl
  · cases X with
    | none => exact Or.inl rfl
    | some t =>
      show eqz (mulO x t) (mulO y t)
      unfold mulO Ieee.Format.mul
      rw [read_zero h1, read_zero h2]
      cases Ieee.double.read t with
      | nan s f => exact Or.inl rfl
      | infinity s => exact Or.inl rfl
      | number s n p =>
        refine Or.inr ⟨_, _, rfl, rfl, ?_, ?_⟩
        · show mg (Ieee.double.nearest _ (0 * n) _) = 0
          rw [Nat.zero_mul, nearest_zero, mg_word_zero]
        · show mg (Ieee.double.nearest _ (0 * n) _) = 0
          rw [Nat.zero_mul, nearest_zero, mg_word_zero]
theorem eqz.mul' {A B : Option Nat} (h : eqz A B) (X : Option Nat) : eqz (mulA X A) (mulA X B) := by rw [mulA_comm X A, mulA_comm X B]; exact h.mul X
theorem eqz.mul2 {A B C D : Option Nat} (h : eqz A B) (k : eqz C D) : eqz (mulA A C) (mulA B D) := (h.mul C).trans (k.mul' B)
theorem eqz.add2 {A B C D : Option Nat} (h : eqz A B) (k : eqz C D) : eqz (addA A C) (addA B D) := (h.add' C).trans (k.add B)
theorem eqz.sub2 {A B C D : Option Nat} (h : eqz A B) (k : eqz C D) (hC : bdA C) (hD : bdA D) : eqz (subA A C) (subA B D) := (h.sub' hC).trans (k.sub hC hD B)
theorem eqz.siz {A B : Option Nat} (h : eqz A B) : sizA A = sizA B := by
  rcases h with rfl | ⟨x, y, rfl, rfl, h1, h2⟩
  · rfl
  · show some (mg x) = some (mg y); rw [h1, h2]
theorem eqz.fin {A B : Option Nat} (h : eqz A B) : finO A = finO B := by
  rcases h with rfl | ⟨x, y, rfl, rfl, h1, h2⟩
  · rfl
  · show finB x = finB y; unfold finB; rw [h1, h2]
theorem eqz.nz {A B : Option Nat} {a : Nat} (h : eqz A B) (hA : A = some a) (hn : ¬ mg a = 0) : A = B := by
  rcases h with rfl | ⟨x, y, rfl, rfl, h1, h2⟩
  · rfl
  · cases hA; exact absurd h1 hn
theorem sig0 {x : Nat} (hn : ¬ mg x = 0) : ¬ sig (mg x) = 0 := by
  intro h
  have : sz (mg x) = 0 := by unfold sz; rw [h, Nat.zero_mul]
  exact hn (by have := sz_inj (b := 0) (by rw [this, sz_zero]); omega)
/-- a nought over what is none, and times a finite number, is a nought -/
theorem zero_over {d c : Nat} (hd : mg d = 0) (hc : Fl.fin c) (hn : ¬ mg c = 0) : ∃ r, divO d c = some r ∧ mg r = 0 := by
  refine ⟨_, div_gen (fin_zero hd) hc (sig0 hn), ?_⟩
  rw [hd]
  have : dq 0 (mg c) = 0 := by
    unfold dq
    have h0 : sig 0 = 0 := rfl
    rw [h0, Nat.zero_mul, Nat.zero_div, Nat.zero_mod]
    exact nr_zero _
  rw [this, mg_word_zero]
theorem zero_times {d r : Nat} (hd : mg d = 0) (hr : mg r = 0) : ∃ z, mulO d r = some z ∧ mg z = 0 := by
  refine ⟨_, mul_gen (fin_zero hd) (fin_zero hr), ?_⟩
  rw [hd, sz_zero, Nat.zero_mul]
  rw [show nr 0 (-2148) = 0 from nr_zero _, mg_word_zero]
/-- the quotient's divisor is the same word, whatever sign a nought has -/
theorem denom {c : Nat} {D D' : Option Nat} (hc : Fl.fin c) (hn : ¬ mg c = 0) (h : eqz D D') : addA (some c) (mulA D (divA D (some c))) = addA (some c) (mulA D' (divA D' (some c))) := by
  have e := (h.mul2 (h.div (some c))).add (some c)
  rcases h with rfl | ⟨x, y, rfl, rfl, h1, h2⟩
  · rfl
  · obtain ⟨r, hr, hr0⟩ := zero_over h1 hc hn
    obtain ⟨z, hz, hz0⟩ := zero_times h1 hr0
    obtain ⟨t, ht, hf, hv⟩ := zero_add hc hz0
    have e1 : addA (some c) (mulA (some x) (divA (some x) (some c))) = some t := by
      have q1 : divA (some x) (some c) = some r := hr
      have q2 : mulA (some x) (some r) = some z := hz
      rw [q1, q2, addA_comm]; exact ht
    refine e.nz e1 (fun h0 => ?_)
    have v0 : val t = 0 := by unfold val; rw [h0, sz_zero]; unfold sgn; split <;> rfl
    rw [v0] at hv
    have : sz (mg c) = 0 := by
      have := sgn_abs (ng c) (sz (mg c))
      unfold val at hv
      rw [← hv] at this
      exact this.symm
    exact hn (by have := sz_inj (b := 0) (by rw [this, sz_zero]); omega)

/-- equal but for noughts' signs -/
def eqZ (X Y : Cn) : Prop := eqz X.1 Y.1 ∧ eqz X.2 Y.2
theorem eqZ.trans {X Y Z : Cn} (h : eqZ X Y) (k : eqZ Y Z) : eqZ X Z := ⟨h.1.trans k.1, h.2.trans k.2⟩
theorem eqZ.fin {X Y : Cn} (h : eqZ X Y) : finN X = finN Y := by unfold finN; rw [h.1.fin, h.2.fin]
def bdZ (X : Cn) : Prop := bdA X.1 ∧ bdA X.2
theorem bd_mulZ (X Y : Cn) : bdZ (mulZ X Y) := ⟨bd_subA _ _, bd_addA _ _⟩
theorem bd_divZ (X Y : Cn) : bdZ (divZ X Y) := ⟨bd_divRe _ _ _ _, bd_divIm _ _ _ _⟩
theorem bd_con {X : Cn} (h : bdZ X) : bdZ (conZ X) := ⟨h.1, bd_negA h.2⟩
theorem eqZ.mul {X X' Y Y' : Cn} (h : eqZ X X') (k : eqZ Y Y') : eqZ (mulZ X Y) (mulZ X' Y') :=
  ⟨(h.1.mul2 k.1).sub2 (h.2.mul2 k.2) (bd_mulA _ _) (bd_mulA _ _), (h.1.mul2 k.2).add2 (h.2.mul2 k.1)⟩
theorem eqZ.sub {X X' Y Y' : Cn} (h : eqZ X X') (k : eqZ Y Y') (hY : bdZ Y) (hY' : bdZ Y') : eqZ (subZ X Y) (subZ X' Y') :=
  ⟨h.1.sub2 k.1 hY.1 hY'.1, h.2.sub2 k.2 hY.2 hY'.2⟩
theorem geA_no {C D : Option Nat} {c d : Nat} (hC : C = some c) (hD : D = some d) (hc : nan c = false) (hd : nan d = false) (h : geA (sizA C) (sizA D) = true) : mg d ≤ mg c := by
  subst hC hD
  have h1 : ordA (sizA (some c)) (sizA (some d)) = Ieee.double.order (mg c) (mg d) := rfl
  unfold geA at h
  rw [h1, order_eq, nan_mg, nan_mg, hc, hd, plc_mg, plc_mg] at h
  simp only [Bool.or_self, Bool.false_eq_true, if_false] at h
  by_cases e : mg d ≤ mg c
  · exact e
  · have : compare (mg c : Int) (mg d : Int) = .lt := Int.compare_eq_lt.2 (by omega)
    rw [this] at h
    simp at h
theorem geA_yes {C D : Option Nat} {c d : Nat} (hC : C = some c) (hD : D = some d) (hc : nan c = false) (hd : nan d = false) (h : geA (sizA C) (sizA D) = false) : mg c < mg d := by
  subst hC hD
  have h1 : ordA (sizA (some c)) (sizA (some d)) = Ieee.double.order (mg c) (mg d) := rfl
  unfold geA at h
  rw [h1, order_eq, nan_mg, nan_mg, hc, hd, plc_mg, plc_mg] at h
  simp only [Bool.or_self, Bool.false_eq_true, if_false] at h
  by_cases e : mg c < mg d
  · exact e
  · rcases Nat.lt_or_ge (mg d) (mg c) with h2 | h2
    · have : compare (mg c : Int) (mg d : Int) = .gt := Int.compare_eq_gt.2 (by omega)
      rw [this] at h
      simp at h
    · have : compare (mg c : Int) (mg d : Int) = .eq := Int.compare_eq_eq.2 (by omega)
      rw [this] at h
      simp at h
/-- a quotient by what is not nought -/
theorem eqZ.div {X X' Y Y' : Cn} {c d : Nat} (h : eqZ X X') (k : eqZ Y Y') (hX : bdZ X) (hX' : bdZ X') (h1 : Y.1 = some c) (h2 : Y.2 = some d) (hc : Fl.fin c) (hd : Fl.fin d) (hn : ¬ (mg c = 0 ∧ mg d = 0)) : eqZ (divZ X Y) (divZ X' Y') := by
  have nc : nan c = false := by unfold nan; unfold Fl.fin at hc; exact decide_eq_false (by omega)
  have nd : nan d = false := by unfold nan; unfold Fl.fin at hd; exact decide_eq_false (by omega)
  have hs : geA (sizA Y.1) (sizA Y.2) = geA (sizA Y'.1) (sizA Y'.2) := by rw [k.1.siz, k.2.siz]
  unfold divZ divRe divIm
  rw [← hs]
  cases hg : geA (sizA Y.1) (sizA Y.2)
  · have hlt := geA_yes h1 h2 nc nd hg
    have hd0 : ¬ mg d = 0 := by omega
    have e2 : Y.2 = Y'.2 := k.2.nz h2 hd0
    have kr : eqz (divA Y.1 Y.2) (divA Y'.1 Y'.2) := by rw [← e2]; exact k.1.div _
    have dn : addA (mulA Y.1 (divA Y.1 Y.2)) Y.2 = addA (mulA Y'.1 (divA Y'.1 Y'.2)) Y'.2 := by
      rw [← e2, addA_comm, addA_comm (mulA Y'.1 _), h2]
      exact denom hd hd0 k.1
    simp only [Bool.false_eq_true, if_false]
    unfold divRe2 divIm2
    rw [dn]
    exact ⟨(((h.1.mul2 kr).add2 h.2).div _), (((h.2.mul2 kr).sub2 h.1 hX.1 hX'.1).div _)⟩
  · have hle := geA_no h1 h2 nc nd hg
    have hc0 : ¬ mg c = 0 := fun e => hn ⟨e, by omega⟩
    have e1 : Y.1 = Y'.1 := k.1.nz h1 hc0
    have kr : eqz (divA Y.2 Y.1) (divA Y'.2 Y'.1) := by rw [← e1]; exact k.2.div _
    have dn : addA Y.1 (mulA Y.2 (divA Y.2 Y.1)) = addA Y'.1 (mulA Y'.2 (divA Y'.2 Y'.1)) := by
      rw [← e1, h1]
      exact denom hc hc0 k.2
    simp only [if_true]
    unfold divRe1 divIm1
    rw [dn]
    exact ⟨((h.1.add2 (h.2.mul2 kr)).div _), ((h.2.sub2 (h.1.mul2 kr) (bd_mulA _ _) (bd_mulA _ _)).div _)⟩
theorem con_mul {X Y : Cn} (h1 : bdZ X) (h2 : bdZ Y) : eqZ (mulZ (conZ X) (conZ Y)) (conZ (mulZ X Y)) := ⟨Or.inl (mulRe_conj h1.2 h2.2), mulIm_conj h1.2 h2.2⟩
theorem con_sub {X Y : Cn} (h1 : bdZ X) (h2 : bdZ Y) : eqZ (subZ (conZ X) (conZ Y)) (conZ (subZ X Y)) := ⟨Or.inl rfl, subA_ng h1.2 h2.2⟩
theorem con_div {X Y : Cn} (h1 : bdZ X) (h2 : bdZ Y) : eqZ (divZ (conZ X) (conZ Y)) (conZ (divZ X Y)) := ⟨divRe_conj h1.2 h2.2, divIm_conj h1.2 h2.2⟩
theorem eqZ.con {X Y : Cn} (h : eqZ X Y) (hX : bdZ X) (hY : bdZ Y) : eqZ (conZ X) (conZ Y) := ⟨h.1, h.2.neg hX.2 hY.2⟩
theorem fin_negA {A : Option Nat} (h : bdA A) : finO (negA A) = finO A := by
  cases A with
  | none => rfl
  | some x => show finB (ngW x) = finB x; unfold finB; rw [mg_ngW (h x rfl).1]
theorem fin_con {X : Cn} (h : bdZ X) : finN (conZ X) = finN X := by unfold finN conZ; rw [fin_negA h.2]
theorem bd_anz {z : Cw} (h : okz z) : bdZ (anz z) := ⟨(rep_ans h.1).bd, (rep_ans h.2).bd⟩
/-- of two rows and their conjugates: what becomes of them -/
theorem redZ_con {a p a' p' : Nat → Cw} {k j : Nat} (oa : okz (a j)) (oak : okz (a k)) (opk : okz (p k)) (opj : okz (p j)) (oak' : okz (a' k))
    (ea : eqZ (anz (a' j)) (conZ (anz (a j)))) (eak : eqZ (anz (a' k)) (conZ (anz (a k)))) (epk : eqZ (anz (p' k)) (conZ (anz (p k)))) (epj : eqZ (anz (p' j)) (conZ (anz (p j)))) (fp : finZ (p' k) = true) (np : ¬ wt (p' k) = 0) :
    eqZ (redZ a' p' k j) (conZ (redZ a p k j)) := by
  have hf : finB (p' k).1 = true ∧ finB (p' k).2 = true := by unfold finZ at fp; rwa [Bool.and_eq_true] at fp
  have D : eqZ (divZ (anz (a' k)) (anz (p' k))) (conZ (divZ (anz (a k)) (anz (p k)))) := by
    refine (eak.div epk (bd_anz oak') (bd_con (bd_anz oak)) (ans_num (fin_nan hf.1)) (ans_num (fin_nan hf.2)) (fin_of hf.1) (fin_of hf.2) (fun h => np (wt_z h.1 h.2))).trans (con_div (bd_anz oak) (bd_anz opk))
  unfold redZ
  by_cases h1 : j < k
  · rw [if_pos h1, if_pos h1]; exact ea
  · rw [if_neg h1, if_neg h1]
    by_cases h2 : j = k
    · rw [if_pos h2, if_pos h2]; exact D
    · rw [if_neg h2, if_neg h2]
      have m1 := (D.mul epj).trans (con_mul (bd_divZ (anz (a k)) (anz (p k))) (bd_anz opj))
      exact (ea.sub m1 (bd_mulZ _ _) (bd_con (bd_mulZ _ _))).trans (con_sub (bd_anz oa) (bd_mulZ _ _))

end Go.Proofs.Ytklbgibhbnijaaa
