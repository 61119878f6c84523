/-
  What follows for sums and norms of lists: the conjugate the other way round, norms of conjugates, the greatest is at most the sum; nothing of any program's text.
-/
import Derived.Test.YtgpjlobclcbniaaVk
import Derived.Test.YtgpjlobclcbniaaMono
namespace Go.Proofs.Ytgpjlobclcbniaa
open Fl RowKit

theorem sumZ_congr {f g : Nat → Cn} {n : Nat} (h : ∀ j, j < n → f j = g j) : sumZ f n = sumZ g n := by
  induction n with
  | zero => rfl
  | succ n ih =>
    show addZ (sumZ f n) (f n) = addZ (sumZ g n) (g n)
    rw [ih (fun j hj => h j (by omega)), h n (by omega)]
theorem bd_ans {x : Nat} (h : x < 18446744073709551616) : bdA (ans x) := (rep_ans h).bd
theorem inn_re (X Y : Cn) (h1 : bdA X.2) (h2 : bdA Y.2) : (innZ X Y).1 = (innZ Y X).1 := by
  show subA (mulA X.1 Y.1) (mulA (negA X.2) Y.2) = subA (mulA Y.1 X.1) (mulA (negA Y.2) X.2)
  rw [mulA_ng h1, mulA_ng h2, mulA_comm X.1, mulA_comm X.2]
theorem inn_im (X Y : Cn) (h1 : bdA X.2) (h2 : bdA Y.2) : eqz (innZ Y X).2 (negA (innZ X Y).2) := by
  show eqz (addA (mulA Y.1 X.2) (mulA (negA Y.2) X.1)) (negA (addA (mulA X.1 Y.2) (mulA (negA X.2) Y.1)))
  rw [mulA_ng h1, mulA_ng h2, mulA_comm Y.1 X.2, mulA_comm Y.2 X.1, addA_comm (mulA X.2 Y.1)]
  have k := addA_ng (A := mulA X.1 Y.2) (B := negA (mulA X.2 Y.1)) (bd_mulA _ _) (bd_negA (bd_mulA _ _))
  rw [negA_negA (bd_mulA _ _)] at k
  exact k
theorem sum_bd (f : Nat → Cn) (n : Nat) : bdA (sumZ f n).1 ∧ bdA (sumZ f n).2 := by
  cases n with
  | zero => exact ⟨bd_0, bd_0⟩
  | succ n => exact ⟨bd_addA _ _, bd_addA _ _⟩
theorem bd_innZ (X Y : Cn) : bdA (innZ X Y).2 := bd_addA _ _
theorem inner_back {xs ys : List Cw} (hx : okl xs) (hy : okl ys) (n : Nat) :
    (sumZ (dotF innZ ys xs) n).1 = (sumZ (dotF innZ xs ys) n).1 ∧ eqz (sumZ (dotF innZ ys xs) n).2 (negA (sumZ (dotF innZ xs ys) n).2) := by
  induction n with
  | zero => exact ⟨rfl, zero_eqz⟩
  | succ n ih =>
    have b1 := bd_ans (hx n).2
    have b2 := bd_ans (hy n).2
    constructor
    · show addA (sumZ (dotF innZ ys xs) n).1 (dotF innZ ys xs n).1 = addA (sumZ (dotF innZ xs ys) n).1 (dotF innZ xs ys n).1
      rw [ih.1]
      unfold dotF
      rw [inn_re (anz (zat ys n)) (anz (zat xs n)) b2 b1]
    · show eqz (addA (sumZ (dotF innZ ys xs) n).2 (dotF innZ ys xs n).2) (negA (addA (sumZ (dotF innZ xs ys) n).2 (dotF innZ xs ys n).2))
      have e1 : eqz (dotF innZ ys xs n).2 (negA (dotF innZ xs ys n).2) := inn_im _ _ b1 b2
      exact (ih.2.add' _).trans ((e1.add _).trans (addA_ng (sum_bd _ n).2 (bd_innZ _ _)))
theorem negF {b : Nat} (h : b < 18446744073709551616) : Op.negFloat .f64 b = ngW b := by
  unfold ngW
  split
  · exact neg_of_pos ‹_›
  · exact neg_of_neg (by omega) h
theorem fin_of {x : Nat} (h : finB x = true) : fin x := of_decide_eq_true (p := mg x < 9218868437227405312) h
theorem conj_back {xs ys : List Cw} {n : Nat} {s t : Cw} (hx : okl xs) (hy : okl ys) (hs : repz (sumZ (dotF innZ xs ys) n) s) (ht : repz (sumZ (dotF innZ ys xs) n) t) (hf : finB s.1 = true ∧ finB s.2 = true) :
    FloatKind.f64.format.order s.1 t.1 = some .eq ∧ FloatKind.f64.format.order (Op.negFloat .f64 s.2) t.2 = some .eq := by
  obtain ⟨e1, e2⟩ := inner_back hx hy n
  have n1 : nan s.1 = false := fin_not_nan (fin_of hf.1)
  have n2 : nan s.2 = false := fin_not_nan (fin_of hf.2)
  constructor
  · refine (eqz.refl _).order hs.1 (by rw [← e1]; exact ht.1) n1
  · rw [negF hs.2.1]
    refine eqz.order (A := negA (sumZ (dotF innZ xs ys) n).2) (B := (sumZ (dotF innZ ys xs) n).2) ?_ (rep_ng hs.2) ht.2 (by rw [nan_ngW hs.2.1]; exact n2)
    rcases e2 with h | ⟨x, y, h1, h2, h3, h4⟩
    · exact Or.inl h.symm
    · exact Or.inr ⟨y, x, h2, h1, h4, h3⟩
theorem dot_conj {xs ys zs : List Cw} {n : Nat} (h : repl (fun j => conZ (anz (zat xs j))) n zs) : sumZ (dotF mulZ zs ys) n = sumZ (dotF innZ xs ys) n := by
  refine sumZ_congr fun j hj => ?_
  unfold dotF innZ
  rw [h.anz hj]
theorem siz_conj {xs zs : List Cw} {n j : Nat} (hx : okl xs) (h : repl (fun j => conZ (anz (zat xs j))) n zs) (hj : j < n) : sizZ (anz (zat zs j)) = sizZ (anz (zat xs j)) := by
  rw [h.anz hj]
  show addA (sizA (ans (zat xs j).1)) (sizA (negA (ans (zat xs j).2))) = _
  rw [sizA_ng (bd_ans (hx j).2)]; rfl
theorem nrm_conj {xs zs : List Cw} {n : Nat} (hx : okl xs) (h : repl (fun j => conZ (anz (zat xs j))) n zs) : ∀ k, k ≤ n → nrm zs k = nrm xs k := by
  intro k
  induction k with
  | zero => intro _; rfl
  | succ k ih =>
    intro hk
    show addA (nrm zs k) (sizZ (anz (zat zs k))) = addA (nrm xs k) (sizZ (anz (zat xs k)))
    rw [ih (by omega), siz_conj hx h (by omega)]
theorem nmx_conj {xs zs : List Cw} {n : Nat} (hx : okl xs) (h : repl (fun j => conZ (anz (zat xs j))) n zs) : ∀ k, k ≤ n → nmx zs k = nmx xs k := by
  intro k
  induction k with
  | zero => intro _; rfl
  | succ k ih =>
    intro hk
    unfold nmx
    rw [ih (by omega), siz_conj hx h (by omega)]
/-- a sum of words that are not below nought is at least each of them -/
theorem add_ge {x y r : Nat} (hx : x ≤ 9218868437227405312) (hy : y ≤ 9218868437227405312) (h : addO x y = some r) : x ≤ r ∧ y ≤ r ∧ r ≤ 9218868437227405312 := by
  by_cases h1 : x < 9218868437227405312
  · by_cases h2 : y < 9218868437227405312
    · rw [add_pos h1 h2] at h
      cases h
      have k1 := nr_mono (-1074) (show sz x ≤ sz x + sz y by omega)
      have k2 := nr_mono (-1074) (show sz y ≤ sz x + sz y by omega)
      rw [nr_sz hx] at k1
      rw [nr_sz hy] at k2
      exact ⟨k1, k2, nr_lim _ _⟩
    · have e : y = 9218868437227405312 := by omega
      subst e
      have hr : addO x 9218868437227405312 = some 9218868437227405312 := by
        unfold addO Ieee.Format.add
        rw [read_fin x (by unfold Fl.fin mg; omega), show Ieee.double.read 9218868437227405312 = .infinity false from by kernel_rfl]
        rfl
      rw [hr] at h; cases h
      omega
  · have e : x = 9218868437227405312 := by omega
    subst e
    by_cases h2 : y < 9218868437227405312
    · have hr : addO 9218868437227405312 y = some 9218868437227405312 := by
        unfold addO Ieee.Format.add
        rw [read_fin y (by unfold Fl.fin mg; omega), show Ieee.double.read 9218868437227405312 = .infinity false from by kernel_rfl]
        rfl
      rw [hr] at h; cases h
      omega
    · have e : y = 9218868437227405312 := by omega
      subst e
      have hr : addO 9218868437227405312 9218868437227405312 = some 9218868437227405312 := by kernel_rfl
      rw [hr] at h; cases h
      omega
theorem siz_le {X : Option Nat} {x : Nat} (hX : bdA X) (h : sizA X = some x) : x ≤ 9218868437227405312 := by
  cases X with
  | none => cases h
  | some y =>
    cases h
    have := (hX y rfl).2
    unfold nan at this
    have := of_decide_eq_false this
    omega
theorem size_le {z : Cw} {s : Nat} (hz : okz z) (h : sizZ (anz z) = some s) : s ≤ 9218868437227405312 := by
  unfold sizZ addA at h
  cases h1 : sizA (anz z).1 with
  | none => rw [h1] at h; cases h
  | some a =>
    cases h2 : sizA (anz z).2 with
    | none => rw [h1, h2] at h; cases h
    | some b =>
      rw [h1, h2] at h
      exact (add_ge (siz_le (bd_ans hz.1) h1) (siz_le (bd_ans hz.2) h2) h).2.2
theorem most_le {xs : List Cw} (hx : okl xs) (n : Nat) : ∀ s, nrm xs n = some s → nmx xs n ≤ s ∧ s ≤ 9218868437227405312 := by
  induction n with
  | zero => intro s h; cases h; exact ⟨Nat.le_refl _, by decide⟩
  | succ n ih =>
    intro s h
    have h' : addA (nrm xs n) (sizZ (anz (zat xs n))) = some s := h
    cases h1 : nrm xs n with
    | none => rw [h1] at h'; cases h'
    | some a =>
      cases h2 : sizZ (anz (zat xs n)) with
      | none => rw [h1, h2] at h'; cases h'
      | some b =>
        rw [h1, h2] at h'
        obtain ⟨i1, i2⟩ := ih a h1
        obtain ⟨g1, g2, g3⟩ := add_ge i2 (size_le (hx n) h2) h'
        refine ⟨?_, g3⟩
        show (if ordA (sizZ (anz (zat xs n))) (some (nmx xs n)) == some .gt then (sizZ (anz (zat xs n))).getD 0 else nmx xs n) ≤ s
        rw [h2]
        split
        · exact g2
        · omega
theorem most_ord {xs : List Cw} (hx : okl xs) {n s : Nat} (hs : rep (nrm xs n) s) (hn : nan s = false) : (FloatKind.f64.format.order (nmx xs n) s == some .gt) = false := by
  have h1 : nrm xs n = some s := by rw [← hs.2, ans_num hn]
  obtain ⟨h2, h3⟩ := most_le hx n s h1
  have p1 : plc (nmx xs n) = nmx xs n := by have := plc_mg (nmx xs n); rwa [show mg (nmx xs n) = nmx xs n from Nat.mod_eq_of_lt (by omega)] at this
  have p2 : plc s = s := by have := plc_mg s; rwa [show mg s = s from Nat.mod_eq_of_lt (by omega)] at this
  rw [f64_double, order_eq, (nmx_ok xs n).2, hn, p1, p2]
  have : ¬ compare (nmx xs n : Int) (s : Int) = .gt := by rw [Int.compare_eq_gt]; omega
  simp only [Bool.or_self, Bool.false_eq_true, if_false]
  cases h : compare (nmx xs n : Int) (s : Int)
  · rfl
  · rfl
  · exact absurd h this

end Go.Proofs.Ytgpjlobclcbniaa
