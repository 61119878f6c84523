/-
  What is not finite stays so: in each difference, in the quotient.
-/
import Derived.Test.YtpaljgbhladceaaSlv
namespace Go.Proofs.Ytpaljgbhladceaa
open Fl RowKit

/-- a datum that is no number -/
def nfD (d : Ieee.Datum) : Prop := (∃ s f, d = .nan s f) ∨ ∃ s, d = .infinity s
theorem nf_read {x : Nat} (h : finB x = false) : nfD (Ieee.double.read x) := by
  rcases kinds x with k | k | k
  · exfalso
    unfold finB at h; unfold Fl.fin at k; simp at h; omega
  · exact .inr ⟨_, read_inf x k⟩
  · exact .inl ⟨_, _, read_nan x k⟩
theorem inf_fin (s : Bool) : finB (Ieee.double.write (.infinity s)) = false := by cases s <;> kernel_rfl
theorem nf_map {o : Option Ieee.Datum} (h : ∀ d, o = some d → ∃ s, d = .infinity s) : finO (o.map Ieee.double.write) = false := by
  cases o with
  | none => rfl
  | some d =>
    obtain ⟨s, rfl⟩ := h d rfl
    exact inf_fin s
theorem nf_sum {a b : Ieee.Datum} (h : nfD a ∨ nfD b) : ∀ d, a.sum b = some d → ∃ s, d = .infinity s := by
  intro d e
  rcases h with (⟨s, f, rfl⟩ | ⟨s, rfl⟩) | (⟨s, f, rfl⟩ | ⟨s, rfl⟩)
  · cases b <;> simp [Ieee.Datum.sum] at e
  · cases b with
    | nan t g => simp [Ieee.Datum.sum] at e
    | infinity t =>
      simp only [Ieee.Datum.sum] at e
      split at e
      · cases e; exact ⟨_, rfl⟩
      · cases e
    | number t m i => simp only [Ieee.Datum.sum] at e; cases e; exact ⟨_, rfl⟩
  · cases a <;> simp [Ieee.Datum.sum] at e
  · cases a with
    | nan t g => simp [Ieee.Datum.sum] at e
    | infinity t =>
      simp only [Ieee.Datum.sum] at e
      split at e
      · cases e; exact ⟨_, rfl⟩
      · cases e
    | number t m i => simp only [Ieee.Datum.sum] at e; cases e; exact ⟨_, rfl⟩
theorem nf_opp {d : Ieee.Datum} (h : nfD d) : nfD d.opposite := by
  rcases h with ⟨s, f, rfl⟩ | ⟨s, rfl⟩
  · exact .inl ⟨_, _, rfl⟩
  · exact .inr ⟨_, rfl⟩
theorem nf_sub {A B : Option Nat} (h : finO A = false ∨ finO B = false) : finO (subA A B) = false := by
  cases A with
  | none => rfl
  | some x =>
    cases B with
    | none => rfl
    | some y =>
      show finO (((Ieee.double.read x).sum (Ieee.double.read y).opposite).map Ieee.double.write) = false
      refine nf_map (nf_sum ?_)
      rcases h with h | h
      · exact .inl (nf_read h)
      · exact .inr (nf_opp (nf_read h))
theorem nf_add {A B : Option Nat} (h : finO A = false ∨ finO B = false) : finO (addA A B) = false := by
  cases A with
  | none => rfl
  | some x =>
    cases B with
    | none => rfl
    | some y =>
      show finO (((Ieee.double.read x).sum (Ieee.double.read y)).map Ieee.double.write) = false
      refine nf_map (nf_sum ?_)
      rcases h with h | h
      · exact .inl (nf_read h)
      · exact .inr (nf_read h)
theorem nf_div {A B : Option Nat} (h : finO A = false) : finO (divA A B) = false := by
  cases A with
  | none => rfl
  | some x =>
    cases B with
    | none => rfl
    | some y =>
      show finO (((Ieee.double.read x).quotient (Ieee.double.fractionBits + 2) (Ieee.double.read y)).map Ieee.double.write) = false
      refine nf_map (fun d e => ?_)
      rcases nf_read h with ⟨s, f, e1⟩ | ⟨s, e1⟩
      · rw [e1] at e
        cases hy : Ieee.double.read y <;> rw [hy] at e <;> simp [Ieee.Datum.quotient] at e
      · rw [e1] at e
        cases hy : Ieee.double.read y with
        | nan t g => rw [hy] at e; simp [Ieee.Datum.quotient] at e
        | infinity t => rw [hy] at e; simp [Ieee.Datum.quotient] at e
        | number t m i => rw [hy] at e; simp only [Ieee.Datum.quotient] at e; cases e; exact ⟨_, rfl⟩
theorem finN_no {X : Cn} (h : finN X = false) : finO X.1 = false ∨ finO X.2 = false := by
  unfold finN at h
  cases h1 : finO X.1
  · exact .inl rfl
  · rw [h1, Bool.true_and] at h; exact .inr h
theorem no_1 {X : Cn} (h : finO X.1 = false) : finN X = false := by unfold finN; rw [h, Bool.false_and]
theorem no_2 {X : Cn} (h : finO X.2 = false) : finN X = false := by unfold finN; rw [h, Bool.and_false]
theorem nf_subZ {X Y : Cn} (h : finN X = false) : finN (subZ X Y) = false := by
  rcases finN_no h with h | h
  · exact no_1 (nf_sub (.inl h))
  · exact no_2 (nf_sub (.inl h))
theorem nf_divZ {X Y : Cn} (h : finN X = false) : finN (divZ X Y) = false := by
  unfold divZ divRe divIm
  cases geA (sizA Y.1) (sizA Y.2)
  · simp only [Bool.false_eq_true, if_false]
    unfold divRe2 divIm2
    rcases finN_no h with h | h
    · exact no_2 (nf_div (nf_sub (.inr h)))
    · exact no_1 (nf_div (nf_add (.inr h)))
  · simp only [if_true]
    unfold divRe1 divIm1
    rcases finN_no h with h | h
    · exact no_1 (nf_div (nf_add (.inl h)))
    · exact no_2 (nf_div (nf_sub (.inl h)))
/-- were all finite on the way? -/
def redF (s : Cn) (E K : Nat → Cn) (ok : Bool) : Nat → Bool
  | 0 => ok
  | k + 1 => redF s E K ok k && finN (redS s E K (k + 1))
theorem redF_ok {s : Cn} {E K : Nat → Cn} {ok : Bool} (h0 : ok = true → finN s = true) : ∀ k, redF s E K ok k = (ok && finN (redS s E K k)) := by
  intro k
  induction k with
  | zero =>
    show ok = (ok && finN s)
    cases ok
    · rfl
    · rw [h0 rfl]; rfl
  | succ k ih =>
    show (redF s E K ok k && finN (redS s E K (k + 1))) = _
    rw [ih]
    cases ok
    · rfl
    · simp only [Bool.true_and]
      cases h : finN (redS s E K k)
      · have : finN (redS s E K (k + 1)) = false := nf_subZ h
        rw [this]; rfl
      · rw [Bool.true_and]

end Go.Proofs.Ytpaljgbhladceaa
