/-
  The right side, by list: where each kind's number goes, and what is refused.
-/
import Derived.Test.YtmhplaanpbpndaaSrc
import Derived.Test.YtmhplaanpbpndaaPnt
import Derived.Test.YtmhplaanpbpndaaSrm
namespace Go.Proofs.Ytmhplaanpbpndaa
open Fl RowKit
set_option linter.unusedVariables false

/-- how many entries an element has -/
def eM (x : Elm) : Nat := if x.k = 4 then 2 else if x.k = 5 then 1 else 0
/-- where the j-th goes -/
def eI (N : Ns) (x : Elm) (j : Nat) : Int := if x.k = 4 then (if j = 0 then plI N x.a else plI N x.b) else rwI N x
/-- what it becomes there -/
def eO (x : Elm) (j : Nat) : Cn → Cn → Cn := if x.k = 4 then (if j = 0 then subZ else addZ) else fun _ y => y
/-- the numbers behind j entries -/
def rJ (N : Ns) (x : Elm) (Y : Cn) (R : Nat → Cn) : Nat → Nat → Cn
  | 0 => R
  | j + 1 => rput (eO x j) (eI N x j) Y (rJ N x Y R j)
/-- how many entries go well -/
def rG (N : Ns) (x : Elm) (Y : Cn) (R : Nat → Cn) (j : Nat) : Bool := rfin (eO x j) (eI N x j) Y (rJ N x Y R j)
/-- do all go well? -/
def rok (N : Ns) (x : Elm) (Y : Cn) (R : Nat → Cn) : Bool := decide (∀ j, j < eM x → rG N x Y R j = true)
/-- the fault, and the numbers -/
def rgL (N : Ns) : List Elm → (Nat → Cn) → Nat → (Int × Int) × (Nat → Cn)
  | [], R, _ => ((0, 0), R)
  | x :: l, R, i => if rok N x (phC x) R = true then rgL N l (rJ N x (phC x) R (eM x)) (i + 1) else ((6, (i : Int)), R)
theorem rgL_step {N : Ns} {l : List Elm} {i : Nat} {x : Elm} (hx : l[i]? = some x) (R : Nat → Cn) : rgL N (l.drop i) R i = if rok N x (phC x) R = true then rgL N (l.drop (i + 1)) (rJ N x (phC x) R (eM x)) (i + 1) else ((6, (i : Int)), R) := by
  obtain ⟨h1, h2⟩ := List.getElem?_eq_some_iff.1 hx
  rw [List.drop_eq_getElem_cons h1, h2]
  rfl
theorem rgL_end {N : Ns} {l : List Elm} {i : Nat} (h : l.length ≤ i) (R : Nat → Cn) : rgL N (l.drop i) R i = ((0, 0), R) := by
  rw [List.drop_eq_nil_of_le h]; rfl
theorem rok_yes {N : Ns} {x : Elm} {Y : Cn} {R : Nat → Cn} (h : ∀ j, j < eM x → rG N x Y R j = true) : rok N x Y R = true := decide_eq_true h
theorem rok_no {N : Ns} {x : Elm} {Y : Cn} {R : Nat → Cn} {j : Nat} (hj : j < eM x) (h : rG N x Y R j = false) : rok N x Y R = false := decide_eq_false (fun k => by have := k j hj; rw [h] at this; exact absurd this (by decide))
theorem eM_le (x : Elm) : eM x ≤ 2 := by
  unfold eM
  split
  · omega
  · split <;> omega
theorem eI_lo (N : Ns) (x : Elm) (j : Nat) : -1 ≤ eI N x j := by
  unfold eI
  split
  · split <;> exact plI_lo _ _
  · exact rwI_lo _ _
theorem eI_hi {N : Ns} {x : Elm} {j : Nat} (hj : j < eM x) (hb : x.k = 5 → bl x.n ∈ N.br) : eI N x j < (N.nd.length + N.br.length : Nat) := by
  unfold eM at hj
  unfold eI
  by_cases k4 : x.k = 4
  · rw [if_pos k4]
    have h1 := @plI_hi N x.a
    have h2 := @plI_hi N x.b
    split <;> omega
  · rw [if_neg k4] at hj ⊢
    by_cases k5 : x.k = 5
    · have := posL_lt (hb k5)
      unfold rwI
      omega
    · rw [if_neg k5] at hj; omega
end Go.Proofs.Ytmhplaanpbpndaa
