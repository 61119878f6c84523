/-
  Several texts in one: Srp Srq.
-/
import Derived.Test.YtmpkcioeodlbcaaGreatDoorK39
import Derived.Test.YtmpkcioeodlbcaaGreatDoorK27
import Derived.Test.YtmpkcioeodlbcaaGreatDoorK36
import Derived.Test.YtmpkcioeodlbcaaGreatDoorK37
namespace Go.Proofs.YtmpkcioeodlbcaaGreatDoor
open Fl RowKit
set_option linter.unusedVariables false
/-- how many entries an element has -/
def eM (x : Elm) : Nat := if x.k = 4 then 2 else if x.k = 5 then 1 else 0
/-- where the j-th goes -/
def eI (N : Ns) (x : Elm) (j : Nat) : Int := if x.k = 4 then (if j = 0 then plI N x.a else plI N x.b) else rwI N x
/-- what it becomes there -/
def eO (x : Elm) (j : Nat) : Cn → Cn → Cn := if x.k = 4 then (if j = 0 then subZ else addZ) else fun _ y => y
/-- the numbers behind j entries -/
def rJ (N : Ns) (x : Elm) (Y : Cn) (R : Nat → Cn) : Nat → Nat → Cn
  | 0 => R
  | j + 1 => rput (eO x j) (eI N x j) Y (rJ N x Y R j)
/-- how many entries go well -/
def rG (N : Ns) (x : Elm) (Y : Cn) (R : Nat → Cn) (j : Nat) : Bool := rfin (eO x j) (eI N x j) Y (rJ N x Y R j)
/-- do all go well? -/
def rok (N : Ns) (x : Elm) (Y : Cn) (R : Nat → Cn) : Bool := decide (∀ j, j < eM x → rG N x Y R j = true)
/-- the fault, and the numbers -/
def rgL (N : Ns) : List Elm → (Nat → Cn) → Nat → (Int × Int) × (Nat → Cn)
  | [], R, _ => ((0, 0), R)
  | x :: l, R, i => if rok N x (phC x) R = true then rgL N l (rJ N x (phC x) R (eM x)) (i + 1) else ((6, (i : Int)), R)
theorem rgL_step {N : Ns} {l : List Elm} {i : Nat} {x : Elm} (hx : l[i]? = some x) (R : Nat → Cn) : rgL N (l.drop i) R i = if rok N x (phC x) R = true then rgL N (l.drop (i + 1)) (rJ N x (phC x) R (eM x)) (i + 1) else ((6, (i : Int)), R) := by
  obtain ⟨h1, h2⟩ := List.getElem?_eq_some_iff.1 hx
  rw [List.drop_eq_getElem_cons h1, h2]
  rfl
theorem rgL_end {N : Ns} {l : List Elm} {i : Nat} (h : l.length ≤ i) (R : Nat → Cn) : rgL N (l.drop i) R i = ((0, 0), R) := by
  rw [List.drop_eq_nil_of_le h]; rfl
theorem rok_yes {N : Ns} {x : Elm} {Y : Cn} {R : Nat → Cn} (h : ∀ j, j < eM x → rG N x Y R j = true) : rok N x Y R = true := decide_eq_true h
theorem rok_no {N : Ns} {x : Elm} {Y : Cn} {R : Nat → Cn} {j : Nat} (hj : j < eM x) (h : rG N x Y R j = false) : rok N x Y R = false := decide_eq_false (fun k => by have := k j hj; rw [h] at this; exact absurd this (by decide))
theorem eM_le (x : Elm) : eM x ≤ 2 := by
  unfold eM
  split
  · omega
  · split <;> omega
theorem eI_lo (N : Ns) (x : Elm) (j : Nat) : -1 ≤ eI N x j := by
  unfold eI
  split
  · split <;> exact plI_lo _ _
  · exact rwI_lo _ _
theorem eI_hi {N : Ns} {x : Elm} {j : Nat} (hj : j < eM x) (hb : x.k = 5 → bl x.n ∈ N.br) : eI N x j < (N.nd.length + N.br.length : Nat) := by
  unfold eM at hj
  unfold eI
  by_cases k4 : x.k = 4
  · rw [if_pos k4]
    have h1 := @plI_hi N x.a
    have h2 := @plI_hi N x.b
    split <;> omega
  · rw [if_neg k4] at hj ⊢
    by_cases k5 : x.k = 5
    · have := posL_lt (hb k5)
      unfold rwI
      omega
    · rw [if_neg k5] at hj; omega
end Go.Proofs.YtmpkcioeodlbcaaGreatDoor
namespace Go.Proofs.YtmpkcioeodlbcaaGreatDoor
open Fl RowKit
set_option linter.unusedVariables false
theorem idx_get : ∀ (xs : List (List UInt8)) (s : List UInt8), s ∈ xs → xs[xs.idxOf s]? = some s := by
  intro xs
  induction xs with
  | nil => intro s h; cases h
  | cons y l ih =>
    intro s h
    rw [List.idxOf_cons]
    by_cases e : y = s
    · rw [beq_iff_eq.2 e, e]; rfl
    · rw [beq_eq_false_iff_ne.2 e]
      exact ih s ((List.mem_cons.1 h).resolve_left (fun q => e q.symm))
theorem posL_inj {xs : List (List UInt8)} {s t : List UInt8} (hs : s ∈ xs) (ht : t ∈ xs) (h : posL xs s = posL xs t) : s = t := by
  unfold posL at h
  rw [if_pos hs, if_pos ht] at h
  have h1 := idx_get xs s hs
  rw [h, idx_get xs t ht] at h1
  exact (Option.some.inj h1).symm
/-- the places of a made net's element are two -/
theorem Md.ab {N : Ns} (h : Md N) {x : Elm} (hx : x ∈ N.es) : plI N x.a ≠ plI N x.b := by
  obtain ⟨h1, h2, h3⟩ := h.nv.el x hx
  intro e
  unfold plI at e
  by_cases ha : bl x.a ∈ N.nd <;> by_cases hb : bl x.b ∈ N.nd
  · rw [if_pos ha, if_pos hb] at e
    exact h3.ab (posL_inj ha hb (by omega))
  · rw [if_pos ha, if_neg hb] at e
    omega
  · rw [if_neg ha, if_pos hb] at e
    omega
  · have q1 : bl x.a = [48] := (List.mem_cons.1 h1).resolve_right ha
    have q2 : bl x.b = [48] := (List.mem_cons.1 h2).resolve_right hb
    exact h3.ab (q1.trans q2.symm)
end Go.Proofs.YtmpkcioeodlbcaaGreatDoor
