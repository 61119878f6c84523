/-
  The right side by list: what the Currents bring to a node, what a Voltage puts at its branch.
-/
import Derived.Test.YtmhplaanpbpndaaSrq
namespace Go.Proofs.Ytmhplaanpbpndaa
open Fl RowKit
set_option linter.unusedVariables false

/-- the numbers behind a list of elements, nothing refused -/
def rgS (N : Ns) (l : List Elm) (R : Nat → Cn) : Nat → Cn := l.foldl (fun R x => rJ N x (phC x) R (eM x)) R
theorem rgL_fold (N : Ns) : ∀ (l : List Elm) (R : Nat → Cn) (i : Nat), (rgL N l R i).1 = (0, 0) → (rgL N l R i).2 = rgS N l R := by
  intro l
  induction l with
  | nil => intro R i _; rfl
  | cons x l ih =>
    intro R i h
    unfold rgL at h ⊢
    by_cases e : rok N x (phC x) R = true
    · rw [if_pos e] at h ⊢
      rw [ih _ _ h]; rfl
    · rw [if_neg e] at h
      have h6 : (6 : Int) = 0 := congrArg Prod.fst h
      exact absurd h6 (by decide)
theorem rgS_take {N : Ns} {l : List Elm} {i : Nat} {x : Elm} (hx : l[i]? = some x) (R : Nat → Cn) : rgS N (l.take (i + 1)) R = rJ N x (phC x) (rgS N (l.take i) R) (eM x) := by
  rw [take_snoc hx]
  unfold rgS
  rw [List.foldl_append]; rfl
theorem idx_nodup : ∀ (xs : List (List UInt8)), xs.Nodup → ∀ (j : Nat) (s : List UInt8), xs[j]? = some s → xs.idxOf s = j := by
  intro xs
  induction xs with
  | nil => intro _ j s h; cases h
  | cons y l ih =>
    intro hn j s h
    rw [List.nodup_cons] at hn
    cases j with
    | zero =>
      have e : y = s := by simpa using h
      rw [e, List.idxOf_cons_self]
    | succ j =>
      have h2 : l[j]? = some s := by simpa using h
      have hm := List.mem_of_getElem? h2
      rw [List.idxOf_cons, beq_eq_false_iff_ne.2 (fun e => hn.1 (by rw [e]; exact hm))]
      have := ih hn.2 j s h2
      show l.idxOf s + 1 = j + 1
      rw [this]
theorem posL_at {xs : List (List UInt8)} (hn : xs.Nodup) {j : Nat} {s : List UInt8} (h : xs[j]? = some s) : posL xs s = j := by
  unfold posL
  rw [if_pos (List.mem_of_getElem? h)]
  exact idx_nodup xs hn j s h
/-- a node's place is j just if it is the j-th -/
theorem plI_at {N : Ns} (h : Md N) {j : Nat} {y : List UInt8} (hy : N.nd[j]? = some y) (t : ByteArray) : ((j : Int) = plI N t) ↔ bl t = y := by
  unfold plI
  constructor
  · intro e
    by_cases q : bl t ∈ N.nd
    · rw [if_pos q] at e
      have h1 := idx_get N.nd (bl t) q
      have h2 : posL N.nd (bl t) = j := by omega
      unfold posL at h2
      rw [if_pos q] at h2
      rw [h2, hy] at h1
      exact (Option.some.inj h1).symm
    · rw [if_neg q] at e; omega
  · intro e
    rw [e, if_pos (List.mem_of_getElem? hy), posL_at h.nv.nw.u hy]
theorem Md.bru {N : Ns} (h : Md N) : N.br.Nodup := by
  rw [h.brR]
  have h1 := h.nv.nu
  rw [h.nv.nm] at h1
  exact h1.sublist (List.Sublist.map _ List.filter_sublist)
theorem rwI_at {N : Ns} (h : Md N) {x : Elm} (hx : x ∈ N.es) (hk : x.k = 5) {t : Nat} {y : List UInt8} (hy : N.br[t]? = some y) : (((N.nd.length + t : Nat) : Int) = rwI N x) ↔ bl x.n = y := by
  have hm := h.br5 hx hk
  unfold rwI
  constructor
  · intro e
    have h1 := idx_get N.br (bl x.n) hm
    have h2 : posL N.br (bl x.n) = t := by omega
    unfold posL at h2
    rw [if_pos hm] at h2
    rw [h2, hy] at h1
    exact (Option.some.inj h1).symm
  · intro e
    rw [e, posL_at h.bru hy]; omega
/-- what an element does to a node's number -/
def ndS (y : List UInt8) (x : Elm) (s : Cn) : Cn :=
  if x.k = 4 then (if bl x.b = y then addZ (if bl x.a = y then subZ s (phC x) else s) (phC x) else (if bl x.a = y then subZ s (phC x) else s)) else s
theorem rJ_node {N : Ns} (h : Md N) {x : Elm} (hx : x ∈ N.es) {j : Nat} {y : List UInt8} (hy : N.nd[j]? = some y) (R : Nat → Cn) : rJ N x (phC x) R (eM x) j = ndS y x (R j) := by
  have hj := (List.getElem?_eq_some_iff.1 hy).1
  unfold ndS
  rcases kinds45 x.k with hk | hk | ⟨k4, k5⟩
  · have m2 : eM x = 2 := by unfold eM; rw [if_pos hk]
    have i0 : eI N x 0 = plI N x.a := by unfold eI; rw [if_pos hk, if_pos rfl]
    have i1 : eI N x 1 = plI N x.b := by unfold eI; rw [if_pos hk, if_neg (by decide)]
    have o0 : eO x 0 = subZ := by unfold eO; rw [if_pos hk, if_pos rfl]
    have o1 : eO x 1 = addZ := by unfold eO; rw [if_pos hk, if_neg (by decide)]
    rw [m2, if_pos hk]
    show rput (eO x 1) (eI N x 1) (phC x) (rput (eO x 0) (eI N x 0) (phC x) R) j = _
    rw [i0, i1, o0, o1]
    have ha := plI_at h hy x.a
    have hb := plI_at h hy x.b
    have hA : rput subZ (plI N x.a) (phC x) R j = if bl x.a = y then subZ (R j) (phC x) else R j := by
      by_cases q : bl x.a = y
      · rw [if_pos q, rput_same (ha.2 q)]
      · rw [if_neg q, rput_other (fun e => q (ha.1 e))]
    by_cases q : bl x.b = y
    · rw [if_pos q, rput_same (hb.2 q), hA]
    · rw [if_neg q, rput_other (fun e => q (hb.1 e)), hA]
  · have m1 : eM x = 1 := by unfold eM; rw [if_neg (by omega), if_pos hk]
    have i0 : eI N x 0 = rwI N x := by unfold eI; rw [if_neg (by omega)]
    rw [m1, if_neg (by omega)]
    show rput (eO x 0) (eI N x 0) (phC x) R j = _
    rw [i0, rput_other (by unfold rwI; omega)]
  · have m0 : eM x = 0 := by unfold eM; rw [if_neg k4, if_neg k5]
    rw [m0, if_neg k4]; rfl
/-- what an element does to a branch's number -/
def brS (y : List UInt8) (x : Elm) (s : Cn) : Cn := if x.k = 5 then (if bl x.n = y then phC x else s) else s
theorem rJ_branch {N : Ns} (h : Md N) {x : Elm} (hx : x ∈ N.es) {t : Nat} {y : List UInt8} (hy : N.br[t]? = some y) (R : Nat → Cn) : rJ N x (phC x) R (eM x) (N.nd.length + t) = brS y x (R (N.nd.length + t)) := by
  unfold brS
  rcases kinds45 x.k with hk | hk | ⟨k4, k5⟩
  · have m2 : eM x = 2 := by unfold eM; rw [if_pos hk]
    have i0 : eI N x 0 = plI N x.a := by unfold eI; rw [if_pos hk, if_pos rfl]
    have i1 : eI N x 1 = plI N x.b := by unfold eI; rw [if_pos hk, if_neg (by decide)]
    rw [m2, if_neg (by omega)]
    show rput (eO x 1) (eI N x 1) (phC x) (rput (eO x 0) (eI N x 0) (phC x) R) _ = _
    rw [i0, i1]
    have ha := @plI_hi N x.a
    have hb := @plI_hi N x.b
    rw [rput_other (by omega), rput_other (by omega)]
  · have m1 : eM x = 1 := by unfold eM; rw [if_neg (by omega), if_pos hk]
    have i0 : eI N x 0 = rwI N x := by unfold eI; rw [if_neg (by omega)]
    have o0 : eO x 0 = fun _ y => y := by unfold eO; rw [if_neg (by omega)]
    rw [m1, if_pos hk]
    show rput (eO x 0) (eI N x 0) (phC x) R _ = _
    rw [i0, o0]
    have hr := rwI_at h hx hk hy
    by_cases q : bl x.n = y
    · rw [if_pos q, rput_same (hr.2 q)]
    · rw [if_neg q, rput_other (fun e => q (hr.1 e))]
  · have m0 : eM x = 0 := by unfold eM; rw [if_neg k4, if_neg k5]
    rw [m0, if_neg k5]; rfl
end Go.Proofs.Ytmhplaanpbpndaa
