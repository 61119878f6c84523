/-
  Sums of products of whole numbers by lists: in any order, and of sums; nothing of any program's text.
-/
import Derived.Test.YtlpfjaldmokdfaaVx
namespace Go.Proofs.Ytlpfjaldmokdfaa
open Fl RowKit

def iv (x : Nat) : Int := val x / ((2 ^ T74 : Nat) : Int)
theorem iv_of {x : Nat} {a : Int} (h : val x = a * ((2 ^ T74 : Nat) : Int)) : iv x = a := by
  unfold iv
  rw [h]
  exact Int.mul_ediv_cancel _ (by have := Nat.two_pow_pos T74; omega)
/-- a number with whole parts of sizes up to B -/
def Wd (B : Nat) (z : Cw) : Prop := IsC (anz z) (iv z.1) (iv z.2) ∧ (iv z.1).natAbs ≤ B ∧ (iv z.2).natAbs ≤ B
theorem wd_of {B : Nat} {z : Cw} {a b : Int} (h : IsC (anz z) a b) (hz : okz z) (ha : a.natAbs ≤ B) (hb : b.natAbs ≤ B) : Wd B z ∧ iv z.1 = a ∧ iv z.2 = b := by
  have e1 : iv z.1 = a := iv_of (h.1.word (rep_ans hz.1)).2
  have e2 : iv z.2 = b := iv_of (h.2.word (rep_ans hz.2)).2
  refine ⟨⟨by rw [e1, e2]; exact h, by rw [e1]; exact ha, by rw [e2]; exact hb⟩, e1, e2⟩
theorem Sm.wd {z : Cw} (h : Sm z) : Wd 1048576 z := by
  have hz := h.ok
  obtain ⟨p, q, rfl, h1, h2⟩ := h
  exact (wd_of (isC_fw (by omega) (by omega)) hz h1 h2).1
theorem Wd.mono {B B' : Nat} {z : Cw} (h : Wd B z) (hb : B ≤ B') : Wd B' z := ⟨h.1, Nat.le_trans h.2.1 hb, Nat.le_trans h.2.2 hb⟩
def reG (u : Cw × Cw) : Int := iv u.1.1 * iv u.2.1 - iv u.1.2 * iv u.2.2
def imG (u : Cw × Cw) : Int := iv u.1.1 * iv u.2.2 + iv u.1.2 * iv u.2.1
theorem G_bd {u : Cw × Cw} (h : Wd 2097152 u.1) (k : Wd 2097152 u.2) : (reG u).natAbs ≤ 8796093022208 ∧ (imG u).natAbs ≤ 8796093022208 := by
  have b1 := prod_bd h.2.1 k.2.1
  have b2 := prod_bd h.2.2 k.2.2
  have b3 := prod_bd h.2.1 k.2.2
  have b4 := prod_bd h.2.2 k.2.1
  unfold reG imG
  omega
theorem dot_is {xs ys : List Cw} {n : Nat} (hx : ∀ j, j < n → Wd 2097152 (zat xs j)) (hy : ∀ j, j < n → Wd 2097152 (zat ys j)) (hn : n ≤ 64) :
    IsC (sumZ (zipF mulZ (fun j => anz (zat xs j)) (fun j => anz (zat ys j))) n) (sumI (fun j => reG (zat xs j, zat ys j)) n) (sumI (fun j => imG (zat xs j, zat ys j)) n) := by
  refine IsC.sum (M := 8796093022208) (fun j hj => ?_) (fun j hj => (G_bd (u := (zat xs j, zat ys j)) (hx j hj) (hy j hj)).1) (fun j hj => (G_bd (u := (zat xs j, zat ys j)) (hx j hj) (hy j hj)).2) (by omega)
  exact (hx j hj).1.mul (hy j hj).1 (hx j hj).2.1 (hx j hj).2.2 (hy j hj).2.1 (hy j hj).2.2
theorem sum_bd2 {xs ys : List Cw} {n : Nat} (hx : ∀ j, j < n → Wd 2097152 (zat xs j)) (hy : ∀ j, j < n → Wd 2097152 (zat ys j)) (hn : n ≤ 64) :
    (sumI (fun j => reG (zat xs j, zat ys j)) n).natAbs ≤ 562949953421312 ∧ (sumI (fun j => imG (zat xs j, zat ys j)) n).natAbs ≤ 562949953421312 := by
  have h1 := sumI_bd (f := fun j => reG (zat xs j, zat ys j)) (M := 8796093022208) (n := n) (fun j hj => (G_bd (u := (zat xs j, zat ys j)) (hx j hj) (hy j hj)).1)
  have h2 := sumI_bd (f := fun j => imG (zat xs j, zat ys j)) (M := 8796093022208) (n := n) (fun j hj => (G_bd (u := (zat xs j, zat ys j)) (hx j hj) (hy j hj)).2)
  omega
/-- the sum of two such lists -/
theorem sum_wd {xs cs zs : List Cw} {n : Nat} (hx : ∀ j, j < n → Wd 1048576 (zat xs j)) (hc : ∀ j, j < n → Wd 1048576 (zat cs j)) (hz : repl (zipF addZ (fun j => anz (zat xs j)) (fun j => anz (zat cs j))) n zs) :
    ∀ j, j < n → Wd 2097152 (zat zs j) ∧ iv (zat zs j).1 = iv (zat xs j).1 + iv (zat cs j).1 ∧ iv (zat zs j).2 = iv (zat xs j).2 + iv (zat cs j).2 := by
  intro j hj
  have k1 := hx j hj
  have k2 := hc j hj
  have e : anz (zat zs j) = addZ (anz (zat xs j)) (anz (zat cs j)) := hz.anz hj
  have a1 := k1.2.1
  have a2 := k1.2.2
  have a3 := k2.2.1
  have a4 := k2.2.2
  have hI : IsC (anz (zat zs j)) (iv (zat xs j).1 + iv (zat cs j).1) (iv (zat xs j).2 + iv (zat cs j).2) := by rw [e]; exact k1.1.add k2.1 (by omega) (by omega)
  exact wd_of hI (hz j hj).ok (by omega) (by omega)
theorem sum_both {xs cs zs ys : List Cw} {n : Nat} (h : ∀ j, j < n → Wd 2097152 (zat zs j) ∧ iv (zat zs j).1 = iv (zat xs j).1 + iv (zat cs j).1 ∧ iv (zat zs j).2 = iv (zat xs j).2 + iv (zat cs j).2) :
    sumI (fun j => reG (zat zs j, zat ys j)) n = sumI (fun j => reG (zat xs j, zat ys j)) n + sumI (fun j => reG (zat cs j, zat ys j)) n ∧
    sumI (fun j => imG (zat zs j, zat ys j)) n = sumI (fun j => imG (zat xs j, zat ys j)) n + sumI (fun j => imG (zat cs j, zat ys j)) n := by
  rw [← sumI_add, ← sumI_add]
  constructor
  · refine sumI_congr fun j hj => ?_
    obtain ⟨_, e1, e2⟩ := h j hj
    unfold reG
    simp only [e1, e2, Int.add_mul]
    omega
  · refine sumI_congr fun j hj => ?_
    obtain ⟨_, e1, e2⟩ := h j hj
    unfold imG
    simp only [e1, e2, Int.add_mul]
    omega
/-- the pairs of two lists -/
def pr (xs ys : List Cw) (n : Nat) : List (Cw × Cw) := (List.range n).map (fun j => (zat xs j, zat ys j))
theorem sumI_range (f : Nat → Int) (n : Nat) : sumI f n = ((List.range n).map f).sum := by
  induction n with
  | zero => rfl
  | succ n ih =>
    rw [List.range_succ, List.map_append, List.sum_append]
    show sumI f n + f n = _
    rw [ih]; simp
theorem perm_sum {l k : List Int} (h : l.Perm k) : l.sum = k.sum := by
  induction h with
  | nil => rfl
  | cons x _ ih => simp [ih]
  | swap x y l => simp; omega
  | trans _ _ h1 h2 => exact h1.trans h2
theorem sum_perm {xs ys xs' ys' : List Cw} {n : Nat} (g : Cw × Cw → Int) (h : (pr xs' ys' n).Perm (pr xs ys n)) : sumI (fun j => g (zat xs' j, zat ys' j)) n = sumI (fun j => g (zat xs j, zat ys j)) n := by
  rw [sumI_range, sumI_range]
  have e : ∀ us vs : List Cw, (List.range n).map (fun j => g (zat us j, zat vs j)) = (pr us vs n).map g := fun us vs => by unfold pr; rw [List.map_map]; rfl
  rw [e, e]
  exact perm_sum (h.map g)
theorem perm_wd {xs ys xs' ys' : List Cw} {n B : Nat} (h : (pr xs' ys' n).Perm (pr xs ys n)) (hx : ∀ j, j < n → Wd B (zat xs j)) (hy : ∀ j, j < n → Wd B (zat ys j)) : ∀ j, j < n → Wd B (zat xs' j) ∧ Wd B (zat ys' j) := by
  intro j hj
  have hm : (zat xs' j, zat ys' j) ∈ pr xs' ys' n := by unfold pr; exact List.mem_map.2 ⟨j, List.mem_range.2 hj, rfl⟩
  have := h.subset hm
  unfold pr at this
  obtain ⟨i, hi, e⟩ := List.mem_map.1 this
  have hi' := List.mem_range.1 hi
  have e1 : zat xs i = zat xs' j := congrArg Prod.fst e
  have e2 : zat ys i = zat ys' j := congrArg Prod.snd e
  rw [← e1, ← e2]
  exact ⟨hx i hi', hy i hi'⟩
def swp (l : List Cw) (j k : Nat) : List Cw := (l.set j (zat l k)).set k (zat l j)
theorem swp_len (l : List Cw) (j k : Nat) : (swp l j k).length = l.length := by simp [swp]
theorem zat_swp {l : List Cw} {j k : Nat} (hj : j < l.length) (hk : k < l.length) (i : Nat) : zat (swp l j k) i = if i = k then zat l j else if i = j then zat l k else zat l i := by
  unfold swp
  by_cases e : i = k
  · subst e
    rw [if_pos rfl]
    show List.getD _ _ _ = _
    rw [List.getD_eq_getElem?_getD, List.getElem?_set_self (by simpa using hk)]; rfl
  · rw [if_neg e]
    have e1 : zat ((l.set j (zat l k)).set k (zat l j)) i = zat (l.set j (zat l k)) i := by simp [zat, List.getD_eq_getElem?_getD, Ne.symm e]
    rw [e1]
    by_cases e2 : i = j
    · subst e2
      rw [if_pos rfl]
      show List.getD _ _ _ = _
      rw [List.getD_eq_getElem?_getD, List.getElem?_set_self hj]; rfl
    · rw [if_neg e2]
      simp [zat, List.getD_eq_getElem?_getD, Ne.symm e2]
theorem pr_swp {xs ys : List Cw} {n j k : Nat} (hx : xs.length = n) (hy : ys.length = n) (hj : j < n) (hk : k < n) : (pr (swp xs j k) (swp ys j k) n).Perm (pr xs ys n) := by
  have hl : (pr xs ys n).length = n := by simp [pr]
  have e : pr (swp xs j k) (swp ys j k) n = ((pr xs ys n).set j ((pr xs ys n)[k]'(by rw [hl]; exact hk))).set k ((pr xs ys n)[j]'(by rw [hl]; exact hj)) := by
    apply List.ext_getElem
    · simp [pr]
    · intro i h1 h2
      have hi : i < n := by simpa [pr] using h1
      simp only [pr, List.getElem_map, List.getElem_range, List.getElem_set]
      rw [zat_swp (by omega) (by omega), zat_swp (by omega) (by omega)]
      by_cases e : i = k
      · subst e; simp
      · by_cases e2 : i = j
        · subst e2; simp [e, Ne.symm e]
        · simp [e, e2, Ne.symm e, Ne.symm e2]
  rw [e]
  exact List.set_set_perm _ _

end Go.Proofs.Ytlpfjaldmokdfaa
