/-
  Orders of whole numbers: what an order is, exchanges of two places, the pairs that stand the wrong way round. Nothing of any program's text.
-/
import Derived.Test.YtgpjlobclcbniaaPl
namespace Go.Proofs.Ytgpjlobclcbniaa
open Fl RowKit

def iat (zs : List Int) (k : Nat) : Int := zs.getD k 0
theorem iat_lt {zs : List Int} {k : Nat} (h : k < zs.length) : zs[k]? = some (iat zs k) := by simp [iat, List.getD_eq_getElem?_getD, h]
theorem iat_ext {xs ys : List Int} (hl : xs.length = ys.length) (h : ∀ k, k < xs.length → iat xs k = iat ys k) : xs = ys := by
  apply List.ext_getElem?
  intro k
  by_cases hk : k < xs.length
  · rw [iat_lt hk, iat_lt (hl ▸ hk), h k hk]
  · rw [List.getElem?_eq_none (by omega), List.getElem?_eq_none (by omega)]
theorem iat_set (zs : List Int) (i : Nat) (v : Int) (k : Nat) (hi : i < zs.length) : iat (zs.set i v) k = if k = i then v else iat zs k := by
  unfold iat
  rw [List.getD_eq_getElem?_getD, List.getD_eq_getElem?_getD, List.getElem?_set]
  by_cases h : i = k
  · subst h; simp [hi]
  · rw [if_neg h, if_neg (fun e => h e.symm)]
/-- how many of the first k are v -/
def cI (zs : List Int) (v : Int) : Nat → Nat
  | 0 => 0
  | k + 1 => cI zs v k + if iat zs k = v then 1 else 0
theorem cI_0 {zs : List Int} {v : Int} {k : Nat} : cI zs v k = 0 ↔ ∀ j, j < k → iat zs j ≠ v := by
  induction k with
  | zero => exact ⟨fun _ j hj => by omega, fun _ => rfl⟩
  | succ k ih =>
    unfold cI
    constructor
    · intro h j hj
      by_cases e : j = k
      · subst e
        intro c
        rw [if_pos c] at h
        omega
      · exact ih.1 (by omega) j (by omega)
    · intro h
      rw [ih.2 (fun j hj => h j (by omega)), if_neg (h k (by omega))]
theorem cI_mono (zs : List Int) (v : Int) {a b : Nat} (h : a ≤ b) : cI zs v a ≤ cI zs v b := by
  induction b with
  | zero => have : a = 0 := by omega
            subst this; exact Nat.le_refl _
  | succ b ih =>
    by_cases e : a = b + 1
    · subst e; exact Nat.le_refl _
    · have := ih (by omega)
      show _ ≤ cI zs v b + _
      omega
/-- are the first k in range, each new? -/
def ordK (zs : List Int) : Nat → Bool
  | 0 => true
  | k + 1 => ordK zs k && (decide (0 ≤ iat zs k ∧ iat zs k < (zs.length : Int)) && decide (cI zs (iat zs k) k = 0))
structure Ord (zs : List Int) : Prop where
  rng : ∀ j, j < zs.length → 0 ≤ iat zs j ∧ iat zs j < (zs.length : Int)
  inj : ∀ i j, i < zs.length → j < zs.length → iat zs i = iat zs j → i = j
theorem ordK_upto {zs : List Int} {k : Nat} : ordK zs k = true ↔ (∀ j, j < k → 0 ≤ iat zs j ∧ iat zs j < (zs.length : Int)) ∧ ∀ i j, i < j → j < k → iat zs i ≠ iat zs j := by
  induction k with
  | zero => exact ⟨fun _ => ⟨fun j hj => by omega, fun i j _ hj => by omega⟩, fun _ => rfl⟩
  | succ k ih =>
    unfold ordK
    rw [Bool.and_eq_true, Bool.and_eq_true, ih, decide_eq_true_eq, decide_eq_true_eq, cI_0]
    constructor
    · rintro ⟨⟨h1, h2⟩, h3, h4⟩
      refine ⟨fun j hj => ?_, fun i j hij hj => ?_⟩
      · by_cases e : j = k
        · subst e; exact h3
        · exact h1 j (by omega)
      · by_cases e : j = k
        · subst e; exact h4 i hij
        · exact h2 i j hij (by omega)
    · rintro ⟨h1, h2⟩
      exact ⟨⟨fun j hj => h1 j (by omega), fun i j hij hj => h2 i j hij (by omega)⟩, h1 k (by omega), fun j hj => h2 j k hj (by omega)⟩
theorem ordK_iff {zs : List Int} : ordK zs zs.length = true ↔ Ord zs := by
  rw [ordK_upto]
  constructor
  · rintro ⟨h1, h2⟩
    refine ⟨h1, fun i j hi hj e => ?_⟩
    rcases Nat.lt_trichotomy i j with c | c | c
    · exact absurd e (h2 i j c hj)
    · exact c
    · exact absurd e.symm (h2 j i c hi)
  · intro h
    exact ⟨h.rng, fun i j hij hj e => by have := h.inj i j (by omega) hj e; omega⟩
theorem ordK_false {zs : List Int} {k : Nat} (h : ordK zs (k + 1) = false) : ∀ n, k < n → ordK zs n = false := by
  intro n hn
  cases hh : ordK zs n
  · rfl
  · obtain ⟨h1, h2⟩ := ordK_upto.1 hh
    rw [ordK_upto.2 ⟨fun j hj => h1 j (by omega), fun i j hij hj => h2 i j hij (by omega)⟩] at h
    cases h
def rfE (zs : List Int) : Int := if 64 < zs.length then 3 else if ordK zs zs.length = true then 0 else 2
theorem rfE_0 {zs : List Int} : rfE zs = 0 ↔ zs.length ≤ 64 ∧ Ord zs := by
  unfold rfE
  by_cases h : 64 < zs.length
  · rw [if_pos h]
    exact ⟨fun c => (by cases c), fun c => (by omega)⟩
  · rw [if_neg h]
    by_cases k : ordK zs zs.length = true
    · rw [if_pos k]
      exact ⟨fun _ => ⟨by omega, ordK_iff.1 k⟩, fun _ => rfl⟩
    · rw [if_neg k]
      exact ⟨fun c => (by cases c), fun c => absurd (ordK_iff.2 c.2) k⟩
/-- sums -/
def sN (f : Nat → Nat) : Nat → Nat
  | 0 => 0
  | k + 1 => sN f k + f k
theorem sN_le {f : Nat → Nat} {n : Nat} (h : ∀ i, i < n → f i ≤ 1) : sN f n ≤ n := by
  induction n with
  | zero => exact Nat.le_refl _
  | succ n ih =>
    have := ih (fun i hi => h i (by omega))
    have := h n (by omega)
    unfold sN; omega
theorem sN_full {f : Nat → Nat} {n : Nat} (h : ∀ i, i < n → f i ≤ 1) (hs : sN f n = n) : ∀ i, i < n → f i = 1 := by
  induction n with
  | zero => intro i hi; omega
  | succ n ih =>
    have h1 := sN_le (f := f) (n := n) (fun i hi => h i (by omega))
    have h2 := h n (by omega)
    have h3 : sN f n + f n = n + 1 := hs
    intro i hi
    by_cases e : i = n
    · subst e; omega
    · exact ih (fun i hi => h i (by omega)) (by omega) i (by omega)
theorem sN_ones {f : Nat → Nat} {n : Nat} (h : ∀ i, i < n → f i = 1) : sN f n = n := by
  induction n with
  | zero => rfl
  | succ n ih => unfold sN; rw [ih (fun i hi => h i (by omega)), h n (by omega)]
theorem sN_hit (v : Int) (n : Nat) : sN (fun i => if v = (i : Int) then 1 else 0) n = if 0 ≤ v ∧ v < (n : Int) then 1 else 0 := by
  induction n with
  | zero => unfold sN; rw [if_neg (by omega)]
  | succ n ih =>
    unfold sN
    rw [ih]
    by_cases h : v = (n : Int)
    · rw [if_neg (by omega), if_pos h, if_pos (by omega)]
    · rw [if_neg h, Nat.add_zero]
      by_cases c : 0 ≤ v ∧ v < (n : Int)
      · rw [if_pos c, if_pos (by omega)]
      · rw [if_neg c, if_neg (by omega)]
theorem sN_add (f g : Nat → Nat) (n : Nat) : sN (fun i => f i + g i) n = sN f n + sN g n := by
  induction n with
  | zero => rfl
  | succ n ih => unfold sN; rw [ih]; omega
/-- all numbers that are counted, and all places in range: the same sum -/
theorem sum_both (zs : List Int) (n k : Nat) : sN (fun v => cI zs (v : Int) k) n = sN (fun j => if 0 ≤ iat zs j ∧ iat zs j < (n : Int) then 1 else 0) k := by
  induction k with
  | zero =>
    have : ∀ m, sN (fun v => cI zs (v : Int) 0) m = 0 := by
      intro m
      induction m with
      | zero => rfl
      | succ m ih => unfold sN; rw [ih]; rfl
    exact this n
  | succ k ih =>
    show sN (fun v => cI zs (v : Int) k + if iat zs k = (v : Int) then 1 else 0) n = sN _ k + _
    rw [sN_add, ih, sN_hit]
/-- has it each number once? -/
def oR (zs : List Int) : Nat → Bool
  | 0 => true
  | v + 1 => oR zs v && decide (cI zs (v : Int) zs.length = 1)
theorem oR_iff {zs : List Int} {k : Nat} : oR zs k = true ↔ ∀ v : Nat, v < k → cI zs (v : Int) zs.length = 1 := by
  induction k with
  | zero => exact ⟨fun _ v hv => by omega, fun _ => rfl⟩
  | succ k ih =>
    unfold oR
    rw [Bool.and_eq_true, ih, decide_eq_true_eq]
    constructor
    · rintro ⟨h1, h2⟩ v hv
      by_cases e : v = k
      · subst e; exact h2
      · exact h1 v (by omega)
    · intro h
      exact ⟨fun v hv => h v (by omega), h k (by omega)⟩
theorem cI_le {zs : List Int} {k : Nat} (h : ∀ i j, i < j → j < k → iat zs i ≠ iat zs j) (v : Int) : cI zs v k ≤ 1 := by
  induction k with
  | zero => exact Nat.zero_le _
  | succ k ih =>
    have := ih (fun i j a b => h i j a (by omega))
    unfold cI
    by_cases e : iat zs k = v
    · rw [if_pos e, cI_0.2 (fun j hj => by rw [← e]; exact h j k hj (by omega))]
      omega
    · rw [if_neg e]; omega
theorem oR_ord {zs : List Int} : oR zs zs.length = true ↔ Ord zs := by
  rw [oR_iff]
  constructor
  · intro h
    have hs := sum_both zs zs.length zs.length
    rw [sN_ones h] at hs
    have h1 := sN_full (f := fun j => if 0 ≤ iat zs j ∧ iat zs j < (zs.length : Int) then 1 else 0) (n := zs.length) (fun i _ => by show (if _ then 1 else 0) ≤ 1; split <;> omega) hs.symm
    have hr : ∀ j, j < zs.length → 0 ≤ iat zs j ∧ iat zs j < (zs.length : Int) := by
      intro j hj
      have h2 := h1 j hj
      by_cases c : 0 ≤ iat zs j ∧ iat zs j < (zs.length : Int)
      · exact c
      · have h3 : (if 0 ≤ iat zs j ∧ iat zs j < (zs.length : Int) then 1 else 0) = 1 := h2
        rw [if_neg c] at h3; omega
    refine ordK_iff.1 (ordK_upto.2 ⟨hr, fun i j hij hj e => ?_⟩)
    obtain ⟨r1, r2⟩ := hr j hj
    have h2 := h (iat zs j).toNat (by omega)
    rw [Int.toNat_of_nonneg r1] at h2
    have h3 := cI_mono zs (iat zs j) (show j + 1 ≤ zs.length by omega)
    have h4 : cI zs (iat zs j) (j + 1) = cI zs (iat zs j) j + 1 := by
      show cI zs (iat zs j) j + (if iat zs j = iat zs j then 1 else 0) = _
      rw [if_pos rfl]
    have h5 : cI zs (iat zs j) j = 0 := by omega
    exact cI_0.1 h5 i hij e
  · intro h v hv
    have hd : ∀ i j, i < j → j < zs.length → iat zs i ≠ iat zs j := fun i j a b e => by have := h.inj i j (by omega) b e; omega
    have hs := sum_both zs zs.length zs.length
    rw [sN_ones (f := fun j => if 0 ≤ iat zs j ∧ iat zs j < (zs.length : Int) then 1 else 0) (fun i hi => if_pos (h.rng i hi))] at hs
    exact sN_full (f := fun v => cI zs (v : Int) zs.length) (fun i _ => cI_le hd _) hs v hv
theorem oR_ordK (zs : List Int) : oR zs zs.length = ordK zs zs.length := by
  cases h : ordK zs zs.length
  · cases k : oR zs zs.length
    · rfl
    · rw [ordK_iff.2 (oR_ord.1 k)] at h; cases h
  · exact oR_ord.2 (ordK_iff.1 h)

end Go.Proofs.Ytgpjlobclcbniaa
