/-
  Exchanges of two places turn the number of pairs that stand the wrong way round from even to odd and back.
-/
import Derived.Test.YtgpjlobclcbniaaYa
namespace Go.Proofs.Ytgpjlobclcbniaa
open Fl RowKit

/-- two places exchanged -/
def sw (zs : List Int) (i j : Nat) : List Int := (zs.set i (iat zs j)).set j (iat zs i)
theorem sw_len (zs : List Int) (i j : Nat) : (sw zs i j).length = zs.length := by simp [sw]
theorem iat_sw {zs : List Int} {i j : Nat} (hi : i < zs.length) (hj : j < zs.length) (k : Nat) : iat (sw zs i j) k = if k = j then iat zs i else if k = i then iat zs j else iat zs k := by
  unfold sw
  rw [iat_set _ _ _ _ (by simpa using hj)]
  by_cases h : k = j
  · rw [if_pos h, if_pos h]
  · rw [if_neg h, if_neg h, iat_set _ _ _ _ hi]
theorem sw_self {zs : List Int} {i : Nat} (hi : i < zs.length) : sw zs i i = zs := by
  refine iat_ext (sw_len _ _ _) (fun k _ => ?_)
  rw [iat_sw hi hi]
  by_cases h : k = i
  · rw [if_pos h, h]
  · rw [if_neg h, if_neg h]
theorem sw_comm {zs : List Int} {i j : Nat} (hi : i < zs.length) (hj : j < zs.length) : sw zs i j = sw zs j i := by
  refine iat_ext (by rw [sw_len, sw_len]) (fun k _ => ?_)
  rw [iat_sw hi hj, iat_sw hj hi]
  by_cases h : k = j
  · by_cases g : k = i
    · rw [if_pos h, if_pos g, ← h, ← g]
    · rw [if_pos h, if_neg g, if_pos h]
  · by_cases g : k = i
    · rw [if_neg h, if_pos g, if_pos g]
    · rw [if_neg h, if_neg g, if_neg g, if_neg h]
theorem sw_sw {zs : List Int} {i j : Nat} (hi : i < zs.length) (hj : j < zs.length) : sw (sw zs i j) i j = zs := by
  refine iat_ext (by rw [sw_len, sw_len]) (fun k _ => ?_)
  rw [iat_sw (by rw [sw_len]; exact hi) (by rw [sw_len]; exact hj), iat_sw hi hj, iat_sw hi hj, iat_sw hi hj]
  by_cases h : k = j
  · rw [if_pos h]
    by_cases g : i = j
    · rw [if_pos g, h, g]
    · rw [if_neg g, if_pos rfl, h]
  · rw [if_neg h]
    by_cases g : k = i
    · rw [if_pos g, if_pos rfl, g]
    · rw [if_neg g, if_neg h, if_neg g]
theorem Ord.sw {zs : List Int} (h : Ord zs) {i j : Nat} (hi : i < zs.length) (hj : j < zs.length) : Ord (sw zs i j) := by
  have key : ∀ k, k < zs.length → ∃ k', k' < zs.length ∧ iat (Go.Proofs.Ytgpjlobclcbniaa.sw zs i j) k = iat zs k' ∧ (k' = if k = j then i else if k = i then j else k) := by
    intro k hk
    rw [iat_sw hi hj]
    by_cases a : k = j
    · exact ⟨i, hi, if_pos a, (if_pos a).symm⟩
    · by_cases b : k = i
      · exact ⟨j, hj, by rw [if_neg a, if_pos b], by rw [if_neg a, if_pos b]⟩
      · exact ⟨k, hk, by rw [if_neg a, if_neg b], by rw [if_neg a, if_neg b]⟩
  refine ⟨?_, ?_⟩
  · intro k hk
    rw [sw_len] at hk ⊢
    obtain ⟨k', h1, h2, _⟩ := key k hk
    rw [h2]; exact h.rng k' h1
  · intro a b ha hb e
    rw [sw_len] at ha hb
    obtain ⟨a', h1, h2, h3⟩ := key a ha
    obtain ⟨b', h4, h5, h6⟩ := key b hb
    rw [h2, h5] at e
    have := h.inj a' b' h1 h4 e
    rw [h3, h6] at this
    split at this <;> split at this <;> (try split at this) <;> (try split at this) <;> omega
/-- counts -/
def cl (x : Int) : List Int → Nat
  | [] => 0
  | y :: l => (if y < x then 1 else 0) + cl x l
def cg (x : Int) : List Int → Nat
  | [] => 0
  | y :: l => (if x < y then 1 else 0) + cg x l
def invL : List Int → Nat
  | [] => 0
  | x :: l => cl x l + invL l
def crs : List Int → List Int → Nat
  | [], _ => 0
  | a :: A, D => cl a D + crs A D
theorem cl_append (x : Int) (A B : List Int) : cl x (A ++ B) = cl x A + cl x B := by
  induction A with
  | nil => exact (Nat.zero_add _).symm
  | cons a A ih => show _ + cl x (A ++ B) = _ + cl x A + _; rw [ih]; omega
theorem inv_append (A D : List Int) : invL (A ++ D) = invL A + crs A D + invL D := by
  induction A with
  | nil => show invL D = 0 + 0 + invL D; omega
  | cons a A ih =>
    show cl a (A ++ D) + invL (A ++ D) = cl a A + invL A + (cl a D + crs A D) + invL D
    rw [ih, cl_append]; omega
theorem crs_cons (A : List Int) (y : Int) (D : List Int) : crs A (y :: D) = cg y A + crs A D := by
  induction A with
  | nil => rfl
  | cons a A ih =>
    show (if y < a then 1 else 0) + cl a D + crs A (y :: D) = (if y < a then 1 else 0) + cg y A + (cl a D + crs A D)
    rw [ih]; omega
theorem crs_append (A D E : List Int) : crs A (D ++ E) = crs A D + crs A E := by
  induction A with
  | nil => rfl
  | cons a A ih =>
    show cl a (D ++ E) + crs A (D ++ E) = cl a D + crs A D + (cl a E + crs A E)
    rw [ih, cl_append]; omega
theorem cl_cg {x : Int} {B : List Int} (h : ∀ b, b ∈ B → b ≠ x) : cl x B + cg x B = B.length := by
  induction B with
  | nil => rfl
  | cons b B ih =>
    have h1 := ih (fun c hc => h c (List.mem_cons_of_mem _ hc))
    have h2 := h b (List.mem_cons_self)
    show (if b < x then 1 else 0) + cl x B + ((if x < b then 1 else 0) + cg x B) = B.length + 1
    by_cases c : b < x
    · rw [if_pos c, if_neg (by omega)]; omega
    · rw [if_neg c, if_pos (by omega)]; omega
theorem inv_swap (A B C : List Int) (x y : Int) (hxy : x ≠ y) (hx : ∀ b, b ∈ B → b ≠ x) (hy : ∀ b, b ∈ B → b ≠ y) :
    (invL (A ++ x :: (B ++ y :: C)) + invL (A ++ y :: (B ++ x :: C))) % 2 = 1 := by
  have e : ∀ x y : Int, invL (A ++ x :: (B ++ y :: C)) = invL A + (cg x A + (crs A B + (cg y A + crs A C))) + ((cl x B + ((if y < x then 1 else 0) + cl x C)) + (invL B + (cg y B + crs B C) + (cl y C + invL C))) := by
    intro x y
    rw [inv_append, crs_cons, crs_append, crs_cons]
    show _ + (cl x (B ++ y :: C) + invL (B ++ y :: C)) = _
    rw [cl_append, inv_append, crs_cons]
    rfl
  rw [e x y, e y x]
  have h1 := cl_cg hx
  have h2 := cl_cg hy
  by_cases c : y < x
  · rw [if_pos c, if_neg (by omega)]; omega
  · rw [if_neg c, if_pos (by omega)]; omega
theorem split2 {l : List Int} {i j : Nat} (hij : i < j) (hj : j < l.length) : ∃ A B C, l = A ++ iat l i :: (B ++ iat l j :: C) ∧ A.length = i ∧ B.length = j - i - 1 := by
  have e1 : l.drop i = iat l i :: l.drop (i + 1) := by
    rw [List.drop_eq_getElem_cons (by omega)]
    congr 1
    simp [iat, List.getD_eq_getElem?_getD, show i < l.length by omega]
  have e2 : l.drop j = iat l j :: l.drop (j + 1) := by
    rw [List.drop_eq_getElem_cons hj]
    congr 1
    simp [iat, List.getD_eq_getElem?_getD, hj]
  refine ⟨l.take i, (l.drop (i + 1)).take (j - i - 1), l.drop (j + 1), ?_, by simp; omega, by simp; omega⟩
  have e3 : l.drop (i + 1) = (l.drop (i + 1)).take (j - i - 1) ++ l.drop j := by
    have := (List.take_append_drop (j - i - 1) (l.drop (i + 1))).symm
    rw [List.drop_drop, show i + 1 + (j - i - 1) = j by omega] at this
    exact this
  rw [← e2, ← e3, ← e1, List.take_append_drop]
theorem iat_app1 {A D : List Int} {k : Nat} (h : k < A.length) : iat (A ++ D) k = iat A k := by
  unfold iat; rw [List.getD_eq_getElem?_getD, List.getD_eq_getElem?_getD, List.getElem?_append_left h]
theorem iat_app2 {A D : List Int} {k : Nat} (h : A.length ≤ k) : iat (A ++ D) k = iat D (k - A.length) := by
  unfold iat; rw [List.getD_eq_getElem?_getD, List.getD_eq_getElem?_getD, List.getElem?_append_right h]
theorem iat_cons0 {x : Int} {l : List Int} : iat (x :: l) 0 = x := rfl
theorem iat_cons {x : Int} {l : List Int} {k : Nat} (h : 0 < k) : iat (x :: l) k = iat l (k - 1) := by
  obtain ⟨m, rfl⟩ : ∃ m, k = m + 1 := ⟨k - 1, by omega⟩
  rfl
theorem iat_mid (A B C : List Int) (x y : Int) (k : Nat) : iat (A ++ x :: (B ++ y :: C)) k = if k < A.length then iat A k else if k = A.length then x else if k < A.length + 1 + B.length then iat B (k - A.length - 1) else if k = A.length + 1 + B.length then y else iat C (k - A.length - 1 - B.length - 1) := by
  by_cases h1 : k < A.length
  · rw [if_pos h1, iat_app1 h1]
  · rw [if_neg h1, iat_app2 (by omega)]
    by_cases h2 : k = A.length
    · rw [if_pos h2, h2, Nat.sub_self]; rfl
    · rw [if_neg h2, iat_cons (by omega)]
      by_cases h3 : k < A.length + 1 + B.length
      · rw [if_pos h3, iat_app1 (by omega)]
      · rw [if_neg h3, iat_app2 (by omega)]
        by_cases h4 : k = A.length + 1 + B.length
        · rw [if_pos h4, show k - A.length - 1 - B.length = 0 by omega]; rfl
        · rw [if_neg h4, iat_cons (by omega)]
theorem inv_sw_lt {l : List Int} (ho : Ord l) {i j : Nat} (hij : i < j) (hj : j < l.length) : (invL l + invL (sw l i j)) % 2 = 1 := by
  obtain ⟨A, B, C, hl, hA, hB⟩ := split2 hij hj
  have hi : i < l.length := by omega
  have hB' : ∀ k, k < B.length → iat B k = iat l (i + 1 + k) := by
    intro k hk
    have := iat_mid A B C (iat l i) (iat l j) (i + 1 + k)
    rw [← hl, if_neg (by omega), if_neg (by omega), if_pos (by omega), show i + 1 + k - A.length - 1 = k by omega] at this
    exact this.symm
  have hs : sw l i j = A ++ iat l j :: (B ++ iat l i :: C) := by
    have len : l.length = (A ++ iat l j :: (B ++ iat l i :: C)).length := by
      have := congrArg List.length hl
      simp at this ⊢
      omega
    refine iat_ext (by rw [sw_len]; exact len) (fun k _ => ?_)
    rw [iat_sw hi hj, iat_mid]
    have m := iat_mid A B C (iat l i) (iat l j) k
    rw [← hl] at m
    by_cases a : k = j
    · rw [if_pos a, if_neg (by omega), if_neg (by omega), if_neg (by omega), if_pos (by omega)]
    · rw [if_neg a]
      by_cases b : k = i
      · rw [if_pos b, if_neg (by omega), if_pos (by omega)]
      · rw [if_neg b, m]
        by_cases c1 : k < A.length
        · rw [if_pos c1, if_pos c1]
        · have n2 : ¬ k = A.length := by omega
          have n3 : ¬ k = A.length + 1 + B.length := by omega
          rw [if_neg c1, if_neg c1, if_neg n2, if_neg n2]
          by_cases c2 : k < A.length + 1 + B.length
          · rw [if_pos c2, if_pos c2]
          · rw [if_neg c2, if_neg c2, if_neg n3, if_neg n3]
  have hne : iat l i ≠ iat l j := fun e => by have := ho.inj i j hi hj e; omega
  have hm : ∀ b, b ∈ B → ∃ k, k < B.length ∧ b = iat l (i + 1 + k) := by
    intro b hb
    obtain ⟨k, hk, e⟩ := List.getElem_of_mem hb
    refine ⟨k, hk, ?_⟩
    rw [← hB' k hk, ← e]
    simp [iat, List.getD_eq_getElem?_getD, hk]
  have r := inv_swap A B C (iat l i) (iat l j) hne (by
    intro b hb e
    obtain ⟨k, hk, hb'⟩ := hm b hb
    rw [hb'] at e
    have := ho.inj _ _ (by omega) hi e
    omega) (by
    intro b hb e
    obtain ⟨k, hk, hb'⟩ := hm b hb
    rw [hb'] at e
    have := ho.inj _ _ (by omega) hj e
    omega)
  rw [← hl, ← hs] at r
  exact r
/-- the sign of an order -/
def sgL (zs : List Int) : Int := if invL zs % 2 = 0 then 1 else -1
theorem sg_sw {l : List Int} (ho : Ord l) {i j : Nat} (hi : i < l.length) (hj : j < l.length) (hne : i ≠ j) : sgL (sw l i j) = -sgL l := by
  have key : (invL l + invL (sw l i j)) % 2 = 1 := by
    rcases Nat.lt_or_gt_of_ne hne with h | h
    · exact inv_sw_lt ho h hj
    · rw [sw_comm hi hj]; exact inv_sw_lt ho h hi
  unfold sgL
  by_cases c : invL l % 2 = 0
  · rw [if_pos c, if_neg (by omega)]
  · rw [if_neg c, if_pos (by omega)]; rfl
theorem inv_rise {l : List Int} (h : ∀ k, k < l.length → iat l k = (k : Int)) : invL l = 0 := by
  have key : ∀ (m : Nat) (l : List Int) (b : Int), l.length = m → (∀ k, k < l.length → iat l k = b + (k : Int)) → invL l = 0 ∧ ∀ x, x < b → cl x l = 0 := by
    intro m
    induction m with
    | zero => intro l b hl _; cases l with
      | nil => exact ⟨rfl, fun _ _ => rfl⟩
      | cons a l => cases hl
    | succ m ih =>
      intro l b hl hh
      cases l with
      | nil => cases hl
      | cons a l =>
        have ha : a = b := by have := hh 0 (by simp); simpa [iat] using this
        have ht := ih l (b + 1) (by simpa using hl) (fun k hk => by
          have := hh (k + 1) (by simp; omega)
          have e : iat (a :: l) (k + 1) = iat l k := rfl
          rw [e] at this
          rw [this]; omega)
        refine ⟨?_, ?_⟩
        · show cl a l + invL l = 0
          rw [ht.1, ht.2 a (by omega)]
        · intro x hx
          show (if a < x then 1 else 0) + cl x l = 0
          rw [if_neg (by omega), ht.2 x (by omega)]
  exact (key l.length l 0 rfl (fun k hk => by rw [h k hk]; omega)).1
theorem sg_rise {l : List Int} (h : ∀ k, k < l.length → iat l k = (k : Int)) : sgL l = 1 := by unfold sgL; rw [inv_rise h]; rfl

end Go.Proofs.Ytgpjlobclcbniaa
