/-
  Lists of lists in memory, each in a block of its own; a forest of package graph.
-/
import Derived.Test.YtdlecihkjokeiaaGoc
namespace Go.Proofs.Ytdlecihkjokeiaa
open Go.Maps Go.RowKit
set_option linter.unusedVariables false
set_option maxRecDepth 100000

/-- a list of lists: the row of slices v, its slices vals, each a row of its own -/
structure LL {α : Type} (w : World) (base : Nat) (To Ti : TypeId) (sz : Nat) (enc : α → List Value) (v : Value) (vals : List Value) (ls : List (List α)) : Prop where
  ty : To ≠ Ti
  out : w.ownsRow base To 1 v vals.length vals
  len : ls.length = vals.length
  inn : ∀ (j : Nat) (u : Value) (l : List α), vals[j]? = some u → ls[j]? = some l → w.ownsRow base Ti sz u l.length (l.flatMap enc)
  apart : ∀ (i j : Nat) (u u' : Value), vals[i]? = some u → vals[j]? = some u' → i ≠ j → Sep u u'
theorem LL.inn' {α : Type} {w : World} {base : Nat} {To Ti : TypeId} {sz : Nat} {enc : α → List Value} {v : Value} {vals : List Value} {ls : List (List α)} (h : LL w base To Ti sz enc v vals ls) {j : Nat} {u : Value} (hj : vals[j]? = some u) : ∃ l, ls[j]? = some l ∧ w.ownsRow base Ti sz u l.length (l.flatMap enc) := by
  have hlt := (List.getElem?_eq_some_iff.1 hj).1
  obtain ⟨l, hl⟩ : ∃ l, ls[j]? = some l := ⟨_, List.getElem?_eq_getElem (by rw [h.len]; exact hlt)⟩
  exact ⟨l, hl, h.inn j u l hj hl⟩
theorem LL.kept {α : Type} {w w' : World} {base : Nat} {To Ti : TypeId} {sz : Nat} {enc : α → List Value} {v : Value} {vals : List Value} {ls : List (List α)} (h : LL w base To Ti sz enc v vals ls) (h1 : ∀ g, v.ownBlock = some g → w'.heap[g]? = w.heap[g]?) (h2 : ∀ u ∈ vals, ∀ g, u.ownBlock = some g → w'.heap[g]? = w.heap[g]?) : LL w' base To Ti sz enc v vals ls :=
  ⟨h.ty, row_block h.out h1, h.len, fun j u l hj hl => row_block (h.inn j u l hj hl) (h2 u (List.mem_of_getElem? hj)), h.apart⟩
theorem LL.lt {α : Type} {w : World} {base : Nat} {To Ti : TypeId} {sz : Nat} {enc : α → List Value} {v : Value} {vals : List Value} {ls : List (List α)} (h : LL w base To Ti sz enc v vals ls) {u : Value} (hu : u ∈ vals) {g : Nat} (hg : u.ownBlock = some g) : base ≤ g ∧ g < w.heap.size := by
  obtain ⟨j, hj⟩ := List.mem_iff_getElem?.1 hu
  obtain ⟨l, _, hr⟩ := h.inn' hj
  exact row_ge hr hg
theorem LL.below {α : Type} {w w' : World} {base : Nat} {To Ti : TypeId} {sz : Nat} {enc : α → List Value} {v : Value} {vals : List Value} {ls : List (List α)} (h : LL w base To Ti sz enc v vals ls) (hb : Below w.heap.size w w') : LL w' base To Ti sz enc v vals ls :=
  h.kept (fun g hg => hb.block g (row_ge h.out hg).2) (fun u hu g hg => hb.block g (h.lt hu hg).2)
theorem LL.nil {α : Type} (w : World) (base : Nat) {To Ti : TypeId} (ht : To ≠ Ti) (sz : Nat) (enc : α → List Value) : LL w base To Ti sz enc (.slice none 0 0) [] [] :=
  ⟨ht, World.ownsRow_nil _ _ _ _, rfl, fun j u l h => by simp at h, fun i j u u' h => by simp at h⟩
/-- one of the lists has grown -/
theorem LL.store {α : Type} {w w1 : World} {base BL n cap j : Nat} {To Ti : TypeId} {sz : Nat} {enc : α → List Value} {vals : List Value} {ls : List (List α)} {u u' : Value} {l' : List α} (h : LL w base To Ti sz enc (.slice (some ⟨BL, 0, none⟩) n cap) vals ls) (hj : vals[j]? = some u)
    (hg : w.grownBy w1 u.ownBlock) (hr : w1.ownsRow base Ti sz u' l'.length (l'.flatMap enc)) (hv : ∀ g, u'.ownBlock = some g → u.ownBlock = some g ∨ w.heap.size ≤ g) :
    LL (w1.setCell ⟨BL, j, none⟩ u') base To Ti sz enc (.slice (some ⟨BL, 0, none⟩) n cap) (vals.set j u') (ls.set j l') := by
  obtain ⟨l, hl, hru⟩ := h.inn' hj
  have hlt := (List.getElem?_eq_some_iff.1 hj).1
  have hBL : BL < w.heap.size := (row_ge h.out (g := BL) rfl).2
  have hn : vals.length = n := by
    obtain ⟨_, ⟨q, _⟩ | ⟨g, c2, cur, q, _⟩⟩ := h.out
    · cases q
    · cases q; rfl
  have o1 : w1.ownsRow base To 1 (.slice (some ⟨BL, 0, none⟩) n cap) vals.length vals := h.out.kept hg (Or.inr (fun e => row_type h.out hru h.ty (g := BL) rfl e.symm))
  have o2 := o1
  rw [hn] at o2
  have hnb : ∀ x : Value, ∀ l2 : List α, w.ownsRow base Ti sz x l2.length (l2.flatMap enc) → x.ownBlock ≠ some BL := fun x l2 hx e => row_type h.out hx h.ty (g := BL) rfl e
  have hub : u'.ownBlock ≠ some BL := fun e => by
    rcases hv BL e with q | q
    · exact hnb u l hru q
    · omega
  refine ⟨h.ty, ?_, by simp [h.len], fun i x m hi hm => ?_, fun i k x y hi hk hik => ?_⟩
  · rw [List.length_set, hn]; exact (o2.stored j u').1
  · rw [List.getElem?_set] at hi hm
    by_cases e : j = i
    · subst e
      rw [if_pos rfl, if_pos hlt] at hi
      rw [if_pos rfl, if_pos (by rw [h.len]; exact hlt)] at hm
      cases hi; cases hm
      exact row_block hr fun g hg2 => heap_setCell_other w1 ⟨BL, j, none⟩ g u' (fun e => hub (by rw [hg2]; simpa using e))
    · rw [if_neg e] at hi hm
      have h3 := h.inn i x m hi hm
      have h4 := h3.kept hg (by
        cases q : x.ownBlock with
        | none => exact .inl rfl
        | some g => exact .inr (fun q2 => h.apart i j x u hi hj (fun e2 => e e2.symm) g q q2.symm))
      exact row_block h4 fun g hg2 => heap_setCell_other w1 ⟨BL, j, none⟩ g u' (fun e2 => hnb x m h3 (by rw [hg2]; simpa using e2))
  · rw [List.getElem?_set] at hi hk
    by_cases e : j = i
    · subst e
      rw [if_pos rfl, if_pos hlt] at hi
      cases hi
      rw [if_neg hik] at hk
      intro g q1 q2
      rcases hv g q1 with q3 | q3
      · exact h.apart j k u y hj hk hik g q3 q2
      · have := (h.lt (List.mem_of_getElem? hk) q2).2; omega
    · rw [if_neg e] at hi
      by_cases e2 : j = k
      · subst e2
        rw [if_pos rfl, if_pos hlt] at hk
        cases hk
        intro g q1 q2
        rcases hv g q2 with q3 | q3
        · exact h.apart i j x u hi hj hik g q1 q3
        · have := (h.lt (List.mem_of_getElem? hi) q1).2; omega
      · rw [if_neg e2] at hk
        exact h.apart i k x y hi hk hik
/-- a list more -/
theorem LL.push {α : Type} {w w1 : World} {base : Nat} {To Ti : TypeId} {sz : Nat} {enc : α → List Value} {v v' : Value} {vals : List Value} {ls : List (List α)} {u : Value} {l : List α} (h : LL w base To Ti sz enc v vals ls) (hu : w.ownsRow base Ti sz u l.length (l.flatMap enc)) (hs : ∀ x ∈ vals, Sep x u)
    (hg : w.grownBy w1 v.ownBlock) (hr : w1.ownsRow base To 1 v' (vals.length + 1) (vals ++ [u])) : LL w1 base To Ti sz enc v' (vals ++ [u]) (ls ++ [l]) := by
  have hne : ∀ x : Value, ∀ l2 : List α, w.ownsRow base Ti sz x l2.length (l2.flatMap enc) → w1.ownsRow base Ti sz x l2.length (l2.flatMap enc) := fun x l2 hx => hx.kept hg (by
    cases q : x.ownBlock with
    | none => exact .inl rfl
    | some g => exact .inr (fun q2 => row_type hx h.out (fun e => h.ty e.symm) q q2.symm))
  refine ⟨h.ty, by rw [List.length_append]; exact hr, by simp [h.len], fun i x m hi hm => ?_, fun i k x y hi hk hik => ?_⟩
  · by_cases e : i < vals.length
    · rw [List.getElem?_append_left e] at hi
      rw [List.getElem?_append_left (by rw [h.len]; exact e)] at hm
      exact hne x m (h.inn i x m hi hm)
    · rw [List.getElem?_append_right (by omega)] at hi
      rw [List.getElem?_append_right (by rw [h.len]; omega)] at hm
      have e0 : i - vals.length = 0 := by
        have := (List.getElem?_eq_some_iff.1 hi).1; simp at this; omega
      rw [e0] at hi
      rw [h.len, e0] at hm
      cases hi; cases hm
      exact hne _ _ hu
  · have hs2 : ∀ x ∈ vals, Sep u x := fun x hx => (hs x hx).symm
    by_cases e : i < vals.length
    · rw [List.getElem?_append_left e] at hi
      by_cases e2 : k < vals.length
      · rw [List.getElem?_append_left e2] at hk
        exact h.apart i k x y hi hk hik
      · rw [List.getElem?_append_right (by omega)] at hk
        have e0 : k - vals.length = 0 := by
          have := (List.getElem?_eq_some_iff.1 hk).1; simp at this; omega
        rw [e0] at hk
        cases hk
        exact hs x (List.mem_of_getElem? hi)
    · rw [List.getElem?_append_right (by omega)] at hi
      have e0 : i - vals.length = 0 := by
        have := (List.getElem?_eq_some_iff.1 hi).1; simp at this; omega
      rw [e0] at hi
      cases hi
      by_cases e2 : k < vals.length
      · rw [List.getElem?_append_left e2] at hk
        exact hs2 y (List.mem_of_getElem? hk)
      · rw [List.getElem?_append_right (by omega)] at hk
        have e1 : k - vals.length = 0 := by
          have := (List.getElem?_eq_some_iff.1 hk).1; simp at this; omega
        exfalso; omega
def twE (t : Tw) : List Value := [sv t.1, .int .i64 (t.2 : Int)]
def nmE (s : Nm) : List Value := [sv s]
theorem nmE_map (l : List Nm) : l.flatMap nmE = l.map sv := by
  induction l with
  | nil => rfl
  | cons x t ih => rw [List.flatMap_cons, ih]; rfl
theorem twE_len (l : List Tw) : (l.flatMap twE).length = l.length * 2 := by
  induction l with
  | nil => rfl
  | cons x t ih => rw [List.flatMap_cons, List.length_append, ih]; simp [twE]; omega
theorem twE_get {l : List Tw} {k : Nat} {t : Tw} (h : l[k]? = some t) : (l.flatMap twE)[k * 2]? = some (sv t.1) ∧ (l.flatMap twE)[k * 2 + 1]? = some (.int .i64 (t.2 : Int)) := by
  induction l generalizing k with
  | nil => cases h
  | cons y r ih =>
    rw [List.flatMap_cons]
    have hy : (twE y).length = 2 := rfl
    cases k with
    | zero => cases h; exact ⟨rfl, rfl⟩
    | succ k =>
      rw [List.getElem?_append_right (by rw [hy]; omega), List.getElem?_append_right (by rw [hy]; omega), hy, show (k + 1) * 2 - 2 = k * 2 by omega, show (k + 1) * 2 + 1 - 2 = k * 2 + 1 by omega]
      exact ih (by simpa using h)
/-- the values of a forest's fields -/
structure Fb where
  vn : Value
  BL : Nat
  vt : Value
  vl : Value
  tv : List Value
  lv : List Value
/-- a forest -/
structure Fr where
  nd : List Nm
  tw : List (List Tw)
  tr : List Nm
  lp : List (List Nm)
/-- a forest in memory, at fp; all of it lies from base on -/
structure Fo (w : World) (base fp : Nat) (F : Fr) (b : Fb) : Prop where
  blk : w.heap[fp]? = some (.cells #[b.vn, .slice (some ⟨b.BL, 0, none⟩) F.tw.length F.tw.length, b.vt, b.vl] 77 (0, 0))
  lo : base ≤ fp
  nd : w.ownsRow base 9 1 b.vn F.nd.length (F.nd.map sv)
  tws : LL w base 107 109 2 twE (.slice (some ⟨b.BL, 0, none⟩) F.tw.length F.tw.length) b.tv F.tw
  tr : w.ownsRow base 9 1 b.vt F.tr.length (F.tr.map sv)
  lps : LL w base 29 9 1 nmE b.vl b.lv F.lp
  s1 : Sep b.vt b.vn
  s2 : ∀ u ∈ b.lv, Sep u b.vt
theorem Fo.lt {w : World} {base fp : Nat} {F : Fr} {b : Fb} (h : Fo w base fp F b) : fp < w.heap.size := (Array.getElem?_eq_some_iff.1 h.blk).1
theorem Fo.below {w w' : World} {base fp : Nat} {F : Fr} {b : Fb} (h : Fo w base fp F b) (hb : Below w.heap.size w w') : Fo w' base fp F b :=
  ⟨by rw [hb.block fp h.lt]; exact h.blk, h.lo, row_block h.nd fun g hg => hb.block g (row_ge h.nd hg).2, h.tws.below hb, row_block h.tr fun g hg => hb.block g (row_ge h.tr hg).2, h.lps.below hb, h.s1, h.s2⟩
theorem Fo.c {w : World} {base fp : Nat} {F : Fr} {b : Fb} (h : Fo w base fp F b) : w.cell? ⟨fp, 0, none⟩ = some b.vn ∧ w.cell? ⟨fp, 1, none⟩ = some (.slice (some ⟨b.BL, 0, none⟩) F.tw.length F.tw.length) ∧ w.cell? ⟨fp, 2, none⟩ = some b.vt ∧ w.cell? ⟨fp, 3, none⟩ = some b.vl := by
  refine ⟨?_, ?_, ?_, ?_⟩ <;> rw [cell_of_row w fp _ _ _ (0, 0) h.blk] <;> rfl
/-- how great a forest may be -/
structure Fr.ok (F : Fr) : Prop where
  n : F.tw.length ≤ 100000
  t : ∀ ts ∈ F.tw, ts.length ≤ 100000
  r : F.tr.length ≤ 100000
  l : F.lp.length ≤ 100000
theorem Fo.twR {w : World} {base fp : Nat} {F : Fr} {b : Fb} (h : Fo w base fp F b) (hk : F.ok) : TwR w fp w.heap.size F.tw := by
  refine ⟨h.lt, by have := hk.n; omega, fun ts ht => by have := hk.t ts ht; omega, b.BL, F.tw.length, h.c.2.1, (row_ge h.tws.out (g := b.BL) rfl).2, fun j ts hj => ?_⟩
  have hlt := (List.getElem?_eq_some_iff.1 hj).1
  have hn := h.tws.len
  obtain ⟨u, hu⟩ : ∃ u, b.tv[j]? = some u := ⟨_, List.getElem?_eq_getElem (by omega)⟩
  have hr := h.tws.inn j _ ts hu hj
  have o := h.tws.out
  rw [← hn] at o
  refine ⟨u, by rw [o.cellAt j (by omega)]; exact hu, ?_⟩
  obtain ⟨_, ⟨q1, q2⟩ | ⟨g, cap, cur, q1, q2, q3, q4⟩⟩ := hr
  · exact ⟨none, 0, by rw [q1, q2], .inl (List.length_eq_zero_iff.1 q2)⟩
  · refine ⟨_, cap, q1, .inr ⟨g, rfl, (Array.getElem?_eq_some_iff.1 q3).1, fun k t hkt => ?_⟩⟩
    have hr2 := h.tws.inn j _ ts hu hj
    rw [q1] at hr2
    have hl2 := (List.getElem?_eq_some_iff.1 hkt).1
    exact ⟨by rw [hr2.cellAt (k * 2) (by omega)]; exact (twE_get hkt).1, by rw [hr2.cellAt (k * 2 + 1) (by omega)]; exact (twE_get hkt).2⟩

end Go.Proofs.Ytdlecihkjokeiaa
