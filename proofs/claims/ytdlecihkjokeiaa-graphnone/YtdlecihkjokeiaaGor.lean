/-
  The document's examples of graph: awake of the statements; what is no net.
-/
import Derived.Test.YtdlecihkjokeiaaGoq
namespace Go.Proofs.Ytdlecihkjokeiaa
open Go.Maps Go.RowKit
set_option linter.unusedVariables false
set_option maxRecDepth 100000

theorem lit_row {w : World} {base q : Nat} {e : TypeId} {xs : List Value} (hb : w.heap[q]? = some (.cells xs.toArray e (0, 0))) (h : base ≤ q) (hl : xs.length ≤ 1000) : w.ownsRow base e 1 (.slice (some ⟨q, 0, none⟩) xs.length xs.length) xs.length xs :=
  ⟨by omega, .inr ⟨q, xs.length, xs.toArray, rfl, h, hb, Nat.le_refl _, by unfold maxLen; omega, by simp, by simp⟩⟩
/-- two lists of texts, three, as they are written out -/
theorem ll_lit2 (w : World) (l1 l2 : List Nm) (h1 : l1.length ≤ 1000) (h2 : l2.length ≤ 1000) : LL (((w.alloc (.cells (l1.map sv).toArray 9)).alloc (.cells (l2.map sv).toArray 9)).alloc (.cells #[.slice (some ⟨w.heap.size, 0, none⟩) l1.length l1.length, .slice (some ⟨w.heap.size + 1, 0, none⟩) l2.length l2.length] 29)) w.heap.size 29 9 1 nmE (.slice (some ⟨w.heap.size + 2, 0, none⟩) 2 2) [.slice (some ⟨w.heap.size, 0, none⟩) l1.length l1.length, .slice (some ⟨w.heap.size + 1, 0, none⟩) l2.length l2.length] [l1, l2] := by
  obtain ⟨q, hq⟩ : ∃ q, w.heap.size = q := ⟨_, rfl⟩
  rw [hq]
  obtain ⟨w1, e1⟩ : ∃ w1, w1 = w.alloc (.cells (l1.map sv).toArray 9) := ⟨_, rfl⟩
  rw [← e1]
  obtain ⟨w2, e2⟩ : ∃ w2, w2 = w1.alloc (.cells (l2.map sv).toArray 9) := ⟨_, rfl⟩
  rw [← e2]
  obtain ⟨w3, e3⟩ : ∃ w3, w3 = w2.alloc (.cells #[.slice (some ⟨q, 0, none⟩) l1.length l1.length, .slice (some ⟨q + 1, 0, none⟩) l2.length l2.length] 29) := ⟨_, rfl⟩
  rw [← e3]
  have s1 : w1.heap.size = q + 1 := by rw [e1, ← hq]; simp
  have s2 : w2.heap.size = q + 2 := by rw [e2]; simp [s1]
  have k1 : w1.heap[q]? = some (.cells (l1.map sv).toArray 9 (0, 0)) := by rw [e1, ← hq]; exact heap_alloc_new _ _
  have k2 : w2.heap[q + 1]? = some (.cells (l2.map sv).toArray 9 (0, 0)) := by rw [e2, ← s1]; exact heap_alloc_new _ _
  have k3 : w3.heap[q + 2]? = some (.cells #[.slice (some ⟨q, 0, none⟩) l1.length l1.length, .slice (some ⟨q + 1, 0, none⟩) l2.length l2.length] 29 (0, 0)) := by rw [e3, ← s2]; exact heap_alloc_new _ _
  have j1 : w3.heap[q]? = some (.cells (l1.map sv).toArray 9 (0, 0)) := by rw [e3, Below.heap_alloc _ _ _ (by omega), e2, Below.heap_alloc _ _ _ (by omega)]; exact k1
  have j2 : w3.heap[q + 1]? = some (.cells (l2.map sv).toArray 9 (0, 0)) := by rw [e3, Below.heap_alloc _ _ _ (by omega)]; exact k2
  have r1 := lit_row j1 (Nat.le_refl q) (by simpa using h1)
  have r2 := lit_row j2 (Nat.le_succ q) (by simpa using h2)
  have r3 := lit_row (xs := [.slice (some ⟨q, 0, none⟩) l1.length l1.length, .slice (some ⟨q + 1, 0, none⟩) l2.length l2.length]) k3 (show q ≤ q + 2 by omega) (by simp)
  rw [List.length_map] at r1 r2
  refine ⟨by decide, r3, rfl, fun j u l a b => ?_, fun i j u u' a b hij g x y => ?_⟩
  · match j, a, b with
    | 0, a, b => cases a; cases b; rw [nmE_map]; exact r1
    | 1, a, b => cases a; cases b; rw [nmE_map]; exact r2
    | j + 2, a, b => simp at a
  · match i, j, a, b with
    | 0, 0, a, b => exact absurd rfl hij
    | 0, 1, a, b => cases a; cases b; cases x; simp [Value.ownBlock] at y
    | 1, 0, a, b => cases a; cases b; cases x; simp [Value.ownBlock] at y
    | 1, 1, a, b => exact absurd rfl hij
    | i + 2, _, a, b => simp at a
    | 0, j + 2, a, b => simp at b
    | 1, j + 2, a, b => simp at b
theorem ll_lit3 (w : World) (l1 l2 l3 : List Nm) (h1 : l1.length ≤ 1000) (h2 : l2.length ≤ 1000) (h3 : l3.length ≤ 1000) : LL ((((w.alloc (.cells (l1.map sv).toArray 9)).alloc (.cells (l2.map sv).toArray 9)).alloc (.cells (l3.map sv).toArray 9)).alloc (.cells #[.slice (some ⟨w.heap.size, 0, none⟩) l1.length l1.length, .slice (some ⟨w.heap.size + 1, 0, none⟩) l2.length l2.length, .slice (some ⟨w.heap.size + 2, 0, none⟩) l3.length l3.length] 29)) w.heap.size 29 9 1 nmE (.slice (some ⟨w.heap.size + 3, 0, none⟩) 3 3) [.slice (some ⟨w.heap.size, 0, none⟩) l1.length l1.length, .slice (some ⟨w.heap.size + 1, 0, none⟩) l2.length l2.length, .slice (some ⟨w.heap.size + 2, 0, none⟩) l3.length l3.length] [l1, l2, l3] := by
  obtain ⟨q, hq⟩ : ∃ q, w.heap.size = q := ⟨_, rfl⟩
  rw [hq]
  obtain ⟨w1, e1⟩ : ∃ w1, w1 = w.alloc (.cells (l1.map sv).toArray 9) := ⟨_, rfl⟩
  rw [← e1]
  obtain ⟨w2, e2⟩ : ∃ w2, w2 = w1.alloc (.cells (l2.map sv).toArray 9) := ⟨_, rfl⟩
  rw [← e2]
  obtain ⟨w4, e4⟩ : ∃ w4, w4 = w2.alloc (.cells (l3.map sv).toArray 9) := ⟨_, rfl⟩
  rw [← e4]
  obtain ⟨w3, e3⟩ : ∃ w3, w3 = w4.alloc (.cells #[.slice (some ⟨q, 0, none⟩) l1.length l1.length, .slice (some ⟨q + 1, 0, none⟩) l2.length l2.length, .slice (some ⟨q + 2, 0, none⟩) l3.length l3.length] 29) := ⟨_, rfl⟩
  rw [← e3]
  have s1 : w1.heap.size = q + 1 := by rw [e1, ← hq]; simp
  have s2 : w2.heap.size = q + 2 := by rw [e2]; simp [s1]
  have s4 : w4.heap.size = q + 3 := by rw [e4]; simp [s2]
  have k1 : w1.heap[q]? = some (.cells (l1.map sv).toArray 9 (0, 0)) := by rw [e1, ← hq]; exact heap_alloc_new _ _
  have k2 : w2.heap[q + 1]? = some (.cells (l2.map sv).toArray 9 (0, 0)) := by rw [e2, ← s1]; exact heap_alloc_new _ _
  have k4 : w4.heap[q + 2]? = some (.cells (l3.map sv).toArray 9 (0, 0)) := by rw [e4, ← s2]; exact heap_alloc_new _ _
  have k3 : w3.heap[q + 3]? = some (.cells #[.slice (some ⟨q, 0, none⟩) l1.length l1.length, .slice (some ⟨q + 1, 0, none⟩) l2.length l2.length, .slice (some ⟨q + 2, 0, none⟩) l3.length l3.length] 29 (0, 0)) := by rw [e3, ← s4]; exact heap_alloc_new _ _
  have j1 : w3.heap[q]? = some (.cells (l1.map sv).toArray 9 (0, 0)) := by rw [e3, Below.heap_alloc _ _ _ (by omega), e4, Below.heap_alloc _ _ _ (by omega), e2, Below.heap_alloc _ _ _ (by omega)]; exact k1
  have j2 : w3.heap[q + 1]? = some (.cells (l2.map sv).toArray 9 (0, 0)) := by rw [e3, Below.heap_alloc _ _ _ (by omega), e4, Below.heap_alloc _ _ _ (by omega)]; exact k2
  have j3 : w3.heap[q + 2]? = some (.cells (l3.map sv).toArray 9 (0, 0)) := by rw [e3, Below.heap_alloc _ _ _ (by omega)]; exact k4
  have r1 := lit_row j1 (Nat.le_refl q) (by simpa using h1)
  have r2 := lit_row j2 (Nat.le_succ q) (by simpa using h2)
  have r4 := lit_row j3 (show q ≤ q + 2 by omega) (by simpa using h3)
  have r3 := lit_row (xs := [.slice (some ⟨q, 0, none⟩) l1.length l1.length, .slice (some ⟨q + 1, 0, none⟩) l2.length l2.length, .slice (some ⟨q + 2, 0, none⟩) l3.length l3.length]) k3 (show q ≤ q + 3 by omega) (by simp)
  rw [List.length_map] at r1 r2 r4
  refine ⟨by decide, r3, rfl, fun j u l a b => ?_, fun i j u u' a b hij g x y => ?_⟩
  · match j, a, b with
    | 0, a, b => cases a; cases b; rw [nmE_map]; exact r1
    | 1, a, b => cases a; cases b; rw [nmE_map]; exact r2
    | 2, a, b => cases a; cases b; rw [nmE_map]; exact r4
    | j + 3, a, b => simp at a
  · match i, j, a, b with
    | 0, 0, a, b => exact absurd rfl hij
    | 0, 1, a, b => cases a; cases b; cases x; simp [Value.ownBlock] at y
    | 0, 2, a, b => cases a; cases b; cases x; simp [Value.ownBlock] at y
    | 1, 0, a, b => cases a; cases b; cases x; simp [Value.ownBlock] at y
    | 1, 1, a, b => exact absurd rfl hij
    | 1, 2, a, b => cases a; cases b; cases x; simp [Value.ownBlock] at y
    | 2, 0, a, b => cases a; cases b; cases x; simp [Value.ownBlock] at y
    | 2, 1, a, b => cases a; cases b; cases x; simp [Value.ownBlock] at y
    | 2, 2, a, b => exact absurd rfl hij
    | i + 3, _, a, b => simp at a
    | 0, j + 3, a, b => simp at b
    | 1, j + 3, a, b => simp at b
    | 2, j + 3, a, b => simp at b
theorem lit_s (w : World) (l : List Nm) (h : l.length ≤ 1000) : (w.alloc (.cells (l.map sv).toArray 9)).ownsRow w.heap.size 9 1 (.slice (some ⟨w.heap.size, 0, none⟩) l.length l.length) l.length (l.map sv) := by
  have := lit_row (heap_alloc_new w (.cells (l.map sv).toArray 9)) (Nat.le_refl w.heap.size) (by simpa using h)
  rw [List.length_map] at this; exact this
theorem bl3 {w a b : World} (h : Below w.heap.size w a) (h2 : Below a.heap.size a b) : Below w.heap.size w b := h.trans (h2.mono h.size)
set_option maxHeartbeats 4000000 in
theorem awake16 (w : World) : Calls Try.prog 23 #[] w fun e w' => e = .returned (.bool true) ∧ Below w.heap.size w w' := by
  have hex := example_any w
  go_enter Try.func23, Try.ntmps23
  go_wp2_with fail
  refine hex.mono ?_
  rintro e1 w1 ⟨p, b0, b, rfl, hN1, hb1⟩
  have hP := gparts_any (gn_J hN1) pa_ex ps_ex
  have HN1 : Hid (Nt w1 b0 p (netOf exL) b ∧ Below w.heap.size w w1) := ⟨hN1, hb1⟩
  clear hex hN1 hb1
  go_wp2_with fail
  refine hP.mono ?_
  rintro e2 w2 ⟨v2, vals2, rfl, hL2, hb2⟩
  have hS := sameL_any _ w1.heap.size w2.heap.size v2 _ vals2 _ _ _ (hL2.below (((((Below.refl _ w2).alloc (Nat.le_refl _) _).alloc (by simp) _).alloc (by simp; omega) _))) (ll_lit2 w2 [[48], [97], [98]] [[99], [100]] (by decide) (by decide)) (by decide) (by decide) (by decide) (by decide)
  have HN2 : Hid (Nt w2 b0 p (netOf exL) b ∧ Below w.heap.size w w2) := ⟨HN1.out.1.below hb2, bl3 HN1.out.2 hb2⟩
  clear hP hL2 hb2 HN1
  go_wp2_with fail
  refine hS.mono ?_
  rintro e3 w3 ⟨rfl, hb3⟩
  have hN3 : Nt w3 b0 p (netOf exL) b ∧ Below w.heap.size w w3 := by
    have bx : Below w2.heap.size w2 w3 := bl3 (((((Below.refl _ w2).alloc (Nat.le_refl _) _).alloc (by simp) _).alloc (by simp; omega) _)) hb3
    exact ⟨HN2.out.1.below bx, bl3 HN2.out.2 bx⟩
  have hG := grounded_any (gn_J hN3.1) pa_ex
  rw [show grF 0 [0, 0, 0, 1, 1] = (11, 2) by decide] at hG
  have HN3 : Hid _ := hN3
  clear hS hb3 HN2 hN3
  go_wp2_with fail
  refine hG.mono ?_
  rintro e4 w4 ⟨rfl, hb4⟩
  have hN4 : Nt w4 b0 p (netOf exL) b ∧ Below w.heap.size w w4 := ⟨HN3.out.1.below hb4, bl3 HN3.out.2 hb4⟩
  have HN4 : Hid _ := hN4
  clear hG hb4 HN3 hN4
  go_wp2_with fail
  have hT := tree_any (gn_J HN4.out.1)
  refine hT.mono ?_
  rintro e5 w5 ⟨v5, rfl, hr5, hb5⟩
  have hN5 : Nt w5 b0 p (netOf exL) b ∧ Below w.heap.size w w5 := ⟨HN4.out.1.below hb5, bl3 HN4.out.2 hb5⟩
  have hS5 := sameS_any (w5.alloc (.cells (([[86, 49], [82, 49], [82, 51]] : List Nm).map sv).toArray 9)) w4.heap.size w5.heap.size v5 _ exF.tr [[86, 49], [82, 49], [82, 51]] (hr5.alloc _) (lit_s w5 [[86, 49], [82, 49], [82, 51]] (by decide)) (by decide) (by decide)
  rw [show decide (exF.tr = [[86, 49], [82, 49], [82, 51]]) = true by decide] at hS5
  have HN5 : Hid _ := hN5
  clear hT hr5 hb5 HN4 hN5
  go_wp2_with fail
  refine hS5.mono ?_
  rintro e6 w6 ⟨rfl, hb6⟩
  have hN6 : Nt w6 b0 p (netOf exL) b ∧ Below w.heap.size w w6 := by
    have bx : Below w5.heap.size w5 w6 := bl3 ((Below.refl _ w5).alloc (Nat.le_refl _) _) hb6
    exact ⟨HN5.out.1.below bx, bl3 HN5.out.2 bx⟩
  have hLo := loops_any (gn_J hN6.1)
  have HN6 : Hid _ := hN6
  clear hS5 hb6 HN5 hN6
  go_wp2_with fail
  refine hLo.mono ?_
  rintro e7 w7 ⟨v7, vals7, rfl, hL7, hb7⟩
  have hS7 := sameL_any _ w6.heap.size w7.heap.size v7 _ vals7 _ _ _ (hL7.below ((((((Below.refl _ w7).alloc (Nat.le_refl _) _).alloc (by simp) _).alloc (by simp; omega) _).alloc (by simp; omega) _))) (ll_lit3 w7 [[67, 49], [86, 49], [82, 49]] [[82, 50], [86, 49], [82, 49]] [[82, 52], [82, 51]] (by decide) (by decide) (by decide)) (by decide) (by decide) (by decide) (by decide)
  rw [show decide (exF.lp = [[[67, 49], [86, 49], [82, 49]], [[82, 50], [86, 49], [82, 49]], [[82, 52], [82, 51]]]) = true by decide] at hS7
  have HN7 : Hid (Nt w7 b0 p (netOf exL) b ∧ Below w.heap.size w w7) := ⟨HN6.out.1.below hb7, bl3 HN6.out.2 hb7⟩
  clear hLo hL7 hb7 HN6
  go_wp2_with fail
  refine hS7.mono ?_
  rintro e8 w8 ⟨rfl, hb8⟩
  have hN8 : Nt w8 b0 p (netOf exL) b ∧ Below w.heap.size w w8 := by
    have bx : Below w7.heap.size w7 w8 := bl3 ((((((Below.refl _ w7).alloc (Nat.le_refl _) _).alloc (by simp) _).alloc (by simp; omega) _).alloc (by simp; omega) _)) hb8
    exact ⟨HN7.out.1.below bx, bl3 HN7.out.2 bx⟩
  have hV := volt_any (gn_B hN8.1)
  rw [show decide (0 < exB.lp.length) = false by decide] at hV
  have HN8 : Hid _ := hN8
  clear hS7 hb8 HN7 hN8
  go_wp2_with fail
  refine hV.mono ?_
  rintro e9 w9 ⟨rfl, hb9⟩
  have HB9 : Hid (Below w.heap.size w w9) := bl3 HN8.out.2 hb9
  clear hV hb9 HN8
  go_wp2_with fail
  go_ret
  exact ⟨rfl, HB9.out⟩
theorem grow_none {P : Value} {w : World} (K : FuncId) (h : NoNet P w) : Calls Try.prog 36 #[P, .func (.func K) #[] #[]] w fun e w' => e = .returned (.tuple #[.pointer none, .bool false]) ∧ w' = w := by
  have hw := nwithout_none h ⟨#[]⟩
  go_enter Try.func36, Try.ntmps36
  go_wp2_with fail
  refine hw.mono ?_
  rintro e1 w1 ⟨rfl, hw1⟩
  have hw2 := hw1.symm
  clear hw1
  subst hw2
  clear hw
  go_wp2_with fail
  go_ret2
  exact ⟨rfl, rfl⟩
theorem gparts_none {P : Value} {w : World} (h : NoNet P w) : Calls Try.prog 10 #[P] w fun e w' => e = .returned (.slice none 0 0) ∧ w' = w := by
  have hg := grow_none 37 h
  go_enter Try.func10, Try.ntmps10
  go_wp2_with fail
  refine hg.mono ?_
  rintro e1 w1 ⟨rfl, rfl⟩
  go_wp2_with fail
  go_ret
  exact ⟨rfl, rfl⟩
theorem tree_none {P : Value} {w : World} (h : NoNet P w) : Calls Try.prog 11 #[P] w fun e w' => e = .returned (.slice none 0 0) ∧ w' = w := by
  have hg := grow_none 37 h
  go_enter Try.func11, Try.ntmps11
  go_wp2_with fail
  refine hg.mono ?_
  rintro e1 w1 ⟨rfl, rfl⟩
  go_wp2_with fail
  go_ret
  exact ⟨rfl, rfl⟩
theorem loops_none {P : Value} {w : World} (h : NoNet P w) : Calls Try.prog 12 #[P] w fun e w' => e = .returned (.slice none 0 0) ∧ w' = w := by
  have hg := grow_none 37 h
  go_enter Try.func12, Try.ntmps12
  go_wp2_with fail
  refine hg.mono ?_
  rintro e1 w1 ⟨rfl, rfl⟩
  go_wp2_with fail
  go_ret
  exact ⟨rfl, rfl⟩
theorem volt_none {P : Value} {w : World} (h : NoNet P w) : Calls Try.prog 20 #[P] w fun e w' => e = .returned (.bool false) ∧ w' = w := by
  have hg := grow_none 45 h
  go_enter Try.func20, Try.ntmps20
  go_wp2_with fail
  refine hg.mono ?_
  rintro e1 w1 ⟨rfl, rfl⟩
  go_wp2_with fail
  go_ret
  exact ⟨rfl, rfl⟩
theorem grounded_none {P : Value} {w : World} (h : NoNet P w) : Calls Try.prog 18 #[P] w fun e w' => e = .returned (.agg #[.int .i64 1, .int .i64 (-1)]) ∧ Below w.heap.size w w' := by
  have hg := grow_none 37 (h.al (.cells #[.int .i64 0, .int .i64 0] 37))
  go_enter Try.func18, Try.ntmps18
  go_wp2_with fail
  refine hg.mono ?_
  rintro e1 w1 ⟨rfl, hw1⟩
  subst hw1
  go_wp2_with fail
  (try simp only [Exit.inBlock, Exit.then])
  refine bodyPost_ret (by simp [results, Try.results18, go_sem]; try rfl) rfl ?_
  exact ⟨rfl, (Below.refl _ w).alloc (Nat.le_refl _) _⟩
theorem none_any {P : Value} {w : World} (h : NoNet P w) : Calls Try.prog 24 #[P] w fun e w' => e = .returned (.bool true) ∧ Below w.heap.size w w' := by
  have h1 := gparts_none h
  have h2 := tree_none h
  have h3 := loops_none h
  have h4 := volt_none h
  have h5 := grounded_none h
  go_enter Try.func24, Try.ntmps24
  go_wp2_with fail
  refine h1.mono ?_
  rintro e1 w1 ⟨rfl, hw1⟩
  have hq1 := hw1.symm
  clear hw1
  subst hq1
  go_wp2_with fail
  refine h2.mono ?_
  rintro e2 w2 ⟨rfl, hw2⟩
  have hq2 := hw2.symm
  clear hw2
  subst hq2
  go_wp2_with fail
  refine h3.mono ?_
  rintro e3 w3 ⟨rfl, hw3⟩
  have hq3 := hw3.symm
  clear hw3
  subst hq3
  go_wp2_with fail
  refine h4.mono ?_
  rintro e4 w4 ⟨rfl, hw4⟩
  have hq4 := hw4.symm
  clear hw4
  subst hq4
  go_wp2_with fail
  refine h5.mono ?_
  rintro e5 w5 ⟨rfl, hb5⟩
  go_wp2_with fail
  go_ret
  exact ⟨rfl, hb5⟩
theorem gnone_walk (w : World) : Calls Try.prog 4 #[] w fun e w' => e = .returned (.bool true) ∧ Below w.heap.size w w' := by
  have ha := awake16 w
  go_enter Try.func4, Try.ntmps4
  go_wp2_with fail
  refine ha.mono ?_
  rintro e1 w1 ⟨rfl, hb1⟩
  have hn1 := none_any (P := .pointer none) (w := w1) (.inl rfl)
  clear ha
  go_wp2_with fail
  refine hn1.mono ?_
  rintro e2 w2 ⟨rfl, hb2⟩
  have hz : NoNet (.pointer (some ⟨w2.heap.size, 0, none⟩)) (w2.alloc (.cells #[.slice none 0 0, .slice none 0 0, .map none, .slice none 0 0, .map none, .slice none 0 0, .map none] 50)) := .inr ⟨w2.heap.size, rfl, World.cell?_alloc_new _ _ _ _⟩
  have hn2 := none_any hz
  have HB2 : Hid (Below w.heap.size w w2) := bl3 hb1 hb2
  clear hn1 hz hb1 hb2
  go_wp2_with fail
  refine hn2.mono ?_
  rintro e3 w3 ⟨rfl, hb3⟩
  have HB3 : Hid (Below w.heap.size w w3) := bl3 (HB2.out.alloc HB2.out.size _) hb3
  clear hn2 hb3
  go_wp2_with fail
  go_ret
  exact ⟨rfl, HB3.out⟩

end Go.Proofs.Ytdlecihkjokeiaa
