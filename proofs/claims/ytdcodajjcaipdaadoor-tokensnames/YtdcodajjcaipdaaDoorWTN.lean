/-
  TokensNames: the walk.
-/
import Derived.Test.YtdcodajjcaipdaaDoorWTL
import Derived.Test.YtdcodajjcaipdaaDoorTpn
namespace Go.Proofs.YtdcodajjcaipdaaDoor
open RowKit Joins Deep
set_option linter.unusedVariables false

def nT1 : ByteArray := ⟨#[32, 32, 10, 42, 32, 120, 10, 59, 32, 121, 10, 9, 67, 49, 32, 32, 98]⟩
def nT2 : ByteArray := ⟨#[]⟩
def nT3 : ByteArray := ⟨#[10]⟩
def nT4 : ByteArray := ⟨#[97, 10]⟩
def nT5 : ByteArray := ⟨#[97, 10, 98, 0]⟩
def nT6 : ByteArray := ⟨#[97, 32, 42, 32, 200]⟩
def nS80 : ByteArray := ⟨(Lib.repeatL [120] 80).toArray⟩
def nS81 : ByteArray := nS80 ++ ⟨#[120]⟩
def nS82 : ByteArray := nS80 ++ ⟨#[200]⟩
set_option maxRecDepth 100000 in
theorem ne1 : erL 0 (liT nT1) = (0, 0) := by kernel_rfl
def nL1 : List (List Tok) := [[], [], [], [(⟨#[67, 49]⟩, 3, 1), (⟨#[98]⟩, 3, 5)]]
set_option maxRecDepth 100000 in
theorem nl1 : tkL 0 (liT nT1) = nL1 := by kernel_rfl
set_option maxRecDepth 100000 in
theorem ne2 : erL 0 (liT nT2) = (0, 0) := by kernel_rfl
def nL2 : List (List Tok) := []
set_option maxRecDepth 100000 in
theorem nl2 : tkL 0 (liT nT2) = nL2 := by kernel_rfl
set_option maxRecDepth 100000 in
theorem ne3 : erL 0 (liT nT3) = (0, 0) := by kernel_rfl
def nL3 : List (List Tok) := [[]]
set_option maxRecDepth 100000 in
theorem nl3 : tkL 0 (liT nT3) = nL3 := by kernel_rfl
set_option maxRecDepth 100000 in
theorem ne4 : erL 0 (liT nT4) = (0, 0) := by kernel_rfl
def nL4 : List (List Tok) := [[(⟨#[97]⟩, 0, 0)]]
set_option maxRecDepth 100000 in
theorem nl4 : tkL 0 (liT nT4) = nL4 := by kernel_rfl
set_option maxRecDepth 100000 in
theorem ne5 : erL 0 (liT nT5) = (240, 1) := by kernel_rfl
set_option maxRecDepth 100000 in
theorem ne6 : erL 0 (liT nT6) = (0, 0) := by kernel_rfl
def nL6 : List (List Tok) := [[(⟨#[97]⟩, 0, 0)]]
set_option maxRecDepth 100000 in
theorem nl6 : tkL 0 (liT nT6) = nL6 := by kernel_rfl
set_option maxRecDepth 100000 in
theorem ne7 : erL 0 (liT nS81) = (3, 0) := by kernel_rfl
set_option maxRecDepth 100000 in
theorem ne8 : erL 0 (liT nS80) = (0, 0) := by kernel_rfl
def nL8 : List (List Tok) := [[(nS80, 0, 0)]]
set_option maxRecDepth 100000 in
theorem nl8 : tkL 0 (liT nS80) = nL8 := by kernel_rfl
set_option maxRecDepth 100000 in
theorem ne9 : erL 0 (liT nS82) = (240, 0) := by kernel_rfl
theorem n80 : nS80.size = 80 := by kernel_rfl
theorem n81 : nS81.size = 81 := by unfold nS81; rw [ByteArray.size_append, n80]; rfl
theorem n82 : nS82.size = 81 := by unfold nS82; rw [ByteArray.size_append, n80]; rfl
/-- what is carried from call to call: faults that lie in memory, lists that are read -/
structure Car (w wr : World) (fs : List (Nat × Int × Int)) (vs : List (Value × List (List Tok))) : Prop where
  bel : Below w.heap.size w wr
  flt : ∀ p ∈ fs, wr.heap[p.1]? = some (.cells #[.int .i64 p.2.1, .int .i64 p.2.2] 25 (0, 0))
  rd : ∀ p ∈ vs, RdL wr p.1 p.2
theorem Car.next {w wr w' : World} {fs : List (Nat × Int × Int)} {vs : List (Value × List (List Tok))} (h : Car w wr fs vs) (hb : Below wr.heap.size wr w') : Car w w' fs vs :=
  ⟨h.bel.trans (hb.mono h.bel.size), fun p hp => kp0 (h.flt p hp) hb, fun p hp => (h.rd p hp).kept hb⟩
theorem Car.flts {w wr : World} {fs : List (Nat × Int × Int)} {vs : List (Value × List (List Tok))} (h : Car w wr fs vs) (x y : Int) : Car w (wr.alloc (.cells #[.int .i64 x, .int .i64 y] 25)) ((wr.heap.size, x, y) :: fs) vs := by
  refine ⟨h.bel.alloc h.bel.size _, fun p hp => ?_, fun p hp => (h.rd p hp).kept ((Below.refl _ _).alloc (Nat.le_refl _) _)⟩
  rcases List.mem_cons.1 hp with rfl | hp
  · exact heap_alloc_new _ _
  · exact kpa (h.flt p hp) _
theorem Car.add {w wr : World} {fs : List (Nat × Int × Int)} {vs : List (Value × List (List Tok))} (h : Car w wr fs vs) {v : Value} {ls : List (List Tok)} (hr : RdL wr v ls) : Car w wr fs ((v, ls) :: vs) :=
  ⟨h.bel, h.flt, fun p hp => by
    rcases List.mem_cons.1 hp with rfl | hp
    · exact hr
    · exact h.rd p hp⟩
theorem car_lt {w : World} {k : Nat} {c : Obj} (h : w.heap[k]? = some c) : k < w.heap.size := by
  rcases Nat.lt_or_ge k w.heap.size with q | q
  · exact q
  · rw [Array.getElem?_eq_none q] at h; cases h
theorem Car.start (w : World) : Car w w [] [] := ⟨Below.refl _ _, fun p hp => (by cases hp), fun p hp => (by cases hp)⟩
theorem cut_cl {s : ByteArray} {L : List (List Tok)} {n : Nat} (hs : s.size ≤ 65536) (he : erL 0 (liT s) = (0, 0)) (hl : tkL 0 (liT s) = L) (hn : L.length = n) (w : World) (hm : Mln w) :
    Calls Tryd.prog 9 #[.string s] w fun e w' => ∃ A c, e = .returned (.tuple #[.slice A n c, fltV 0 0]) ∧ RdL w' (.slice A n c) L ∧ Below w.heap.size w w' := by
  refine (cut_ok s w hs hm he).mono ?_
  rintro e w' ⟨v, h1, h2, h3⟩
  rw [hl] at h2
  obtain ⟨q, A, c, h4, h5⟩ := h2
  rw [hn] at h4
  subst h4
  exact ⟨A, c, h1, ⟨q, A, c, by rw [hn], h5⟩, h3⟩
/-- the literal with which the first example is held -/
theorem n1_rd (w : World) (B0 B1 B2 B3 BL : Nat) (h3 : w.heap[B3]? = some (.cells #[.string ⟨#[67, 49]⟩, .int .i64 3, .int .i64 1, .string ⟨#[98]⟩, .int .i64 3, .int .i64 5] 32 (0, 0)))
    (hl : w.heap[BL]? = some (.cells #[.slice (some ⟨B0, 0, none⟩) 0 0, .slice (some ⟨B1, 0, none⟩) 0 0, .slice (some ⟨B2, 0, none⟩) 0 0, .slice (some ⟨B3, 0, none⟩) 2 2] 30 (0, 0))) : RdL w (.slice (some ⟨BL, 0, none⟩) 4 4) nL1 := by
  refine ⟨by decide, _, _, rfl, .inr ⟨BL, rfl, fun k ts hk => ?_⟩⟩
  have hk4 : k < 4 := (List.getElem?_eq_some_iff.1 hk).1
  have e0 : ∀ B, RdT w (.slice (some ⟨B, 0, none⟩) 0 0) [] := fun B => ⟨by simp, _, _, rfl, .inl rfl⟩
  match k, hk4 with
  | 0, _ => cases hk; exact ⟨_, by rw [cell_of_row w BL 0 _ _ (0, 0) hl]; rfl, e0 _⟩
  | 1, _ => cases hk; exact ⟨_, by rw [cell_of_row w BL 1 _ _ (0, 0) hl]; rfl, e0 _⟩
  | 2, _ => cases hk; exact ⟨_, by rw [cell_of_row w BL 2 _ _ (0, 0) hl]; rfl, e0 _⟩
  | 3, _ => cases hk; exact ⟨_, by rw [cell_of_row w BL 3 _ _ (0, 0) hl]; rfl, RdT.lit (ts := [(⟨#[67, 49]⟩, 3, 1), (⟨#[98]⟩, 3, 5)]) h3 rfl (by decide)⟩
/-- the first list of lists, its length -/
theorem rd_first {w : World} {A : Option Addr} {n c : Nat} {l : List Tok} {r : List (List Tok)} (h : RdL w (.slice A n c) (l :: r)) : ∃ b u d, A = some ⟨b, 0, none⟩ ∧ w.cell? ⟨b, 0, none⟩ = some (.slice u l.length d) := by
  obtain ⟨_, A', c', h1, h2⟩ := h
  simp only [Value.slice.injEq] at h1
  obtain ⟨rfl, _, rfl⟩ := h1
  rcases h2 with h2 | ⟨b, h3, h4⟩
  · cases h2
  · obtain ⟨u, q1, _, A2, c2, q2, _⟩ := h4 0 l rfl
    subst q2
    exact ⟨b, A2, c2, h3, q1⟩

theorem al5 (w : World) (a b c d e : Obj) : Below w.heap.size w (((((w.alloc a).alloc b).alloc c).alloc d).alloc e) := by
  refine Below.alloc (Below.alloc (Below.alloc (Below.alloc ((Below.refl _ w).alloc (Nat.le_refl _) a) ?_ b) ?_ c) ?_ d) ?_ e <;> simp <;> omega
theorem n1_same {w wz : World} {fs : List (Nat × Int × Int)} {vs : List (Value × List (List Tok))} (h : Car w wz fs vs) {A : Option Addr} {c : Nat} (hm : (Value.slice A 4 c, nL1) ∈ vs) :
    Calls Tryd.prog 11 #[.slice A 4 c, .slice (some ⟨wz.heap.size + 1 + 1 + 1 + 1 + 1 + 1, 0, none⟩) 4 4] (((((((wz.alloc (.cells #[.int .i64 150, .int .i64 0] 25)).alloc (.cells #[.int .i64 0, .int .i64 0] 25)).alloc (.cells #[] 32)).alloc (.cells #[] 32)).alloc (.cells #[] 32)).alloc (.cells #[.string ⟨#[67, 49]⟩, .int .i64 3, .int .i64 1, .string ⟨#[98]⟩, .int .i64 3, .int .i64 5] 32)).alloc (.cells #[.slice (some ⟨wz.heap.size + 1 + 1, 0, none⟩) 0 0, .slice (some ⟨wz.heap.size + 1 + 1 + 1, 0, none⟩) 0 0, .slice (some ⟨wz.heap.size + 1 + 1 + 1 + 1, 0, none⟩) 0 0, .slice (some ⟨wz.heap.size + 1 + 1 + 1 + 1 + 1, 0, none⟩) 2 2] 30)) fun e w' => e = .returned (.bool true) ∧ Car w w' ((wz.heap.size + 1, 0, 0) :: (wz.heap.size, 150, 0) :: fs) vs := by
  have h1 := (h.flts 150 0).flts 0 0
  rw [show (wz.alloc (.cells #[.int .i64 150, .int .i64 0] 25)).heap.size = wz.heap.size + 1 by simp] at h1
  generalize hW : (wz.alloc (.cells #[.int .i64 150, .int .i64 0] 25)).alloc (.cells #[.int .i64 0, .int .i64 0] 25) = W at h1 ⊢
  have hs : W.heap.size = wz.heap.size + 1 + 1 := by rw [← hW]; simp
  rw [← hs]
  clear hW hs h
  have h2 := h1.next (al5 W (.cells #[] 32) (.cells #[] 32) (.cells #[] 32) (.cells #[.string ⟨#[67, 49]⟩, .int .i64 3, .int .i64 1, .string ⟨#[98]⟩, .int .i64 3, .int .i64 5] 32) (.cells #[.slice (some ⟨W.heap.size, 0, none⟩) 0 0, .slice (some ⟨W.heap.size + 1, 0, none⟩) 0 0, .slice (some ⟨W.heap.size + 1 + 1, 0, none⟩) 0 0, .slice (some ⟨W.heap.size + 1 + 1 + 1, 0, none⟩) 2 2] 30))
  have h3 := n1_rd (((((W.alloc (.cells #[] 32)).alloc (.cells #[] 32)).alloc (.cells #[] 32)).alloc (.cells #[.string ⟨#[67, 49]⟩, .int .i64 3, .int .i64 1, .string ⟨#[98]⟩, .int .i64 3, .int .i64 5] 32)).alloc (.cells #[.slice (some ⟨W.heap.size, 0, none⟩) 0 0, .slice (some ⟨W.heap.size + 1, 0, none⟩) 0 0, .slice (some ⟨W.heap.size + 1 + 1, 0, none⟩) 0 0, .slice (some ⟨W.heap.size + 1 + 1 + 1, 0, none⟩) 2 2] 30)) W.heap.size (W.heap.size + 1) (W.heap.size + 1 + 1) (W.heap.size + 1 + 1 + 1) (W.heap.size + 1 + 1 + 1 + 1)
    (by rw [blk_alloc_lt _ _ _ (by simp)]
        have := heap_alloc_new (((W.alloc (.cells #[] 32)).alloc (.cells #[] 32)).alloc (.cells #[] 32)) (.cells #[.string ⟨#[67, 49]⟩, .int .i64 3, .int .i64 1, .string ⟨#[98]⟩, .int .i64 3, .int .i64 5] 32)
        rw [show (((W.alloc (.cells #[] 32)).alloc (.cells #[] 32)).alloc (.cells #[] 32)).heap.size = W.heap.size + 1 + 1 + 1 by simp] at this
        exact this)
    (by have := heap_alloc_new ((((W.alloc (.cells #[] 32)).alloc (.cells #[] 32)).alloc (.cells #[] 32)).alloc (.cells #[.string ⟨#[67, 49]⟩, .int .i64 3, .int .i64 1, .string ⟨#[98]⟩, .int .i64 3, .int .i64 5] 32)) (.cells #[.slice (some ⟨W.heap.size, 0, none⟩) 0 0, .slice (some ⟨W.heap.size + 1, 0, none⟩) 0 0, .slice (some ⟨W.heap.size + 1 + 1, 0, none⟩) 0 0, .slice (some ⟨W.heap.size + 1 + 1 + 1, 0, none⟩) 2 2] 30)
        rw [show ((((W.alloc (.cells #[] 32)).alloc (.cells #[] 32)).alloc (.cells #[] 32)).alloc (.cells #[.string ⟨#[67, 49]⟩, .int .i64 3, .int .i64 1, .string ⟨#[98]⟩, .int .i64 3, .int .i64 5] 32)).heap.size = W.heap.size + 1 + 1 + 1 + 1 by simp] at this
        exact this)
  refine (same_any _ _ _ nL1 nL1 (h2.rd _ hm) h3).mono ?_
  rintro e w' ⟨rfl, q, rfl⟩
  exact ⟨by simp, h2.next (below_dn (Below.refl _ _) q)⟩

set_option maxHeartbeats 8000000 in
set_option maxRecDepth 100000 in
theorem names_walk (w : World) (hm : Mln w) : Calls Tryd.prog 8 #[] w fun e w' => e = .returned (.bool true) ∧ Below w.heap.size w w' := by
  have HM : Hid (Mln w) := hm
  have HC1 : Hid (∀ w : World, Mln w → Calls Tryd.prog 9 #[.string ⟨#[32, 32, 10, 42, 32, 120, 10, 59, 32, 121, 10, 9, 67, 49, 32, 32, 98]⟩] w fun e w' => ∃ A c, e = .returned (.tuple #[.slice A 4 c, fltV 0 0]) ∧ RdL w' (.slice A 4 c) nL1 ∧ Below w.heap.size w w') := fun w hm => cut_cl (s := nT1) (by decide) ne1 nl1 rfl w hm
  have HC2 : Hid (∀ w : World, Mln w → Calls Tryd.prog 9 #[.string ⟨#[]⟩] w fun e w' => ∃ A c, e = .returned (.tuple #[.slice A 0 c, fltV 0 0]) ∧ RdL w' (.slice A 0 c) nL2 ∧ Below w.heap.size w w') := fun w hm => cut_cl (s := nT2) (by decide) ne2 nl2 rfl w hm
  have HC3 : Hid (∀ w : World, Mln w → Calls Tryd.prog 9 #[.string ⟨#[10]⟩] w fun e w' => ∃ A c, e = .returned (.tuple #[.slice A 1 c, fltV 0 0]) ∧ RdL w' (.slice A 1 c) nL3 ∧ Below w.heap.size w w') := fun w hm => cut_cl (s := nT3) (by decide) ne3 nl3 rfl w hm
  have HC4 : Hid (∀ w : World, Mln w → Calls Tryd.prog 9 #[.string ⟨#[97, 10]⟩] w fun e w' => ∃ A c, e = .returned (.tuple #[.slice A 1 c, fltV 0 0]) ∧ RdL w' (.slice A 1 c) nL4 ∧ Below w.heap.size w w') := fun w hm => cut_cl (s := nT4) (by decide) ne4 nl4 rfl w hm
  have HC5 : Hid (∀ w : World, Mln w → Calls Tryd.prog 9 #[.string ⟨#[97, 10, 98, 0]⟩] w fun e w' => e = .returned (.tuple #[.slice none 0 0, fltV 240 1]) ∧ Below w.heap.size w w') := fun w hm => cut_bad nT5 w (by decide) hm ne5 (by decide)
  have HC6 : Hid (∀ w : World, Mln w → Calls Tryd.prog 9 #[.string ⟨#[97, 32, 42, 32, 200]⟩] w fun e w' => ∃ A c, e = .returned (.tuple #[.slice A 1 c, fltV 0 0]) ∧ RdL w' (.slice A 1 c) nL6 ∧ Below w.heap.size w w') := fun w hm => cut_cl (s := nT6) (by decide) ne6 nl6 rfl w hm
  have HC7 : Hid (∀ w : World, Mln w → Calls Tryd.prog 9 #[.string nS81] w fun e w' => e = .returned (.tuple #[.slice none 0 0, fltV 3 0]) ∧ Below w.heap.size w w') := fun w hm => cut_bad nS81 w (by rw [n81]; decide) hm ne7 (by decide)
  have HC8 : Hid (∀ w : World, Mln w → Calls Tryd.prog 9 #[.string nS80] w fun e w' => ∃ A c, e = .returned (.tuple #[.slice A 1 c, fltV 0 0]) ∧ RdL w' (.slice A 1 c) nL8 ∧ Below w.heap.size w w') := fun w hm => cut_cl (s := nS80) (by rw [n80]; decide) ne8 nl8 rfl w hm
  have HC9 : Hid (∀ w : World, Mln w → Calls Tryd.prog 9 #[.string nS82] w fun e w' => e = .returned (.tuple #[.slice none 0 0, fltV 240 0]) ∧ Below w.heap.size w w') := fun w hm => cut_bad nS82 w (by rw [n82]; decide) hm ne9 (by decide)
  have HR : Hid (∀ w : World, Calls Tryd.prog 24 #[.string ⟨#[120]⟩, .int .i64 80] w fun e w' => e = .returned (.string nS80) ∧ Below w.heap.size w w') := fun w => rept_any ⟨#[120]⟩ 80 w (by decide) (by decide)
  have HN1 : Hid (∀ w : World, Calls Tryd.prog 15 #[.agg #[.string ⟨#[52, 46, 55, 107]⟩, .int .i64 0, .int .i64 0]] w fun e w' => e = .returned (.tuple #[.float .f64 4661889719351640064, fltV 0 0]) ∧ Below w.heap.size w w') := fun w => by
    have h := number_t s47 0 0 w
    rw [pa_47.1, pa_47.2.1, pa_47.2.2] at h; exact h
  have HN2 : Hid (∀ w : World, Calls Tryd.prog 15 #[.agg #[.string ⟨#[120]⟩, .int .i64 0, .int .i64 0]] w fun e w' => ∃ x : Nat, e = .returned (.tuple #[.float .f64 x, fltV 150 0]) ∧ Below w.heap.size w w') := fun w => by
    have h := number_t sX 0 0 w
    rw [pa_X.1, pa_X.2] at h
    exact h.mono fun e w' q => ⟨_, q⟩
  clear hm
  have h80 := n80
  have h81 : nS80 ++ ⟨#[120]⟩ = nS81 := rfl
  have h82 : nS80 ++ ⟨#[200]⟩ = nS82 := rfl
  generalize nS81 = S81 at HC7 h81
  generalize nS82 = S82 at HC9 h82
  generalize nS80 = S80 at HC8 HR h80 h81 h82
  have H0 : Hid (Car w w [] []) := Car.start w
  go_enter Tryd.func8, Tryd.ntmps8
  go_wp2_with (first
    | (go_at_call 9; (with_reducible refine (HC1.out _ (HM.out.kept H0.out.bel)).mono ?_); rintro e w1 ⟨A1, c1, rfl, hr, hb⟩; (have H1 : Hid (Car w w1 [] [(.slice A1 4 c1, nL1)]) := (H0.out.next hb).add hr); clear hb hr)
    | (go_at_call 9; (with_reducible refine (HC2.out _ (HM.out.kept (H1.out.flts 0 0).bel)).mono ?_); rintro e w2 ⟨A2, c2, rfl, hr, hb⟩; (have H2 : Hid (Car w w2 [(w1.heap.size, 0, 0)] [(.slice A2 0 c2, nL2), (.slice A1 4 c1, nL1)]) := ((H1.out.flts 0 0).next hb).add hr); clear hb hr)
    | (go_at_call 9; (with_reducible refine (HC3.out _ (HM.out.kept (H2.out.flts 0 0).bel)).mono ?_); rintro e w3 ⟨A3, c3, rfl, hr, hb⟩; (have H3 : Hid (Car w w3 [(w2.heap.size, 0, 0), (w1.heap.size, 0, 0)] [(.slice A3 1 c3, nL3), (.slice A2 0 c2, nL2), (.slice A1 4 c1, nL1)]) := ((H2.out.flts 0 0).next hb).add hr); clear hb hr)
    | (go_at_call 9; (with_reducible refine (HC4.out _ (HM.out.kept (H3.out.flts 0 0).bel)).mono ?_); rintro e w4 ⟨A4, c4, rfl, hr, hb⟩; (have H4 : Hid (Car w w4 [(w3.heap.size, 0, 0), (w2.heap.size, 0, 0), (w1.heap.size, 0, 0)] [(.slice A4 1 c4, nL4), (.slice A3 1 c3, nL3), (.slice A2 0 c2, nL2), (.slice A1 4 c1, nL1)]) := ((H3.out.flts 0 0).next hb).add hr); clear hb hr)
    | (go_at_call 9; (with_reducible refine (HC5.out _ (HM.out.kept (H4.out.flts 0 0).bel)).mono ?_); rintro e w5 ⟨rfl, hb⟩; (have H5 : Hid (Car w w5 [(w4.heap.size, 0, 0), (w3.heap.size, 0, 0), (w2.heap.size, 0, 0), (w1.heap.size, 0, 0)] [(.slice A4 1 c4, nL4), (.slice A3 1 c3, nL3), (.slice A2 0 c2, nL2), (.slice A1 4 c1, nL1)]) := ((H4.out.flts 0 0).next hb)); clear hb)
    | (go_at_call 9; (with_reducible refine (HC6.out _ (HM.out.kept (H5.out.flts 240 1).bel)).mono ?_); rintro e w6 ⟨A6, c6, rfl, hr, hb⟩; (have H6 : Hid (Car w w6 [(w5.heap.size, 240, 1), (w4.heap.size, 0, 0), (w3.heap.size, 0, 0), (w2.heap.size, 0, 0), (w1.heap.size, 0, 0)] [(.slice A6 1 c6, nL6), (.slice A4 1 c4, nL4), (.slice A3 1 c3, nL3), (.slice A2 0 c2, nL2), (.slice A1 4 c1, nL1)]) := ((H5.out.flts 240 1).next hb).add hr); clear hb hr)
    | (go_at_call 24; (with_reducible refine (HR.out _).mono ?_); rintro e w7 ⟨rfl, hb⟩; (have H7 : Hid (Car w w7 [(w6.heap.size, 0, 0), (w5.heap.size, 240, 1), (w4.heap.size, 0, 0), (w3.heap.size, 0, 0), (w2.heap.size, 0, 0), (w1.heap.size, 0, 0)] [(.slice A6 1 c6, nL6), (.slice A4 1 c4, nL4), (.slice A3 1 c3, nL3), (.slice A2 0 c2, nL2), (.slice A1 4 c1, nL1)]) := ((H6.out.flts 0 0).next hb)); clear hb)
    | (go_at_call 9; (with_reducible refine (HC7.out _ (HM.out.kept H7.out.bel)).mono ?_); rintro e w8 ⟨rfl, hb⟩; (have H8 : Hid (Car w w8 [(w6.heap.size, 0, 0), (w5.heap.size, 240, 1), (w4.heap.size, 0, 0), (w3.heap.size, 0, 0), (w2.heap.size, 0, 0), (w1.heap.size, 0, 0)] [(.slice A6 1 c6, nL6), (.slice A4 1 c4, nL4), (.slice A3 1 c3, nL3), (.slice A2 0 c2, nL2), (.slice A1 4 c1, nL1)]) := (H7.out.next hb)); clear hb)
    | (go_at_call 9; (with_reducible refine (HC8.out _ (HM.out.kept (H8.out.flts 3 0).bel)).mono ?_); rintro e w9 ⟨A8, c8, rfl, hr, hb⟩; (have H9 : Hid (Car w w9 [(w8.heap.size, 3, 0), (w6.heap.size, 0, 0), (w5.heap.size, 240, 1), (w4.heap.size, 0, 0), (w3.heap.size, 0, 0), (w2.heap.size, 0, 0), (w1.heap.size, 0, 0)] [(.slice A8 1 c8, nL8), (.slice A6 1 c6, nL6), (.slice A4 1 c4, nL4), (.slice A3 1 c3, nL3), (.slice A2 0 c2, nL2), (.slice A1 4 c1, nL1)]) := ((H8.out.flts 3 0).next hb).add hr); clear hb hr)
    | (go_at_call 9; (with_reducible refine (HC9.out _ (HM.out.kept (H9.out.flts 0 0).bel)).mono ?_); rintro e w10 ⟨rfl, hb⟩; (have H10 : Hid (Car w w10 [(w9.heap.size, 0, 0), (w8.heap.size, 3, 0), (w6.heap.size, 0, 0), (w5.heap.size, 240, 1), (w4.heap.size, 0, 0), (w3.heap.size, 0, 0), (w2.heap.size, 0, 0), (w1.heap.size, 0, 0)] [(.slice A8 1 c8, nL8), (.slice A6 1 c6, nL6), (.slice A4 1 c4, nL4), (.slice A3 1 c3, nL3), (.slice A2 0 c2, nL2), (.slice A1 4 c1, nL1)]) := ((H9.out.flts 0 0).next hb)); clear hb)
    | (go_at_call 15; (with_reducible refine (HN1.out _).mono ?_); rintro e w11 ⟨rfl, hb⟩; (have H11 : Hid (Car w w11 [(w10.heap.size, 240, 0), (w9.heap.size, 0, 0), (w8.heap.size, 3, 0), (w6.heap.size, 0, 0), (w5.heap.size, 240, 1), (w4.heap.size, 0, 0), (w3.heap.size, 0, 0), (w2.heap.size, 0, 0), (w1.heap.size, 0, 0)] [(.slice A8 1 c8, nL8), (.slice A6 1 c6, nL6), (.slice A4 1 c4, nL4), (.slice A3 1 c3, nL3), (.slice A2 0 c2, nL2), (.slice A1 4 c1, nL1)]) := ((H10.out.flts 240 0).next hb)); clear hb)
    | (go_at_call 15; (with_reducible refine (HN2.out _).mono ?_); rintro e w12 ⟨xn, rfl, hb⟩; (have H12 : Hid (Car w w12 [(w11.heap.size, 0, 0), (w10.heap.size, 240, 0), (w9.heap.size, 0, 0), (w8.heap.size, 3, 0), (w6.heap.size, 0, 0), (w5.heap.size, 240, 1), (w4.heap.size, 0, 0), (w3.heap.size, 0, 0), (w2.heap.size, 0, 0), (w1.heap.size, 0, 0)] [(.slice A8 1 c8, nL8), (.slice A6 1 c6, nL6), (.slice A4 1 c4, nL4), (.slice A3 1 c3, nL3), (.slice A2 0 c2, nL2), (.slice A1 4 c1, nL1)]) := ((H11.out.flts 0 0).next hb)); clear hb; (obtain ⟨a0, a1, _, _⟩ := two_c (H12.out.flt (w1.heap.size, 0, 0) (by simp))); (have hl1 : w1.heap.size < w12.heap.size := car_lt (H12.out.flt (w1.heap.size, 0, 0) (by simp))))
    | (go_at_call 11; (with_reducible refine (n1_same H12.out (A := A1) (c := c1) (by simp)).mono ?_); rintro e w13 ⟨rfl, hc⟩; (have H13 : Hid (Car w w13 [(w12.heap.size + 1, 0, 0), (w12.heap.size, 150, 0), (w11.heap.size, 0, 0), (w10.heap.size, 240, 0), (w9.heap.size, 0, 0), (w8.heap.size, 3, 0), (w6.heap.size, 0, 0), (w5.heap.size, 240, 1), (w4.heap.size, 0, 0), (w3.heap.size, 0, 0), (w2.heap.size, 0, 0), (w1.heap.size, 0, 0)] [(.slice A8 1 c8, nL8), (.slice A6 1 c6, nL6), (.slice A4 1 c4, nL4), (.slice A3 1 c3, nL3), (.slice A2 0 c2, nL2), (.slice A1 4 c1, nL1)]) := hc); clear hc; (obtain ⟨x0a, x0b, _, _⟩ := two_c (H13.out.flt (w2.heap.size, 0, 0) (by simp))); (obtain ⟨x1a, x1b, _, _⟩ := two_c (H13.out.flt (w3.heap.size, 0, 0) (by simp))); (obtain ⟨x2a, x2b, _, _⟩ := two_c (H13.out.flt (w4.heap.size, 0, 0) (by simp))); (obtain ⟨x3a, x3b, _, _⟩ := two_c (H13.out.flt (w5.heap.size, 240, 1) (by simp))); (obtain ⟨x4a, x4b, _, _⟩ := two_c (H13.out.flt (w6.heap.size, 0, 0) (by simp))); (obtain ⟨x5a, x5b, _, _⟩ := two_c (H13.out.flt (w8.heap.size, 3, 0) (by simp))); (obtain ⟨x6a, x6b, _, _⟩ := two_c (H13.out.flt (w9.heap.size, 0, 0) (by simp))); (obtain ⟨x7a, x7b, _, _⟩ := two_c (H13.out.flt (w10.heap.size, 240, 0) (by simp))); (obtain ⟨x8a, x8b, _, _⟩ := two_c (H13.out.flt (w12.heap.size + 1, 0, 0) (by simp))); (obtain ⟨b3, u3, d3, rfl, q3⟩ := rd_first (l := []) (r := []) (H13.out.rd (.slice A3 1 c3, nL3) (by simp))); (obtain ⟨b6, u6, d6, rfl, q6⟩ := rd_first (l := [(⟨#[97]⟩, 0, 0)]) (r := []) (H13.out.rd (.slice A6 1 c6, nL6) (by simp))); (obtain ⟨b8, u8, d8, rfl, q8⟩ := rd_first (l := [(nS80, 0, 0)]) (r := []) (H13.out.rd (.slice A8 1 c8, nL8) (by simp))))
    | (go_at_call 12; (with_reducible refine (lives_any _ (HM.out.kept H13.out.bel)).mono ?_); rintro e w14 ⟨rfl, hb⟩; (have H14 := H13.out.next hb); (have HB : Hid (Below w.heap.size w w14) := H14.bel); (obtain ⟨y0a, y0b, _, _⟩ := two_c (H14.flt (w11.heap.size, 0, 0) (by simp))); (obtain ⟨y1a, y1b, _, _⟩ := two_c (H14.flt (w12.heap.size, 150, 0) (by simp))); (obtain ⟨y2a, y2b, _, _⟩ := two_c (H14.flt (w12.heap.size + 1, 0, 0) (by simp))); clear hb H14))
  go_ret
  exact ⟨rfl, HB.out⟩
end Go.Proofs.YtdcodajjcaipdaaDoor
