/-
  The document's examples that the statements ask first: awake hands back true, and only lays new memory.
-/
import Derived.Test.YtggnilfphnnpkaaLists
namespace Go.Proofs.Ytggnilfphnnpkaa
open Fl RowKit

theorem ts_s : tsS (ans 4591870180066957722) (ans 4596373779694328218) = some 4599075939470750516 := by kernel_rfl
theorem ts_e : tsE (ans 4591870180066957722) (ans 4596373779694328218) = some 13582856476149415936 := by kernel_rfl
theorem tp_p : mulO 4591870180066957722 4591870180066957722 = some 4576918229304087676 := by kernel_rfl
theorem tp_e : fmaO 4591870180066957722 4591870180066957722 (Op.negFloat .f64 4576918229304087676) = some 13559978190042373816 := by kernel_rfl
def three : List Nat := [4607182418800017408, 4368491638549381120, 4368491638549381120]
theorem su_s : sumO three = some 4607182418800017408 := by kernel_rfl
theorem su_0 : errO three 0 = some 0 := by kernel_rfl
theorem su_1 : errO three 1 = some 4368491638549381120 := by kernel_rfl
theorem su_2 : errO three 2 = some 4368491638549381120 := by kernel_rfl
theorem pl_1 : plB 13830554455654793216 = -4607182418800017408 := by kernel_rfl
theorem nn_1 : nan 13830554455654793216 = false := by kernel_rfl
theorem nx_1 : nxB 0 true = 1 := by kernel_rfl
theorem rep_is {o : Option Nat} {x r : Nat} (h : rep o x) (ho : o = some r) : x = r := (ans_some (h.2.trans ho)).2
theorem oeq (x : Nat) (h : nan x = false) : FloatKind.f64.format.order x x = some .eq := order_num h

theorem Rd_alloc (W : World) (xs : List Nat) : Rd (W.alloc (.cells (xs.map (Value.float .f64)).toArray 23)) (some ⟨W.heap.size, 0, none⟩) xs := by
  intro k hk
  refine ⟨W.heap.size, 0, rfl, by simp, ?_⟩
  rw [cell_of_row _ W.heap.size (0 + k) _ 23 (0, 0) (heap_alloc_new W _)]
  simp [List.getD_eq_getElem?_getD, hk]
theorem below_alloc (W : World) (o : Obj) : Below W.heap.size W (W.alloc o) := (Below.refl _ _).alloc (Nat.le_refl _) _
theorem sumErr_three (W : World) : Calls Try.prog 40 #[.slice (some ⟨W.heap.size, 0, none⟩) 3 3]
    (W.alloc (.cells #[.float .f64 4607182418800017408, .float .f64 4368491638549381120, .float .f64 4368491638549381120] 23)) fun e w' =>
      e = .returned (.tuple #[.float .f64 4607182418800017408, .slice (some ⟨W.heap.size + 1, 0, none⟩) 3 3]) ∧ Rd w' (some ⟨W.heap.size + 1, 0, none⟩) [0, 4368491638549381120, 4368491638549381120] ∧ Below W.heap.size W w' := by
  have hR := Rd_alloc W three
  have hx : ∀ k, three.getD k 0 < 18446744073709551616 := by
    intro k
    match k with
    | 0 => decide
    | 1 => decide
    | 2 => decide
    | n + 3 => exact (by decide : (0 : Nat) < 18446744073709551616)
  refine (sumErr_any (some ⟨W.heap.size, 0, none⟩) 3 three _ (by decide) hR hx).mono ?_
  rintro e w' ⟨s, es, rfl, h1, h2, h3, h4, h5⟩
  have hz : (W.alloc (.cells (three.map (Value.float .f64)).toArray 23)).heap.size = W.heap.size + 1 := by simp
  rw [hz] at h4
  have es3 : es = [0, 4368491638549381120, 4368491638549381120] := by
    have e0 := rep_is (h3 0 (by decide)) su_0
    have e1 := rep_is (h3 1 (by decide)) su_1
    have e2 := rep_is (h3 2 (by decide)) su_2
    match es, h2, e0, e1, e2 with
    | [x, y, z], _, e0, e1, e2 => simp at e0 e1 e2; rw [e0, e1, e2]
  subst es3
  obtain rfl := rep_is h1 su_s
  have hlt : W.heap.size + 1 < w'.heap.size := by
    rcases h4.2 with ⟨h', _⟩ | ⟨g, cap, cur, h', _, hg, _⟩
    · simp at h'
    · simp only [Value.slice.injEq, Option.some.injEq, Addr.mk.injEq, and_true, true_and] at h'
      obtain ⟨rfl, _⟩ := h'
      exact (Array.getElem?_eq_some_iff.1 hg).1
  refine ⟨by rw [hz]; rfl, ?_, (below_alloc W _).trans (h5.mono (by simp))⟩
  intro k hk
  refine ⟨_, 0, rfl, hlt, ?_⟩
  rw [Nat.zero_add, h4.cellAt k (by simpa [three] using hk)]
  simp [List.getD_eq_getElem?_getD]
  match k, hk with
  | 0, _ => rfl
  | 1, _ => rfl
  | 2, _ => rfl
theorem sameReals_three (W : World) (a : Nat) (h : Rd W (some ⟨a, 0, none⟩) [0, 4368491638549381120, 4368491638549381120]) :
    Calls Try.prog 31 #[.slice (some ⟨a, 0, none⟩) 3 3, .slice (some ⟨W.heap.size, 0, none⟩) 3 3]
      (W.alloc (.cells #[.float .f64 0, .float .f64 4368491638549381120, .float .f64 4368491638549381120] 23)) fun e w' => e = .returned (.bool true) ∧ Below W.heap.size W w' := by
  have hR := Rd_alloc W [0, 4368491638549381120, 4368491638549381120]
  refine (sameReals_yes (some ⟨a, 0, none⟩) (some ⟨W.heap.size, 0, none⟩) 3 3 [0, 4368491638549381120, 4368491638549381120] [0, 4368491638549381120, 4368491638549381120] _ (by decide) rfl (h.below (below_alloc W _)) hR ?_).mono ?_
  · intro k _; unfold smB; cases nan _ <;> simp
  · rintro e w' ⟨n, rfl, rfl⟩
    exact ⟨rfl, below_drewN (below_alloc W _) n⟩

set_option maxHeartbeats 1000000 in
theorem awake_yes (w : World) : Calls Try.prog 33 #[] w fun e w' => e = .returned (.bool true) ∧ Below w.heap.size w w' := by
  have q1 := oeq 4599075939470750516 (by decide)
  have q2 := oeq 13582856476149415936 (by decide)
  have q3 := oeq 4576918229304087676 (by decide)
  have q4 := oeq 13559978190042373816 (by decide)
  have q5 := oeq 4607182418800017408 (by decide)
  have p1 := pl_1
  have p2 := nn_1
  have p3 := nx_1
  go_enter Try.func33, Try.ntmps33
  go_wp2_with (first
    | (go_at_call 10; refine (place_any _ _ (by decide)).mono ?_; rintro e w' ⟨rfl, rfl⟩)
    | (go_at_call 20; refine (twoSum_any _ _ _ (by decide) (by decide)).mono ?_; rintro e w' ⟨s, r, m, rfl, hs, hr, rfl⟩; obtain rfl := rep_is hs ts_s; obtain rfl := rep_is hr ts_e; clear hs hr)
    | (go_at_call 22; refine (twoProd_any _ _ _).mono ?_; rintro e w' ⟨s, r, m, rfl, hs, hr, rfl⟩; obtain rfl := rep_is hs tp_p; obtain rfl := rep_is hr tp_e; clear hs hr)
    | (go_at_call 18; refine (next_any _ _ _ (by decide)).mono ?_; rintro e w' ⟨rfl, rfl⟩)
    | (go_at_call 40; refine (sumErr_three _).mono ?_; rintro e w2 ⟨rfl, hrd, hb2⟩)
    | (go_at_call 31; refine (sameReals_three _ _ (by assumption)).mono ?_; rintro e w3 ⟨rfl, hb3⟩))
  go_ret
  exact ⟨rfl, ((below_drewN (Below.refl _ _) _).trans hb2).trans (hb3.mono hb2.size)⟩

end Go.Proofs.Ytggnilfphnnpkaa
