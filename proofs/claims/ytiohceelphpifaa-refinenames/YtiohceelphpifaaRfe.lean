/-
  What begun and an account's sum of package refine hand back.
-/
import Derived.Test.YtiohceelphpifaaRfb
namespace Go.Proofs.Ytiohceelphpifaa
open Fl RowKit

theorem own_madeF (w : World) (b g c : Nat) (hb : b ≤ g) (hc : c ≤ maxLen) (hg : w.heap[g]? = some (.cells (madeCells #[Value.float .f64 0] c) 48 (0, 0))) : w.ownsRow b 48 1 (.slice (some ⟨g, 0, none⟩) 0 c) 0 [] :=
  ⟨rfl, .inr ⟨g, c, _, rfl, hb, hg, Nat.zero_le _, hc, by simp [madeCells], by simp⟩⟩
theorem heap_new (w : World) (o : Obj) : (w.alloc o).heap[w.heap.size]? = some o := heap_alloc_new w o
theorem acc_new (W : World) (A B : Obj) (t : TypeId) (gt gl ct cl : Nat) (hct : ct ≤ maxLen) (hcl : cl ≤ maxLen) (h : gt ≠ gl) (h1 : W.heap.size ≤ gt) (h2 : W.heap.size ≤ gl)
    (hA : ((W.alloc A).alloc B).heap[gt]? = some (.cells (madeCells #[Value.float .f64 0] ct) 48 (0, 0))) (hB : ((W.alloc A).alloc B).heap[gl]? = some (.cells (madeCells #[Value.float .f64 0] cl) 48 (0, 0))) (l1 : gt < W.heap.size + 2) (l2 : gl < W.heap.size + 2) :
    Acc W.heap.size (W.heap.size + 2) gt ct gl cl [] [] (((W.alloc A).alloc B).alloc (.cells #[.slice (some ⟨gt, 0, none⟩) 0 ct, .slice (some ⟨gl, 0, none⟩) 0 cl] t)) := by
  have e : ((W.alloc A).alloc B).heap.size = W.heap.size + 2 := by simp
  refine ⟨?_, ?_, ?_, by simp, by omega, own_madeF _ _ _ _ h1 hct ?_, own_madeF _ _ _ _ h2 hcl ?_, h, by omega, by omega⟩
  · have := heap_alloc_new ((W.alloc A).alloc B) (.cells #[.slice (some ⟨gt, 0, none⟩) 0 ct, .slice (some ⟨gl, 0, none⟩) 0 cl] t)
    rw [e] at this
    unfold World.cell?; rw [this]; rfl
  · have := heap_alloc_new ((W.alloc A).alloc B) (.cells #[.slice (some ⟨gt, 0, none⟩) 0 ct, .slice (some ⟨gl, 0, none⟩) 0 cl] t)
    rw [e] at this
    unfold World.cell?; rw [this]; rfl
  · intro j
    have := heap_alloc_new ((W.alloc A).alloc B) (.cells #[.slice (some ⟨gt, 0, none⟩) 0 ct, .slice (some ⟨gl, 0, none⟩) 0 cl] t)
    rw [e] at this
    unfold World.frozen?; rw [this]; simp
  · rw [Below.heap_alloc _ _ _ (by rw [e]; omega)]; exact hA
  · rw [Below.heap_alloc _ _ _ (by rw [e]; omega)]; exact hB
/-- the blocks that begun makes, in either order -/
def wA (w : World) (n : Nat) : World := ((w.alloc (.cells (madeCells #[Value.float .f64 0] (1 + 2 * n)) 48)).alloc (.cells (madeCells #[Value.float .f64 0] (2 * n)) 48)).alloc (.cells #[.slice (some ⟨w.heap.size, 0, none⟩) 0 (1 + 2 * n), .slice (some ⟨w.heap.size + 1, 0, none⟩) 0 (2 * n)] 128)
def wB (w : World) (n : Nat) : World := ((w.alloc (.cells (madeCells #[Value.float .f64 0] (2 * n)) 48)).alloc (.cells (madeCells #[Value.float .f64 0] (1 + 2 * n)) 48)).alloc (.cells #[.slice (some ⟨w.heap.size + 1, 0, none⟩) 0 (1 + 2 * n), .slice (some ⟨w.heap.size, 0, none⟩) 0 (2 * n)] 128)
theorem acc_A (w : World) (n : Nat) (hn : n ≤ 4096) : Acc w.heap.size (w.heap.size + 1 + 1) w.heap.size (1 + 2 * n) (w.heap.size + 1) (2 * n) [] [] (wA w n) :=
  acc_new w _ _ _ _ _ _ _ (by unfold maxLen; omega) (by unfold maxLen; omega) (by omega) (by omega) (by omega) ((Below.heap_alloc _ _ _ (by simp)).trans (heap_alloc_new w _)) (by have := heap_alloc_new (w.alloc (.cells (madeCells #[Value.float .f64 0] (1 + 2 * n)) 48)) (.cells (madeCells #[Value.float .f64 0] (2 * n)) 48); simpa using this) (by omega) (by omega)
theorem acc_B (w : World) (n : Nat) (hn : n ≤ 4096) : Acc w.heap.size (w.heap.size + 1 + 1) (w.heap.size + 1) (1 + 2 * n) w.heap.size (2 * n) [] [] (wB w n) :=
  acc_new w _ _ _ _ _ _ _ (by unfold maxLen; omega) (by unfold maxLen; omega) (by omega) (by omega) (by omega) (by have := heap_alloc_new (w.alloc (.cells (madeCells #[Value.float .f64 0] (2 * n)) 48)) (.cells (madeCells #[Value.float .f64 0] (1 + 2 * n)) 48); simpa using this) ((Below.heap_alloc _ _ _ (by simp)).trans (heap_alloc_new w _)) (by omega) (by omega)
theorem bel_A (w : World) (n : Nat) : Below w.heap.size w (wA w n) := (((Below.refl _ w).alloc (Nat.le_refl _) _).alloc (by simp) _).alloc (by simp; omega) _
theorem bel_B (w : World) (n : Nat) : Below w.heap.size w (wB w n) := (((Below.refl _ w).alloc (Nat.le_refl _) _).alloc (by simp) _).alloc (by simp; omega) _
theorem acc_first {b p gt ct gl cl g k H x : Nat} {W X w1 : World} (A : Acc b p gt ct gl cl [] [] W) (U : Below W.heap.size W X) (hg : X.grownBy w1 (some gt)) (hat : some gt = some g ∨ g = H) (hH : X.heap.size = H)
    (own1 : w1.ownsRow b 48 1 (.slice (some ⟨g, 0, none⟩) (0 + 1) k) (0 + 1) ([] ++ [.float .f64 x])) : Acc b p g k gl cl [x] [] (w1.setCell ⟨p, 0, none⟩ (.slice (some ⟨g, 0, none⟩) (0 + 1) k)) ∧ Below b W (w1.setCell ⟨p, 0, none⟩ (.slice (some ⟨g, 0, none⟩) (0 + 1) k)) := by
  have M := mid_t A U hg hat hH
  have o1 := own_lt own1
  have o3 := own_lt A.ot
  have o4 := own_lt A.ol
  have e2 := M.gg
  have hlt := A.lt
  have n1 : g ≠ gl := by have := A.a1; omega
  have n2 : p ≠ g := by have := A.a2; omega
  have hfar : ∀ q, q ≠ p → (w1.setCell ⟨p, 0, none⟩ (.slice (some ⟨g, 0, none⟩) (0 + 1) k)).heap[q]? = w1.heap[q]? := fun q hq => Below.heap_setCell _ _ _ q hq
  refine ⟨⟨World.cell?_setCell_same _ _ _ M.c0, by rw [other_cell _ (by simp)]; exact M.c1, fun j => by simpa using M.fz j, by simpa using M.lt, A.ge, own_at own1 (fun q hh => by cases hh; exact hfar _ (Ne.symm n2)), own_at M.ol (fun q hh => by cases hh; exact hfar _ (Ne.symm A.a3)), n1, n2, A.a3⟩, M.bl.setCell A.ge _⟩
set_option maxHeartbeats 4000000 in
theorem rbegun_any (x n : Nat) (w : World) (hn : n ≤ 4096) :
    Calls Try.prog 56 #[.float .f64 x, .int .i64 n] w fun e w' => ∃ p gt ct gl cl, e = .returned (.pointer (some ⟨p, 0, none⟩)) ∧ Acc w.heap.size p gt ct gl cl [x] [] w' ∧ Below w.heap.size w w' := by
  obtain ⟨i0, hi, hz0, hz1, hz2⟩ := info_parts Try.infoF
  have m1 : ∀ W : World, (Instr.makeSlice 103 (.int .i64 0) (.int .i64 (1 + 2 * (n : Int)))).run Try.prog W = .ok (.slice (some ⟨W.heap.size, 0, none⟩) 0 (1 + 2 * n)) (W.alloc (.cells (madeCells #[.float .f64 0] (1 + 2 * n)) 48)) := fun W => by
    have := run_make_room (P := Try.prog) 103 48 (.float .f64 0) 8 Try.underlying103 Try.infoF rfl .i64 .i64 (1 + 2 * n) (by omega) (by omega) W
    rw [show ((1 + 2 * n : Nat) : Int) = 1 + 2 * (n : Int) by omega] at this
    exact this
  have m2 : ∀ W : World, (Instr.makeSlice 103 (.int .i64 0) (.int .i64 (2 * (n : Int)))).run Try.prog W = .ok (.slice (some ⟨W.heap.size, 0, none⟩) 0 (2 * n)) (W.alloc (.cells (madeCells #[.float .f64 0] (2 * n)) 48)) := fun W => by
    have := run_make_room (P := Try.prog) 103 48 (.float .f64 0) 8 Try.underlying103 Try.infoF rfl .i64 .i64 (2 * n) (by omega) (by omega) W
    rw [show ((2 * n : Nat) : Int) = 2 * (n : Int) by omega] at this
    exact this
  have w1 : IntKind.i64.wrap (2 * (n : Int)) = 2 * (n : Int) := by rw [IntKind.wrap_i64]; omega
  have w2 : IntKind.i64.wrap (1 + 2 * (n : Int)) = 1 + 2 * (n : Int) := by rw [IntKind.wrap_i64]; omega
  go_enter Try.func56, Try.ntmps56
  go_wp2
  go_region
  all_goals
    first
    | (show Exit.then _ _ _ _ (wA w n).drew
       have A0 := acc_A w n hn
       have B0 := bel_A w n
       generalize wA w n = W at A0 B0 ⊢)
    | (show Exit.then _ _ _ _ (wB w n).drew
       have A0 := acc_B w n hn
       have B0 := bel_B w n
       generalize wB w n = W at A0 B0 ⊢)
  all_goals
    have c0 := A0.c0
    have fz := A0.fz
    have lt := A0.lt
    have ot := A0.ot
    have HA := hid_o A0
    have HB := hid_o B0
    have hS := B0.size
    clear A0 B0 m1 m2 w1 w2
    simp only [List.length_nil] at c0 ot
    have d0 : ∀ o, (W.alloc o).cell? ⟨w.heap.size + 1 + 1, 0, none⟩ = _ := fun o => (World.cell?_of_block (w := W) (Below.heap_alloc _ _ _ lt)).trans c0
    go_wp2_with (at_builtin; refine wpList_append_lies _ rfl _ _ 103 rfl w.heap.size 48 i0 (.float .f64 0) 1 8 Try.underlying103 hi hz0 hz1 hz2 rfl (by decide) _ 0 _ rfl (ot.alloc _) ⟨_, 0, none⟩ 1 1 [.float .f64 x] rfl rfl (fun j u hj => by match j, hj with | 0, hj => (simp at hj; subst hj; exact ncell1 _ _ _)) (fun u hu => by simp at hu; subst hu; rfl) (by decide) (by unfold maxLen; omega) (by omega) (by simp; omega) _ rfl ?_; intro g1 k1 w1 own1 grow1 at1 lt1; obtain ⟨A1, B1⟩ := acc_first HA.out ((Below.refl _ W).alloc (Nat.le_refl _) _).drew grow1 at1 rfl own1; have M1 := mid_t HA.out ((Below.refl _ W).alloc (Nat.le_refl _) _).drew grow1 at1 rfl; have z0 := M1.c0; have zf := M1.fz; have zl := M1.lt; simp only [List.length_nil] at z0; have HA1 := hid_o A1; have HB1 := hid_o (HB.out.trans B1); clear A1 B1 M1)
    go_ret
    exact ⟨_, _, _, _, _, rfl, HA1.out, HB1.out⟩
end Go.Proofs.Ytiohceelphpifaa
