/-
  Several texts in one: Phc Phd Phd2.
-/
import Derived.Test.YtmpkcioeodlbcaaGreatDoorK47
namespace Go.Proofs.YtmpkcioeodlbcaaGreatDoor
open Fl Go.Maps Go.RowKit Joins Deep
set_option linter.unusedVariables false
set_option maxRecDepth 20000
theorem ph_solve_none {w : World} {v : Value} (h : NoNet v w) (o : Nat) : Calls Tryz.prog 29 #[v, .float .f64 o] w fun e w' => e = .returned (.tuple #[.agg #[.float .f64 0, .slice none 0 0, .slice none 0 0], .agg #[.int .i64 1, .int .i64 (-1)]]) ∧ Below w.heap.size w w' := by
  have HW := hidS (fun W (hb : Below w.heap.size w W) => ph_refused_none (h.below hb) o)
  have HB := hidS ((bal w (.cells #[.float .f64 0, .slice none 0 0, .slice none 0 0] 35)).alloc (bal w _).size (.cells #[.int .i64 0, .int .i64 0] 69))
  have HB2 := hidS (((bal w (.cells #[.float .f64 0, .slice none 0 0, .slice none 0 0] 35)).alloc (bal w _).size (.cells #[.int .i64 1, .int .i64 (-1)] 69)).alloc ((bal w (.cells #[.float .f64 0, .slice none 0 0, .slice none 0 0] 35)).alloc (bal w _).size (.cells #[.int .i64 1, .int .i64 (-1)] 69)).size (.cells #[.int .i64 1, .int .i64 (-1)] 69))
  have HWT := hidS (fun (W : World) (i : Int) => nowhere_any i W)
  clear h
  go_enter Tryz.func29, Tryz.ntmps29
  go_wp2_with (first
    | (go_at_call 69; (with_reducible refine (HW.out _ HB.out).mono ?_); rintro e v ⟨rfl, hv⟩; subst v)
    | (go_at_call 70; (with_reducible refine (HWT.out _ _).mono ?_); rintro e v ⟨rfl, hv⟩; subst v))
  (try simp only [Exit.inBlock, Exit.then])
  refine bodyPost_ret (by simp [results, Tryz.results29, go_sem]; try rfl) rfl ?_
  exact ⟨rfl, HB2.out⟩
theorem ph_refined_none {w : World} {v : Value} (h : NoNet v w) (o : Nat) : Calls Tryz.prog 30 #[v, .float .f64 o, .int .i64 1] w fun e w' => e = .returned (.tuple #[.agg #[.float .f64 0, .slice none 0 0, .slice none 0 0], .int .i64 0, .agg #[.int .i64 1, .int .i64 (-1)]]) ∧ Below w.heap.size w w' := by
  have HW := hidS (fun W (hb : Below w.heap.size w W) => ph_refused_none (h.below hb) o)
  have HB := hidS ((bal w (.cells #[.float .f64 0, .slice none 0 0, .slice none 0 0] 35)).alloc (bal w _).size (.cells #[.int .i64 0, .int .i64 0] 69))
  have HB2 := hidS (((bal w (.cells #[.float .f64 0, .slice none 0 0, .slice none 0 0] 35)).alloc (bal w _).size (.cells #[.int .i64 1, .int .i64 (-1)] 69)).alloc ((bal w (.cells #[.float .f64 0, .slice none 0 0, .slice none 0 0] 35)).alloc (bal w _).size (.cells #[.int .i64 1, .int .i64 (-1)] 69)).size (.cells #[.int .i64 1, .int .i64 (-1)] 69))
  have HWT := hidS (fun (W : World) (i : Int) => nowhere_any i W)
  clear h
  go_enter Tryz.func30, Tryz.ntmps30
  go_wp2_with (first
    | (go_at_call 69; (with_reducible refine (HW.out _ HB.out).mono ?_); rintro e v ⟨rfl, hv⟩; subst v)
    | (go_at_call 70; (with_reducible refine (HWT.out _ _).mono ?_); rintro e v ⟨rfl, hv⟩; subst v))
  (try simp only [Exit.inBlock, Exit.then])
  refine bodyPost_ret (by simp [results, Tryz.results30, go_sem]; try rfl) rfl ?_
  exact ⟨rfl, HB2.out⟩
theorem ph_with_none {w : World} {v : Value} (h : NoNet v w) (o : Nat) : Calls Tryz.prog 31 #[v, .float .f64 o, .slice none 0 0] w fun e w' => e = .returned (.tuple #[.agg #[.float .f64 0, .slice none 0 0, .slice none 0 0], .agg #[.int .i64 1, .int .i64 (-1)]]) ∧ Below w.heap.size w w' := by
  have HW := hidS (fun W (hb : Below w.heap.size w W) => ph_refused_none (h.below hb) o)
  have HB := hidS ((bal w (.cells #[.float .f64 0, .slice none 0 0, .slice none 0 0] 35)).alloc (bal w _).size (.cells #[.int .i64 0, .int .i64 0] 69))
  have HB2 := hidS (((bal w (.cells #[.float .f64 0, .slice none 0 0, .slice none 0 0] 35)).alloc (bal w _).size (.cells #[.int .i64 1, .int .i64 (-1)] 69)).alloc ((bal w (.cells #[.float .f64 0, .slice none 0 0, .slice none 0 0] 35)).alloc (bal w _).size (.cells #[.int .i64 1, .int .i64 (-1)] 69)).size (.cells #[.int .i64 1, .int .i64 (-1)] 69))
  have HWT := hidS (fun (W : World) (i : Int) => nowhere_any i W)
  clear h
  go_enter Tryz.func31, Tryz.ntmps31
  go_wp2_with (first
    | (go_at_call 69; (with_reducible refine (HW.out _ HB.out).mono ?_); rintro e v ⟨rfl, hv⟩; subst v)
    | (go_at_call 70; (with_reducible refine (HWT.out _ _).mono ?_); rintro e v ⟨rfl, hv⟩; subst v))
  (try simp only [Exit.inBlock, Exit.then])
  refine bodyPost_ret (by simp [results, Tryz.results31, go_sem]; try rfl) rfl ?_
  exact ⟨rfl, HB2.out⟩
theorem ph_unfit_none {w : World} {v : Value} (h : NoNet v w) : Calls Tryz.prog 43 #[v, .agg #[.float .f64 0, .slice none 0 0, .slice none 0 0]] w fun e w' => e = .returned (.int .i64 1) ∧ Below w.heap.size w w' := by
  have HW := hidS (fun W (hb : Below w.heap.size w W) => ph_made_none (h.below hb))
  have HB := hidS (bal w (.cells #[.float .f64 0, .slice none 0 0, .slice none 0 0] 35))
  clear h
  go_enter Tryz.func43, Tryz.ntmps43
  go_wp2_with (go_at_call 56; (with_reducible refine (HW.out _ HB.out).mono ?_); rintro e v ⟨rfl, hv⟩; subst v)
  go_ret
  exact ⟨rfl, HB.out⟩
theorem ph_volt_none {w : World} {v : Value} (h : NoNet v w) (s : ByteArray) : Calls Tryz.prog 11 #[v, .agg #[.float .f64 0, .slice none 0 0, .slice none 0 0], .string s] w fun e w' => e = .returned (.tuple #[.complex .f64 0 0, .int .i64 1]) ∧ Below w.heap.size w w' := by
  have HW := hidS (fun W (hb : Below w.heap.size w W) => ph_unfit_none (h.below hb))
  have HB := hidS (bal w (.cells #[.float .f64 0, .slice none 0 0, .slice none 0 0] 35))
  clear h
  go_enter Tryz.func11, Tryz.ntmps11
  go_wp2_with (go_at_call 43; (with_reducible refine (HW.out _ HB.out).mono ?_); rintro e v ⟨rfl, hv⟩; (have HV := hidS (HB.out.trans (hv.mono HB.out.size))); clear hv)
  go_ret2
  exact ⟨rfl, HV.out⟩
theorem ph_across_none {w : World} {v : Value} (h : NoNet v w) (s : ByteArray) : Calls Tryz.prog 12 #[v, .agg #[.float .f64 0, .slice none 0 0, .slice none 0 0], .string s] w fun e w' => e = .returned (.tuple #[.complex .f64 0 0, .int .i64 1]) ∧ Below w.heap.size w w' := by
  have HW := hidS (fun W (hb : Below w.heap.size w W) => ph_unfit_none (h.below hb))
  have HB := hidS (bal w (.cells #[.float .f64 0, .slice none 0 0, .slice none 0 0] 35))
  clear h
  go_enter Tryz.func12, Tryz.ntmps12
  go_wp2_with (go_at_call 43; (with_reducible refine (HW.out _ HB.out).mono ?_); rintro e v ⟨rfl, hv⟩; (have HV := hidS (HB.out.trans (hv.mono HB.out.size))); clear hv)
  go_ret2
  exact ⟨rfl, HV.out⟩
theorem ph_branch_none {w : World} {v : Value} (h : NoNet v w) (s : ByteArray) : Calls Tryz.prog 13 #[v, .agg #[.float .f64 0, .slice none 0 0, .slice none 0 0], .string s] w fun e w' => e = .returned (.tuple #[.complex .f64 0 0, .int .i64 1]) ∧ Below w.heap.size w w' := by
  have HW := hidS (fun W (hb : Below w.heap.size w W) => ph_unfit_none (h.below hb))
  have HB := hidS (bal w (.cells #[.float .f64 0, .slice none 0 0, .slice none 0 0] 35))
  clear h
  go_enter Tryz.func13, Tryz.ntmps13
  go_wp2_with (go_at_call 43; (with_reducible refine (HW.out _ HB.out).mono ?_); rintro e v ⟨rfl, hv⟩; (have HV := hidS (HB.out.trans (hv.mono HB.out.size))); clear hv)
  go_ret2
  exact ⟨rfl, HV.out⟩
theorem ph_quiet_none {w : World} {v : Value} (h : NoNet v w) : Calls Tryz.prog 20 #[v] w fun e w' => e = .returned (.pointer none) ∧ w' = w := by
  have HW := hidS (ph_made_none h)
  go_enter Tryz.func20, Tryz.ntmps20
  go_wp2_with (go_at_call 56; (with_reducible refine HW.out.mono ?_); rintro e v ⟨rfl, hv⟩; subst v)
  go_ret
  exact ⟨rfl, rfl⟩
theorem ph_scaled_none {w : World} {v : Value} (h : NoNet v w) (o : Nat) : Calls Tryz.prog 21 #[v, .float .f64 o] w fun e w' => e = .returned (.tuple #[.pointer none, .int .i64 1]) ∧ Below w.heap.size w w' := by
  have HW := hidS (fun W (hb : Below w.heap.size w W) => ph_made_none (h.below hb))
  have HB := hidS (bal w (.cells #[.float .f64 o] 31))
  clear h
  go_enter Tryz.func21, Tryz.ntmps21
  go_wp2_with (go_at_call 56; (with_reducible refine (HW.out _ HB.out).mono ?_); rintro e v ⟨rfl, hv⟩; subst v)
  go_ret2
  exact ⟨rfl, HB.out⟩
end Go.Proofs.YtmpkcioeodlbcaaGreatDoor
namespace Go.Proofs.YtmpkcioeodlbcaaGreatDoor
open Fl Go.Maps Go.RowKit Joins Deep
set_option linter.unusedVariables false
set_option maxRecDepth 20000
theorem dv_pmatrix {w : World} {nb p : Nat} {b : Nb} (h : Nt w nb p dvN b) : Calls Tryz.prog 76 #[.pointer (some ⟨p, 0, none⟩), .float .f64 dvO] w fun e w' => ∃ g c, e = .returned (.tuple #[.agg #[.int .i64 3, .int .i64 3, .slice (some ⟨g, 0, none⟩) 9 c], .agg #[.int .i64 0, .int .i64 0]]) ∧ Rc w' (some ⟨g, 0, none⟩) dvM ∧ 9 ≤ c ∧ w.heap.size ≤ g ∧ Below w.heap.size w w' := by
  obtain ⟨R, hR⟩ : ∃ R, w.heap.size = R := ⟨_, rfl⟩
  have hwb : Below w.heap.size w ((w.alloc (.cells #[.int .i64 0, .int .i64 0, .slice none 0 0] 120)).alloc (.cells #[.int .i64 0, .int .i64 0] 69)) := (bal w _).alloc (bal w _).size _
  have k1 : ((w.alloc (.cells #[.int .i64 0, .int .i64 0, .slice none 0 0] 120)).alloc (.cells #[.int .i64 0, .int .i64 0] 69)).heap[R]? = some (.cells #[.int .i64 0, .int .i64 0, .slice none 0 0] 120 (0, 0)) := by
    rw [(bal _ _).block R (by rw [← hR]; simp), ← hR]; exact heap_alloc_new w _
  have k2 : ((w.alloc (.cells #[.int .i64 0, .int .i64 0, .slice none 0 0] 120)).alloc (.cells #[.int .i64 0, .int .i64 0] 69)).heap[R + 1]? = some (.cells #[.int .i64 0, .int .i64 0] 69 (0, 0)) := by
    have := heap_alloc_new (w.alloc (.cells #[.int .i64 0, .int .i64 0, .slice none 0 0] 120)) (.cells #[.int .i64 0, .int .i64 0] 69)
    rw [show (w.alloc (.cells #[.int .i64 0, .int .i64 0, .slice none 0 0] 120)).heap.size = R + 1 by rw [← hR]; simp] at this
    exact this
  have k3 : ((w.alloc (.cells #[.int .i64 0, .int .i64 0, .slice none 0 0] 120)).alloc (.cells #[.int .i64 0, .int .i64 0] 69)).heap.size = R + 2 := by rw [← hR]; simp
  obtain ⟨wF, hwF⟩ : ∃ W, (w.alloc (.cells #[.int .i64 0, .int .i64 0, .slice none 0 0] 120)).alloc (.cells #[.int .i64 0, .int .i64 0] 69) = W := ⟨_, rfl⟩
  rw [hwF] at hwb k1 k2 k3
  have HNT := hidS (h.below hwb)
  have HF := hidS (And.intro k1 (And.intro k2 (And.intro k3 hwb)))
  clear h k1 k2 k3 hwb
  go_enter Tryz.func76, Tryz.ntmps76
  go_wp2_with fail
  clear hwF
  refine (dv_grounded HNT.out).mono ?_
  rintro e1 w1 ⟨rfl, hb1⟩
  have HB1 := hidS hb1
  have HN1 := hidS (HNT.out.below hb1)
  clear hb1
  go_wp2_with fail
  refine (dv_matrix (HN1.out.below (bal w1 (.cells #[.int .i64 0, .int .i64 0] 69)))).mono ?_
  rintro e2 w2 ⟨g, c, rfl, hr, hc, hg, hb2⟩
  have HB2 : Hid (Below wF.heap.size wF w2) := (HB1.out.alloc HB1.out.size _).trans (hb2.mono (HB1.out.alloc HB1.out.size _).size)
  have HR2 := hidS (And.intro hr (And.intro hc (show R + 2 ≤ g by have e1 := HF.out.2.2.1; have e2 := HB1.out.size; have e3 := (bal w1 (.cells #[.int .i64 0, .int .i64 0] 69)).size; omega)))
  clear hr hc hb2 hg
  have e1 := HF.out.2.2.1
  have hb9 : Below w.heap.size w w2 := HF.out.2.2.2.trans (HB2.out.mono HF.out.2.2.2.size)
  have q1 : w2.heap[R]? = some (.cells #[.int .i64 0, .int .i64 0, .slice none 0 0] 120 (0, 0)) := by rw [HB2.out.block R (by omega)]; exact HF.out.1
  have q2 : w2.heap[R + 1]? = some (.cells #[.int .i64 0, .int .i64 0] 69 (0, 0)) := by rw [HB2.out.block (R + 1) (by omega)]; exact HF.out.2.1
  obtain ⟨z0, z1, z2, z3, z4, z5⟩ := th_c q1
  obtain ⟨x0, x1, x2, x3⟩ := tw_c q2
  have hrf := rf_of q1 q2 (by omega) (.int .i64 3) (.int .i64 3) (.slice (some ⟨g, 0, none⟩) 9 c) (.int .i64 0) (.int .i64 0)
  obtain ⟨g0, g1, g2, g3⟩ := hrf.g
  rw [x0] at g0
  rw [x1] at g1
  have HRF2 := hidS hrf
  have HE9 := hidS (tw_bel (th_bel hb9 (Nat.le_of_eq hR) (.int .i64 3) (.int .i64 3) (.slice (some ⟨g, 0, none⟩) 9 c)) (f := R + 1) (by omega) (.int .i64 0) (.int .i64 0))
  clear hrf q1 q2
  go_wp2_with fail
  obtain ⟨r0, r1, r2⟩ := HRF2.out.r
  obtain ⟨t0, t1⟩ := HRF2.out.t
  (try simp only [Exit.inBlock, Exit.then])
  refine bodyPost_ret (by simp [results, Tryz.results76, go_sem, r0, r1, r2, t0, t1]; try rfl) rfl ?_
  refine ⟨g, c, rfl, rc_but HR2.out.1 (by simp) ?_, HR2.out.2.1, by have := HR2.out.2.2; omega, HE9.out⟩
  have e7 := HR2.out.2.2
  rw [heap_setCell_other _ _ _ _ (by simp; omega), heap_setCell_other _ _ _ _ (by simp; omega), heap_setCell_other _ _ _ _ (by simp; omega), heap_setCell_other _ _ _ _ (by simp; omega), heap_setCell_other _ _ _ _ (by simp; omega)]
end Go.Proofs.YtmpkcioeodlbcaaGreatDoor
namespace Go.Proofs.YtmpkcioeodlbcaaGreatDoor
open Fl Go.Maps Go.RowKit Joins Deep
set_option linter.unusedVariables false
set_option maxRecDepth 20000
/-- six cells of a block -/
theorem six_c {w : World} {B : Nat} {a b c d e f : Value} {T : TypeId} (h : w.heap[B]? = some (.cells #[a, b, c, d, e, f] T (0, 0))) : (w.cell? ⟨B, 0, none⟩ = some a ∧ w.cell? ⟨B, 1, none⟩ = some b ∧ w.cell? ⟨B, 2, none⟩ = some c ∧ w.cell? ⟨B, 3, none⟩ = some d ∧ w.cell? ⟨B, 4, none⟩ = some e ∧ w.cell? ⟨B, 5, none⟩ = some f) ∧ w.frozen? ⟨B, 0, none⟩ = false ∧ w.frozen? ⟨B, 1, none⟩ = false ∧ w.frozen? ⟨B, 2, none⟩ = false ∧ w.frozen? ⟨B, 3, none⟩ = false ∧ w.frozen? ⟨B, 4, none⟩ = false ∧ w.frozen? ⟨B, 5, none⟩ = false :=
  ⟨⟨by rw [cell_of_row w B 0 _ T (0, 0) h]; rfl, by rw [cell_of_row w B 1 _ T (0, 0) h]; rfl, by rw [cell_of_row w B 2 _ T (0, 0) h]; rfl, by rw [cell_of_row w B 3 _ T (0, 0) h]; rfl, by rw [cell_of_row w B 4 _ T (0, 0) h]; rfl, by rw [cell_of_row w B 5 _ T (0, 0) h]; rfl⟩, frozen_of_row w B 0 _ T h, frozen_of_row w B 1 _ T h, frozen_of_row w B 2 _ T h, frozen_of_row w B 3 _ T h, frozen_of_row w B 4 _ T h, frozen_of_row w B 5 _ T h⟩
theorem six_two {w : World} {B F : Nat} {a b c d e f x y : Value} {T U : TypeId} (h : w.heap[B]? = some (.cells #[a, b, c, d, e, f] T (0, 0))) (hF : w.heap[F]? = some (.cells #[x, y] U (0, 0))) (hne : B ≠ F) (a' b' c' d' e' f' x' y' : Value) :
    ((((((((w.setCell ⟨B, 0, none⟩ a').setCell ⟨B, 1, none⟩ b').setCell ⟨B, 2, none⟩ c').setCell ⟨B, 3, none⟩ d').setCell ⟨B, 4, none⟩ e').setCell ⟨B, 5, none⟩ f').setCell ⟨F, 0, none⟩ x').setCell ⟨F, 1, none⟩ y').heap[B]? = some (.cells #[a', b', c', d', e', f'] T (0, 0)) ∧
    ((((((((w.setCell ⟨B, 0, none⟩ a').setCell ⟨B, 1, none⟩ b').setCell ⟨B, 2, none⟩ c').setCell ⟨B, 3, none⟩ d').setCell ⟨B, 4, none⟩ e').setCell ⟨B, 5, none⟩ f').setCell ⟨F, 0, none⟩ x').setCell ⟨F, 1, none⟩ y').heap[F]? = some (.cells #[x', y'] U (0, 0)) ∧
    ∀ q, q ≠ B → q ≠ F → ((((((((w.setCell ⟨B, 0, none⟩ a').setCell ⟨B, 1, none⟩ b').setCell ⟨B, 2, none⟩ c').setCell ⟨B, 3, none⟩ d').setCell ⟨B, 4, none⟩ e').setCell ⟨B, 5, none⟩ f').setCell ⟨F, 0, none⟩ x').setCell ⟨F, 1, none⟩ y').heap[q]? = w.heap[q]? := by
  refine ⟨?_, ?_, fun q h1 h2 => ?_⟩
  · rw [heap_setCell_other _ _ _ _ (by simpa using hne), heap_setCell_other _ _ _ _ (by simpa using hne)]
    exact set_at (set_at (set_at (set_at (set_at (set_at h rfl) rfl) rfl) rfl) rfl) rfl
  · have hf : ((((((w.setCell ⟨B, 0, none⟩ a').setCell ⟨B, 1, none⟩ b').setCell ⟨B, 2, none⟩ c').setCell ⟨B, 3, none⟩ d').setCell ⟨B, 4, none⟩ e').setCell ⟨B, 5, none⟩ f').heap[F]? = some (.cells #[x, y] U (0, 0)) := by
      rw [heap_setCell_other _ _ _ _ (by simpa using hne.symm), heap_setCell_other _ _ _ _ (by simpa using hne.symm), heap_setCell_other _ _ _ _ (by simpa using hne.symm), heap_setCell_other _ _ _ _ (by simpa using hne.symm), heap_setCell_other _ _ _ _ (by simpa using hne.symm), heap_setCell_other _ _ _ _ (by simpa using hne.symm)]
      exact hF
    exact set_at (set_at hf rfl) rfl
  · rw [heap_setCell_other _ _ _ _ (by simpa using h2), heap_setCell_other _ _ _ _ (by simpa using h2), heap_setCell_other _ _ _ _ (by simpa using h1), heap_setCell_other _ _ _ _ (by simpa using h1), heap_setCell_other _ _ _ _ (by simpa using h1), heap_setCell_other _ _ _ _ (by simpa using h1), heap_setCell_other _ _ _ _ (by simpa using h1), heap_setCell_other _ _ _ _ (by simpa using h1)]
set_option maxHeartbeats 1000000 in
theorem six_bel {n : Nat} {a w : World} {B F : Nat} (h : Below n a w) (hB : n ≤ B) (hF : n ≤ F) (a' b' c' d' e' f' x' y' : Value) :
    Below n a ((((((((w.setCell ⟨B, 0, none⟩ a').setCell ⟨B, 1, none⟩ b').setCell ⟨B, 2, none⟩ c').setCell ⟨B, 3, none⟩ d').setCell ⟨B, 4, none⟩ e').setCell ⟨B, 5, none⟩ f').setCell ⟨F, 0, none⟩ x').setCell ⟨F, 1, none⟩ y') :=
  (((((((h.setCell (p := ⟨B, 0, none⟩) hB _).setCell (p := ⟨B, 1, none⟩) hB _).setCell (p := ⟨B, 2, none⟩) hB _).setCell (p := ⟨B, 3, none⟩) hB _).setCell (p := ⟨B, 4, none⟩) hB _).setCell (p := ⟨B, 5, none⟩) hB _).setCell (p := ⟨F, 0, none⟩) hF _).setCell (p := ⟨F, 1, none⟩) hF _
set_option maxHeartbeats 1000000 in
theorem dv_psolved {w : World} {g c gb cb : Nat} (hm : Rc w (some ⟨g, 0, none⟩) dvM) (hc : 9 ≤ c) (hb : Rc w (some ⟨gb, 0, none⟩) dvB) : Calls Tryz.prog 77 #[.agg #[.int .i64 3, .int .i64 3, .slice (some ⟨g, 0, none⟩) 9 c], .slice (some ⟨gb, 0, none⟩) 3 cb] w fun e w' => ∃ l gx, e = .returned (.tuple #[.agg #[.int .i64 3, .int .i64 3, .slice (some ⟨g, 0, none⟩) 9 c, .pointer (some ⟨l, 0, none⟩), .slice (some ⟨gb, 0, none⟩) 3 cb, .slice (some ⟨gx, 0, none⟩) 3 3], .agg #[.int .i64 0, .int .i64 0]]) ∧ Rc w' (some ⟨gx, 0, none⟩) dvX ∧ w.heap.size ≤ gx ∧ Below w.heap.size w w' := by
  have HM := hidS (And.intro hm (And.intro hc hb))
  clear hm hc hb
  obtain ⟨R, hR⟩ : ∃ R, w.heap.size = R := ⟨_, rfl⟩
  go_enter Tryz.func77, Tryz.ntmps77
  have k0 : (((w.alloc (.cells #[.int .i64 3, .int .i64 3, .slice (some ⟨g, 0, none⟩) 9 c] 120)).alloc (.cells #[.int .i64 0, .int .i64 0, .slice none 0 0, .pointer none, .slice none 0 0, .slice none 0 0] 123)).alloc (.cells #[.int .i64 0, .int .i64 0] 69)).heap[R]? = some (.cells #[.int .i64 3, .int .i64 3, .slice (some ⟨g, 0, none⟩) 9 c] 120 (0, 0)) := by
    rw [(bal _ _).block R (by rw [← hR]; simp; omega), (bal _ _).block R (by rw [← hR]; simp), ← hR]; exact heap_alloc_new w _
  have k1 : (((w.alloc (.cells #[.int .i64 3, .int .i64 3, .slice (some ⟨g, 0, none⟩) 9 c] 120)).alloc (.cells #[.int .i64 0, .int .i64 0, .slice none 0 0, .pointer none, .slice none 0 0, .slice none 0 0] 123)).alloc (.cells #[.int .i64 0, .int .i64 0] 69)).heap[R + 1]? = some (.cells #[.int .i64 0, .int .i64 0, .slice none 0 0, .pointer none, .slice none 0 0, .slice none 0 0] 123 (0, 0)) := by
    rw [(bal _ _).block (R + 1) (by rw [← hR]; simp)]
    have := heap_alloc_new (w.alloc (.cells #[.int .i64 3, .int .i64 3, .slice (some ⟨g, 0, none⟩) 9 c] 120)) (.cells #[.int .i64 0, .int .i64 0, .slice none 0 0, .pointer none, .slice none 0 0, .slice none 0 0] 123)
    rw [show (w.alloc (.cells #[.int .i64 3, .int .i64 3, .slice (some ⟨g, 0, none⟩) 9 c] 120)).heap.size = R + 1 by rw [← hR]; simp] at this
    exact this
  have k2 : (((w.alloc (.cells #[.int .i64 3, .int .i64 3, .slice (some ⟨g, 0, none⟩) 9 c] 120)).alloc (.cells #[.int .i64 0, .int .i64 0, .slice none 0 0, .pointer none, .slice none 0 0, .slice none 0 0] 123)).alloc (.cells #[.int .i64 0, .int .i64 0] 69)).heap[R + 1 + 1]? = some (.cells #[.int .i64 0, .int .i64 0] 69 (0, 0)) := by
    have := heap_alloc_new ((w.alloc (.cells #[.int .i64 3, .int .i64 3, .slice (some ⟨g, 0, none⟩) 9 c] 120)).alloc (.cells #[.int .i64 0, .int .i64 0, .slice none 0 0, .pointer none, .slice none 0 0, .slice none 0 0] 123)) (.cells #[.int .i64 0, .int .i64 0] 69)
    rw [show ((w.alloc (.cells #[.int .i64 3, .int .i64 3, .slice (some ⟨g, 0, none⟩) 9 c] 120)).alloc (.cells #[.int .i64 0, .int .i64 0, .slice none 0 0, .pointer none, .slice none 0 0, .slice none 0 0] 123)).heap.size = R + 1 + 1 by rw [← hR]; simp] at this
    exact this
  have k3 : (((w.alloc (.cells #[.int .i64 3, .int .i64 3, .slice (some ⟨g, 0, none⟩) 9 c] 120)).alloc (.cells #[.int .i64 0, .int .i64 0, .slice none 0 0, .pointer none, .slice none 0 0, .slice none 0 0] 123)).alloc (.cells #[.int .i64 0, .int .i64 0] 69)).heap.size = R + 3 := by rw [← hR]; simp
  have k4 : Below w.heap.size w (((w.alloc (.cells #[.int .i64 3, .int .i64 3, .slice (some ⟨g, 0, none⟩) 9 c] 120)).alloc (.cells #[.int .i64 0, .int .i64 0, .slice none 0 0, .pointer none, .slice none 0 0, .slice none 0 0] 123)).alloc (.cells #[.int .i64 0, .int .i64 0] 69)) := ((bal w _).alloc (bal w _).size _).alloc ((bal w _).alloc (bal w _).size _).size _
  obtain ⟨wF, hwF⟩ : ∃ W, (((w.alloc (.cells #[.int .i64 3, .int .i64 3, .slice (some ⟨g, 0, none⟩) 9 c] 120)).alloc (.cells #[.int .i64 0, .int .i64 0, .slice none 0 0, .pointer none, .slice none 0 0, .slice none 0 0] 123)).alloc (.cells #[.int .i64 0, .int .i64 0] 69)) = W := ⟨_, rfl⟩
  rw [hwF] at k0 k1 k2 k3 k4
  have HF := hidS (And.intro k0 (And.intro k1 (And.intro k2 (And.intro k3 k4))))
  clear k0 k1 k2 k3 k4
  obtain ⟨b0, b1, b2, -, -, -⟩ := th_c HF.out.1
  go_wp2_with fail
  clear hwF b0 b1 b2
  refine (dv_lower wF _ c HM.out.2.1 (HM.out.1.below HF.out.2.2.2.2)).mono ?_
  rintro e1 w1 ⟨l, rfl, hl, hb1⟩
  have HL := hidS hl
  have HB1 := hidS hb1
  clear hl hb1
  go_wp2_with fail
  have HB1a : Hid (Below wF.heap.size wF (w1.alloc (.cells #[.int .i64 0, .int .i64 0] 69))) := HB1.out.alloc HB1.out.size _
  refine (dv_solve (HL.out.below (bal w1 (.cells #[.int .i64 0, .int .i64 0] 69))) (HM.out.2.2.below (HF.out.2.2.2.2.trans (HB1a.out.mono HF.out.2.2.2.2.size)))).mono ?_
  rintro e2 w2 ⟨gx, rfl, hr, hg, hb2⟩
  have HB2 : Hid (Below wF.heap.size wF w2) := HB1a.out.trans (hb2.mono HB1a.out.size)
  have HR2 := hidS (And.intro hr (show R + 3 ≤ gx by have e1 := HF.out.2.2.2.1; have e2 := HB1a.out.size; omega))
  clear hr hg hb2 HL
  have e1 := HF.out.2.2.2.1
  have hb9 : Below w.heap.size w w2 := HF.out.2.2.2.2.trans (HB2.out.mono HF.out.2.2.2.2.size)
  have q0 : w2.heap[R]? = some (.cells #[.int .i64 3, .int .i64 3, .slice (some ⟨g, 0, none⟩) 9 c] 120 (0, 0)) := by rw [HB2.out.block R (by omega)]; exact HF.out.1
  have q1 : w2.heap[R + 1]? = some (.cells #[.int .i64 0, .int .i64 0, .slice none 0 0, .pointer none, .slice none 0 0, .slice none 0 0] 123 (0, 0)) := by rw [HB2.out.block (R + 1) (by omega)]; exact HF.out.2.1
  have q2 : w2.heap[R + 1 + 1]? = some (.cells #[.int .i64 0, .int .i64 0] 69 (0, 0)) := by rw [HB2.out.block (R + 1 + 1) (by omega)]; exact HF.out.2.2.1
  obtain ⟨y0, y1, y2, -, -, -⟩ := th_c q0
  obtain ⟨⟨z0, z1, z2, z3, z4, z5⟩, u0, u1, u2, u3, u4, u5⟩ := six_c q1
  obtain ⟨x0, x1, x2, x3⟩ := tw_c q2
  have HB9 := hidS hb9
  have HST := hidS (six_two q1 q2 (by omega) (.int .i64 3) (.int .i64 3) (.slice (some ⟨g, 0, none⟩) 9 c) (.pointer (some ⟨l, 0, none⟩)) (.slice (some ⟨gb, 0, none⟩) 3 cb) (.slice (some ⟨gx, 0, none⟩) 3 3) (.int .i64 0) (.int .i64 0))
  have HE9 := hidS (six_bel hb9 (B := R + 1) (F := R + 1 + 1) (by omega) (by omega) (.int .i64 3) (.int .i64 3) (.slice (some ⟨g, 0, none⟩) 9 c) (.pointer (some ⟨l, 0, none⟩)) (.slice (some ⟨gb, 0, none⟩) 3 cb) (.slice (some ⟨gx, 0, none⟩) 3 3) (.int .i64 0) (.int .i64 0))
  have HSZ := hidS (six_bel (Below.refl 0 w2) (B := R + 1) (F := R + 1 + 1) (by omega) (by omega) (.int .i64 3) (.int .i64 3) (.slice (some ⟨g, 0, none⟩) 9 c) (.pointer (some ⟨l, 0, none⟩)) (.slice (some ⟨gb, 0, none⟩) 3 cb) (.slice (some ⟨gx, 0, none⟩) 3 3) (.int .i64 0) (.int .i64 0)).size
  clear q0 q1 q2 hb9
  go_wp2_with fail
  obtain ⟨⟨r0, r1, r2, r3, r4, r5⟩, -⟩ := six_c HST.out.1
  obtain ⟨t0, t1, -, -⟩ := tw_c HST.out.2.1
  have HK := HST.out.2.2
  (try simp only [Exit.inBlock, Exit.then])
  refine bodyPost_ret (by simp [results, Tryz.results77, go_sem, r0, r1, r2, r3, r4, r5, t0, t1]; try rfl) rfl ?_
  refine ⟨l, gx, rfl, ?_, by have := HR2.out.2; omega, HE9.out⟩
  exact rc_but HR2.out.1 HSZ.out (HK gx (by have := HR2.out.2; omega) (by have := HR2.out.2; omega))
end Go.Proofs.YtmpkcioeodlbcaaGreatDoor
