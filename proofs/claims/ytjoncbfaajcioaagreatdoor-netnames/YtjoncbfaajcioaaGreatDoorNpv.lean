/-
  NetNil's walk, given awake.
-/
import Derived.Test.YtjoncbfaajcioaaGreatDoorNpt
namespace Go.Proofs.YtjoncbfaajcioaaGreatDoor
open Go.Maps Go.RowKit Joins Deep
set_option linter.unusedVariables false
set_option maxRecDepth 100000

theorem same_z0 (w : World) : Calls Tryz.prog 41 #[.float .f64 0, .float .f64 0] w fun e w' => e = .returned (.bool true) ∧ w' = w := by
  go_enter Tryz.func41, Tryz.ntmps41
  go_wp2
  go_ret
  exact ⟨rfl, rfl⟩
theorem same_z (w : World) : Calls Tryz.prog 23 #[.agg #[.int .u8 0, .string ⟨#[]⟩, .string ⟨#[]⟩, .string ⟨#[]⟩, .string ⟨#[]⟩, .string ⟨#[]⟩, .float .f64 0, .int .i64 0], .agg #[.int .u8 0, .string ⟨#[]⟩, .string ⟨#[]⟩, .string ⟨#[]⟩, .string ⟨#[]⟩, .string ⟨#[]⟩, .float .f64 0, .int .i64 0]] w fun e w' => e = .returned (.bool true) ∧ Below w.heap.size w w' := by
  have HS : Hid (∀ W, Calls Tryz.prog 41 #[.float .f64 0, .float .f64 0] W fun e w' => e = .returned (.bool true) ∧ w' = W) := same_z0
  go_enter Tryz.func23, Tryz.ntmps23
  have HB : Hid (Below w.heap.size w ((w.alloc (.cells #[.int .u8 0, .string ⟨#[]⟩, .string ⟨#[]⟩, .string ⟨#[]⟩, .string ⟨#[]⟩, .string ⟨#[]⟩, .float .f64 0, .int .i64 0] 31)).alloc (.cells #[.int .u8 0, .string ⟨#[]⟩, .string ⟨#[]⟩, .string ⟨#[]⟩, .string ⟨#[]⟩, .string ⟨#[]⟩, .float .f64 0, .int .i64 0] 31))) := ((Below.refl _ _).alloc (Nat.le_refl _) _).alloc (by simp) _
  obtain ⟨wa, hwa⟩ : ∃ wa, (w.alloc (.cells #[.int .u8 0, .string ⟨#[]⟩, .string ⟨#[]⟩, .string ⟨#[]⟩, .string ⟨#[]⟩, .string ⟨#[]⟩, .float .f64 0, .int .i64 0] 31)).alloc (.cells #[.int .u8 0, .string ⟨#[]⟩, .string ⟨#[]⟩, .string ⟨#[]⟩, .string ⟨#[]⟩, .string ⟨#[]⟩, .float .f64 0, .int .i64 0] 31) = wa := ⟨_, rfl⟩
  have h0 : wa.heap[w.heap.size]? = some (.cells #[.int .u8 0, .string ⟨#[]⟩, .string ⟨#[]⟩, .string ⟨#[]⟩, .string ⟨#[]⟩, .string ⟨#[]⟩, .float .f64 0, .int .i64 0] 31 (0, 0)) := by rw [← hwa, Below.heap_alloc _ _ _ (by simp)]; exact heap_alloc_new _ _
  have h1 : wa.heap[w.heap.size + 1]? = some (.cells #[.int .u8 0, .string ⟨#[]⟩, .string ⟨#[]⟩, .string ⟨#[]⟩, .string ⟨#[]⟩, .string ⟨#[]⟩, .float .f64 0, .int .i64 0] 31 (0, 0)) := by rw [← hwa]; have := heap_alloc_new (w.alloc (.cells #[.int .u8 0, .string ⟨#[]⟩, .string ⟨#[]⟩, .string ⟨#[]⟩, .string ⟨#[]⟩, .string ⟨#[]⟩, .float .f64 0, .int .i64 0] 31)) (.cells #[.int .u8 0, .string ⟨#[]⟩, .string ⟨#[]⟩, .string ⟨#[]⟩, .string ⟨#[]⟩, .string ⟨#[]⟩, .float .f64 0, .int .i64 0] 31); rw [al_size] at this; exact this
  obtain ⟨c0, c1, c2, c3, c4, c5, c6, c7⟩ := cells_8 h0
  obtain ⟨d0, d1, d2, d3, d4, d5, d6, d7⟩ := cells_8 h1
  rw [hwa] at HB
  clear h0 h1
  go_wp2_with (first
    | (go_at_call 41; (with_reducible refine (HS.out _).mono ?_); rintro e1 w1 ⟨rfl, hw1⟩; subst w1))
  go_ret
  exact ⟨rfl, HB.out⟩
theorem zr_st {w : World} : ∃ wz, w.alloc (.cells #[.int .u8 0, .string ⟨#[]⟩, .string ⟨#[]⟩, .string ⟨#[]⟩, .string ⟨#[]⟩, .string ⟨#[]⟩, .float .f64 0, .int .i64 0] 31) = wz ∧ Hid (wz.cell? ⟨w.heap.size, 0, none⟩ = some (.int .u8 0) ∧ wz.cell? ⟨w.heap.size, 1, none⟩ = some (.string ⟨#[]⟩) ∧ wz.cell? ⟨w.heap.size, 2, none⟩ = some (.string ⟨#[]⟩) ∧ wz.cell? ⟨w.heap.size, 3, none⟩ = some (.string ⟨#[]⟩) ∧ wz.cell? ⟨w.heap.size, 4, none⟩ = some (.string ⟨#[]⟩) ∧ wz.cell? ⟨w.heap.size, 5, none⟩ = some (.string ⟨#[]⟩) ∧ wz.cell? ⟨w.heap.size, 6, none⟩ = some (.float .f64 0) ∧ wz.cell? ⟨w.heap.size, 7, none⟩ = some (.int .i64 0)) ∧ Below w.heap.size w wz := by
  refine ⟨_, rfl, (eight (heap_alloc_new _ _)).1, (Below.refl _ _).alloc (Nat.le_refl _) _⟩
theorem cz_kept {wz wf : World} {B : Nat} (h : wz.cell? ⟨B, 0, none⟩ = some (.int .u8 0) ∧ wz.cell? ⟨B, 1, none⟩ = some (.string ⟨#[]⟩) ∧ wz.cell? ⟨B, 2, none⟩ = some (.string ⟨#[]⟩) ∧ wz.cell? ⟨B, 3, none⟩ = some (.string ⟨#[]⟩) ∧ wz.cell? ⟨B, 4, none⟩ = some (.string ⟨#[]⟩) ∧ wz.cell? ⟨B, 5, none⟩ = some (.string ⟨#[]⟩) ∧ wz.cell? ⟨B, 6, none⟩ = some (.float .f64 0) ∧ wz.cell? ⟨B, 7, none⟩ = some (.int .i64 0)) (hb : Below wz.heap.size wz wf) : wf.cell? ⟨B, 0, none⟩ = some (.int .u8 0) ∧ wf.cell? ⟨B, 1, none⟩ = some (.string ⟨#[]⟩) ∧ wf.cell? ⟨B, 2, none⟩ = some (.string ⟨#[]⟩) ∧ wf.cell? ⟨B, 3, none⟩ = some (.string ⟨#[]⟩) ∧ wf.cell? ⟨B, 4, none⟩ = some (.string ⟨#[]⟩) ∧ wf.cell? ⟨B, 5, none⟩ = some (.string ⟨#[]⟩) ∧ wf.cell? ⟨B, 6, none⟩ = some (.float .f64 0) ∧ wf.cell? ⟨B, 7, none⟩ = some (.int .i64 0) := by
  have hl := World.block_lt_of_cell? wz _ h.1
  exact ⟨(hb.cell (p := ⟨B, 0, none⟩) hl).trans h.1, (hb.cell (p := ⟨B, 1, none⟩) hl).trans h.2.1, (hb.cell (p := ⟨B, 2, none⟩) hl).trans h.2.2.1, (hb.cell (p := ⟨B, 3, none⟩) hl).trans h.2.2.2.1, (hb.cell (p := ⟨B, 4, none⟩) hl).trans h.2.2.2.2.1, (hb.cell (p := ⟨B, 5, none⟩) hl).trans h.2.2.2.2.2.1, (hb.cell (p := ⟨B, 6, none⟩) hl).trans h.2.2.2.2.2.2.1, (hb.cell (p := ⟨B, 7, none⟩) hl).trans h.2.2.2.2.2.2.2⟩
theorem zr_at (w : World) : (w.alloc (.cells #[.int .u8 0, .string ⟨#[]⟩, .string ⟨#[]⟩, .string ⟨#[]⟩, .string ⟨#[]⟩, .string ⟨#[]⟩, .float .f64 0, .int .i64 0] 31)).cell? ⟨w.heap.size, 0, none⟩ = some (.int .u8 0) ∧ (w.alloc (.cells #[.int .u8 0, .string ⟨#[]⟩, .string ⟨#[]⟩, .string ⟨#[]⟩, .string ⟨#[]⟩, .string ⟨#[]⟩, .float .f64 0, .int .i64 0] 31)).cell? ⟨w.heap.size, 1, none⟩ = some (.string ⟨#[]⟩) ∧ (w.alloc (.cells #[.int .u8 0, .string ⟨#[]⟩, .string ⟨#[]⟩, .string ⟨#[]⟩, .string ⟨#[]⟩, .string ⟨#[]⟩, .float .f64 0, .int .i64 0] 31)).cell? ⟨w.heap.size, 2, none⟩ = some (.string ⟨#[]⟩) ∧ (w.alloc (.cells #[.int .u8 0, .string ⟨#[]⟩, .string ⟨#[]⟩, .string ⟨#[]⟩, .string ⟨#[]⟩, .string ⟨#[]⟩, .float .f64 0, .int .i64 0] 31)).cell? ⟨w.heap.size, 3, none⟩ = some (.string ⟨#[]⟩) ∧ (w.alloc (.cells #[.int .u8 0, .string ⟨#[]⟩, .string ⟨#[]⟩, .string ⟨#[]⟩, .string ⟨#[]⟩, .string ⟨#[]⟩, .float .f64 0, .int .i64 0] 31)).cell? ⟨w.heap.size, 4, none⟩ = some (.string ⟨#[]⟩) ∧ (w.alloc (.cells #[.int .u8 0, .string ⟨#[]⟩, .string ⟨#[]⟩, .string ⟨#[]⟩, .string ⟨#[]⟩, .string ⟨#[]⟩, .float .f64 0, .int .i64 0] 31)).cell? ⟨w.heap.size, 5, none⟩ = some (.string ⟨#[]⟩) ∧ (w.alloc (.cells #[.int .u8 0, .string ⟨#[]⟩, .string ⟨#[]⟩, .string ⟨#[]⟩, .string ⟨#[]⟩, .string ⟨#[]⟩, .float .f64 0, .int .i64 0] 31)).cell? ⟨w.heap.size, 6, none⟩ = some (.float .f64 0) ∧ (w.alloc (.cells #[.int .u8 0, .string ⟨#[]⟩, .string ⟨#[]⟩, .string ⟨#[]⟩, .string ⟨#[]⟩, .string ⟨#[]⟩, .float .f64 0, .int .i64 0] 31)).cell? ⟨w.heap.size, 7, none⟩ = some (.int .i64 0) := (eight (heap_alloc_new _ _)).1
theorem cx_kept {ws wz : World} {B : Nat} {x : Elm} (h : ws.cell? ⟨B, 0, none⟩ = some (.int .u8 (x.k : Int)) ∧ ws.cell? ⟨B, 1, none⟩ = some (.string x.n) ∧ ws.cell? ⟨B, 2, none⟩ = some (.string x.a) ∧ ws.cell? ⟨B, 3, none⟩ = some (.string x.b) ∧ ws.cell? ⟨B, 4, none⟩ = some (.string x.c) ∧ ws.cell? ⟨B, 5, none⟩ = some (.string x.d) ∧ ws.cell? ⟨B, 6, none⟩ = some (.int .u64 (x.v : Int)) ∧ ws.cell? ⟨B, 7, none⟩ = some (.int .i64 x.ph)) (hb : Below ws.heap.size ws wz) : wz.cell? ⟨B, 0, none⟩ = some (.int .u8 (x.k : Int)) ∧ wz.cell? ⟨B, 1, none⟩ = some (.string x.n) ∧ wz.cell? ⟨B, 2, none⟩ = some (.string x.a) ∧ wz.cell? ⟨B, 3, none⟩ = some (.string x.b) ∧ wz.cell? ⟨B, 4, none⟩ = some (.string x.c) ∧ wz.cell? ⟨B, 5, none⟩ = some (.string x.d) ∧ wz.cell? ⟨B, 6, none⟩ = some (.int .u64 (x.v : Int)) ∧ wz.cell? ⟨B, 7, none⟩ = some (.int .i64 x.ph) := by
  have hl := World.block_lt_of_cell? ws _ h.1
  exact ⟨(hb.cell (p := ⟨B, 0, none⟩) hl).trans h.1, (hb.cell (p := ⟨B, 1, none⟩) hl).trans h.2.1, (hb.cell (p := ⟨B, 2, none⟩) hl).trans h.2.2.1, (hb.cell (p := ⟨B, 3, none⟩) hl).trans h.2.2.2.1, (hb.cell (p := ⟨B, 4, none⟩) hl).trans h.2.2.2.2.1, (hb.cell (p := ⟨B, 5, none⟩) hl).trans h.2.2.2.2.2.1, (hb.cell (p := ⟨B, 6, none⟩) hl).trans h.2.2.2.2.2.2.1, (hb.cell (p := ⟨B, 7, none⟩) hl).trans h.2.2.2.2.2.2.2⟩
theorem fl_1 {w : World} : ∃ wz, w.alloc (.cells #[.int .i64 1, .int .i64 (-1)] 25) = wz ∧ wz.cell? ⟨w.heap.size, 0, none⟩ = some (.int .i64 1) ∧ wz.cell? ⟨w.heap.size, 1, none⟩ = some (.int .i64 (-1)) ∧ Below w.heap.size w wz := by
  refine ⟨_, rfl, ?_, ?_, (Below.refl _ _).alloc (Nat.le_refl _) _⟩
  · exact World.cell?_alloc_new _ _ _ _
  · exact World.cell?_alloc_new _ _ _ _
theorem nn_st {w : World} {x : Elm} : ∃ ws, ((w.alloc (.cells #[.int .u8 (x.k : Int), .string x.n, .string x.a, .string x.b, .string x.c, .string x.d, .int .u64 (x.v : Int), .int .i64 x.ph] 50)).alloc (.cells #[.slice none 0 0, .slice none 0 0, .map none, .slice none 0 0, .map none, .slice none 0 0, .map none] 55)).alloc (.cells #[.pointer none, .pointer (some ⟨w.heap.size + 1, 0, none⟩)] 22) = ws ∧ (ws.cell? ⟨w.heap.size, 0, none⟩ = some (.int .u8 (x.k : Int)) ∧ ws.cell? ⟨w.heap.size, 1, none⟩ = some (.string x.n) ∧ ws.cell? ⟨w.heap.size, 2, none⟩ = some (.string x.a) ∧ ws.cell? ⟨w.heap.size, 3, none⟩ = some (.string x.b) ∧ ws.cell? ⟨w.heap.size, 4, none⟩ = some (.string x.c) ∧ ws.cell? ⟨w.heap.size, 5, none⟩ = some (.string x.d) ∧ ws.cell? ⟨w.heap.size, 6, none⟩ = some (.int .u64 (x.v : Int)) ∧ ws.cell? ⟨w.heap.size, 7, none⟩ = some (.int .i64 x.ph)) ∧ ws.cell? ⟨w.heap.size + 1 + 1, 0, none⟩ = some (.pointer none) ∧ ws.cell? ⟨w.heap.size + 1 + 1, 1, none⟩ = some (.pointer (some ⟨w.heap.size + 1, 0, none⟩)) ∧ NoNet (.pointer (some ⟨w.heap.size + 1, 0, none⟩)) ws ∧ Below w.heap.size w ws := by
  have hs1 : (w.alloc (.cells #[.int .u8 (x.k : Int), .string x.n, .string x.a, .string x.b, .string x.c, .string x.d, .int .u64 (x.v : Int), .int .i64 x.ph] 50)).heap.size = w.heap.size + 1 := by simp
  have hs2 : ((w.alloc (.cells #[.int .u8 (x.k : Int), .string x.n, .string x.a, .string x.b, .string x.c, .string x.d, .int .u64 (x.v : Int), .int .i64 x.ph] 50)).alloc (.cells #[.slice none 0 0, .slice none 0 0, .map none, .slice none 0 0, .map none, .slice none 0 0, .map none] 55)).heap.size = w.heap.size + 1 + 1 := by simp
  obtain ⟨wa, hwa⟩ : ∃ wa, w.alloc (.cells #[.int .u8 (x.k : Int), .string x.n, .string x.a, .string x.b, .string x.c, .string x.d, .int .u64 (x.v : Int), .int .i64 x.ph] 50) = wa := ⟨_, rfl⟩
  have ha : wa.heap[w.heap.size]? = some (.cells #[.int .u8 (x.k : Int), .string x.n, .string x.a, .string x.b, .string x.c, .string x.d, .int .u64 (x.v : Int), .int .i64 x.ph] 50 (0, 0)) := by rw [← hwa]; exact heap_alloc_new _ _
  have hba : Below w.heap.size w wa := by rw [← hwa]; exact (Below.refl _ _).alloc (Nat.le_refl _) _
  rw [hwa] at hs1 hs2 ⊢
  clear hwa
  obtain ⟨wb, hwb⟩ : ∃ wb, wa.alloc (.cells #[.slice none 0 0, .slice none 0 0, .map none, .slice none 0 0, .map none, .slice none 0 0, .map none] 55) = wb := ⟨_, rfl⟩
  have hb : wb.heap[w.heap.size + 1]? = some (.cells #[.slice none 0 0, .slice none 0 0, .map none, .slice none 0 0, .map none, .slice none 0 0, .map none] 55 (0, 0)) := by rw [← hwb, ← hs1]; exact heap_alloc_new _ _
  have hbb : Below wa.heap.size wa wb := by rw [← hwb]; exact (Below.refl _ _).alloc (Nat.le_refl _) _
  rw [hwb] at hs2 ⊢
  clear hwb
  obtain ⟨wc, hwc⟩ : ∃ wc, wb.alloc (.cells #[.pointer none, .pointer (some ⟨w.heap.size + 1, 0, none⟩)] 22) = wc := ⟨_, rfl⟩
  have hc : wc.heap[w.heap.size + 1 + 1]? = some (.cells #[.pointer none, .pointer (some ⟨w.heap.size + 1, 0, none⟩)] 22 (0, 0)) := by rw [← hwc, ← hs2]; exact heap_alloc_new _ _
  have hbc : Below wb.heap.size wb wc := by rw [← hwc]; exact (Below.refl _ _).alloc (Nat.le_refl _) _
  have hca : wc.heap[w.heap.size]? = some (.cells #[.int .u8 (x.k : Int), .string x.n, .string x.a, .string x.b, .string x.c, .string x.d, .int .u64 (x.v : Int), .int .i64 x.ph] 50 (0, 0)) := by rw [hbc.block _ (by omega), hbb.block _ (by omega)]; exact ha
  have hcb : wc.heap[w.heap.size + 1]? = some (.cells #[.slice none 0 0, .slice none 0 0, .map none, .slice none 0 0, .map none, .slice none 0 0, .map none] 55 (0, 0)) := by rw [hbc.block _ (by omega)]; exact hb
  refine ⟨wc, hwc, cells_8 hca, (tw_c hc).1, (tw_c hc).2.1, .inr ⟨_, rfl, ?_⟩, hba.trans ((hbb.mono (by omega)).trans (hbc.mono (by omega)))⟩
  rw [cell_of_row wc _ 2 _ _ (0, 0) hcb]; rfl
set_option maxHeartbeats 8000000 in
theorem nnil_walk (w : World) (name : ByteArray) (x : Elm) (hw : Wow w) (hA : ∀ W, Wow W → Calls Tryz.prog 20 #[] W fun e w' => e = .returned (.bool true) ∧ Below W.heap.size W w') :
    Calls Tryz.prog 4 #[.string name, .agg #[.int .u8 (x.k : Int), .string x.n, .string x.a, .string x.b, .string x.c, .string x.d, .int .u64 (x.v : Int), .int .i64 x.ph]] w fun e w' => e = .returned (.bool true) ∧ Below w.heap.size w w' := by
  have HA : Hid (∀ W, Wow W → Calls Tryz.prog 20 #[] W fun e w' => e = .returned (.bool true) ∧ Below W.heap.size W w') := hA
  have HE : Hid (∀ W, Calls Tryz.prog 22 #[.agg #[.int .u8 (x.k : Int), .string x.n, .string x.a, .string x.b, .string x.c, .string x.d, .int .u64 (x.v : Int), .int .i64 x.ph]] W fun e w' => e = .returned (.agg #[.int .u8 (x.k : Int), .string x.n, .string x.a, .string x.b, .string x.c, .string x.d, .float .f64 x.v, .int .i64 x.ph]) ∧ Below W.heap.size W w') := element_any x
  have HSZ : Hid (∀ W, Calls Tryz.prog 23 #[.agg #[.int .u8 0, .string ⟨#[]⟩, .string ⟨#[]⟩, .string ⟨#[]⟩, .string ⟨#[]⟩, .string ⟨#[]⟩, .float .f64 0, .int .i64 0], .agg #[.int .u8 0, .string ⟨#[]⟩, .string ⟨#[]⟩, .string ⟨#[]⟩, .string ⟨#[]⟩, .string ⟨#[]⟩, .float .f64 0, .int .i64 0]] W fun e w' => e = .returned (.bool true) ∧ Below W.heap.size W w') := same_z
  obtain ⟨ws, hws, hcx, hc0, hc1, hnn, hbs⟩ := nn_st (w := w) (x := x)
  have H_X : Hid (ws.cell? ⟨w.heap.size, 0, none⟩ = some (.int .u8 (x.k : Int)) ∧ ws.cell? ⟨w.heap.size, 1, none⟩ = some (.string x.n) ∧ ws.cell? ⟨w.heap.size, 2, none⟩ = some (.string x.a) ∧ ws.cell? ⟨w.heap.size, 3, none⟩ = some (.string x.b) ∧ ws.cell? ⟨w.heap.size, 4, none⟩ = some (.string x.c) ∧ ws.cell? ⟨w.heap.size, 5, none⟩ = some (.string x.d) ∧ ws.cell? ⟨w.heap.size, 6, none⟩ = some (.int .u64 (x.v : Int)) ∧ ws.cell? ⟨w.heap.size, 7, none⟩ = some (.int .i64 x.ph)) := hcx
  have HS : Hid (ws.cell? ⟨w.heap.size + 1 + 1, 0, none⟩ = some (.pointer none) ∧ ws.cell? ⟨w.heap.size + 1 + 1, 1, none⟩ = some (.pointer (some ⟨w.heap.size + 1, 0, none⟩)) ∧ NoNet (.pointer (some ⟨w.heap.size + 1, 0, none⟩)) ws) := ⟨hc0, hc1, hnn⟩
  have HBS : Hid (Below w.heap.size w ws) := hbs
  have HW : Hid (Wow ws) := hw.kept hbs
  clear hw hA hcx hc0 hc1 hnn hbs
  go_enter Tryz.func4, Tryz.ntmps4
  go_wp2_with fail
  go_loopw [21] (fun iv wr => ∃ (k : Nat), k ≤ 2 ∧ iv = .int .i64 k ∧ Hid (Below ws.heap.size ws wr)) (fun iv _ => 2 - (intOf iv).toNat)
  case atStart => exact ⟨0, by omega, rfl, Below.refl _ _⟩
  case round =>
    obtain ⟨k, hle, rfl, HB⟩ := hrel
    by_cases hkn : k < 2
    · have hki : (k : Int) < 2 := by omega
      obtain ⟨P, hP, hN⟩ : ∃ P, wr.cell? ⟨w.heap.size + 1 + 1, k, none⟩ = some (.pointer P) ∧ NoNet (.pointer P) wr := by
        rcases (by omega : k = 0 ∨ k = 1) with rfl | rfl
        · exact ⟨_, (HB.out.cell (World.block_lt_of_cell? ws _ HS.out.1)).trans HS.out.1, .inl rfl⟩
        · exact ⟨_, (HB.out.cell (World.block_lt_of_cell? ws _ HS.out.2.1)).trans HS.out.2.1, HS.out.2.2.below HB.out⟩
      have HN : Hid (NoNet (.pointer P) wr) := hN
      clear hN
      go_wp2_with (first
        | (go_at_call 7; (with_reducible refine (nplace_none HN.out name).mono ?_); rintro e w1 ⟨rfl, hw1⟩; subst w1)
        | (go_at_call 8; (with_reducible refine (nbranch_none HN.out name).mono ?_); rintro e w1 ⟨rfl, hw1⟩; subst w1)
        | (go_at_call 21; (with_reducible refine (nfind_none HN.out name).mono ?_); rintro e w3 ⟨rfl, hb3⟩; (have H_Z : Hid ((w3.alloc (.cells #[.int .u8 0, .string ⟨#[]⟩, .string ⟨#[]⟩, .string ⟨#[]⟩, .string ⟨#[]⟩, .string ⟨#[]⟩, .float .f64 0, .int .i64 0] 31)).cell? ⟨w3.heap.size, 0, none⟩ = some (.int .u8 0) ∧ (w3.alloc (.cells #[.int .u8 0, .string ⟨#[]⟩, .string ⟨#[]⟩, .string ⟨#[]⟩, .string ⟨#[]⟩, .string ⟨#[]⟩, .float .f64 0, .int .i64 0] 31)).cell? ⟨w3.heap.size, 1, none⟩ = some (.string ⟨#[]⟩) ∧ (w3.alloc (.cells #[.int .u8 0, .string ⟨#[]⟩, .string ⟨#[]⟩, .string ⟨#[]⟩, .string ⟨#[]⟩, .string ⟨#[]⟩, .float .f64 0, .int .i64 0] 31)).cell? ⟨w3.heap.size, 2, none⟩ = some (.string ⟨#[]⟩) ∧ (w3.alloc (.cells #[.int .u8 0, .string ⟨#[]⟩, .string ⟨#[]⟩, .string ⟨#[]⟩, .string ⟨#[]⟩, .string ⟨#[]⟩, .float .f64 0, .int .i64 0] 31)).cell? ⟨w3.heap.size, 3, none⟩ = some (.string ⟨#[]⟩) ∧ (w3.alloc (.cells #[.int .u8 0, .string ⟨#[]⟩, .string ⟨#[]⟩, .string ⟨#[]⟩, .string ⟨#[]⟩, .string ⟨#[]⟩, .float .f64 0, .int .i64 0] 31)).cell? ⟨w3.heap.size, 4, none⟩ = some (.string ⟨#[]⟩) ∧ (w3.alloc (.cells #[.int .u8 0, .string ⟨#[]⟩, .string ⟨#[]⟩, .string ⟨#[]⟩, .string ⟨#[]⟩, .string ⟨#[]⟩, .float .f64 0, .int .i64 0] 31)).cell? ⟨w3.heap.size, 5, none⟩ = some (.string ⟨#[]⟩) ∧ (w3.alloc (.cells #[.int .u8 0, .string ⟨#[]⟩, .string ⟨#[]⟩, .string ⟨#[]⟩, .string ⟨#[]⟩, .string ⟨#[]⟩, .float .f64 0, .int .i64 0] 31)).cell? ⟨w3.heap.size, 6, none⟩ = some (.float .f64 0) ∧ (w3.alloc (.cells #[.int .u8 0, .string ⟨#[]⟩, .string ⟨#[]⟩, .string ⟨#[]⟩, .string ⟨#[]⟩, .string ⟨#[]⟩, .float .f64 0, .int .i64 0] 31)).cell? ⟨w3.heap.size, 7, none⟩ = some (.int .i64 0)) := zr_at w3); (have HZ : Hid (Below wr.heap.size wr (w3.alloc (.cells #[.int .u8 0, .string ⟨#[]⟩, .string ⟨#[]⟩, .string ⟨#[]⟩, .string ⟨#[]⟩, .string ⟨#[]⟩, .float .f64 0, .int .i64 0] 31))) := hb3.alloc hb3.size _); (obtain ⟨a0, a1, a2, a3, a4, a5, a6, a7⟩ := cx_kept H_X.out (HB.out.trans (HZ.out.mono HB.out.size))); clear hb3)
        | (go_at_call 22; (with_reducible refine (HE.out _).mono ?_); rintro e w4 ⟨rfl, hb4⟩; (have H4 : Hid (Below wr.heap.size wr w4 ∧ Below (w3.alloc (.cells #[.int .u8 0, .string ⟨#[]⟩, .string ⟨#[]⟩, .string ⟨#[]⟩, .string ⟨#[]⟩, .string ⟨#[]⟩, .float .f64 0, .int .i64 0] 31)).heap.size (w3.alloc (.cells #[.int .u8 0, .string ⟨#[]⟩, .string ⟨#[]⟩, .string ⟨#[]⟩, .string ⟨#[]⟩, .string ⟨#[]⟩, .float .f64 0, .int .i64 0] 31)) w4) := ⟨HZ.out.trans (hb4.mono HZ.out.size), hb4⟩); clear hb4)
        | (go_at_call 15; (with_reducible refine (nwith_none (HN.out.below H4.out.1) _ _ _ _ _ _ _ _).mono ?_); rintro e w5 ⟨rfl, hb5⟩; (obtain ⟨wf, hwf, f0, f1, hbf⟩ := fl_1 (w := w5)); (have H5 : Hid (Below wr.heap.size wr wf ∧ Below (w3.alloc (.cells #[.int .u8 0, .string ⟨#[]⟩, .string ⟨#[]⟩, .string ⟨#[]⟩, .string ⟨#[]⟩, .string ⟨#[]⟩, .float .f64 0, .int .i64 0] 31)).heap.size (w3.alloc (.cells #[.int .u8 0, .string ⟨#[]⟩, .string ⟨#[]⟩, .string ⟨#[]⟩, .string ⟨#[]⟩, .string ⟨#[]⟩, .float .f64 0, .int .i64 0] 31)) wf) := ⟨H4.out.1.trans ((hb5.trans (hbf.mono hb5.size)).mono H4.out.1.size), H4.out.2.trans ((hb5.trans (hbf.mono hb5.size)).mono H4.out.2.size)⟩); (obtain ⟨z0, z1, z2, z3, z4, z5, z6, z7⟩ := cz_kept H_Z.out H5.out.2); clear hb5 hbf)
        | (go_at_call 14; (with_reducible refine (nwithout_none (HN.out.below H5.out.1) name).mono ?_); rintro e w6 ⟨rfl, hw6⟩; subst w6)
        | (go_at_call 23; (with_reducible refine (HSZ.out _).mono ?_); rintro e w7 ⟨rfl, hb7⟩; (have H7 : Hid (Below wr.heap.size wr w7) := H5.out.1.trans (hb7.mono H5.out.1.size)); (have f2 := (hb7.cell (World.block_lt_of_cell? wf _ f0)).trans f0); (have f3 := (hb7.cell (World.block_lt_of_cell? wf _ f1)).trans f1); clear hb7)
        | (go_at_call 19; (with_reducible refine (nprint_none (HN.out.below H7.out)).mono ?_); rintro e w8 ⟨rfl, hw8⟩; subst w8)
        | (go_at_call 18; (with_reducible refine (norder_none (HN.out.below H7.out)).mono ?_); rintro e w8 ⟨rfl, hw8⟩; subst w8)
        | (go_at_call 10; (with_reducible refine (nelements_none (HN.out.below H7.out)).mono ?_); rintro e w8 ⟨rfl, hw8⟩; subst w8)
        | (go_at_call 17; (with_reducible refine (nnodes_none (HN.out.below H7.out)).mono ?_); rintro e w8 ⟨rfl, hw8⟩; subst w8)
        | (go_at_call 12; (with_reducible refine (nbranches_none (HN.out.below H7.out)).mono ?_); rintro e w8 ⟨rfl, hw8⟩; subst w8))
      go_roundw
      case rel => exact ⟨k + 1, by omega, by go_num, HB.out.trans (H7.out.mono HB.out.size)⟩
      case measure => simp [intOf]; omega
    · obtain rfl : k = 2 := by omega
      go_wp2_with (first
        | (go_at_call 20; (with_reducible refine (HA.out _ (HW.out.kept HB.out)).mono ?_); rintro e w7 ⟨rfl, hb7⟩))
      go_ret
      exact ⟨rfl, HBS.out.trans ((HB.out.trans (hb7.mono HB.out.size)).mono HBS.out.size)⟩
end Go.Proofs.YtjoncbfaajcioaaGreatDoor
