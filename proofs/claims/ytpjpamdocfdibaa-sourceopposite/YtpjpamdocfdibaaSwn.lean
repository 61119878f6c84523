/-
  SourceNone's walk: what is told of no net.
-/
import Derived.Test.YtpjpamdocfdibaaSwa
namespace Go.Proofs.Ytpjpamdocfdibaa
open Fl Go.Maps RowKit Joins Deep
set_option linter.unusedVariables false

theorem none_nil (w : World) : NoNet (.pointer none) w := .inl rfl
theorem none_box (w : World) : NoNet (.pointer (some ⟨w.heap.size, 0, none⟩)) (w.alloc (.cells #[.slice none 0 0, .slice none 0 0, .map none, .slice none 0 0, .map none, .slice none 0 0, .map none] 75)) := by
  refine .inr ⟨_, rfl, ?_⟩
  rw [cell_of_row _ _ _ _ _ (0, 0) (heap_alloc_new w _)]; rfl
/-- a fault of no net, as it lies in memory -/
def Fk (w : World) (q : Nat) : Prop := w.heap[q]? = some (.cells #[.int .i64 1, .int .i64 (-1)] 29 (0, 0))
theorem Fk.on {w w' : World} {q : Nat} (h : Fk w q) (hb : Below w.heap.size w w') : Fk w' q := by
  unfold Fk at *
  rw [hb.block q (Array.getElem?_eq_some_iff.1 h).1]; exact h
theorem fk_new (w : World) : Fk (w.alloc (.cells #[.int .i64 1, .int .i64 (-1)] 29)) w.heap.size := heap_alloc_new w _
set_option maxHeartbeats 8000000 in
theorem snone_walk (w : World) (s : ByteArray) : Calls Try.prog 6 #[.string s] w fun e w' => e = .returned (.bool true) ∧ Below w.heap.size w w' := by
  have HB_w := hidS (Below.refl w.heap.size w)
  have HB_a0 := hidS ((HB_w.out).trans ((bal w (.cells #[.int .i64 1, .int .i64 (-1)] 29)).mono (HB_w.out).size))
  have HL_a0 := hidS (bal w (.cells #[.int .i64 1, .int .i64 (-1)] 29))
  have HK_a0 : Hid (Fk (w.alloc (.cells #[.int .i64 1, .int .i64 (-1)] 29)) w.heap.size) := fk_new w
  obtain ⟨a0, h_a0⟩ : ∃ W, w.alloc (.cells #[.int .i64 1, .int .i64 (-1)] 29) = W := ⟨_, rfl⟩
  obtain ⟨q0, hq_q0⟩ : ∃ q, w.heap.size = q := ⟨_, rfl⟩
  rw [h_a0] at HB_a0 HK_a0 HL_a0
  rw [hq_q0] at HK_a0
  go_enter Try.func6, Try.ntmps6
  go_wp2_with fail
  refine (sright_none (none_nil _)).mono ?_
  rintro e1 w1 ⟨rfl, b1⟩
  have HB_w1 := hidS (HB_a0.out.trans (b1.mono HB_a0.out.size))
  have HBB1 := hidS b1
  clear b1
  have HB_a1 := hidS ((HB_w1.out).trans ((bal w1 (.cells #[.int .i64 1, .int .i64 (-1)] 29)).mono (HB_w1.out).size))
  have HL_a1 := hidS (bal w1 (.cells #[.int .i64 1, .int .i64 (-1)] 29))
  have HK_a1 : Hid (Fk (w1.alloc (.cells #[.int .i64 1, .int .i64 (-1)] 29)) w1.heap.size) := fk_new w1
  obtain ⟨a1, h_a1⟩ : ∃ W, w1.alloc (.cells #[.int .i64 1, .int .i64 (-1)] 29) = W := ⟨_, rfl⟩
  obtain ⟨q1, hq_q1⟩ : ∃ q, w1.heap.size = q := ⟨_, rfl⟩
  rw [h_a1] at HB_a1 HK_a1 HL_a1
  rw [hq_q1] at HK_a1
  have HB_z2 := hidS ((HB_a1.out).trans ((bal a1 (.cells #[.slice none 0 0, .slice none 0 0, .map none, .slice none 0 0, .map none, .slice none 0 0, .map none] 75)).mono (HB_a1.out).size))
  have HL_z2 := hidS (bal a1 (.cells #[.slice none 0 0, .slice none 0 0, .map none, .slice none 0 0, .map none, .slice none 0 0, .map none] 75))
  have HK_z2 : Hid (NoNet (.pointer (some ⟨a1.heap.size, 0, none⟩)) (a1.alloc (.cells #[.slice none 0 0, .slice none 0 0, .map none, .slice none 0 0, .map none, .slice none 0 0, .map none] 75))) := none_box a1
  obtain ⟨z2, h_z2⟩ : ∃ W, a1.alloc (.cells #[.slice none 0 0, .slice none 0 0, .map none, .slice none 0 0, .map none, .slice none 0 0, .map none] 75) = W := ⟨_, rfl⟩
  obtain ⟨p2, hq_p2⟩ : ∃ q, a1.heap.size = q := ⟨_, rfl⟩
  rw [h_z2] at HB_z2 HK_z2 HL_z2
  rw [hq_p2] at HK_z2
  go_wp2_with fail
  refine (sright_none HK_z2.out).mono ?_
  rintro e2 w2 ⟨rfl, b2⟩
  have HB_w2 := hidS (HB_z2.out.trans (b2.mono HB_z2.out.size))
  have HBB2 := hidS b2
  clear b2
  have HB_a2 := hidS ((HB_w2.out).trans ((bal w2 (.cells #[.int .i64 1, .int .i64 (-1)] 29)).mono (HB_w2.out).size))
  have HL_a2 := hidS (bal w2 (.cells #[.int .i64 1, .int .i64 (-1)] 29))
  have HK_a2 : Hid (Fk (w2.alloc (.cells #[.int .i64 1, .int .i64 (-1)] 29)) w2.heap.size) := fk_new w2
  obtain ⟨a2, h_a2⟩ : ∃ W, w2.alloc (.cells #[.int .i64 1, .int .i64 (-1)] 29) = W := ⟨_, rfl⟩
  obtain ⟨q2, hq_q2⟩ : ∃ q, w2.heap.size = q := ⟨_, rfl⟩
  rw [h_a2] at HB_a2 HK_a2 HL_a2
  rw [hq_q2] at HK_a2
  go_wp2_with fail
  refine (sdriven_none (none_nil _) s).mono ?_
  rintro e3 w3 ⟨rfl, b3⟩
  have HB_w3 := hidS (HB_a2.out.trans (b3.mono HB_a2.out.size))
  have HBB3 := hidS b3
  clear b3
  have HB_a3 := hidS ((HB_w3.out).trans ((bal w3 (.cells #[.int .i64 1, .int .i64 (-1)] 29)).mono (HB_w3.out).size))
  have HL_a3 := hidS (bal w3 (.cells #[.int .i64 1, .int .i64 (-1)] 29))
  have HK_a3 : Hid (Fk (w3.alloc (.cells #[.int .i64 1, .int .i64 (-1)] 29)) w3.heap.size) := fk_new w3
  obtain ⟨a3, h_a3⟩ : ∃ W, w3.alloc (.cells #[.int .i64 1, .int .i64 (-1)] 29) = W := ⟨_, rfl⟩
  obtain ⟨q3, hq_q3⟩ : ∃ q, w3.heap.size = q := ⟨_, rfl⟩
  rw [h_a3] at HB_a3 HK_a3 HL_a3
  rw [hq_q3] at HK_a3
  have HB_z4 := hidS ((HB_a3.out).trans ((bal a3 (.cells #[.slice none 0 0, .slice none 0 0, .map none, .slice none 0 0, .map none, .slice none 0 0, .map none] 75)).mono (HB_a3.out).size))
  have HL_z4 := hidS (bal a3 (.cells #[.slice none 0 0, .slice none 0 0, .map none, .slice none 0 0, .map none, .slice none 0 0, .map none] 75))
  have HK_z4 : Hid (NoNet (.pointer (some ⟨a3.heap.size, 0, none⟩)) (a3.alloc (.cells #[.slice none 0 0, .slice none 0 0, .map none, .slice none 0 0, .map none, .slice none 0 0, .map none] 75))) := none_box a3
  obtain ⟨z4, h_z4⟩ : ∃ W, a3.alloc (.cells #[.slice none 0 0, .slice none 0 0, .map none, .slice none 0 0, .map none, .slice none 0 0, .map none] 75) = W := ⟨_, rfl⟩
  obtain ⟨p4, hq_p4⟩ : ∃ q, a3.heap.size = q := ⟨_, rfl⟩
  rw [h_z4] at HB_z4 HK_z4 HL_z4
  rw [hq_p4] at HK_z4
  go_wp2_with fail
  refine (sdriven_none HK_z4.out s).mono ?_
  rintro e4 w4 ⟨rfl, b4⟩
  have HB_w4 := hidS (HB_z4.out.trans (b4.mono HB_z4.out.size))
  have HBB4 := hidS b4
  clear b4
  have HB_a4 := hidS ((HB_w4.out).trans ((bal w4 (.cells #[.int .i64 1, .int .i64 (-1)] 29)).mono (HB_w4.out).size))
  have HL_a4 := hidS (bal w4 (.cells #[.int .i64 1, .int .i64 (-1)] 29))
  have HK_a4 : Hid (Fk (w4.alloc (.cells #[.int .i64 1, .int .i64 (-1)] 29)) w4.heap.size) := fk_new w4
  obtain ⟨a4, h_a4⟩ : ∃ W, w4.alloc (.cells #[.int .i64 1, .int .i64 (-1)] 29) = W := ⟨_, rfl⟩
  obtain ⟨q4, hq_q4⟩ : ∃ q, w4.heap.size = q := ⟨_, rfl⟩
  rw [h_a4] at HB_a4 HK_a4 HL_a4
  rw [hq_q4] at HK_a4
  go_wp2_with fail
  refine (awake19 _).mono ?_
  rintro e9 w9 ⟨rfl, b9⟩
  have HB9 := hidS (HB_a4.out.trans (b9.mono HB_a4.out.size))
  have HBB9 := hidS b9
  clear b9
  obtain ⟨x0, y0, u0, v0⟩ := tw_c (((((((((((HK_a0.out.on HBB1.out).on HL_a1.out).on HL_z2.out).on HBB2.out).on HL_a2.out).on HBB3.out).on HL_a3.out).on HL_z4.out).on HBB4.out).on HL_a4.out).on HBB9.out)
  obtain ⟨x1, y1, u1, v1⟩ := tw_c (((((((((HK_a1.out.on HL_z2.out).on HBB2.out).on HL_a2.out).on HBB3.out).on HL_a3.out).on HL_z4.out).on HBB4.out).on HL_a4.out).on HBB9.out)
  obtain ⟨x2, y2, u2, v2⟩ := tw_c ((((((HK_a2.out.on HBB3.out).on HL_a3.out).on HL_z4.out).on HBB4.out).on HL_a4.out).on HBB9.out)
  obtain ⟨x3, y3, u3, v3⟩ := tw_c ((((HK_a3.out.on HL_z4.out).on HBB4.out).on HL_a4.out).on HBB9.out)
  obtain ⟨x4, y4, u4, v4⟩ := tw_c (HK_a4.out.on HBB9.out)
  clear h_a0 h_a1 h_z2 h_a2 h_a3 h_z4 h_a4
  go_wp2_with fail
  go_ret
  exact ⟨rfl, HB9.out⟩
end Go.Proofs.Ytpjpamdocfdibaa
