/-
  Elements: Element, with the world that it leaves.
-/
import Derived.Test.YtmhplaanpbpndaaBse
namespace Go.Proofs.Ytmhplaanpbpndaa
open Fl RowKit
set_option linter.unusedVariables false

theorem set8_new (w : World) (t : TypeId) (a b c d e f g h a' b' c' d' e' f' g' h' : Value) :
    set8 (w.alloc (.cells #[a, b, c, d, e, f, g, h] t)) w.heap.size a' b' c' d' e' f' g' h' = w.alloc (.cells #[a', b', c', d', e', f', g', h'] t) := by
  unfold set8
  simp [go_sem]
set_option maxRecDepth 100000 in
set_option maxHeartbeats 4000000 in
theorem element_eq (x : Elm) (w : World) :
    Calls Try.prog 16 #[.agg #[.int .u8 (x.k : Int), .string x.n, .string x.a, .string x.b, .string x.c, .string x.d, .int .u64 (x.v : Int), .int .i64 x.ph]] w fun e w' => e = .returned (elV x) ∧ w' = ((w.alloc (.cells #[.int .u8 (x.k : Int), .string x.n, .string x.a, .string x.b, .string x.c, .string x.d, .int .u64 (x.v : Int), .int .i64 x.ph] 58)).alloc (.cells #[.int .u8 (x.k : Int), .string x.n, .string x.a, .string x.b, .string x.c, .string x.d, .float .f64 x.v, .int .i64 x.ph] 55)).drew := by
  obtain ⟨W, hW⟩ : ∃ W, W = (w.alloc (.cells #[.int .u8 (x.k : Int), .string x.n, .string x.a, .string x.b, .string x.c, .string x.d, .int .u64 (x.v : Int), .int .i64 x.ph] 58)).alloc (.cells #[.int .u8 0, .string ⟨#[]⟩, .string ⟨#[]⟩, .string ⟨#[]⟩, .string ⟨#[]⟩, .string ⟨#[]⟩, .float .f64 0, .int .i64 0] 55) := ⟨_, rfl⟩
  have B : Below w.heap.size w W := by rw [hW]; exact below_2 _ _ _
  have b0 : W.heap[w.heap.size]? = some (.cells #[.int .u8 (x.k : Int), .string x.n, .string x.a, .string x.b, .string x.c, .string x.d, .int .u64 (x.v : Int), .int .i64 x.ph] 58 (0, 0)) := by
    rw [hW, ((Below.refl _ _).alloc (Nat.le_refl _) _ : Below (w.alloc _).heap.size _ _).block _ (by simp)]; exact heap_alloc_new w _
  have b1 : W.heap[w.heap.size + 1]? = some (.cells #[.int .u8 0, .string ⟨#[]⟩, .string ⟨#[]⟩, .string ⟨#[]⟩, .string ⟨#[]⟩, .string ⟨#[]⟩, .float .f64 0, .int .i64 0] 55 (0, 0)) := by
    rw [hW]; have := heap_alloc_new (w.alloc (.cells #[.int .u8 (x.k : Int), .string x.n, .string x.a, .string x.b, .string x.c, .string x.d, .int .u64 (x.v : Int), .int .i64 x.ph] 58)) (.cells #[.int .u8 0, .string ⟨#[]⟩, .string ⟨#[]⟩, .string ⟨#[]⟩, .string ⟨#[]⟩, .string ⟨#[]⟩, .float .f64 0, .int .i64 0] 55); rwa [al_size] at this
  obtain ⟨c0, c1, c2, c3, c4, c5, c6, c7⟩ := cells_8 b0
  obtain ⟨d0, d1, d2, d3, d4, d5, d6, d7⟩ := cells_8 b1
  have fz : ∀ j, W.frozen? ⟨w.heap.size + 1, j, none⟩ = false := fun j => frozen_of_row W _ j _ _ b1
  have f0 := fz 0
  have f1 := fz 1
  have f2 := fz 2
  have f3 := fz 3
  have f4 := fz 4
  have f5 := fz 5
  have f6 := fz 6
  have f7 := fz 7
  clear fz
  have HW : Hid (W.heap[w.heap.size + 1]? = some (.cells #[.int .u8 0, .string ⟨#[]⟩, .string ⟨#[]⟩, .string ⟨#[]⟩, .string ⟨#[]⟩, .string ⟨#[]⟩, .float .f64 0, .int .i64 0] 55 (0, 0))) := b1
  have HE : Hid (W = (w.alloc (.cells #[.int .u8 (x.k : Int), .string x.n, .string x.a, .string x.b, .string x.c, .string x.d, .int .u64 (x.v : Int), .int .i64 x.ph] 58)).alloc (.cells #[.int .u8 0, .string ⟨#[]⟩, .string ⟨#[]⟩, .string ⟨#[]⟩, .string ⟨#[]⟩, .string ⟨#[]⟩, .float .f64 0, .int .i64 0] 55)) := hW
  clear b1 B b0
  go_enter Try.func16, Try.ntmps16
  go_wp2_with fail
  rw [← hW]
  clear hW
  go_region_held_law (fun V => V.cell? ⟨w.heap.size, 0, none⟩ = some (.int .u8 (x.k : Int)) ∧ V.cell? ⟨w.heap.size, 1, none⟩ = some (.string x.n) ∧ V.cell? ⟨w.heap.size, 2, none⟩ = some (.string x.a) ∧ V.cell? ⟨w.heap.size, 3, none⟩ = some (.string x.b) ∧ V.cell? ⟨w.heap.size, 4, none⟩ = some (.string x.c) ∧ V.cell? ⟨w.heap.size, 5, none⟩ = some (.string x.d) ∧ V.cell? ⟨w.heap.size, 6, none⟩ = some (.int .u64 (x.v : Int)) ∧ V.cell? ⟨w.heap.size, 7, none⟩ = some (.int .i64 x.ph))
    (first | with_reducible exact ⟨c0, c1, c2, c3, c4, c5, c6, c7⟩ | go_keep)
    (first | fail)
  go_wp2_with fail
  rename_i hHeld
  clear hHeld
  have Z := cells_8 (set8_blk HW.out (.int .u8 (x.k : Int)) (.string x.n) (.string x.a) (.string x.b) (.string x.c) (.string x.d) (.float .f64 x.v) (.int .i64 x.ph))
  unfold set8 at Z
  obtain ⟨z0, z1, z2, z3, z4, z5, z6, z7⟩ := Z
  refine bodyPost_ret (by simp [results, Try.results16, go_sem, z0, z1, z2, z3, z4, z5, z6, z7]; try rfl) rfl ?_
  refine ⟨rfl, ?_⟩
  have hS := set8_new (w.alloc (.cells #[.int .u8 (x.k : Int), .string x.n, .string x.a, .string x.b, .string x.c, .string x.d, .int .u64 (x.v : Int), .int .i64 x.ph] 58)) 55 (.int .u8 0) (.string ⟨#[]⟩) (.string ⟨#[]⟩) (.string ⟨#[]⟩) (.string ⟨#[]⟩) (.string ⟨#[]⟩) (.float .f64 0) (.int .i64 0) (.int .u8 (x.k : Int)) (.string x.n) (.string x.a) (.string x.b) (.string x.c) (.string x.d) (.float .f64 x.v) (.int .i64 x.ph)
  rw [al_size] at hS
  rw [HE.out, ← hS]
  rfl
end Go.Proofs.Ytmhplaanpbpndaa
