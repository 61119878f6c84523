/-
  Elements: Same, Element.
-/
import Derived.Test.YtcakfclfggnmbaaElh
import Derived.Deep.QuietTactic
import Derived.Deep.RegionHeldLaw
namespace Go.Proofs.Ytcakfclfggnmbaa
open Fl RowKit
set_option linter.unusedVariables false

@[go_sem] theorem run_store_flt {P : Program} (w : World) (a : Addr) (m : Mode) (k : FloatKind) (b : Nat) : (store a (.float k b) m).run P w = stored P w a (.float k b) m := run_store P w a _ m rfl
theorem order_00 : FloatKind.f64.format.order 0 0 = some .eq := order_num nan_zero
theorem below_2 (w : World) (o1 o2 : Obj) : Below w.heap.size w ((w.alloc o1).alloc o2) := ((Below.refl _ _).alloc (Nat.le_refl _) _).alloc (by simp) _
@[go_sem] theorem run_eq00 (w : World) : Sem.run Try.prog (Op.equalIn 9999 54 (.float .f64 0) (.float .f64 0)) w = .ok true w := by kernel_rfl
/-- are two elements the same? -/
def seF (x y : Elm) : Bool := (x.k == y.k) && (x.n.toList == y.n.toList) && (x.a.toList == y.a.toList) && (x.b.toList == y.b.toList) && (x.c.toList == y.c.toList) && (x.d.toList == y.d.toList) && smB x.v y.v && (x.ph == y.ph)
theorem cells_8 {W : World} {p : Nat} {a b c d e f g h : Value} {t : TypeId} (hb : W.heap[p]? = some (.cells #[a, b, c, d, e, f, g, h] t (0, 0))) : W.cell? ⟨p, 0, none⟩ = some a ∧ W.cell? ⟨p, 1, none⟩ = some b ∧ W.cell? ⟨p, 2, none⟩ = some c ∧ W.cell? ⟨p, 3, none⟩ = some d ∧ W.cell? ⟨p, 4, none⟩ = some e ∧ W.cell? ⟨p, 5, none⟩ = some f ∧ W.cell? ⟨p, 6, none⟩ = some g ∧ W.cell? ⟨p, 7, none⟩ = some h := by
  refine ⟨?_, ?_, ?_, ?_, ?_, ?_, ?_, ?_⟩ <;> rw [cell_of_row W p _ _ _ (0, 0) hb] <;> rfl
/-- eight cells written -/
def set8 (w : World) (p : Nat) (a b c d e f g h : Value) : World := (((((((w.setCell ⟨p, 0, none⟩ a).setCell ⟨p, 1, none⟩ b).setCell ⟨p, 2, none⟩ c).setCell ⟨p, 3, none⟩ d).setCell ⟨p, 4, none⟩ e).setCell ⟨p, 5, none⟩ f).setCell ⟨p, 6, none⟩ g).setCell ⟨p, 7, none⟩ h
theorem set8_blk {w : World} {p : Nat} {a b c d e f g h : Value} {t : TypeId} (hb : w.heap[p]? = some (.cells #[a, b, c, d, e, f, g, h] t (0, 0))) (a' b' c' d' e' f' g' h' : Value) : (set8 w p a' b' c' d' e' f' g' h').heap[p]? = some (.cells #[a', b', c', d', e', f', g', h'] t (0, 0)) := by
  have h0 : (w.setCell ⟨p, 0, none⟩ a').heap[p]? = some (.cells #[a', b, c, d, e, f, g, h] t (0, 0)) := heap_setCell_same _ p 0 _ t a' hb
  have h1 : ((w.setCell ⟨p, 0, none⟩ a').setCell ⟨p, 1, none⟩ b').heap[p]? = some (.cells #[a', b', c, d, e, f, g, h] t (0, 0)) := heap_setCell_same _ p 1 _ t b' h0
  have h2 : (((w.setCell ⟨p, 0, none⟩ a').setCell ⟨p, 1, none⟩ b').setCell ⟨p, 2, none⟩ c').heap[p]? = some (.cells #[a', b', c', d, e, f, g, h] t (0, 0)) := heap_setCell_same _ p 2 _ t c' h1
  have h3 : ((((w.setCell ⟨p, 0, none⟩ a').setCell ⟨p, 1, none⟩ b').setCell ⟨p, 2, none⟩ c').setCell ⟨p, 3, none⟩ d').heap[p]? = some (.cells #[a', b', c', d', e, f, g, h] t (0, 0)) := heap_setCell_same _ p 3 _ t d' h2
  have h4 : (((((w.setCell ⟨p, 0, none⟩ a').setCell ⟨p, 1, none⟩ b').setCell ⟨p, 2, none⟩ c').setCell ⟨p, 3, none⟩ d').setCell ⟨p, 4, none⟩ e').heap[p]? = some (.cells #[a', b', c', d', e', f, g, h] t (0, 0)) := heap_setCell_same _ p 4 _ t e' h3
  have h5 : ((((((w.setCell ⟨p, 0, none⟩ a').setCell ⟨p, 1, none⟩ b').setCell ⟨p, 2, none⟩ c').setCell ⟨p, 3, none⟩ d').setCell ⟨p, 4, none⟩ e').setCell ⟨p, 5, none⟩ f').heap[p]? = some (.cells #[a', b', c', d', e', f', g, h] t (0, 0)) := heap_setCell_same _ p 5 _ t f' h4
  have h6 : (((((((w.setCell ⟨p, 0, none⟩ a').setCell ⟨p, 1, none⟩ b').setCell ⟨p, 2, none⟩ c').setCell ⟨p, 3, none⟩ d').setCell ⟨p, 4, none⟩ e').setCell ⟨p, 5, none⟩ f').setCell ⟨p, 6, none⟩ g').heap[p]? = some (.cells #[a', b', c', d', e', f', g', h] t (0, 0)) := heap_setCell_same _ p 6 _ t g' h5
  have h7 : ((((((((w.setCell ⟨p, 0, none⟩ a').setCell ⟨p, 1, none⟩ b').setCell ⟨p, 2, none⟩ c').setCell ⟨p, 3, none⟩ d').setCell ⟨p, 4, none⟩ e').setCell ⟨p, 5, none⟩ f').setCell ⟨p, 6, none⟩ g').setCell ⟨p, 7, none⟩ h').heap[p]? = some (.cells #[a', b', c', d', e', f', g', h'] t (0, 0)) := heap_setCell_same _ p 7 _ t h' h6
  exact h7
theorem below_set8 {n p : Nat} {w w' : World} (h : Below n w w') (hp : n ≤ p) (x0 x1 x2 x3 x4 x5 x6 x7 : Value) : Below n w (set8 w' p x0 x1 x2 x3 x4 x5 x6 x7) := by
  have h0 := h.setCell (p := ⟨p, 0, none⟩) hp x0
  have h1 := h0.setCell (p := ⟨p, 1, none⟩) hp x1
  have h2 := h1.setCell (p := ⟨p, 2, none⟩) hp x2
  have h3 := h2.setCell (p := ⟨p, 3, none⟩) hp x3
  have h4 := h3.setCell (p := ⟨p, 4, none⟩) hp x4
  have h5 := h4.setCell (p := ⟨p, 5, none⟩) hp x5
  have h6 := h5.setCell (p := ⟨p, 6, none⟩) hp x6
  exact h6.setCell (p := ⟨p, 7, none⟩) hp x7
set_option maxRecDepth 100000 in
set_option maxHeartbeats 4000000 in
theorem element_any (x : Elm) (w : World) :
    Calls Try.prog 52 #[.agg #[.int .u8 (x.k : Int), .string x.n, .string x.a, .string x.b, .string x.c, .string x.d, .int .u64 (x.v : Int), .int .i64 x.ph]] w fun e w' => e = .returned (elV x) ∧ Below w.heap.size w w' := by
  obtain ⟨W, hW⟩ : ∃ W, W = (w.alloc (.cells #[.int .u8 (x.k : Int), .string x.n, .string x.a, .string x.b, .string x.c, .string x.d, .int .u64 (x.v : Int), .int .i64 x.ph] 97)).alloc (.cells #[.int .u8 0, .string ⟨#[]⟩, .string ⟨#[]⟩, .string ⟨#[]⟩, .string ⟨#[]⟩, .string ⟨#[]⟩, .float .f64 0, .int .i64 0] 56) := ⟨_, rfl⟩
  have B : Below w.heap.size w W := by rw [hW]; exact below_2 _ _ _
  have b0 : W.heap[w.heap.size]? = some (.cells #[.int .u8 (x.k : Int), .string x.n, .string x.a, .string x.b, .string x.c, .string x.d, .int .u64 (x.v : Int), .int .i64 x.ph] 97 (0, 0)) := by
    rw [hW, ((Below.refl _ _).alloc (Nat.le_refl _) _ : Below (w.alloc _).heap.size _ _).block _ (by simp)]; exact heap_alloc_new w _
  have b1 : W.heap[w.heap.size + 1]? = some (.cells #[.int .u8 0, .string ⟨#[]⟩, .string ⟨#[]⟩, .string ⟨#[]⟩, .string ⟨#[]⟩, .string ⟨#[]⟩, .float .f64 0, .int .i64 0] 56 (0, 0)) := by
    rw [hW]; have := heap_alloc_new (w.alloc (.cells #[.int .u8 (x.k : Int), .string x.n, .string x.a, .string x.b, .string x.c, .string x.d, .int .u64 (x.v : Int), .int .i64 x.ph] 97)) (.cells #[.int .u8 0, .string ⟨#[]⟩, .string ⟨#[]⟩, .string ⟨#[]⟩, .string ⟨#[]⟩, .string ⟨#[]⟩, .float .f64 0, .int .i64 0] 56); rwa [al_size] at this
  obtain ⟨c0, c1, c2, c3, c4, c5, c6, c7⟩ := cells_8 b0
  obtain ⟨d0, d1, d2, d3, d4, d5, d6, d7⟩ := cells_8 b1
  have fz : ∀ j, W.frozen? ⟨w.heap.size + 1, j, none⟩ = false := fun j => frozen_of_row W _ j _ _ b1
  have f0 := fz 0
  have f1 := fz 1
  have f2 := fz 2
  have f3 := fz 3
  have f4 := fz 4
  have f5 := fz 5
  have f6 := fz 6
  have f7 := fz 7
  clear fz
  have HW : Hid (W.heap[w.heap.size + 1]? = some (.cells #[.int .u8 0, .string ⟨#[]⟩, .string ⟨#[]⟩, .string ⟨#[]⟩, .string ⟨#[]⟩, .string ⟨#[]⟩, .float .f64 0, .int .i64 0] 56 (0, 0))) := b1
  have HB : Hid (Below w.heap.size w W) := B
  clear b1 B b0
  go_enter Try.func52, Try.ntmps52
  go_wp2_with fail
  rw [← hW]
  clear hW
  go_region_held_law (fun V => V.cell? ⟨w.heap.size, 0, none⟩ = some (.int .u8 (x.k : Int)) ∧ V.cell? ⟨w.heap.size, 1, none⟩ = some (.string x.n) ∧ V.cell? ⟨w.heap.size, 2, none⟩ = some (.string x.a) ∧ V.cell? ⟨w.heap.size, 3, none⟩ = some (.string x.b) ∧ V.cell? ⟨w.heap.size, 4, none⟩ = some (.string x.c) ∧ V.cell? ⟨w.heap.size, 5, none⟩ = some (.string x.d) ∧ V.cell? ⟨w.heap.size, 6, none⟩ = some (.int .u64 (x.v : Int)) ∧ V.cell? ⟨w.heap.size, 7, none⟩ = some (.int .i64 x.ph))
    (first | with_reducible exact ⟨c0, c1, c2, c3, c4, c5, c6, c7⟩ | go_keep)
    (first | fail)
  go_wp2_with fail
  rename_i hHeld
  clear hHeld
  have Z := cells_8 (set8_blk HW.out (.int .u8 (x.k : Int)) (.string x.n) (.string x.a) (.string x.b) (.string x.c) (.string x.d) (.float .f64 x.v) (.int .i64 x.ph))
  unfold set8 at Z
  obtain ⟨z0, z1, z2, z3, z4, z5, z6, z7⟩ := Z
  refine bodyPost_ret (by simp [results, Try.results52, go_sem, z0, z1, z2, z3, z4, z5, z6, z7]; try rfl) rfl ?_
  exact ⟨rfl, (below_set8 HB.out (by omega) _ _ _ _ _ _ _ _).drew⟩
end Go.Proofs.Ytcakfclfggnmbaa
