/-
  Kept of Eli.
-/
import Derived.Test.YtmpkcioeodlbcaaGreatDoorK23
import Derived.Deep.QuietTactic
import Derived.Deep.RegionHeldLaw
namespace Go.Proofs.YtmpkcioeodlbcaaGreatDoor
open Fl RowKit
set_option linter.unusedVariables false
@[go_sem] theorem run_store_flt {P : Program} (w : World) (a : Addr) (m : Mode) (k : FloatKind) (b : Nat) : (store a (.float k b) m).run P w = stored P w a (.float k b) m := run_store P w a _ m rfl
@[go_sem] theorem run_eq00 (w : World) : Sem.run Tryz.prog (Op.equalIn 9999 31 (.float .f64 0) (.float .f64 0)) w = .ok true w := by kernel_rfl
theorem cells_8 {W : World} {p : Nat} {a b c d e f g h : Value} {t : TypeId} (hb : W.heap[p]? = some (.cells #[a, b, c, d, e, f, g, h] t (0, 0))) : W.cell? ⟨p, 0, none⟩ = some a ∧ W.cell? ⟨p, 1, none⟩ = some b ∧ W.cell? ⟨p, 2, none⟩ = some c ∧ W.cell? ⟨p, 3, none⟩ = some d ∧ W.cell? ⟨p, 4, none⟩ = some e ∧ W.cell? ⟨p, 5, none⟩ = some f ∧ W.cell? ⟨p, 6, none⟩ = some g ∧ W.cell? ⟨p, 7, none⟩ = some h := by
  refine ⟨?_, ?_, ?_, ?_, ?_, ?_, ?_, ?_⟩ <;> rw [cell_of_row W p _ _ _ (0, 0) hb] <;> rfl
/-- eight cells written -/
def set8 (w : World) (p : Nat) (a b c d e f g h : Value) : World := (((((((w.setCell ⟨p, 0, none⟩ a).setCell ⟨p, 1, none⟩ b).setCell ⟨p, 2, none⟩ c).setCell ⟨p, 3, none⟩ d).setCell ⟨p, 4, none⟩ e).setCell ⟨p, 5, none⟩ f).setCell ⟨p, 6, none⟩ g).setCell ⟨p, 7, none⟩ h
theorem below_set8 {n p : Nat} {w w' : World} (h : Below n w w') (hp : n ≤ p) (x0 x1 x2 x3 x4 x5 x6 x7 : Value) : Below n w (set8 w' p x0 x1 x2 x3 x4 x5 x6 x7) := by
  have h0 := h.setCell (p := ⟨p, 0, none⟩) hp x0
  have h1 := h0.setCell (p := ⟨p, 1, none⟩) hp x1
  have h2 := h1.setCell (p := ⟨p, 2, none⟩) hp x2
  have h3 := h2.setCell (p := ⟨p, 3, none⟩) hp x3
  have h4 := h3.setCell (p := ⟨p, 4, none⟩) hp x4
  have h5 := h4.setCell (p := ⟨p, 5, none⟩) hp x5
  have h6 := h5.setCell (p := ⟨p, 6, none⟩) hp x6
  exact h6.setCell (p := ⟨p, 7, none⟩) hp x7
end Go.Proofs.YtmpkcioeodlbcaaGreatDoor
