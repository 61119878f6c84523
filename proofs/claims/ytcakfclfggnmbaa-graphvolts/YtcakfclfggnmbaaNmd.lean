/-
  A new row of names of package netlist.
-/
import Derived.Test.YtcakfclfggnmbaaNmc
namespace Go.Proofs.Ytcakfclfggnmbaa
open Go.Maps Go.RowKit
set_option maxRecDepth 100000

theorem newRow_any (w : World) : Calls Try.prog 47 #[] w fun e w' => ∃ B, e = .returned (.agg #[.slice none 0 0, .map (some B)]) ∧ Mp w' B [] ∧ Below w.heap.size w w' ∧ w.heap.size ≤ B ∧ B < w'.heap.size := by
  have hmm := @run_makeMap Try.prog
  go_enter Try.func47, Try.ntmps47
  go_wp2_with fail
  (try simp only [Exit.inBlock, Exit.then])
  refine bodyPost_ret (by simp [results, Try.results47, go_sem]; try rfl) rfl ?_
  have h := World.ownsMap_made (H := Unit) (w.alloc (.cells #[.slice none 0 0, .map (some (w.heap.size + 1))] 85)) Try.prog 9 (plainElem Try.prog 3)
  rw [show (w.alloc (.cells #[.slice none 0 0, .map (some (w.heap.size + 1))] 85)).heap.size = w.heap.size + 1 by simp] at h
  exact ⟨w.heap.size + 1, rfl, ⟨_, h, MdOk.empty⟩, ((Below.refl _ w).alloc (Nat.le_refl _) _).alloc (by simp) _, by omega, by simp⟩

end Go.Proofs.Ytcakfclfggnmbaa
