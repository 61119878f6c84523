/-
  The program's Matrix of no net.
-/
import Derived.Test.YtmhplaanpbpndaaSty
import Derived.Test.YtmhplaanpbpndaaStn
namespace Go.Proofs.Ytmhplaanpbpndaa
open Fl Go.Maps RowKit Joins Deep
set_option linter.unusedVariables false
set_option maxRecDepth 20000

theorem smatrix_none {w : World} {v : Value} (h : NoNet v w) (o : Nat) : Calls Try.prog 8 #[v, .float .f64 o] w fun e w' => e = .returned (.tuple #[.agg #[.int .i64 0, .int .i64 0, .slice none 0 0], .agg #[.int .i64 1, .int .i64 (-1)]]) ∧ Below w.heap.size w w' := by
  have HW := hidS (fun W (hb : Below w.heap.size w W) => srefused_none (h.below hb) o)
  have HB := hidS (((bal w (.cells #[.int .i64 0, .int .i64 0, .slice none 0 0] 39)).alloc (bal w _).size (.cells #[.int .i64 0, .int .i64 0] 29)))
  have HB2 := hidS (((bal w (.cells #[.int .i64 0, .int .i64 0, .slice none 0 0] 39)).alloc (bal w _).size (.cells #[.int .i64 1, .int .i64 (-1)] 29)))
  clear h
  go_enter Try.func8, Try.ntmps8
  go_wp2_with (go_at_call 25; (with_reducible refine (HW.out _ HB.out).mono ?_); rintro e v ⟨rfl, hv⟩; subst v)
  (try simp only [Exit.inBlock, Exit.then])
  refine bodyPost_ret (by simp [results, Try.results8, go_sem]; try rfl) rfl ?_
  exact ⟨rfl, HB2.out⟩
end Go.Proofs.Ytmhplaanpbpndaa
