/-
  Kept of Pnc.
-/
import Derived.Test.YtmpkcioeodlbcaaGreatDoorRows
import Derived.WalkKit
import Derived.ProofKit
import Derived.JoinedOf
namespace Go.Proofs.YtmpkcioeodlbcaaGreatDoor
open Go.ChangeShapes Go.WideShapes
set_option maxHeartbeats 40000000 in
theorem pn_closed : joinedFacts Tryz.pinned.checked.prog 5 Tryz.f5 Rows.phasorNilSpec Rows.phasorNilRow = true := by
  unfold joinedFacts
  simp only [Bool.and_eq_true]
  repeat' refine And.intro ?_ ?_
  all_goals (as_aux_lemma => kernel_rfl)
end Go.Proofs.YtmpkcioeodlbcaaGreatDoor
