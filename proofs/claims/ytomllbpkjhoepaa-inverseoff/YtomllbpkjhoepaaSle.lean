/-
  What solve's turned and unknowns hand back.
-/
import Derived.Test.YtomllbpkjhoepaaSld
namespace Go.Proofs.Ytomllbpkjhoepaa
open Fl RowKit

/-- the matrix turned -/
def trF (n : Nat) (E : Nat → Cw) (k : Nat) : Cw := E (k % n * n + k / n)
theorem mz_tr {n : Nat} {E : Nat → Cw} {i j : Nat} (hj : j < n) : mz n (trF n E) i j = mz n E j i := by
  unfold mz trF
  rw [Nat.add_comm (i * n), Nat.add_mul_div_right _ _ (by omega), Nat.div_eq_of_lt hj, Nat.add_mul_mod_self_right, Nat.mod_eq_of_lt hj, Nat.zero_add]
end Go.Proofs.Ytomllbpkjhoepaa
