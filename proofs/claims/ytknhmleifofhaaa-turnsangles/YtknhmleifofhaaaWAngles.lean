/-
  The walk of TurnsAngles: it hands back true and only lays new memory.
-/
import Derived.Test.YtknhmleifofhaaaTy
import Derived.Test.YtknhmleifofhaaaTk
import Derived.Deep.RegionWith
namespace Go.Proofs.Ytknhmleifofhaaa
open Fl RowKit

theorem ksameR_true {A : Option Nat} {a b : Nat} (w : World) (h1 : rep A a) (h2 : rep A b) : Calls Try.prog 31 #[.float .f64 a, .float .f64 b] w fun e w' => e = .returned (.bool true) ∧ w' = w := by
  have h := ksameR_any a b w
  rw [smB_of h1 h2] at h
  exact h

set_option maxHeartbeats 2000000 in
theorem angles_walk (x y : Nat) (w : World) (hx : x < 18446744073709551616) (hy : y < 18446744073709551616) :
    Calls Try.prog 5 #[.agg #[.int .u64 (x : Int), .int .u64 (y : Int)]] w fun e w' => e = .returned (.bool true) ∧ Below w.heap.size w w' := by
  go_enter Try.func5, Try.ntmps5
  go_wp2_with (first
    | (go_at_call 9; refine (number_any _ _ _).mono ?_; rintro e w' ⟨rfl, rfl⟩)
    | (go_at_call 29; refine (angle_any _ hx hy).mono ?_; rintro e w' ⟨v, n, rfl, hv, rfl⟩)
    | (go_at_call 30; refine (rangle_any _ hx hy).mono ?_; rintro e w' ⟨v', n', rfl, hv', rfl⟩)
    | (go_at_call 31; refine (ksameR_true _ hv hv').mono ?_; rintro e w' ⟨rfl, rfl⟩))
  go_ret
  refine ⟨rfl, ?_⟩
  repeat first
    | exact below_self _
    | refine below_drewN ?_ _
    | refine Below.drew ?_
    | refine Below.alloc ?_ (by simp <;> omega) _

end Go.Proofs.Ytknhmleifofhaaa
