/-
  What solve's home hands back.
-/
import Derived.Test.YtomllbpkjhoepaaSlo
import Derived.Test.YtomllbpkjhoepaaSld
namespace Go.Proofs.Ytomllbpkjhoepaa
open Fl RowKit

theorem run_maxf {P : Program} (x y : Nat) (hx : nan x = false) (hy : nan y = false) (ts : Array TypeId) (t : TypeId) (w : World) : (Builtin.max_ ts t #[.float .f64 (mg x), .float .f64 (mg y)]).run P w = .ok (.float .f64 (max (mg x) (mg y))) w := by
  have ho : FloatKind.f64.format.order (mg x) (mg y) = some (compare ((mg x : Nat) : Int) ((mg y : Nat) : Int)) := by
    rw [f64_double, order_eq, nan_mg, nan_mg, hx, hy, plc_mg, plc_mg]; rfl
  have e : Builtin.max_ ts t #[.float .f64 (mg x), .float .f64 (mg y)] = Builtin.max2 (.float .f64 (mg x)) (.float .f64 (mg y)) := by
    unfold Builtin.max_
    simp
  rw [e]
  unfold Builtin.max2
  simp only [ho]
  rcases Nat.lt_trichotomy (mg x) (mg y) with h | h | h
  · have c : compare ((mg x : Nat) : Int) ((mg y : Nat) : Int) = .lt := Int.compare_eq_lt.2 (by omega)
    rw [c, Nat.max_eq_right (by omega)]
    rfl
  · have c : compare ((mg x : Nat) : Int) ((mg y : Nat) : Int) = .eq := Int.compare_eq_eq.2 (by omega)
    rw [c, h, Nat.max_self]
    simp
  · have c : compare ((mg x : Nat) : Int) ((mg y : Nat) : Int) = .gt := Int.compare_eq_gt.2 (by omega)
    rw [c, Nat.max_eq_left (by omega)]
    rfl
end Go.Proofs.Ytomllbpkjhoepaa
