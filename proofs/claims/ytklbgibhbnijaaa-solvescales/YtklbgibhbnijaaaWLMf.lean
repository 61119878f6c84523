/-
  The walk of LowerMirror, where both are refused.
-/
import Derived.Test.YtklbgibhbnijaaaLmd
namespace Go.Proofs.Ytklbgibhbnijaaa
open Fl RowKit

theorem sqT {a : Int} {N T : Nat} (hT : T = N * N) (h : ∀ (ao : Option Addr) (cap n : Nat) (xs : List Cw) (w : World), xs.length = n → n * 16 ≤ 140737488355328 → Rz w ao xs →
    Calls Try.prog 9 #[.int .i64 a, .slice ao n cap] w fun e w' => ∃ A c, e = .returned (.agg #[.int .i64 N, .int .i64 N, .slice A (N * N) c]) ∧ Rw w' w.heap.size (.slice A (N * N) c) (N * N) (ro (N * N) (zat xs)) ∧ Below w.heap.size w w') :
    ∀ (ao : Option Addr) (cap n : Nat) (xs : List Cw) (w : World), xs.length = n → n * 16 ≤ 140737488355328 → Rz w ao xs →
    Calls Try.prog 9 #[.int .i64 a, .slice ao n cap] w fun e w' => ∃ A c, e = .returned (.agg #[.int .i64 N, .int .i64 N, .slice A T c]) ∧ T ≤ c ∧ Rc w' A (ro T (zat xs)) ∧ Below w.heap.size w w' := by
  subst hT
  intro ao cap n xs w h1 h2 h3
  refine (h ao cap n xs w h1 h2 h3).mono ?_
  rintro e w' ⟨A, c, rfl, hR, hb⟩
  exact ⟨A, c, rfl, rw_cap hR, rw_rc hR, hb⟩
theorem failsT {N T : Nat} {f : Nat → Cw} {E a : Int} (hT : T = N * N) (h : OfFails N f E a) : ∀ (W : World) (A : Option Addr) (c : Nat), T ≤ c → Rc W A (ro T f) → Calls Try.prog 14 #[.agg #[.int .i64 N, .int .i64 N, .slice A T c]] W fun e w' => e = .returned (.tuple #[.pointer none, .agg #[.int .i64 E, .int .i64 a]]) ∧ Below W.heap.size W w' := by
  subst hT
  exact h
end Go.Proofs.Ytklbgibhbnijaaa
