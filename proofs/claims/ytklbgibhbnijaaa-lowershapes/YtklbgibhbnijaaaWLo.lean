/-
  The walks of LowerOf and LowerShapes.
-/
import Derived.Test.YtklbgibhbnijaaaLtf
namespace Go.Proofs.Ytklbgibhbnijaaa
open Fl RowKit
set_option linter.unusedVariables false

set_option maxHeartbeats 1000000 in
theorem lowerOf_walk (W : World) (a : Int) (ao : Option Addr) (cap n : Nat) (xs : List Cw) (hn : xs.length = n) (hz : n * 16 ≤ 140737488351232) (hc : Rz W ao xs) (hx : okl xs) :
    Calls Try.prog 3 #[.int .i64 a, .slice ao n cap] W fun e w' => e = .returned (.bool true) ∧ Below W.heap.size W w' := by
  obtain ⟨N, hN, hSq⟩ := square_any a
  have HS := hid_o hSq
  have HX : Hid (okl (ro (N * N) (zat xs))) := ro_ok (fun k _ => hx k)
  have H4 := hid_o (le_4096 hN hN)
  have HC := hid_o hc
  clear hSq hc
  go_enter Try.func3, Try.ntmps3
  go_wp2_with (first
    | (go_at_call 9; (with_reducible refine (HS.out ao cap n xs W hn (by omega) HC.out).mono ?_); rintro e w1 ⟨A, c, rfl, hr, hb⟩; (have R1 := hid_o hr); (have B1 := hid_o hb); clear hr hb)
    | (go_at_call 8; (with_reducible refine (lawof_any (N : Int) (N : Int) (rw_src R1.out HX.out) (by have := H4.out; omega)).mono ?_); rintro e w2 ⟨rfl, hb⟩; (have B2 := hid_o (bt B1.out hb)); clear hb))
  go_ret
  exact ⟨rfl, B2.out⟩
set_option maxHeartbeats 1000000 in
theorem lowerShapes_walk (W : World) (a b : Int) (ao : Option Addr) (cap n : Nat) (xs : List Cw) (hn : xs.length = n) (hz : n * 16 ≤ 140737488351232) (hc : Rz W ao xs) (hx : okl xs) :
    Calls Try.prog 4 #[.int .i64 a, .int .i64 b, .slice ao n cap] W fun e w' => e = .returned (.bool true) ∧ Below W.heap.size W w' := by
  have HC := hid_o hc
  have HX := hid_o hx
  clear hc hx
  go_enter Try.func4, Try.ntmps4
  go_wp2_with (first
    | (go_at_call 10; (with_reducible refine (numbersR hn (by omega) HC.out).mono ?_); rintro e w1 ⟨A, c, rfl, hr, hb⟩; (have R1 := hid_o hr); (have B1 := hid_o hb); clear hr hb)
    | (go_at_call 8; (with_reducible refine (lawof_any a b (rw_src R1.out HX.out) (by omega)).mono ?_); rintro e w2 ⟨rfl, hb⟩; (have B2 := hid_o (bt B1.out hb)); clear hb))
  go_ret
  exact ⟨rfl, B2.out⟩
end Go.Proofs.Ytklbgibhbnijaaa
