/-
  The walk of ValueNames.
-/
import Derived.Test.YtbmoilgiifondaaEle
namespace Go.Proofs.Ytbmoilgiifondaa
open Fl RowKit
set_option linter.unusedVariables false

theorem bwx {w a b : World} (h : Below w.heap.size w a) (h2 : Below a.heap.size a b) : Below w.heap.size w b := h.trans (h2.mono h.size)
theorem beq_self_nat (n : Nat) : ((n : Int) == (n : Int)) = true := by simp
theorem beq_self_b (b : Bool) : (b == b) = true := by simp
theorem beq_self_l (l : List UInt8) : (l == l) = true := by simp
set_option maxRecDepth 100000 in
set_option maxHeartbeats 4000000 in
theorem names_walk (w : World) (s : ByteArray) (hs : s.size ≤ 140737488351232) (k : Nat) (hk : k < 256) (c : Nat) (hc : c < 256) :
    Calls Try.prog 3 #[.string s, .int .u8 (k : Int), .int .u8 (c : Int)] w fun e w' => e = .returned (.bool true) ∧ Below w.heap.size w w' := by
  have q1 := beq_self_nat (nmK s)
  have q2 := beq_self_b (nmK s != 0)
  have q3 := beq_self_b (ndF s)
  have q4 := beq_self_nat (ofK c)
  have q5 := beq_self_b (ofK c != 0)
  have q6 := beq_self_nat (ltr k)
  have q7 := beq_self_l (unS k).toList
  go_enter Try.func3, Try.ntmps3
  go_wp2_with (first
    | (go_at_call 8; (with_reducible refine (name_any s _ hs).mono ?_); rintro e w1 ⟨rfl, hb⟩; (have H1 : Hid (Below w.heap.size w w1) := hb); clear hb)
    | (go_at_call 9; (with_reducible refine (rname_any s _ hs).mono ?_); rintro e w2 ⟨rfl, hb⟩; (have H2 : Hid (Below w.heap.size w w2) := bwx H1.out hb); clear hb)
    | (go_at_call 10; (with_reducible refine (of_any c _ hc).mono ?_); rintro e w3 ⟨rfl, hb⟩; (have H3 : Hid (Below w.heap.size w w3) := bwx H2.out hb); clear hb)
    | (go_at_call 11; (with_reducible refine (rof_any c _ hc).mono ?_); rintro e w4 ⟨rfl, hb⟩; (have H4 : Hid (Below w.heap.size w w4) := bwx H3.out hb); clear hb)
    | (go_at_call 12; (with_reducible refine (node_any s _ hs).mono ?_); rintro e w5 ⟨rfl, hb⟩; (have H5 : Hid (Below w.heap.size w w5) := bwx H4.out hb); clear hb)
    | (go_at_call 13; (with_reducible refine (rnode_any s _ hs).mono ?_); rintro e w6 ⟨rfl, rfl⟩)
    | (go_at_call 14; (with_reducible refine (letter_any k _).mono ?_); rintro e w7 ⟨rfl, hb⟩; (have H7 : Hid (Below w.heap.size w w7) := bwx H5.out hb); clear hb)
    | (go_at_call 15; (with_reducible refine (rletter_any k _ hk).mono ?_); rintro e w8 ⟨rfl, hb⟩; (have H8 : Hid (Below w.heap.size w w8) := bwx H7.out hb); clear hb)
    | (go_at_call 16; (with_reducible refine (unit_any k _).mono ?_); rintro e w9 ⟨rfl, hb⟩; (have H9 : Hid (Below w.heap.size w w9) := bwx H8.out hb); clear hb)
    | (go_at_call 17; (with_reducible refine (runit_any k _ hk).mono ?_); rintro e w10 ⟨rfl, hb⟩; (have H10 : Hid (Below w.heap.size w w10) := bwx H9.out hb); clear hb))
  go_ret
  exact ⟨rfl, H10.out⟩
end Go.Proofs.Ytbmoilgiifondaa
