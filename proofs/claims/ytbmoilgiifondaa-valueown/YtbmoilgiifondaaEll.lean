/-
  Elements: the examples that the statements ask first (awake).
-/
import Derived.Test.YtbmoilgiifondaaEli
namespace Go.Proofs.Ytbmoilgiifondaa
open Fl RowKit
set_option linter.unusedVariables false

def naJ (x : Elm) : Bool := naF x
def spJ (x : Elm) : Bool := (fou x.k || (x.c.data.toList.isEmpty && x.d.data.toList.isEmpty)) && (phs x.k || x.ph == 0)
def chkJ (x : Elm) : Int := if ltr x.k = 0 then 2 else if naF x = false then 8 else if (x.a.data.toList == x.b.data.toList) = true ∨ spJ x = false then 2 else if 2 < kdB x.v then 5 else if abv x.k = true ∧ posV x.v = false then 2 else 0
theorem chkI_J (x : Elm) : chkI x = chkJ x := by
  unfold chkI chkJ spF spJ
  simp only [ByteArray.toList_eq]
theorem check_lit (x : Elm) (r : Int) (w : World) (h : x.ok) (hc : chkJ x = r) : Calls Try.prog 19 #[elV x] w fun e w' => e = .returned (.int .i64 r) ∧ Below w.heap.size w w' := by
  have := check_any x w h
  rw [chkI_J, hc] at this
  exact this
theorem ok_lit {k v : Nat} {n a b c d : ByteArray} {ph : Int} (hk : k < 256) (hn : n.size ≤ 100) (ha : a.size ≤ 100) (hb : b.size ≤ 100) (hc : c.size ≤ 100) (hd : d.size ≤ 100) (hv : v < 18446744073709551616) : (Elm.mk k n a b c d v ph).ok :=
  ⟨hk, Nat.le_trans hn (by omega), Nat.le_trans ha (by omega), Nat.le_trans hb (by omega), Nat.le_trans hc (by omega), Nat.le_trans hd (by omega), hv⟩
theorem cs_lit (w : World) : Calls Try.prog 28 #[.float .f64 0, .float .f64 13830554455654793216] w fun e w' => e = .returned (.float .f64 9223372036854775808) ∧ w' = w := by
  have h1 : bits BinOp.andNot IntKind.u64 0 9223372036854775808 = 0 := by decide
  have h2 : bits BinOp.and IntKind.u64 13830554455654793216 9223372036854775808 = 9223372036854775808 := by decide
  have h3 : bits BinOp.or IntKind.u64 0 9223372036854775808 = 9223372036854775808 := by decide
  go_enter Try.func28, Try.ntmps28
  go_wp2_with fail
  go_ret
  exact ⟨rfl, rfl⟩
theorem ohm_any (a b : ByteArray) (v : Nat) (w : World) : Calls Try.prog 26 #[.string a, .string b, .float .f64 v] w fun e w' => e = .returned (.agg #[.int .u8 1, .string ⟨#[82, 49]⟩, .string a, .string b, .string ⟨#[]⟩, .string ⟨#[]⟩, .float .f64 v, .int .i64 0]) ∧ w' = w.alloc (.cells #[.int .u8 1, .string ⟨#[82, 49]⟩, .string a, .string b, .string ⟨#[]⟩, .string ⟨#[]⟩, .float .f64 v, .int .i64 0] 35) := by
  go_enter Try.func26, Try.ntmps26
  go_wp2_with fail
  refine bodyPost_ret (by simp [results, Try.results26, go_sem]; try rfl) rfl ?_
  exact ⟨rfl, rfl⟩
theorem ck_a (w : World) : Calls Try.prog 19 #[.agg #[.int .u8 1, .string ⟨#[82, 49]⟩, .string ⟨#[49]⟩, .string ⟨#[48]⟩, .string ⟨#[]⟩, .string ⟨#[]⟩, .float .f64 4631811479262199808, .int .i64 0]] w fun e w' => e = .returned (.int .i64 0) ∧ Below w.heap.size w w' :=
  check_lit ⟨1, ⟨#[82, 49]⟩, ⟨#[49]⟩, ⟨#[48]⟩, ⟨#[]⟩, ⟨#[]⟩, 4631811479262199808, 0⟩ 0 w (ok_lit (by decide) (by decide) (by decide) (by decide) (by decide) (by decide) (by decide)) (by kernel_rfl)
theorem ck_b (w : World) : Calls Try.prog 19 #[.agg #[.int .u8 1, .string ⟨#[82, 49]⟩, .string ⟨#[48]⟩, .string ⟨#[48]⟩, .string ⟨#[]⟩, .string ⟨#[]⟩, .float .f64 4631811479262199808, .int .i64 0]] w fun e w' => e = .returned (.int .i64 2) ∧ Below w.heap.size w w' :=
  check_lit ⟨1, ⟨#[82, 49]⟩, ⟨#[48]⟩, ⟨#[48]⟩, ⟨#[]⟩, ⟨#[]⟩, 4631811479262199808, 0⟩ 2 w (ok_lit (by decide) (by decide) (by decide) (by decide) (by decide) (by decide) (by decide)) (by kernel_rfl)
theorem ck_c (w : World) : Calls Try.prog 19 #[.agg #[.int .u8 1, .string ⟨#[82, 49]⟩, .string ⟨#[49]⟩, .string ⟨#[48]⟩, .string ⟨#[]⟩, .string ⟨#[]⟩, .float .f64 9223372036854775808, .int .i64 0]] w fun e w' => e = .returned (.int .i64 2) ∧ Below w.heap.size w w' :=
  check_lit ⟨1, ⟨#[82, 49]⟩, ⟨#[49]⟩, ⟨#[48]⟩, ⟨#[]⟩, ⟨#[]⟩, 9223372036854775808, 0⟩ 2 w (ok_lit (by decide) (by decide) (by decide) (by decide) (by decide) (by decide) (by decide)) (by kernel_rfl)
theorem ck_d (w : World) : Calls Try.prog 19 #[.agg #[.int .u8 5, .string ⟨#[86, 49]⟩, .string ⟨#[49]⟩, .string ⟨#[48]⟩, .string ⟨#[]⟩, .string ⟨#[]⟩, .float .f64 9223372036854775808, .int .i64 (-5)]] w fun e w' => e = .returned (.int .i64 0) ∧ Below w.heap.size w w' :=
  check_lit ⟨5, ⟨#[86, 49]⟩, ⟨#[49]⟩, ⟨#[48]⟩, ⟨#[]⟩, ⟨#[]⟩, 9223372036854775808, -5⟩ 0 w (ok_lit (by decide) (by decide) (by decide) (by decide) (by decide) (by decide) (by decide)) (by kernel_rfl)
def volt : Elm := ⟨5, ⟨#[86, 49]⟩, ⟨#[49]⟩, ⟨#[48]⟩, ⟨#[]⟩, ⟨#[]⟩, 9223372036854775808, -5⟩
theorem bwe {w a b : World} (h : Below w.heap.size w a) (h2 : Below a.heap.size a b) : Below w.heap.size w b := h.trans (h2.mono h.size)
set_option maxRecDepth 100000 in
set_option maxHeartbeats 1000000 in
theorem awake13 (w : World) : Calls Try.prog 23 #[] w fun e w' => e = .returned (.bool true) ∧ Below w.heap.size w w' := by
  have E0 : Hid (EC w (w.alloc (.cells (elA volt) 35)) w.heap.size volt) := ec_new w volt
  go_enter Try.func23, Try.ntmps23
  go_wp2_with (first
    | (go_at_call 28; (with_reducible refine (cs_lit _).mono ?_); rintro e w0 ⟨rfl, hw0⟩; subst w0)
    | (go_at_call 26; (with_reducible refine (ohm_any _ _ _ _).mono ?_); rintro e w0 ⟨rfl, hw0⟩; subst w0)
    | (go_at_call 19; (with_reducible refine (ck_a _).mono ?_); rintro e w1 ⟨rfl, hb⟩; (have E1 : Hid (EC w w1 w.heap.size volt) := (E0.out.al _).below hb); clear hb E0; (obtain ⟨l1, c10, c11, c12, c13, c14, c15, c16, c17⟩ := E1.out.f); (dsimp only [volt] at c10 c11 c12 c13 c14 c15 c16 c17))
    | (go_at_call 19; (with_reducible refine (ck_b _).mono ?_); rintro e w2 ⟨rfl, hb⟩; (have E2 : Hid (EC w w2 w.heap.size volt) := (E1.out.al _).below hb); clear hb E1 c10 c11 c12 c13 c14 c15 c16 c17; (obtain ⟨l2, c20, c21, c22, c23, c24, c25, c26, c27⟩ := E2.out.f); (dsimp only [volt] at c20 c21 c22 c23 c24 c25 c26 c27))
    | (go_at_call 19; (with_reducible refine (ck_c _).mono ?_); rintro e w3 ⟨rfl, hb⟩; (have E3 : Hid (EC w w3 w.heap.size volt) := (E2.out.al _).below hb); clear hb E2 c20 c21 c22 c23 c24 c25 c26 c27; (obtain ⟨l3, c30, c31, c32, c33, c34, c35, c36, c37⟩ := E3.out.f); (dsimp only [volt] at c30 c31 c32 c33 c34 c35 c36 c37))
    | (go_at_call 19; (with_reducible refine (ck_d _).mono ?_); rintro e w4 ⟨rfl, hb⟩; (have E4 : Hid (EC w w4 w.heap.size volt) := E3.out.below hb); clear hb E3 c30 c31 c32 c33 c34 c35 c36 c37))
  go_ret
  exact ⟨rfl, E4.out.bel⟩
end Go.Proofs.Ytbmoilgiifondaa
