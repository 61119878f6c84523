/-
  Elements: the examples that the statements ask first (awake).
-/
import Derived.Test.YtnmibhgfcepddaaEli
namespace Go.Proofs.Ytnmibhgfcepddaa
open Fl RowKit
set_option linter.unusedVariables false

def naJ (x : Elm) : Bool := naF x
def spJ (x : Elm) : Bool := (fou x.k || (x.c.data.toList.isEmpty && x.d.data.toList.isEmpty)) && (phs x.k || x.ph == 0)
def chkJ (x : Elm) : Int := if ltr x.k = 0 then 2 else if naF x = false then 8 else if (x.a.data.toList == x.b.data.toList) = true ∨ spJ x = false then 2 else if 2 < kdB x.v then 5 else if abv x.k = true ∧ posV x.v = false then 2 else 0
theorem chkI_J (x : Elm) : chkI x = chkJ x := by
  unfold chkI chkJ spF spJ
  simp only [ByteArray.toList_eq]
theorem check_lit (x : Elm) (r : Int) (w : World) (h : x.ok) (hc : chkJ x = r) : Calls Try.prog 26 #[elV x] w fun e w' => e = .returned (.int .i64 r) ∧ Below w.heap.size w w' := by
  have := check_any x w h
  rw [chkI_J, hc] at this
  exact this
theorem ok_lit {k v : Nat} {n a b c d : ByteArray} {ph : Int} (hk : k < 256) (hn : n.size ≤ 100) (ha : a.size ≤ 100) (hb : b.size ≤ 100) (hc : c.size ≤ 100) (hd : d.size ≤ 100) (hv : v < 18446744073709551616) : (Elm.mk k n a b c d v ph).ok :=
  ⟨hk, Nat.le_trans hn (by omega), Nat.le_trans ha (by omega), Nat.le_trans hb (by omega), Nat.le_trans hc (by omega), Nat.le_trans hd (by omega), hv⟩
theorem cs_lit (w : World) : Calls Try.prog 28 #[.float .f64 0, .float .f64 13830554455654793216] w fun e w' => e = .returned (.float .f64 9223372036854775808) ∧ w' = w := by
  have h1 : bits BinOp.andNot IntKind.u64 0 9223372036854775808 = 0 := by decide
  have h2 : bits BinOp.and IntKind.u64 13830554455654793216 9223372036854775808 = 9223372036854775808 := by decide
  have h3 : bits BinOp.or IntKind.u64 0 9223372036854775808 = 9223372036854775808 := by decide
  go_enter Try.func28, Try.ntmps28
  go_wp2_with fail
  go_ret
  exact ⟨rfl, rfl⟩
theorem ck_a (w : World) : Calls Try.prog 26 #[.agg #[.int .u8 1, .string ⟨#[82, 49]⟩, .string ⟨#[49]⟩, .string ⟨#[48]⟩, .string ⟨#[]⟩, .string ⟨#[]⟩, .float .f64 4631811479262199808, .int .i64 0]] w fun e w' => e = .returned (.int .i64 0) ∧ Below w.heap.size w w' :=
  check_lit ⟨1, ⟨#[82, 49]⟩, ⟨#[49]⟩, ⟨#[48]⟩, ⟨#[]⟩, ⟨#[]⟩, 4631811479262199808, 0⟩ 0 w (ok_lit (by decide) (by decide) (by decide) (by decide) (by decide) (by decide) (by decide)) (by kernel_rfl)
theorem ck_b (w : World) : Calls Try.prog 26 #[.agg #[.int .u8 1, .string ⟨#[82, 49]⟩, .string ⟨#[48]⟩, .string ⟨#[48]⟩, .string ⟨#[]⟩, .string ⟨#[]⟩, .float .f64 4631811479262199808, .int .i64 0]] w fun e w' => e = .returned (.int .i64 2) ∧ Below w.heap.size w w' :=
  check_lit ⟨1, ⟨#[82, 49]⟩, ⟨#[48]⟩, ⟨#[48]⟩, ⟨#[]⟩, ⟨#[]⟩, 4631811479262199808, 0⟩ 2 w (ok_lit (by decide) (by decide) (by decide) (by decide) (by decide) (by decide) (by decide)) (by kernel_rfl)
theorem ck_c (w : World) : Calls Try.prog 26 #[.agg #[.int .u8 1, .string ⟨#[82, 49]⟩, .string ⟨#[49]⟩, .string ⟨#[48]⟩, .string ⟨#[]⟩, .string ⟨#[]⟩, .float .f64 9223372036854775808, .int .i64 0]] w fun e w' => e = .returned (.int .i64 2) ∧ Below w.heap.size w w' :=
  check_lit ⟨1, ⟨#[82, 49]⟩, ⟨#[49]⟩, ⟨#[48]⟩, ⟨#[]⟩, ⟨#[]⟩, 9223372036854775808, 0⟩ 2 w (ok_lit (by decide) (by decide) (by decide) (by decide) (by decide) (by decide) (by decide)) (by kernel_rfl)
theorem ck_d (w : World) : Calls Try.prog 26 #[.agg #[.int .u8 5, .string ⟨#[86, 49]⟩, .string ⟨#[49]⟩, .string ⟨#[48]⟩, .string ⟨#[]⟩, .string ⟨#[]⟩, .float .f64 9223372036854775808, .int .i64 (-5)]] w fun e w' => e = .returned (.int .i64 0) ∧ Below w.heap.size w w' :=
  check_lit ⟨5, ⟨#[86, 49]⟩, ⟨#[49]⟩, ⟨#[48]⟩, ⟨#[]⟩, ⟨#[]⟩, 9223372036854775808, -5⟩ 0 w (ok_lit (by decide) (by decide) (by decide) (by decide) (by decide) (by decide) (by decide)) (by kernel_rfl)
def volt : Elm := ⟨5, ⟨#[86, 49]⟩, ⟨#[49]⟩, ⟨#[48]⟩, ⟨#[]⟩, ⟨#[]⟩, 9223372036854775808, -5⟩
theorem bwe {w a b : World} (h : Below w.heap.size w a) (h2 : Below a.heap.size a b) : Below w.heap.size w b := h.trans (h2.mono h.size)
end Go.Proofs.Ytnmibhgfcepddaa
