/-
  lives of the statements of layer 5, and the small functions that they call.
-/
import Derived.Test.YtpfdgibgdehcdaaDoorQnv
namespace Go.Proofs.YtpfdgibgdehcdaaDoor
open RowKit

/-- a fault that lies in memory -/
def FB (w : World) (b : Nat) (e a : Int) : Prop := w.heap[b]? = some (.cells #[.int .i64 e, .int .i64 a] 30 (0, 0))
theorem FB.new (w : World) (e a : Int) : FB (w.alloc (.cells #[.int .i64 e, .int .i64 a] 30)) w.heap.size e a := heap_alloc_new w _
theorem FB.kept {w w' : World} {b : Nat} {e a : Int} (h : FB w b e a) (hb : Below w.heap.size w w') : FB w' b e a := (hb.block b (Array.getElem?_eq_some_iff.1 h).1).trans h
theorem FB.cells {w : World} {b : Nat} {e a : Int} (h : FB w b e a) : w.cell? ⟨b, 0, none⟩ = some (.int .i64 e) ∧ w.cell? ⟨b, 1, none⟩ = some (.int .i64 a) :=
  ⟨by rw [cell_of_row w b 0 _ _ (0, 0) h]; rfl, by rw [cell_of_row w b 1 _ _ (0, 0) h]; rfl⟩
theorem FB.al {w : World} {b : Nat} {e a : Int} (h : FB w b e a) (o : Obj) : FB (w.alloc o) b e a := h.kept ((Below.refl _ w).alloc (Nat.le_refl _) o)
theorem lives5_any (w : World) (htab : Pw w) : Calls Tryd.prog 8 #[] w fun e w' => e = .returned (.bool true) ∧ Below w.heap.size w w' := by
  have h1 := fun W => parse_ok ⟨#[52, 46, 55, 107]⟩ _ rd_0 W
  have hz : (FloatKind.f64.format.order 4661889719351640064 4661889719351640064 == some Ordering.eq) = true := by rw [Fl.order_eqb rfl rfl]; rfl
  go_enter Tryd.func8, Tryd.ntmps8
  go_wp2_with (first
    | (go_at_call 9; (with_reducible refine (h1 _).mono ?_); rintro e1 w1 ⟨rfl, B1⟩; have B1' : Below w.heap.size w (w1.alloc (.cells #[.int .i64 0, .int .i64 0] 30)) := B1.alloc B1.size _; have T1 := htab.kept B1')
    | (go_at_call 7; (with_reducible refine (pr_0 _ T1).mono ?_); rintro e2 w2 ⟨rfl, B2⟩; obtain ⟨c0, c1⟩ := ((FB.new w1 0 0).kept B2).cells))
  go_ret
  exact ⟨rfl, B1'.trans (below_le B2 B1'.size)⟩
theorem sameR_lit (x : Nat) (hn : Fl.nan x = false) (w : World) : Calls Tryd.prog 34 #[.float .f64 x, .float .f64 x] w fun e w' => e = .returned (.bool true) ∧ w' = w := by
  have h0 := Fl.order_num hn
  go_enter Tryd.func34, Tryd.ntmps34
  go_wp2_with fail
  go_ret
  exact ⟨rfl, rfl⟩
theorem same5_lit (x : Nat) (hn : Fl.nan x = false) (w : World) : Calls Tryd.prog 11 #[.float .f64 x, .float .f64 x] w fun e w' => e = .returned (.bool true) ∧ w' = w := by
  go_enter Tryd.func11, Tryd.ntmps11
  go_wp2_with (go_at_call 34; (with_reducible refine (sameR_lit x hn _).mono ?_); rintro e1 w1 ⟨rfl, rfl⟩)
  go_ret
  exact ⟨rfl, rfl⟩
theorem csign_lit (w : World) : Calls Tryd.prog 13 #[.float .f64 0, .float .f64 13830554455654793216] w fun e w' => e = .returned (.float .f64 9223372036854775808) ∧ w' = w := by
  have b1 : bits BinOp.andNot IntKind.u64 0 9223372036854775808 = 0 := by kernel_rfl
  have b2 : bits BinOp.and IntKind.u64 13830554455654793216 9223372036854775808 = 9223372036854775808 := by kernel_rfl
  have b3 : bits BinOp.or IntKind.u64 0 9223372036854775808 = 9223372036854775808 := by kernel_rfl
  go_enter Tryd.func13, Tryd.ntmps13
  go_wp2
  go_ret
  exact ⟨rfl, rfl⟩
theorem nan_lit (w : World) : Calls Tryd.prog 14 #[] w fun e w' => ∃ x, e = .returned (.float .f64 x) ∧ x < 18446744073709551616 ∧ 9218868437227405312 ≤ Fl.mg x ∧ w' = w := by
  go_enter Tryd.func14, Tryd.ntmps14
  go_wp2
  go_ret
  exact ⟨_, rfl, by decide, by decide, rfl⟩
theorem inf_lit (w : World) : Calls Tryd.prog 15 #[.int .i64 (-1)] w fun e w' => ∃ x, e = .returned (.float .f64 x) ∧ x < 18446744073709551616 ∧ 9218868437227405312 ≤ Fl.mg x ∧ w' = w := by
  go_enter Tryd.func15, Tryd.ntmps15
  go_wp2
  go_ret
  exact ⟨_, rfl, by decide, by decide, rfl⟩

end Go.Proofs.YtpfdgibgdehcdaaDoor
