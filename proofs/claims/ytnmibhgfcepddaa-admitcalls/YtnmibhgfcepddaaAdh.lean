/-
  Admittances: what the statements ask ahead.
-/
import Derived.Test.YtnmibhgfcepddaaAdg
import Derived.Test.YtnmibhgfcepddaaEll
import Derived.Laws.IdiomStrings
namespace Go.Proofs.Ytnmibhgfcepddaa
open Fl RowKit
set_option linter.unusedVariables false

/-- an element between 1 and 0 -/
def eK (k v : Nat) : Elm := ⟨k, ⟨#[UInt8.ofNat (ltr k), 49]⟩, ⟨#[49]⟩, ⟨#[48]⟩, ⟨#[]⟩, ⟨#[]⟩, v, 0⟩
theorem conv1 (W : World) (b : UInt8) (t : TypeId) : (convert 56 9 (.slice (some ⟨W.heap.size, 0, none⟩) 1 1)).run Try.prog (W.alloc (.cells #[.int .u8 (b.toNat : Int)] t)) = .ok (.string ⟨#[b]⟩) (W.alloc (.cells #[.int .u8 (b.toNat : Int)] t)) := by
  refine run_convert_bytes_back (P := Try.prog) _ 56 9 5 ⟨W.heap.size, 0, none⟩ 1 [b] Try.underlying56 Try.underlying5 Try.underlying9 (fun j hj => ?_)
  have h := heap_alloc_new W (.cells #[.int .u8 (b.toNat : Int)] t)
  have hj0 : j = 0 := by simp at hj; exact hj
  subst hj0
  show (W.alloc (.cells #[.int .u8 (b.toNat : Int)] t)).cell? ⟨W.heap.size, 0, none⟩ = _
  rw [cell_of_row _ _ _ _ _ (0, 0) h]; rfl
theorem below_13 (w : World) (o1 o2 : Obj) : Below w.heap.size w ((w.alloc o1).alloc o2) := below_2 w o1 o2
theorem of17_1 (v : Nat) (w : World) : Calls Try.prog 23 #[.int .u8 1, .float .f64 v] w fun e w' => e = .returned (.agg #[.int .u8 1, .string ⟨#[82, 49]⟩, .string ⟨#[49]⟩, .string ⟨#[48]⟩, .string ⟨#[]⟩, .string ⟨#[]⟩, .float .f64 v, .int .i64 0]) ∧ Below w.heap.size w w' := by
  have hi : ((⟨#[32, 82, 76, 67, 73, 86, 71, 69, 80]⟩ : ByteArray)[1]'(by decide)).toNat = 82 := by rfl
  have hcv := conv1 (w.alloc (.cells #[.int .u8 0, .string ⟨#[]⟩, .string ⟨#[]⟩, .string ⟨#[]⟩, .string ⟨#[]⟩, .string ⟨#[]⟩, .float .f64 0, .int .i64 0] 28)) 82 5
  rw [al_size, show (((82 : UInt8).toNat : Nat) : Int) = 82 from rfl] at hcv
  have HB : Hid (∀ a b c d e f g h t o2, Below w.heap.size w ((w.alloc (.cells #[a, b, c, d, e, f, g, h] t)).alloc o2)) := fun a b c d e f g h t o2 => below_13 w _ o2
  go_enter Try.func23, Try.ntmps23
  go_wp2_with fail
  refine bodyPost_ret (by simp [results, Try.results23, go_sem]; try rfl) rfl ?_
  exact ⟨rfl, HB.out _ _ _ _ _ _ _ _ _ _⟩
theorem of17_2 (v : Nat) (w : World) : Calls Try.prog 23 #[.int .u8 2, .float .f64 v] w fun e w' => e = .returned (.agg #[.int .u8 2, .string ⟨#[76, 49]⟩, .string ⟨#[49]⟩, .string ⟨#[48]⟩, .string ⟨#[]⟩, .string ⟨#[]⟩, .float .f64 v, .int .i64 0]) ∧ Below w.heap.size w w' := by
  have hi : ((⟨#[32, 82, 76, 67, 73, 86, 71, 69, 80]⟩ : ByteArray)[2]'(by decide)).toNat = 76 := by rfl
  have hcv := conv1 (w.alloc (.cells #[.int .u8 0, .string ⟨#[]⟩, .string ⟨#[]⟩, .string ⟨#[]⟩, .string ⟨#[]⟩, .string ⟨#[]⟩, .float .f64 0, .int .i64 0] 28)) 76 5
  rw [al_size, show (((76 : UInt8).toNat : Nat) : Int) = 76 from rfl] at hcv
  have HB : Hid (∀ a b c d e f g h t o2, Below w.heap.size w ((w.alloc (.cells #[a, b, c, d, e, f, g, h] t)).alloc o2)) := fun a b c d e f g h t o2 => below_13 w _ o2
  go_enter Try.func23, Try.ntmps23
  go_wp2_with fail
  refine bodyPost_ret (by simp [results, Try.results23, go_sem]; try rfl) rfl ?_
  exact ⟨rfl, HB.out _ _ _ _ _ _ _ _ _ _⟩
theorem of17_3 (v : Nat) (w : World) : Calls Try.prog 23 #[.int .u8 3, .float .f64 v] w fun e w' => e = .returned (.agg #[.int .u8 3, .string ⟨#[67, 49]⟩, .string ⟨#[49]⟩, .string ⟨#[48]⟩, .string ⟨#[]⟩, .string ⟨#[]⟩, .float .f64 v, .int .i64 0]) ∧ Below w.heap.size w w' := by
  have hi : ((⟨#[32, 82, 76, 67, 73, 86, 71, 69, 80]⟩ : ByteArray)[3]'(by decide)).toNat = 67 := by rfl
  have hcv := conv1 (w.alloc (.cells #[.int .u8 0, .string ⟨#[]⟩, .string ⟨#[]⟩, .string ⟨#[]⟩, .string ⟨#[]⟩, .string ⟨#[]⟩, .float .f64 0, .int .i64 0] 28)) 67 5
  rw [al_size, show (((67 : UInt8).toNat : Nat) : Int) = 67 from rfl] at hcv
  have HB : Hid (∀ a b c d e f g h t o2, Below w.heap.size w ((w.alloc (.cells #[a, b, c, d, e, f, g, h] t)).alloc o2)) := fun a b c d e f g h t o2 => below_13 w _ o2
  go_enter Try.func23, Try.ntmps23
  go_wp2_with fail
  refine bodyPost_ret (by simp [results, Try.results23, go_sem]; try rfl) rfl ?_
  exact ⟨rfl, HB.out _ _ _ _ _ _ _ _ _ _⟩
theorem of17_4 (v : Nat) (w : World) : Calls Try.prog 23 #[.int .u8 4, .float .f64 v] w fun e w' => e = .returned (.agg #[.int .u8 4, .string ⟨#[73, 49]⟩, .string ⟨#[49]⟩, .string ⟨#[48]⟩, .string ⟨#[]⟩, .string ⟨#[]⟩, .float .f64 v, .int .i64 0]) ∧ Below w.heap.size w w' := by
  have hi : ((⟨#[32, 82, 76, 67, 73, 86, 71, 69, 80]⟩ : ByteArray)[4]'(by decide)).toNat = 73 := by rfl
  have hcv := conv1 (w.alloc (.cells #[.int .u8 0, .string ⟨#[]⟩, .string ⟨#[]⟩, .string ⟨#[]⟩, .string ⟨#[]⟩, .string ⟨#[]⟩, .float .f64 0, .int .i64 0] 28)) 73 5
  rw [al_size, show (((73 : UInt8).toNat : Nat) : Int) = 73 from rfl] at hcv
  have HB : Hid (∀ a b c d e f g h t o2, Below w.heap.size w ((w.alloc (.cells #[a, b, c, d, e, f, g, h] t)).alloc o2)) := fun a b c d e f g h t o2 => below_13 w _ o2
  go_enter Try.func23, Try.ntmps23
  go_wp2_with fail
  refine bodyPost_ret (by simp [results, Try.results23, go_sem]; try rfl) rfl ?_
  exact ⟨rfl, HB.out _ _ _ _ _ _ _ _ _ _⟩
theorem of17_8 (v : Nat) (w : World) : Calls Try.prog 23 #[.int .u8 8, .float .f64 v] w fun e w' => e = .returned (.agg #[.int .u8 8, .string ⟨#[80, 49]⟩, .string ⟨#[49]⟩, .string ⟨#[48]⟩, .string ⟨#[]⟩, .string ⟨#[]⟩, .float .f64 v, .int .i64 0]) ∧ Below w.heap.size w w' := by
  have hi : ((⟨#[32, 82, 76, 67, 73, 86, 71, 69, 80]⟩ : ByteArray)[8]'(by decide)).toNat = 80 := by rfl
  have hcv := conv1 (w.alloc (.cells #[.int .u8 0, .string ⟨#[]⟩, .string ⟨#[]⟩, .string ⟨#[]⟩, .string ⟨#[]⟩, .string ⟨#[]⟩, .float .f64 0, .int .i64 0] 28)) 80 5
  rw [al_size, show (((80 : UInt8).toNat : Nat) : Int) = 80 from rfl] at hcv
  have HB : Hid (∀ a b c d e f g h t o2, Below w.heap.size w ((w.alloc (.cells #[a, b, c, d, e, f, g, h] t)).alloc o2)) := fun a b c d e f g h t o2 => below_13 w _ o2
  go_enter Try.func23, Try.ntmps23
  go_wp2_with fail
  refine bodyPost_ret (by simp [results, Try.results23, go_sem]; try rfl) rfl ?_
  exact ⟨rfl, HB.out _ _ _ _ _ _ _ _ _ _⟩
end Go.Proofs.Ytnmibhgfcepddaa
