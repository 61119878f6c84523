/-
  What a mark of texts is: markTexts of the given package gridworkkit.
-/
import Derived.Test.YtmhplaanpbpndaaWta
import Derived.Laws.BytesArg
namespace Go.Proofs.Ytmhplaanpbpndaa.Tx
open Fl RowKit Go.Maps
set_option linter.unusedVariables false
set_option maxRecDepth 20000

theorem mk_conv (w : World) (a b : Nat) (T : TypeId) : (convert 120 9 (.slice (some ⟨w.heap.size, 0, none⟩) 2 2)).run Try.prog (w.alloc (.cells #[.int .u8 (a : Int), .int .u8 (b : Int)] T)) = .ok (.string ⟨#[UInt8.ofNat a, UInt8.ofNat b]⟩) (w.alloc (.cells #[.int .u8 (a : Int), .int .u8 (b : Int)] T)) := by
  have h := run_convert_bytes_arg (P := Try.prog) (w.alloc (.cells #[.int .u8 (a : Int), .int .u8 (b : Int)] T)) 120 5 Try.underlying120 Try.underlying5 w.heap.size 0 2 2 [(a : Int), (b : Int)] rfl (fun i hi => by
    rw [World.cell?_alloc_new]
    rcases (by omega : i = 0 ∨ i = 1) with rfl | rfl <;> rfl) 9 Try.underlying9
  rw [h]
  rfl
theorem mark_any (k i : Int) (w : World) (hk : 0 ≤ k) (hk2 : k ≤ 1000000) (hi : 0 ≤ i) (hi2 : i ≤ 1000000000000000) :
    Calls Try.prog 37 #[.int .i64 k, .int .i64 i] w fun e w' => e = .returned (sv (mk k i)) ∧ Below w.heap.size w w' := by
  obtain ⟨a, ha⟩ : ∃ a : Nat, k % 256 = (a : Int) := ⟨(k % 256).toNat, by omega⟩
  obtain ⟨b, hb⟩ : ∃ b : Nat, i % 256 = (b : Int) := ⟨(i % 256).toNat, by omega⟩
  have HE : Hid (mk k i = [109, 97, 114, 107, UInt8.ofNat a, UInt8.ofNat b]) := by
    show _ = _
    unfold mk u8
    rw [ha, hb]; rfl
  have hcv := mk_conv w a b 5
  go_enter Try.func37, Try.ntmps37
  go_wp2_with fail
  go_ret
  refine ⟨?_, (Below.refl _ _).alloc (Nat.le_refl _) _⟩
  rw [HE.out]; rfl
theorem wrap10 {k : Nat} (hk : k ≤ 10) : IntKind.i64.wrap ((k : Int) + 10) = (k : Int) + 10 := by rw [IntKind.wrap_i64]; omega
theorem mark_w (k : Nat) (i : Int) (w : World) (hk : k ≤ 10) (hi : 0 ≤ i) (hi2 : i ≤ 1000000000000000) :
    Calls Try.prog 37 #[.int .i64 (IntKind.i64.wrap ((k : Int) + 10)), .int .i64 i] w fun e w' => e = .returned (sv (mk ((k : Int) + 10) i)) ∧ Below w.heap.size w w' := by
  rw [wrap10 hk]; exact mark_any _ _ _ (by omega) (by omega) hi hi2
end Go.Proofs.Ytmhplaanpbpndaa.Tx
