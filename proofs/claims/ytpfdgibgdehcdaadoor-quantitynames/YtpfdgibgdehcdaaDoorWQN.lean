/-
  The walk of QuantityNames.
-/
import Derived.Test.YtpfdgibgdehcdaaDoorWql
namespace Go.Proofs.YtpfdgibgdehcdaaDoor
open RowKit

def rw1 : Array Value := #[.string ⟨#[52, 46, 55, 107]⟩, .float .f64 4661889719351640064, .string ⟨#[49, 48, 48, 110]⟩, .float .f64 4502148214488346440, .string ⟨#[45, 50, 46, 53, 101, 51]⟩, .float .f64 13881088010067378176, .string ⟨#[46, 53]⟩, .float .f64 4602678819172646912, .string ⟨#[53, 46]⟩, .float .f64 4617315517961601024, .string ⟨#[49, 101, 51, 107]⟩, .float .f64 4696837146684686336, .string ⟨#[48, 46, 49]⟩, .float .f64 4591870180066957722, .string ⟨#[45, 48]⟩, .float .f64 9223372036854775808, .string ⟨#[49, 101, 45, 52, 48, 48]⟩, .float .f64 0]
def rw2 : Array Value := #[.string ⟨#[]⟩, .int .i64 0, .string ⟨#[45]⟩, .int .i64 1, .string ⟨#[46]⟩, .int .i64 1, .string ⟨#[49, 101]⟩, .int .i64 2, .string ⟨#[49, 120]⟩, .int .i64 1, .string ⟨#[52, 107, 55]⟩, .int .i64 2, .string ⟨#[49, 101, 49, 50, 51, 52, 53]⟩, .int .i64 6, .string ⟨#[43, 49]⟩, .int .i64 0, .string ⟨#[32, 49]⟩, .int .i64 0]
def rw3 : Array Value := #[.string ⟨#[52, 46, 55, 107]⟩, .float .f64 4661889719351640064, .string ⟨#[49, 48, 48, 110]⟩, .float .f64 4502148214488346440, .string ⟨#[49, 48, 48, 109]⟩, .float .f64 4591870180066957722, .string ⟨#[49, 77]⟩, .float .f64 4696837146684686336, .string ⟨#[57, 57, 57, 46, 57]⟩, .float .f64 4652006429231887155, .string ⟨#[45, 48]⟩, .float .f64 9223372036854775808, .string ⟨#[49, 101, 49, 53]⟩, .float .f64 4831355200913801216, .string ⟨#[53, 101, 45, 51, 50, 52]⟩, .float .f64 1, .string ⟨#[49, 50, 46, 51, 52, 53, 54, 55, 56, 77]⟩, .float .f64 4712889646009286656]
theorem rd_65 : paE (⟨#[57, 57, 57, 57, 57, 57, 57, 57, 57, 57, 57, 57, 57, 57, 57, 57, 57, 57, 57, 57, 57, 57, 57, 57, 57, 57, 57, 57, 57, 57, 57, 57, 57, 57, 57, 57, 57, 57, 57, 57, 57, 57, 57, 57, 57, 57, 57, 57, 57, 57, 57, 57, 57, 57, 57, 57, 57, 57, 57, 57, 57, 57, 57, 57]⟩ ++ ⟨#[57]⟩) = 3 ∧ paA (⟨#[57, 57, 57, 57, 57, 57, 57, 57, 57, 57, 57, 57, 57, 57, 57, 57, 57, 57, 57, 57, 57, 57, 57, 57, 57, 57, 57, 57, 57, 57, 57, 57, 57, 57, 57, 57, 57, 57, 57, 57, 57, 57, 57, 57, 57, 57, 57, 57, 57, 57, 57, 57, 57, 57, 57, 57, 57, 57, 57, 57, 57, 57, 57, 57]⟩ ++ ⟨#[57]⟩) = -1 := pa_long (by rw [ByteArray.size_append]; decide)
theorem kpq {w w' : World} {k : Nat} {c : Obj} (h : w.heap[k]? = some c) (hb : Below w.heap.size w w') : w'.heap[k]? = some c := (hb.block k (Array.getElem?_eq_some_iff.1 h).1).trans h
set_option maxRecDepth 20000 in
set_option maxHeartbeats 4000000 in
theorem WQN (w : World) (htab : Pw w) : Calls Tryd.prog 4 #[] w fun e w' => e = .returned (.bool true) ∧ Below w.heap.size w w' := by
  go_enter Tryd.func4, Tryd.ntmps4
  go_wp2_with (go_at_call 13; (with_reducible refine (csign_lit _).mono ?_); rintro e0 w0 ⟨rfl, h0⟩; rw [h0]; clear h0 w0)
  obtain ⟨V1, hV1⟩ : ∃ V, V = w.alloc (.cells #[.string ⟨#[52, 46, 55, 107]⟩, .float .f64 4661889719351640064, .string ⟨#[49, 48, 48, 110]⟩, .float .f64 4502148214488346440, .string ⟨#[45, 50, 46, 53, 101, 51]⟩, .float .f64 13881088010067378176, .string ⟨#[46, 53]⟩, .float .f64 4602678819172646912, .string ⟨#[53, 46]⟩, .float .f64 4617315517961601024, .string ⟨#[49, 101, 51, 107]⟩, .float .f64 4696837146684686336, .string ⟨#[48, 46, 49]⟩, .float .f64 4591870180066957722, .string ⟨#[45, 48]⟩, .float .f64 9223372036854775808, .string ⟨#[49, 101, 45, 52, 48, 48]⟩, .float .f64 0] 39) := ⟨_, rfl⟩
  have RB1 : V1.heap[w.heap.size]? = some (.cells rw1 39 (0, 0)) := by rw [hV1]; exact heap_alloc_new _ _
  have BW1 : Below w.heap.size w V1 := by rw [hV1]; exact (Below.refl _ w).alloc (Nat.le_refl _) _
  rw [← hV1]
  clear hV1
  go_loopw [2] (fun iv wr => ∃ i : Nat, iv = .int .i64 i ∧ i ≤ 9 ∧ wr.heap[w.heap.size]? = some (.cells rw1 39 (0, 0)) ∧ Below w.heap.size w wr) (fun iv _ => 9 - (intOf iv).toNat)
  case atStart => exact ⟨0, rfl, by omega, RB1, BW1⟩
  case round =>
    clear RB1 BW1
    obtain ⟨i, rfl, hi, RB, BW⟩ := hrel
    rcases (by omega : i = 0 ∨ i = 1 ∨ i = 2 ∨ i = 3 ∨ i = 4 ∨ i = 5 ∨ i = 6 ∨ i = 7 ∨ i = 8 ∨ i = 9) with q | q | q | q | q | q | q | q | q | q <;> subst q
    · have cs : wr.cell? ⟨w.heap.size, 0, none⟩ = some (.string ⟨#[52, 46, 55, 107]⟩) := by rw [cell_of_row wr _ 0 _ _ (0, 0) RB]; rfl
      have cx : wr.cell? ⟨w.heap.size, 1, none⟩ = some (.float .f64 4661889719351640064) := by rw [cell_of_row wr _ 1 _ _ (0, 0) RB]; rfl
      go_wp2_with (first
        | (go_at_call 9; (with_reducible refine (parse_ok ⟨#[52, 46, 55, 107]⟩ 4661889719351640064 rd_0 _).mono ?_); rintro e1 w1 ⟨rfl, B1⟩; have B2 := B1.alloc B1.size (.cells #[.int .i64 0, .int .i64 0] 30); have RB1 := kpq RB B1; have hlt1 : w.heap.size < w1.heap.size := (Array.getElem?_eq_some_iff.1 RB1).1; have hne1 : ¬ w.heap.size = w1.heap.size := (by omega); have cx1 : w1.cell? ⟨w.heap.size, 1, none⟩ = some (.float .f64 4661889719351640064) := (by rw [cell_of_row w1 _ 1 _ _ (0, 0) RB1]; rfl))
        | (go_at_call 11; (with_reducible refine (same5_lit 4661889719351640064 (by decide) _).mono ?_); rintro e2 w2 ⟨rfl, rfl⟩))
      go_roundw
      case rel => exact ⟨1, by go_num, by omega, kpq RB B2, BW.trans (below_le B2 BW.size)⟩
      case measure => simp [intOf]
    · have cs : wr.cell? ⟨w.heap.size, 2, none⟩ = some (.string ⟨#[49, 48, 48, 110]⟩) := by rw [cell_of_row wr _ 2 _ _ (0, 0) RB]; rfl
      have cx : wr.cell? ⟨w.heap.size, 3, none⟩ = some (.float .f64 4502148214488346440) := by rw [cell_of_row wr _ 3 _ _ (0, 0) RB]; rfl
      go_wp2_with (first
        | (go_at_call 9; (with_reducible refine (parse_ok ⟨#[49, 48, 48, 110]⟩ 4502148214488346440 rd_1 _).mono ?_); rintro e1 w1 ⟨rfl, B1⟩; have B2 := B1.alloc B1.size (.cells #[.int .i64 0, .int .i64 0] 30); have RB1 := kpq RB B1; have hlt1 : w.heap.size < w1.heap.size := (Array.getElem?_eq_some_iff.1 RB1).1; have hne1 : ¬ w.heap.size = w1.heap.size := (by omega); have cx1 : w1.cell? ⟨w.heap.size, 3, none⟩ = some (.float .f64 4502148214488346440) := (by rw [cell_of_row w1 _ 3 _ _ (0, 0) RB1]; rfl))
        | (go_at_call 11; (with_reducible refine (same5_lit 4502148214488346440 (by decide) _).mono ?_); rintro e2 w2 ⟨rfl, rfl⟩))
      go_roundw
      case rel => exact ⟨2, by go_num, by omega, kpq RB B2, BW.trans (below_le B2 BW.size)⟩
      case measure => simp [intOf]
    · have cs : wr.cell? ⟨w.heap.size, 4, none⟩ = some (.string ⟨#[45, 50, 46, 53, 101, 51]⟩) := by rw [cell_of_row wr _ 4 _ _ (0, 0) RB]; rfl
      have cx : wr.cell? ⟨w.heap.size, 5, none⟩ = some (.float .f64 13881088010067378176) := by rw [cell_of_row wr _ 5 _ _ (0, 0) RB]; rfl
      go_wp2_with (first
        | (go_at_call 9; (with_reducible refine (parse_ok ⟨#[45, 50, 46, 53, 101, 51]⟩ 13881088010067378176 rd_2 _).mono ?_); rintro e1 w1 ⟨rfl, B1⟩; have B2 := B1.alloc B1.size (.cells #[.int .i64 0, .int .i64 0] 30); have RB1 := kpq RB B1; have hlt1 : w.heap.size < w1.heap.size := (Array.getElem?_eq_some_iff.1 RB1).1; have hne1 : ¬ w.heap.size = w1.heap.size := (by omega); have cx1 : w1.cell? ⟨w.heap.size, 5, none⟩ = some (.float .f64 13881088010067378176) := (by rw [cell_of_row w1 _ 5 _ _ (0, 0) RB1]; rfl))
        | (go_at_call 11; (with_reducible refine (same5_lit 13881088010067378176 (by decide) _).mono ?_); rintro e2 w2 ⟨rfl, rfl⟩))
      go_roundw
      case rel => exact ⟨3, by go_num, by omega, kpq RB B2, BW.trans (below_le B2 BW.size)⟩
      case measure => simp [intOf]
    · have cs : wr.cell? ⟨w.heap.size, 6, none⟩ = some (.string ⟨#[46, 53]⟩) := by rw [cell_of_row wr _ 6 _ _ (0, 0) RB]; rfl
      have cx : wr.cell? ⟨w.heap.size, 7, none⟩ = some (.float .f64 4602678819172646912) := by rw [cell_of_row wr _ 7 _ _ (0, 0) RB]; rfl
      go_wp2_with (first
        | (go_at_call 9; (with_reducible refine (parse_ok ⟨#[46, 53]⟩ 4602678819172646912 rd_3 _).mono ?_); rintro e1 w1 ⟨rfl, B1⟩; have B2 := B1.alloc B1.size (.cells #[.int .i64 0, .int .i64 0] 30); have RB1 := kpq RB B1; have hlt1 : w.heap.size < w1.heap.size := (Array.getElem?_eq_some_iff.1 RB1).1; have hne1 : ¬ w.heap.size = w1.heap.size := (by omega); have cx1 : w1.cell? ⟨w.heap.size, 7, none⟩ = some (.float .f64 4602678819172646912) := (by rw [cell_of_row w1 _ 7 _ _ (0, 0) RB1]; rfl))
        | (go_at_call 11; (with_reducible refine (same5_lit 4602678819172646912 (by decide) _).mono ?_); rintro e2 w2 ⟨rfl, rfl⟩))
      go_roundw
      case rel => exact ⟨4, by go_num, by omega, kpq RB B2, BW.trans (below_le B2 BW.size)⟩
      case measure => simp [intOf]
    · have cs : wr.cell? ⟨w.heap.size, 8, none⟩ = some (.string ⟨#[53, 46]⟩) := by rw [cell_of_row wr _ 8 _ _ (0, 0) RB]; rfl
      have cx : wr.cell? ⟨w.heap.size, 9, none⟩ = some (.float .f64 4617315517961601024) := by rw [cell_of_row wr _ 9 _ _ (0, 0) RB]; rfl
      go_wp2_with (first
        | (go_at_call 9; (with_reducible refine (parse_ok ⟨#[53, 46]⟩ 4617315517961601024 rd_4 _).mono ?_); rintro e1 w1 ⟨rfl, B1⟩; have B2 := B1.alloc B1.size (.cells #[.int .i64 0, .int .i64 0] 30); have RB1 := kpq RB B1; have hlt1 : w.heap.size < w1.heap.size := (Array.getElem?_eq_some_iff.1 RB1).1; have hne1 : ¬ w.heap.size = w1.heap.size := (by omega); have cx1 : w1.cell? ⟨w.heap.size, 9, none⟩ = some (.float .f64 4617315517961601024) := (by rw [cell_of_row w1 _ 9 _ _ (0, 0) RB1]; rfl))
        | (go_at_call 11; (with_reducible refine (same5_lit 4617315517961601024 (by decide) _).mono ?_); rintro e2 w2 ⟨rfl, rfl⟩))
      go_roundw
      case rel => exact ⟨5, by go_num, by omega, kpq RB B2, BW.trans (below_le B2 BW.size)⟩
      case measure => simp [intOf]
    · have cs : wr.cell? ⟨w.heap.size, 10, none⟩ = some (.string ⟨#[49, 101, 51, 107]⟩) := by rw [cell_of_row wr _ 10 _ _ (0, 0) RB]; rfl
      have cx : wr.cell? ⟨w.heap.size, 11, none⟩ = some (.float .f64 4696837146684686336) := by rw [cell_of_row wr _ 11 _ _ (0, 0) RB]; rfl
      go_wp2_with (first
        | (go_at_call 9; (with_reducible refine (parse_ok ⟨#[49, 101, 51, 107]⟩ 4696837146684686336 rd_5 _).mono ?_); rintro e1 w1 ⟨rfl, B1⟩; have B2 := B1.alloc B1.size (.cells #[.int .i64 0, .int .i64 0] 30); have RB1 := kpq RB B1; have hlt1 : w.heap.size < w1.heap.size := (Array.getElem?_eq_some_iff.1 RB1).1; have hne1 : ¬ w.heap.size = w1.heap.size := (by omega); have cx1 : w1.cell? ⟨w.heap.size, 11, none⟩ = some (.float .f64 4696837146684686336) := (by rw [cell_of_row w1 _ 11 _ _ (0, 0) RB1]; rfl))
        | (go_at_call 11; (with_reducible refine (same5_lit 4696837146684686336 (by decide) _).mono ?_); rintro e2 w2 ⟨rfl, rfl⟩))
      go_roundw
      case rel => exact ⟨6, by go_num, by omega, kpq RB B2, BW.trans (below_le B2 BW.size)⟩
      case measure => simp [intOf]
    · have cs : wr.cell? ⟨w.heap.size, 12, none⟩ = some (.string ⟨#[48, 46, 49]⟩) := by rw [cell_of_row wr _ 12 _ _ (0, 0) RB]; rfl
      have cx : wr.cell? ⟨w.heap.size, 13, none⟩ = some (.float .f64 4591870180066957722) := by rw [cell_of_row wr _ 13 _ _ (0, 0) RB]; rfl
      go_wp2_with (first
        | (go_at_call 9; (with_reducible refine (parse_ok ⟨#[48, 46, 49]⟩ 4591870180066957722 rd_6 _).mono ?_); rintro e1 w1 ⟨rfl, B1⟩; have B2 := B1.alloc B1.size (.cells #[.int .i64 0, .int .i64 0] 30); have RB1 := kpq RB B1; have hlt1 : w.heap.size < w1.heap.size := (Array.getElem?_eq_some_iff.1 RB1).1; have hne1 : ¬ w.heap.size = w1.heap.size := (by omega); have cx1 : w1.cell? ⟨w.heap.size, 13, none⟩ = some (.float .f64 4591870180066957722) := (by rw [cell_of_row w1 _ 13 _ _ (0, 0) RB1]; rfl))
        | (go_at_call 11; (with_reducible refine (same5_lit 4591870180066957722 (by decide) _).mono ?_); rintro e2 w2 ⟨rfl, rfl⟩))
      go_roundw
      case rel => exact ⟨7, by go_num, by omega, kpq RB B2, BW.trans (below_le B2 BW.size)⟩
      case measure => simp [intOf]
    · have cs : wr.cell? ⟨w.heap.size, 14, none⟩ = some (.string ⟨#[45, 48]⟩) := by rw [cell_of_row wr _ 14 _ _ (0, 0) RB]; rfl
      have cx : wr.cell? ⟨w.heap.size, 15, none⟩ = some (.float .f64 9223372036854775808) := by rw [cell_of_row wr _ 15 _ _ (0, 0) RB]; rfl
      go_wp2_with (first
        | (go_at_call 9; (with_reducible refine (parse_ok ⟨#[45, 48]⟩ 9223372036854775808 rd_m0 _).mono ?_); rintro e1 w1 ⟨rfl, B1⟩; have B2 := B1.alloc B1.size (.cells #[.int .i64 0, .int .i64 0] 30); have RB1 := kpq RB B1; have hlt1 : w.heap.size < w1.heap.size := (Array.getElem?_eq_some_iff.1 RB1).1; have hne1 : ¬ w.heap.size = w1.heap.size := (by omega); have cx1 : w1.cell? ⟨w.heap.size, 15, none⟩ = some (.float .f64 9223372036854775808) := (by rw [cell_of_row w1 _ 15 _ _ (0, 0) RB1]; rfl))
        | (go_at_call 11; (with_reducible refine (same5_lit 9223372036854775808 (by decide) _).mono ?_); rintro e2 w2 ⟨rfl, rfl⟩))
      go_roundw
      case rel => exact ⟨8, by go_num, by omega, kpq RB B2, BW.trans (below_le B2 BW.size)⟩
      case measure => simp [intOf]
    · have cs : wr.cell? ⟨w.heap.size, 16, none⟩ = some (.string ⟨#[49, 101, 45, 52, 48, 48]⟩) := by rw [cell_of_row wr _ 16 _ _ (0, 0) RB]; rfl
      have cx : wr.cell? ⟨w.heap.size, 17, none⟩ = some (.float .f64 0) := by rw [cell_of_row wr _ 17 _ _ (0, 0) RB]; rfl
      go_wp2_with (first
        | (go_at_call 9; (with_reducible refine (parse_ok ⟨#[49, 101, 45, 52, 48, 48]⟩ 0 rd_7 _).mono ?_); rintro e1 w1 ⟨rfl, B1⟩; have B2 := B1.alloc B1.size (.cells #[.int .i64 0, .int .i64 0] 30); have RB1 := kpq RB B1; have hlt1 : w.heap.size < w1.heap.size := (Array.getElem?_eq_some_iff.1 RB1).1; have hne1 : ¬ w.heap.size = w1.heap.size := (by omega); have cx1 : w1.cell? ⟨w.heap.size, 17, none⟩ = some (.float .f64 0) := (by rw [cell_of_row w1 _ 17 _ _ (0, 0) RB1]; rfl))
        | (go_at_call 11; (with_reducible refine (same5_lit 0 (by decide) _).mono ?_); rintro e2 w2 ⟨rfl, rfl⟩))
      go_roundw
      case rel => exact ⟨9, by go_num, by omega, kpq RB B2, BW.trans (below_le B2 BW.size)⟩
      case measure => simp [intOf]
    · clear RB
      go_wp2_with fail
      obtain ⟨wA, hA⟩ : ∃ wA, wA = wr := ⟨_, rfl⟩
      subst hA
      obtain ⟨V2, hV2⟩ : ∃ V, V = wA.alloc (.cells #[.string ⟨#[]⟩, .int .i64 0, .string ⟨#[45]⟩, .int .i64 1, .string ⟨#[46]⟩, .int .i64 1, .string ⟨#[49, 101]⟩, .int .i64 2, .string ⟨#[49, 120]⟩, .int .i64 1, .string ⟨#[52, 107, 55]⟩, .int .i64 2, .string ⟨#[49, 101, 49, 50, 51, 52, 53]⟩, .int .i64 6, .string ⟨#[43, 49]⟩, .int .i64 0, .string ⟨#[32, 49]⟩, .int .i64 0] 43) := ⟨_, rfl⟩
      have RB2 : V2.heap[wA.heap.size]? = some (.cells rw2 43 (0, 0)) := by rw [hV2]; exact heap_alloc_new _ _
      have BW2 : Below w.heap.size w V2 := by rw [hV2]; exact BW.alloc BW.size _
      rw [← hV2]
      clear hV2
      obtain ⟨b2, hb2⟩ : ∃ b, b = wA.heap.size := ⟨_, rfl⟩
      rw [← hb2] at RB2 ⊢
      clear hb2 BW
      go_loopw [6] (fun iv wr => ∃ i : Nat, iv = .int .i64 i ∧ i ≤ 9 ∧ wr.heap[b2]? = some (.cells rw2 43 (0, 0)) ∧ Below w.heap.size w wr) (fun iv _ => 9 - (intOf iv).toNat)
      case atStart => exact ⟨0, rfl, by omega, RB2, BW2⟩
      case round =>
        clear RB2 BW2
        obtain ⟨i, rfl, hi, RB, BW⟩ := hrel
        rcases (by omega : i = 0 ∨ i = 1 ∨ i = 2 ∨ i = 3 ∨ i = 4 ∨ i = 5 ∨ i = 6 ∨ i = 7 ∨ i = 8 ∨ i = 9) with q | q | q | q | q | q | q | q | q | q <;> subst q
        · have cs : wr.cell? ⟨b2, 0, none⟩ = some (.string ⟨#[]⟩) := by rw [cell_of_row wr _ 0 _ _ (0, 0) RB]; rfl
          have cx : wr.cell? ⟨b2, 1, none⟩ = some (.int .i64 0) := by rw [cell_of_row wr _ 1 _ _ (0, 0) RB]; rfl
          go_wp2_with (first
            | (go_at_call 9; (with_reducible refine (parse_no ⟨#[]⟩ 150 0 bw_0 _).mono ?_); rintro e1 w1 ⟨W1, rfl, B1⟩; have B2 := B1.alloc B1.size (.cells #[.int .i64 150, .int .i64 0] 30); have RB1 := kpq RB B2; have cx1 := cell_of_row _ _ 1 _ _ (0, 0) RB1; have cz := (FB.new w1 150 0).cells))
          obtain ⟨z0, z1⟩ := cz
          have cx2 : (w1.alloc (.cells #[.int .i64 150, .int .i64 0] 30)).cell? ⟨b2, 1, none⟩ = some (.int .i64 0) := cx1
          clear cx1
          obtain ⟨wz, hwz⟩ : ∃ wz, wz = w1.alloc (.cells #[.int .i64 150, .int .i64 0] 30) := ⟨_, rfl⟩
          rw [← hwz] at z0 z1 cx2 B2 RB1 ⊢
          clear hwz
          go_region_held_law (fun W => W.cell? ⟨b2, 1, none⟩ = some (.int .i64 0) ∧ W.cell? ⟨w1.heap.size, 0, none⟩ = some (.int .i64 150) ∧ W.cell? ⟨w1.heap.size, 1, none⟩ = some (.int .i64 0)) (go_keep) (fail)
          go_wp2_with fail
          refine ⟨?_, ?measure⟩
          case measure => simp [intOf]
          (repeat apply Exists.intro)
          refine ⟨?rel, rfl⟩
          case rel => exact ⟨1, by go_num, by omega, RB1, (BW.trans (below_le B2 BW.size)).trans ⟨rfl, rfl, rfl, Nat.le_refl _, fun _ _ => rfl⟩⟩
        · have cs : wr.cell? ⟨b2, 2, none⟩ = some (.string ⟨#[45]⟩) := by rw [cell_of_row wr _ 2 _ _ (0, 0) RB]; rfl
          have cx : wr.cell? ⟨b2, 3, none⟩ = some (.int .i64 1) := by rw [cell_of_row wr _ 3 _ _ (0, 0) RB]; rfl
          go_wp2_with (first
            | (go_at_call 9; (with_reducible refine (parse_no ⟨#[45]⟩ 150 1 bw_1 _).mono ?_); rintro e1 w1 ⟨W1, rfl, B1⟩; have B2 := B1.alloc B1.size (.cells #[.int .i64 150, .int .i64 1] 30); have RB1 := kpq RB B2; have cx1 := cell_of_row _ _ 3 _ _ (0, 0) RB1; have cz := (FB.new w1 150 1).cells))
          obtain ⟨z0, z1⟩ := cz
          have cx2 : (w1.alloc (.cells #[.int .i64 150, .int .i64 1] 30)).cell? ⟨b2, 3, none⟩ = some (.int .i64 1) := cx1
          clear cx1
          obtain ⟨wz, hwz⟩ : ∃ wz, wz = w1.alloc (.cells #[.int .i64 150, .int .i64 1] 30) := ⟨_, rfl⟩
          rw [← hwz] at z0 z1 cx2 B2 RB1 ⊢
          clear hwz
          go_region_held_law (fun W => W.cell? ⟨b2, 3, none⟩ = some (.int .i64 1) ∧ W.cell? ⟨w1.heap.size, 0, none⟩ = some (.int .i64 150) ∧ W.cell? ⟨w1.heap.size, 1, none⟩ = some (.int .i64 1)) (go_keep) (fail)
          go_wp2_with fail
          refine ⟨?_, ?measure⟩
          case measure => simp [intOf]
          (repeat apply Exists.intro)
          refine ⟨?rel, rfl⟩
          case rel => exact ⟨2, by go_num, by omega, RB1, (BW.trans (below_le B2 BW.size)).trans ⟨rfl, rfl, rfl, Nat.le_refl _, fun _ _ => rfl⟩⟩
        · have cs : wr.cell? ⟨b2, 4, none⟩ = some (.string ⟨#[46]⟩) := by rw [cell_of_row wr _ 4 _ _ (0, 0) RB]; rfl
          have cx : wr.cell? ⟨b2, 5, none⟩ = some (.int .i64 1) := by rw [cell_of_row wr _ 5 _ _ (0, 0) RB]; rfl
          go_wp2_with (first
            | (go_at_call 9; (with_reducible refine (parse_no ⟨#[46]⟩ 150 1 bw_2 _).mono ?_); rintro e1 w1 ⟨W1, rfl, B1⟩; have B2 := B1.alloc B1.size (.cells #[.int .i64 150, .int .i64 1] 30); have RB1 := kpq RB B2; have cx1 := cell_of_row _ _ 5 _ _ (0, 0) RB1; have cz := (FB.new w1 150 1).cells))
          obtain ⟨z0, z1⟩ := cz
          have cx2 : (w1.alloc (.cells #[.int .i64 150, .int .i64 1] 30)).cell? ⟨b2, 5, none⟩ = some (.int .i64 1) := cx1
          clear cx1
          obtain ⟨wz, hwz⟩ : ∃ wz, wz = w1.alloc (.cells #[.int .i64 150, .int .i64 1] 30) := ⟨_, rfl⟩
          rw [← hwz] at z0 z1 cx2 B2 RB1 ⊢
          clear hwz
          go_region_held_law (fun W => W.cell? ⟨b2, 5, none⟩ = some (.int .i64 1) ∧ W.cell? ⟨w1.heap.size, 0, none⟩ = some (.int .i64 150) ∧ W.cell? ⟨w1.heap.size, 1, none⟩ = some (.int .i64 1)) (go_keep) (fail)
          go_wp2_with fail
          refine ⟨?_, ?measure⟩
          case measure => simp [intOf]
          (repeat apply Exists.intro)
          refine ⟨?rel, rfl⟩
          case rel => exact ⟨3, by go_num, by omega, RB1, (BW.trans (below_le B2 BW.size)).trans ⟨rfl, rfl, rfl, Nat.le_refl _, fun _ _ => rfl⟩⟩
        · have cs : wr.cell? ⟨b2, 6, none⟩ = some (.string ⟨#[49, 101]⟩) := by rw [cell_of_row wr _ 6 _ _ (0, 0) RB]; rfl
          have cx : wr.cell? ⟨b2, 7, none⟩ = some (.int .i64 2) := by rw [cell_of_row wr _ 7 _ _ (0, 0) RB]; rfl
          go_wp2_with (first
            | (go_at_call 9; (with_reducible refine (parse_no ⟨#[49, 101]⟩ 150 2 bw_3 _).mono ?_); rintro e1 w1 ⟨W1, rfl, B1⟩; have B2 := B1.alloc B1.size (.cells #[.int .i64 150, .int .i64 2] 30); have RB1 := kpq RB B2; have cx1 := cell_of_row _ _ 7 _ _ (0, 0) RB1; have cz := (FB.new w1 150 2).cells))
          obtain ⟨z0, z1⟩ := cz
          have cx2 : (w1.alloc (.cells #[.int .i64 150, .int .i64 2] 30)).cell? ⟨b2, 7, none⟩ = some (.int .i64 2) := cx1
          clear cx1
          obtain ⟨wz, hwz⟩ : ∃ wz, wz = w1.alloc (.cells #[.int .i64 150, .int .i64 2] 30) := ⟨_, rfl⟩
          rw [← hwz] at z0 z1 cx2 B2 RB1 ⊢
          clear hwz
          go_region_held_law (fun W => W.cell? ⟨b2, 7, none⟩ = some (.int .i64 2) ∧ W.cell? ⟨w1.heap.size, 0, none⟩ = some (.int .i64 150) ∧ W.cell? ⟨w1.heap.size, 1, none⟩ = some (.int .i64 2)) (go_keep) (fail)
          go_wp2_with fail
          refine ⟨?_, ?measure⟩
          case measure => simp [intOf]
          (repeat apply Exists.intro)
          refine ⟨?rel, rfl⟩
          case rel => exact ⟨4, by go_num, by omega, RB1, (BW.trans (below_le B2 BW.size)).trans ⟨rfl, rfl, rfl, Nat.le_refl _, fun _ _ => rfl⟩⟩
        · have cs : wr.cell? ⟨b2, 8, none⟩ = some (.string ⟨#[49, 120]⟩) := by rw [cell_of_row wr _ 8 _ _ (0, 0) RB]; rfl
          have cx : wr.cell? ⟨b2, 9, none⟩ = some (.int .i64 1) := by rw [cell_of_row wr _ 9 _ _ (0, 0) RB]; rfl
          go_wp2_with (first
            | (go_at_call 9; (with_reducible refine (parse_no ⟨#[49, 120]⟩ 150 1 bw_4 _).mono ?_); rintro e1 w1 ⟨W1, rfl, B1⟩; have B2 := B1.alloc B1.size (.cells #[.int .i64 150, .int .i64 1] 30); have RB1 := kpq RB B2; have cx1 := cell_of_row _ _ 9 _ _ (0, 0) RB1; have cz := (FB.new w1 150 1).cells))
          obtain ⟨z0, z1⟩ := cz
          have cx2 : (w1.alloc (.cells #[.int .i64 150, .int .i64 1] 30)).cell? ⟨b2, 9, none⟩ = some (.int .i64 1) := cx1
          clear cx1
          obtain ⟨wz, hwz⟩ : ∃ wz, wz = w1.alloc (.cells #[.int .i64 150, .int .i64 1] 30) := ⟨_, rfl⟩
          rw [← hwz] at z0 z1 cx2 B2 RB1 ⊢
          clear hwz
          go_region_held_law (fun W => W.cell? ⟨b2, 9, none⟩ = some (.int .i64 1) ∧ W.cell? ⟨w1.heap.size, 0, none⟩ = some (.int .i64 150) ∧ W.cell? ⟨w1.heap.size, 1, none⟩ = some (.int .i64 1)) (go_keep) (fail)
          go_wp2_with fail
          refine ⟨?_, ?measure⟩
          case measure => simp [intOf]
          (repeat apply Exists.intro)
          refine ⟨?rel, rfl⟩
          case rel => exact ⟨5, by go_num, by omega, RB1, (BW.trans (below_le B2 BW.size)).trans ⟨rfl, rfl, rfl, Nat.le_refl _, fun _ _ => rfl⟩⟩
        · have cs : wr.cell? ⟨b2, 10, none⟩ = some (.string ⟨#[52, 107, 55]⟩) := by rw [cell_of_row wr _ 10 _ _ (0, 0) RB]; rfl
          have cx : wr.cell? ⟨b2, 11, none⟩ = some (.int .i64 2) := by rw [cell_of_row wr _ 11 _ _ (0, 0) RB]; rfl
          go_wp2_with (first
            | (go_at_call 9; (with_reducible refine (parse_no ⟨#[52, 107, 55]⟩ 150 2 bw_5 _).mono ?_); rintro e1 w1 ⟨W1, rfl, B1⟩; have B2 := B1.alloc B1.size (.cells #[.int .i64 150, .int .i64 2] 30); have RB1 := kpq RB B2; have cx1 := cell_of_row _ _ 11 _ _ (0, 0) RB1; have cz := (FB.new w1 150 2).cells))
          obtain ⟨z0, z1⟩ := cz
          have cx2 : (w1.alloc (.cells #[.int .i64 150, .int .i64 2] 30)).cell? ⟨b2, 11, none⟩ = some (.int .i64 2) := cx1
          clear cx1
          obtain ⟨wz, hwz⟩ : ∃ wz, wz = w1.alloc (.cells #[.int .i64 150, .int .i64 2] 30) := ⟨_, rfl⟩
          rw [← hwz] at z0 z1 cx2 B2 RB1 ⊢
          clear hwz
          go_region_held_law (fun W => W.cell? ⟨b2, 11, none⟩ = some (.int .i64 2) ∧ W.cell? ⟨w1.heap.size, 0, none⟩ = some (.int .i64 150) ∧ W.cell? ⟨w1.heap.size, 1, none⟩ = some (.int .i64 2)) (go_keep) (fail)
          go_wp2_with fail
          refine ⟨?_, ?measure⟩
          case measure => simp [intOf]
          (repeat apply Exists.intro)
          refine ⟨?rel, rfl⟩
          case rel => exact ⟨6, by go_num, by omega, RB1, (BW.trans (below_le B2 BW.size)).trans ⟨rfl, rfl, rfl, Nat.le_refl _, fun _ _ => rfl⟩⟩
        · have cs : wr.cell? ⟨b2, 12, none⟩ = some (.string ⟨#[49, 101, 49, 50, 51, 52, 53]⟩) := by rw [cell_of_row wr _ 12 _ _ (0, 0) RB]; rfl
          have cx : wr.cell? ⟨b2, 13, none⟩ = some (.int .i64 6) := by rw [cell_of_row wr _ 13 _ _ (0, 0) RB]; rfl
          go_wp2_with (first
            | (go_at_call 9; (with_reducible refine (parse_no ⟨#[49, 101, 49, 50, 51, 52, 53]⟩ 150 6 bw_6 _).mono ?_); rintro e1 w1 ⟨W1, rfl, B1⟩; have B2 := B1.alloc B1.size (.cells #[.int .i64 150, .int .i64 6] 30); have RB1 := kpq RB B2; have cx1 := cell_of_row _ _ 13 _ _ (0, 0) RB1; have cz := (FB.new w1 150 6).cells))
          obtain ⟨z0, z1⟩ := cz
          have cx2 : (w1.alloc (.cells #[.int .i64 150, .int .i64 6] 30)).cell? ⟨b2, 13, none⟩ = some (.int .i64 6) := cx1
          clear cx1
          obtain ⟨wz, hwz⟩ : ∃ wz, wz = w1.alloc (.cells #[.int .i64 150, .int .i64 6] 30) := ⟨_, rfl⟩
          rw [← hwz] at z0 z1 cx2 B2 RB1 ⊢
          clear hwz
          go_region_held_law (fun W => W.cell? ⟨b2, 13, none⟩ = some (.int .i64 6) ∧ W.cell? ⟨w1.heap.size, 0, none⟩ = some (.int .i64 150) ∧ W.cell? ⟨w1.heap.size, 1, none⟩ = some (.int .i64 6)) (go_keep) (fail)
          go_wp2_with fail
          refine ⟨?_, ?measure⟩
          case measure => simp [intOf]
          (repeat apply Exists.intro)
          refine ⟨?rel, rfl⟩
          case rel => exact ⟨7, by go_num, by omega, RB1, (BW.trans (below_le B2 BW.size)).trans ⟨rfl, rfl, rfl, Nat.le_refl _, fun _ _ => rfl⟩⟩
        · have cs : wr.cell? ⟨b2, 14, none⟩ = some (.string ⟨#[43, 49]⟩) := by rw [cell_of_row wr _ 14 _ _ (0, 0) RB]; rfl
          have cx : wr.cell? ⟨b2, 15, none⟩ = some (.int .i64 0) := by rw [cell_of_row wr _ 15 _ _ (0, 0) RB]; rfl
          go_wp2_with (first
            | (go_at_call 9; (with_reducible refine (parse_no ⟨#[43, 49]⟩ 150 0 bw_7 _).mono ?_); rintro e1 w1 ⟨W1, rfl, B1⟩; have B2 := B1.alloc B1.size (.cells #[.int .i64 150, .int .i64 0] 30); have RB1 := kpq RB B2; have cx1 := cell_of_row _ _ 15 _ _ (0, 0) RB1; have cz := (FB.new w1 150 0).cells))
          obtain ⟨z0, z1⟩ := cz
          have cx2 : (w1.alloc (.cells #[.int .i64 150, .int .i64 0] 30)).cell? ⟨b2, 15, none⟩ = some (.int .i64 0) := cx1
          clear cx1
          obtain ⟨wz, hwz⟩ : ∃ wz, wz = w1.alloc (.cells #[.int .i64 150, .int .i64 0] 30) := ⟨_, rfl⟩
          rw [← hwz] at z0 z1 cx2 B2 RB1 ⊢
          clear hwz
          go_region_held_law (fun W => W.cell? ⟨b2, 15, none⟩ = some (.int .i64 0) ∧ W.cell? ⟨w1.heap.size, 0, none⟩ = some (.int .i64 150) ∧ W.cell? ⟨w1.heap.size, 1, none⟩ = some (.int .i64 0)) (go_keep) (fail)
          go_wp2_with fail
          refine ⟨?_, ?measure⟩
          case measure => simp [intOf]
          (repeat apply Exists.intro)
          refine ⟨?rel, rfl⟩
          case rel => exact ⟨8, by go_num, by omega, RB1, (BW.trans (below_le B2 BW.size)).trans ⟨rfl, rfl, rfl, Nat.le_refl _, fun _ _ => rfl⟩⟩
        · have cs : wr.cell? ⟨b2, 16, none⟩ = some (.string ⟨#[32, 49]⟩) := by rw [cell_of_row wr _ 16 _ _ (0, 0) RB]; rfl
          have cx : wr.cell? ⟨b2, 17, none⟩ = some (.int .i64 0) := by rw [cell_of_row wr _ 17 _ _ (0, 0) RB]; rfl
          go_wp2_with (first
            | (go_at_call 9; (with_reducible refine (parse_no ⟨#[32, 49]⟩ 150 0 bw_8 _).mono ?_); rintro e1 w1 ⟨W1, rfl, B1⟩; have B2 := B1.alloc B1.size (.cells #[.int .i64 150, .int .i64 0] 30); have RB1 := kpq RB B2; have cx1 := cell_of_row _ _ 17 _ _ (0, 0) RB1; have cz := (FB.new w1 150 0).cells))
          obtain ⟨z0, z1⟩ := cz
          have cx2 : (w1.alloc (.cells #[.int .i64 150, .int .i64 0] 30)).cell? ⟨b2, 17, none⟩ = some (.int .i64 0) := cx1
          clear cx1
          obtain ⟨wz, hwz⟩ : ∃ wz, wz = w1.alloc (.cells #[.int .i64 150, .int .i64 0] 30) := ⟨_, rfl⟩
          rw [← hwz] at z0 z1 cx2 B2 RB1 ⊢
          clear hwz
          go_region_held_law (fun W => W.cell? ⟨b2, 17, none⟩ = some (.int .i64 0) ∧ W.cell? ⟨w1.heap.size, 0, none⟩ = some (.int .i64 150) ∧ W.cell? ⟨w1.heap.size, 1, none⟩ = some (.int .i64 0)) (go_keep) (fail)
          go_wp2_with fail
          refine ⟨?_, ?measure⟩
          case measure => simp [intOf]
          (repeat apply Exists.intro)
          refine ⟨?rel, rfl⟩
          case rel => exact ⟨9, by go_num, by omega, RB1, (BW.trans (below_le B2 BW.size)).trans ⟨rfl, rfl, rfl, Nat.le_refl _, fun _ _ => rfl⟩⟩
        · clear RB
          go_wp2_with (go_at_call 13; (with_reducible refine (csign_lit _).mono ?_); rintro e0 w0 ⟨rfl, h0⟩; rw [h0]; clear h0 w0)
          obtain ⟨wC, hC⟩ : ∃ wC, wC = wr := ⟨_, rfl⟩
          subst hC
          obtain ⟨V3, hV3⟩ : ∃ V, V = wC.alloc (.cells #[.string ⟨#[52, 46, 55, 107]⟩, .float .f64 4661889719351640064, .string ⟨#[49, 48, 48, 110]⟩, .float .f64 4502148214488346440, .string ⟨#[49, 48, 48, 109]⟩, .float .f64 4591870180066957722, .string ⟨#[49, 77]⟩, .float .f64 4696837146684686336, .string ⟨#[57, 57, 57, 46, 57]⟩, .float .f64 4652006429231887155, .string ⟨#[45, 48]⟩, .float .f64 9223372036854775808, .string ⟨#[49, 101, 49, 53]⟩, .float .f64 4831355200913801216, .string ⟨#[53, 101, 45, 51, 50, 52]⟩, .float .f64 1, .string ⟨#[49, 50, 46, 51, 52, 53, 54, 55, 56, 77]⟩, .float .f64 4712889646009286656] 39) := ⟨_, rfl⟩
          have RB3 : V3.heap[wC.heap.size]? = some (.cells rw3 39 (0, 0)) := by rw [hV3]; exact heap_alloc_new _ _
          have BW3 : Below w.heap.size w V3 := by rw [hV3]; exact BW.alloc BW.size _
          rw [← hV3]
          clear hV3
          obtain ⟨b3, hb3⟩ : ∃ b, b = wC.heap.size := ⟨_, rfl⟩
          rw [← hb3] at RB3 ⊢
          clear hb3 BW
          go_loopw [10] (fun iv wr => ∃ i : Nat, iv = .int .i64 i ∧ i ≤ 9 ∧ wr.heap[b3]? = some (.cells rw3 39 (0, 0)) ∧ Below w.heap.size w wr) (fun iv _ => 9 - (intOf iv).toNat)
          case atStart => exact ⟨0, rfl, by omega, RB3, BW3⟩
          case round =>
            clear RB3 BW3
            obtain ⟨i, rfl, hi, RB, BW⟩ := hrel
            rcases (by omega : i = 0 ∨ i = 1 ∨ i = 2 ∨ i = 3 ∨ i = 4 ∨ i = 5 ∨ i = 6 ∨ i = 7 ∨ i = 8 ∨ i = 9) with q | q | q | q | q | q | q | q | q | q <;> subst q
            · have cs : wr.cell? ⟨b3, 0, none⟩ = some (.string ⟨#[52, 46, 55, 107]⟩) := by rw [cell_of_row wr _ 0 _ _ (0, 0) RB]; rfl
              have cx : wr.cell? ⟨b3, 1, none⟩ = some (.float .f64 4661889719351640064) := by rw [cell_of_row wr _ 1 _ _ (0, 0) RB]; rfl
              go_wp2_with (go_at_call 7; (with_reducible refine (pr_0 _ (htab.kept BW)).mono ?_); rintro e1 w1 ⟨rfl, B1⟩; have RB1 := kpq RB B1; have cs1 : w1.cell? ⟨b3, 0, none⟩ = some (.string ⟨#[52, 46, 55, 107]⟩) := (by rw [cell_of_row w1 _ 0 _ _ (0, 0) RB1]; rfl))
              go_roundw
              case rel => exact ⟨1, by go_num, by omega, RB1, BW.trans (below_le B1 BW.size)⟩
              case measure => simp [intOf]
            · have cs : wr.cell? ⟨b3, 2, none⟩ = some (.string ⟨#[49, 48, 48, 110]⟩) := by rw [cell_of_row wr _ 2 _ _ (0, 0) RB]; rfl
              have cx : wr.cell? ⟨b3, 3, none⟩ = some (.float .f64 4502148214488346440) := by rw [cell_of_row wr _ 3 _ _ (0, 0) RB]; rfl
              go_wp2_with (go_at_call 7; (with_reducible refine (pr_1 _ (htab.kept BW)).mono ?_); rintro e1 w1 ⟨rfl, B1⟩; have RB1 := kpq RB B1; have cs1 : w1.cell? ⟨b3, 2, none⟩ = some (.string ⟨#[49, 48, 48, 110]⟩) := (by rw [cell_of_row w1 _ 2 _ _ (0, 0) RB1]; rfl))
              go_roundw
              case rel => exact ⟨2, by go_num, by omega, RB1, BW.trans (below_le B1 BW.size)⟩
              case measure => simp [intOf]
            · have cs : wr.cell? ⟨b3, 4, none⟩ = some (.string ⟨#[49, 48, 48, 109]⟩) := by rw [cell_of_row wr _ 4 _ _ (0, 0) RB]; rfl
              have cx : wr.cell? ⟨b3, 5, none⟩ = some (.float .f64 4591870180066957722) := by rw [cell_of_row wr _ 5 _ _ (0, 0) RB]; rfl
              go_wp2_with (go_at_call 7; (with_reducible refine (pr_2 _ (htab.kept BW)).mono ?_); rintro e1 w1 ⟨rfl, B1⟩; have RB1 := kpq RB B1; have cs1 : w1.cell? ⟨b3, 4, none⟩ = some (.string ⟨#[49, 48, 48, 109]⟩) := (by rw [cell_of_row w1 _ 4 _ _ (0, 0) RB1]; rfl))
              go_roundw
              case rel => exact ⟨3, by go_num, by omega, RB1, BW.trans (below_le B1 BW.size)⟩
              case measure => simp [intOf]
            · have cs : wr.cell? ⟨b3, 6, none⟩ = some (.string ⟨#[49, 77]⟩) := by rw [cell_of_row wr _ 6 _ _ (0, 0) RB]; rfl
              have cx : wr.cell? ⟨b3, 7, none⟩ = some (.float .f64 4696837146684686336) := by rw [cell_of_row wr _ 7 _ _ (0, 0) RB]; rfl
              go_wp2_with (go_at_call 7; (with_reducible refine (pr_3 _ (htab.kept BW)).mono ?_); rintro e1 w1 ⟨rfl, B1⟩; have RB1 := kpq RB B1; have cs1 : w1.cell? ⟨b3, 6, none⟩ = some (.string ⟨#[49, 77]⟩) := (by rw [cell_of_row w1 _ 6 _ _ (0, 0) RB1]; rfl))
              go_roundw
              case rel => exact ⟨4, by go_num, by omega, RB1, BW.trans (below_le B1 BW.size)⟩
              case measure => simp [intOf]
            · have cs : wr.cell? ⟨b3, 8, none⟩ = some (.string ⟨#[57, 57, 57, 46, 57]⟩) := by rw [cell_of_row wr _ 8 _ _ (0, 0) RB]; rfl
              have cx : wr.cell? ⟨b3, 9, none⟩ = some (.float .f64 4652006429231887155) := by rw [cell_of_row wr _ 9 _ _ (0, 0) RB]; rfl
              go_wp2_with (go_at_call 7; (with_reducible refine (pr_4 _ (htab.kept BW)).mono ?_); rintro e1 w1 ⟨rfl, B1⟩; have RB1 := kpq RB B1; have cs1 : w1.cell? ⟨b3, 8, none⟩ = some (.string ⟨#[57, 57, 57, 46, 57]⟩) := (by rw [cell_of_row w1 _ 8 _ _ (0, 0) RB1]; rfl))
              go_roundw
              case rel => exact ⟨5, by go_num, by omega, RB1, BW.trans (below_le B1 BW.size)⟩
              case measure => simp [intOf]
            · have cs : wr.cell? ⟨b3, 10, none⟩ = some (.string ⟨#[45, 48]⟩) := by rw [cell_of_row wr _ 10 _ _ (0, 0) RB]; rfl
              have cx : wr.cell? ⟨b3, 11, none⟩ = some (.float .f64 9223372036854775808) := by rw [cell_of_row wr _ 11 _ _ (0, 0) RB]; rfl
              go_wp2_with (go_at_call 7; (with_reducible refine (pr_m0 _ (htab.kept BW)).mono ?_); rintro e1 w1 ⟨rfl, B1⟩; have RB1 := kpq RB B1; have cs1 : w1.cell? ⟨b3, 10, none⟩ = some (.string ⟨#[45, 48]⟩) := (by rw [cell_of_row w1 _ 10 _ _ (0, 0) RB1]; rfl))
              go_roundw
              case rel => exact ⟨6, by go_num, by omega, RB1, BW.trans (below_le B1 BW.size)⟩
              case measure => simp [intOf]
            · have cs : wr.cell? ⟨b3, 12, none⟩ = some (.string ⟨#[49, 101, 49, 53]⟩) := by rw [cell_of_row wr _ 12 _ _ (0, 0) RB]; rfl
              have cx : wr.cell? ⟨b3, 13, none⟩ = some (.float .f64 4831355200913801216) := by rw [cell_of_row wr _ 13 _ _ (0, 0) RB]; rfl
              go_wp2_with (go_at_call 7; (with_reducible refine (pr_5 _ (htab.kept BW)).mono ?_); rintro e1 w1 ⟨rfl, B1⟩; have RB1 := kpq RB B1; have cs1 : w1.cell? ⟨b3, 12, none⟩ = some (.string ⟨#[49, 101, 49, 53]⟩) := (by rw [cell_of_row w1 _ 12 _ _ (0, 0) RB1]; rfl))
              go_roundw
              case rel => exact ⟨7, by go_num, by omega, RB1, BW.trans (below_le B1 BW.size)⟩
              case measure => simp [intOf]
            · have cs : wr.cell? ⟨b3, 14, none⟩ = some (.string ⟨#[53, 101, 45, 51, 50, 52]⟩) := by rw [cell_of_row wr _ 14 _ _ (0, 0) RB]; rfl
              have cx : wr.cell? ⟨b3, 15, none⟩ = some (.float .f64 1) := by rw [cell_of_row wr _ 15 _ _ (0, 0) RB]; rfl
              go_wp2_with (go_at_call 7; (with_reducible refine (pr_6 _ (htab.kept BW)).mono ?_); rintro e1 w1 ⟨rfl, B1⟩; have RB1 := kpq RB B1; have cs1 : w1.cell? ⟨b3, 14, none⟩ = some (.string ⟨#[53, 101, 45, 51, 50, 52]⟩) := (by rw [cell_of_row w1 _ 14 _ _ (0, 0) RB1]; rfl))
              go_roundw
              case rel => exact ⟨8, by go_num, by omega, RB1, BW.trans (below_le B1 BW.size)⟩
              case measure => simp [intOf]
            · have cs : wr.cell? ⟨b3, 16, none⟩ = some (.string ⟨#[49, 50, 46, 51, 52, 53, 54, 55, 56, 77]⟩) := by rw [cell_of_row wr _ 16 _ _ (0, 0) RB]; rfl
              have cx : wr.cell? ⟨b3, 17, none⟩ = some (.float .f64 4712889646009286656) := by rw [cell_of_row wr _ 17 _ _ (0, 0) RB]; rfl
              go_wp2_with (go_at_call 7; (with_reducible refine (pr_7 _ (htab.kept BW)).mono ?_); rintro e1 w1 ⟨rfl, B1⟩; have RB1 := kpq RB B1; have cs1 : w1.cell? ⟨b3, 16, none⟩ = some (.string ⟨#[49, 50, 46, 51, 52, 53, 54, 55, 56, 77]⟩) := (by rw [cell_of_row w1 _ 16 _ _ (0, 0) RB1]; rfl))
              go_roundw
              case rel => exact ⟨9, by go_num, by omega, RB1, BW.trans (below_le B1 BW.size)⟩
              case measure => simp [intOf]
            · go_wp2_with (first
                | (go_at_call 9; (with_reducible refine (parse_no ⟨#[49, 101, 51, 48, 57]⟩ 6 (-1) rd_o1 _).mono ?_); rintro e1 w1 ⟨W1, rfl, B1⟩; have C1 := BW.trans (below_le (B1.alloc B1.size (.cells #[.int .i64 6, .int .i64 (-1)] 30)) BW.size); have F1 := FB.new w1 6 (-1); have G1 := (Below.refl w1.heap.size w1).alloc (Nat.le_refl _) (.cells #[.int .i64 6, .int .i64 (-1)] 30))
                | (go_at_call 9; (with_reducible refine (parse_no ⟨#[49, 101, 57, 57, 57]⟩ 6 (-1) rd_o2 _).mono ?_); rintro e2 w2 ⟨W2, rfl, B2⟩; have C2 := C1.trans (below_le (B2.alloc B2.size (.cells #[.int .i64 6, .int .i64 (-1)] 30)) C1.size); have F2 := FB.new w2 6 (-1); have F1b := (F1.kept B2).al (.cells #[.int .i64 6, .int .i64 (-1)] 30))
                | (go_at_call 9; (with_reducible refine (parse_ok ⟨#[57, 57, 57, 57, 57, 57, 57, 57, 57, 57, 57, 57, 57, 57, 57, 57, 57, 57, 57, 57, 57, 57, 57, 57, 57, 57, 57, 57, 57, 57, 57, 57, 57, 57, 57, 57, 57, 57, 57, 57, 57, 57, 57, 57, 57, 57, 57, 57, 57, 57, 57, 57, 57, 57, 57, 57, 57, 57, 57, 57, 57, 57, 57, 57]⟩ _ rd_n64 _).mono ?_); rintro e3 w3 ⟨rfl, B3⟩; have C3 := C2.trans (below_le (B3.alloc B3.size (.cells #[.int .i64 0, .int .i64 0] 30)) C2.size); have F3 := FB.new w3 0 0; have F1c := (F1b.kept B3).al (.cells #[.int .i64 0, .int .i64 0] 30); have F2c := (F2.kept B3).al (.cells #[.int .i64 0, .int .i64 0] 30))
                | (go_at_call 9; (with_reducible refine (parse_no (⟨#[57, 57, 57, 57, 57, 57, 57, 57, 57, 57, 57, 57, 57, 57, 57, 57, 57, 57, 57, 57, 57, 57, 57, 57, 57, 57, 57, 57, 57, 57, 57, 57, 57, 57, 57, 57, 57, 57, 57, 57, 57, 57, 57, 57, 57, 57, 57, 57, 57, 57, 57, 57, 57, 57, 57, 57, 57, 57, 57, 57, 57, 57, 57, 57]⟩ ++ ⟨#[57]⟩) 3 (-1) rd_65 _).mono ?_); rintro e4 w4 ⟨W4, rfl, B4⟩; have C4 := C3.trans (below_le (B4.alloc B4.size (.cells #[.int .i64 3, .int .i64 (-1)] 30)) C3.size); have F4 := FB.new w4 3 (-1); have F1d := (F1c.kept B4).al (.cells #[.int .i64 3, .int .i64 (-1)] 30); have F2d := (F2c.kept B4).al (.cells #[.int .i64 3, .int .i64 (-1)] 30); have F3d := (F3.kept B4).al (.cells #[.int .i64 3, .int .i64 (-1)] 30))
                | (go_at_call 14; (with_reducible refine (nan_lit _).mono ?_); rintro e5 w5 ⟨x5, rfl, h5, h6, rfl⟩)
                | (go_at_call 7; (with_reducible refine (print_inf x5 h5 h6 _).mono ?_); rintro e6 w6 ⟨rfl, rfl⟩)
                | (go_at_call 15; (with_reducible refine (inf_lit _).mono ?_); rintro e7 w7 ⟨x7, rfl, h7, h8, rfl⟩)
                | (go_at_call 10; (with_reducible refine (short_inf x7 h7 h8 _).mono ?_); rintro e8 w8 ⟨rfl, rfl⟩)
                | (go_at_call 8; (with_reducible refine (lives5_any _ (htab.kept C4)).mono ?_); rintro e9 w9 ⟨rfl, B9⟩; obtain ⟨x1, y1⟩ := (F1d.kept B9).cells; obtain ⟨x2, y2⟩ := (F2d.kept B9).cells; obtain ⟨x3, y3⟩ := (F3d.kept B9).cells; obtain ⟨x4, y4⟩ := (F4.kept B9).cells))
              go_ret
              exact ⟨rfl, C4.trans (below_le B9 C4.size)⟩

end Go.Proofs.YtpfdgibgdehcdaaDoor
