/-
  Elements: the document's table (Rows, row, Letter, Unit, Of, Name of gridworkref13).
-/
import Derived.Test.YtcakfclfggnmbaaElc
namespace Go.Proofs.Ytcakfclfggnmbaa
open Fl RowKit
set_option linter.unusedVariables false

/-- the table's cells -/
def tabV : Array Value := #[Value.int IntKind.u8 1, Value.int IntKind.u8 82, Value.string { data := #[111, 104, 109] }, Value.bool true,
          Value.bool false, Value.bool false, Value.int IntKind.u8 2, Value.int IntKind.u8 76,
          Value.string { data := #[104, 101, 110, 114, 121] }, Value.bool true, Value.bool false, Value.bool false,
          Value.int IntKind.u8 3, Value.int IntKind.u8 67, Value.string { data := #[102, 97, 114, 97, 100] },
          Value.bool true, Value.bool false, Value.bool false, Value.int IntKind.u8 4, Value.int IntKind.u8 73,
          Value.string { data := #[97, 109, 112, 101, 114, 101] }, Value.bool false, Value.bool true, Value.bool false,
          Value.int IntKind.u8 5, Value.int IntKind.u8 86, Value.string { data := #[118, 111, 108, 116] },
          Value.bool false, Value.bool true, Value.bool false, Value.int IntKind.u8 6, Value.int IntKind.u8 71,
          Value.string { data := #[115, 105, 101, 109, 101, 110, 115] }, Value.bool false, Value.bool false,
          Value.bool true, Value.int IntKind.u8 7, Value.int IntKind.u8 69, Value.string { data := #[] },
          Value.bool false, Value.bool false, Value.bool true, Value.int IntKind.u8 8, Value.int IntKind.u8 80,
          Value.string { data := #[111, 104, 109] }, Value.bool true, Value.bool false, Value.bool false]
/-- the table in memory -/
structure Tab (w : World) (p : Nat) : Prop where
  blk : w.heap[p]? = some (.cells tabV 121 (0, 0))
theorem Tab.lt {w : World} {p : Nat} (h : Tab w p) : p < w.heap.size := (Array.getElem?_eq_some_iff.1 h.blk).1
theorem Tab.cell {w : World} {p : Nat} (h : Tab w p) (j : Nat) : w.cell? ⟨p, j, none⟩ = tabV[j]? := by
  rw [cell_of_row w p j _ _ (0, 0) h.blk]
theorem Tab.row {w : World} {p i : Nat} (h : Tab w p) (hi : i < 8) : w.cell? ⟨p, i * 6, none⟩ = some (.int .u8 ((i + 1 : Nat) : Int)) ∧ w.cell? ⟨p, i * 6 + 1, none⟩ = some (.int .u8 (ltr (i + 1) : Nat)) ∧ w.cell? ⟨p, i * 6 + 2, none⟩ = some (.string (unS (i + 1))) ∧
    w.cell? ⟨p, i * 6 + 3, none⟩ = some (.bool (abv (i + 1))) ∧ w.cell? ⟨p, i * 6 + 4, none⟩ = some (.bool (phs (i + 1))) ∧ w.cell? ⟨p, i * 6 + 5, none⟩ = some (.bool (fou (i + 1))) := by
  simp only [h.cell]
  rcases (show i = 0 ∨ i = 1 ∨ i = 2 ∨ i = 3 ∨ i = 4 ∨ i = 5 ∨ i = 6 ∨ i = 7 from by omega) with rfl | rfl | rfl | rfl | rfl | rfl | rfl | rfl <;> exact ⟨rfl, rfl, rfl, rfl, rfl, rfl⟩
theorem Tab.below {w w' : World} {p : Nat} (h : Tab w p) (hb : Below w.heap.size w w') : Tab w' p := ⟨by rw [hb.block p h.lt]; exact h.blk⟩
set_option maxRecDepth 100000 in
set_option maxHeartbeats 2000000 in
theorem rows_any (w : World) :
    Calls Try.prog 83 #[] w fun e w' => e = .returned (.slice (some ⟨w.heap.size, 0, none⟩) 8 8) ∧ Tab w' w.heap.size ∧ Below w.heap.size w w' := by
  go_enter Try.func83, Try.ntmps83
  go_wp2_with fail
  go_ret
  exact ⟨rfl, ⟨heap_alloc_new w _⟩, (Below.refl _ _).alloc (Nat.le_refl _) _⟩
theorem al_size (w : World) (o : Obj) : (w.alloc o).heap.size = w.heap.size + 1 := by simp
theorem below_up {w w' : World} {o : Obj} (h : Below (w.heap.size + 1) (w.alloc o) w') : Below w.heap.size w w' :=
  ((Below.refl _ w).alloc (Nat.le_refl _) o).trans (h.mono (by omega))
/-- a struct of six cells that may be written -/
structure V6 (w : World) (p : Nat) (a b c d e f : Value) : Prop where
  blk : w.heap[p]? = some (.cells #[a, b, c, d, e, f] 121 (0, 0))
theorem v6_of {w w' : World} {a b c d e f : Value} (h : Below (w.heap.size + 1) (w.alloc (.cells #[a, b, c, d, e, f] 121)) w') : V6 w' w.heap.size a b c d e f :=
  ⟨by rw [h.block _ (by omega)]; exact heap_alloc_new w _⟩
theorem V6.cells {w : World} {p : Nat} {a b c d e f : Value} (h : V6 w p a b c d e f) : w.cell? ⟨p, 0, none⟩ = some a ∧ w.cell? ⟨p, 1, none⟩ = some b ∧ w.cell? ⟨p, 2, none⟩ = some c ∧ w.cell? ⟨p, 3, none⟩ = some d ∧ w.cell? ⟨p, 4, none⟩ = some e ∧ w.cell? ⟨p, 5, none⟩ = some f := by
  refine ⟨?_, ?_, ?_, ?_, ?_, ?_⟩ <;> rw [cell_of_row w p _ _ _ (0, 0) h.blk] <;> rfl
theorem V6.free {w : World} {p : Nat} {a b c d e f : Value} (h : V6 w p a b c d e f) (j : Nat) : w.frozen? ⟨p, j, none⟩ = false := frozen_of_row w p j _ _ h.blk
theorem V6.put {w : World} {p : Nat} {a b c d e f : Value} (h : V6 w p a b c d e f) (x : Value) : V6 (w.setCell ⟨p, 0, none⟩ x) p x b c d e f ∧ V6 (w.setCell ⟨p, 1, none⟩ x) p a x c d e f ∧ V6 (w.setCell ⟨p, 2, none⟩ x) p a b x d e f ∧ V6 (w.setCell ⟨p, 3, none⟩ x) p a b c x e f ∧ V6 (w.setCell ⟨p, 4, none⟩ x) p a b c d x f ∧ V6 (w.setCell ⟨p, 5, none⟩ x) p a b c d e x :=
  ⟨⟨heap_setCell_same _ p 0 _ _ _ h.blk⟩, ⟨heap_setCell_same _ p 1 _ _ _ h.blk⟩, ⟨heap_setCell_same _ p 2 _ _ _ h.blk⟩, ⟨heap_setCell_same _ p 3 _ _ _ h.blk⟩, ⟨heap_setCell_same _ p 4 _ _ _ h.blk⟩, ⟨heap_setCell_same _ p 5 _ _ _ h.blk⟩⟩
/-- six cells written -/
def set6 (w : World) (p : Nat) (a b c d e f : Value) : World := (((((w.setCell ⟨p, 0, none⟩ a).setCell ⟨p, 1, none⟩ b).setCell ⟨p, 2, none⟩ c).setCell ⟨p, 3, none⟩ d).setCell ⟨p, 4, none⟩ e).setCell ⟨p, 5, none⟩ f
theorem V6.puts {w : World} {p : Nat} {a b c d e f : Value} (h : V6 w p a b c d e f) (a' b' c' d' e' f' : Value) : V6 (set6 w p a' b' c' d' e' f') p a' b' c' d' e' f' :=
  ((((((h.put a').1.put b').2.1.put c').2.2.1.put d').2.2.2.1.put e').2.2.2.2.1.put f').2.2.2.2.2
theorem below_set6 {n p : Nat} {w w' : World} (h : Below n w w') (hp : n ≤ p) (a b c d e f : Value) : Below n w (set6 w' p a b c d e f) :=
  (((((h.setCell (p := ⟨p, 0, none⟩) hp _).setCell (p := ⟨p, 1, none⟩) hp _).setCell (p := ⟨p, 2, none⟩) hp _).setCell (p := ⟨p, 3, none⟩) hp _).setCell (p := ⟨p, 4, none⟩) hp _).setCell (p := ⟨p, 5, none⟩) hp _
/-- the document's row of a kind -/
def rk (k : Nat) : Nat := if ltr k = 0 then 0 else k
def rowV (k : Nat) : Value := .agg #[.int .u8 ((rk k : Nat) : Int), .int .u8 (ltr k : Nat), .string (unS k), .bool (abv k), .bool (phs k), .bool (fou k)]
set_option maxRecDepth 100000 in
set_option maxHeartbeats 2000000 in
theorem vrow_any (k : Nat) (w : World) (hk : k < 256) :
    Calls Try.prog 72 #[.int .u8 (k : Int)] w fun e w' => e = .returned (.tuple #[rowV k, .bool (ltr k != 0)]) ∧ Below w.heap.size w w' := by
  go_enter Try.func72, Try.ntmps72
  go_wp2_with (first | (go_at_call 83; (with_reducible refine (rows_any _).mono ?_); rintro e w' ⟨rfl, ht, hb⟩; (rw [al_size] at ht hb); (have HT : Hid (Tab w' (w.heap.size + 1)) := ht); (have HB : Hid (Below w.heap.size w w' ∧ Below (w.heap.size + 1) (w.alloc (.cells #[.int .u8 0, .int .u8 0, .string ⟨#[]⟩, .bool false, .bool false, .bool false] 121)) w') := ⟨below_up hb, hb⟩); (have V0 := v6_of hb); clear hb ht))
  go_loopw [5] (fun iv wr => ∃ i : Nat, iv = .int .i64 i ∧ i ≤ 8 ∧ (∀ j, j < i → j + 1 ≠ k) ∧ wr = w') (fun iv _ => 8 - (intOf iv).toNat)
  case atStart => exact ⟨0, rfl, by omega, fun j h1 => absurd h1 (by omega), rfl⟩
  case round =>
    obtain ⟨i, rfl, hi8, hno, hw⟩ := hrel
    subst hw
    have HN : Hid (∀ j, j < i → j + 1 ≠ k) := hno
    clear hno
    by_cases hi : i < 8
    · obtain ⟨q0, q1, q2, q3, q4, q5⟩ := HT.out.row hi
      obtain ⟨v0, v1, v2, v3, v4, v5⟩ := V0.cells
      have f0 := V0.free 0
      have f1 := V0.free 1
      have f2 := V0.free 2
      have f3 := V0.free 3
      have f4 := V0.free 4
      have f5 := V0.free 5
      have HV : Hid _ := V0
      clear V0
      by_cases he : i + 1 = k
      · have he2 : ((((i + 1 : Nat)) : Int) == (k : Int)) = true := by rw [he]; simp
        go_wp2_with fail
        have P := HV.out.puts (.int .u8 (k : Int)) (.int .u8 (ltr k : Nat)) (.string (unS k)) (.bool (abv k)) (.bool (phs k)) (.bool (fou k))
        obtain ⟨z0, z1, z2, z3, z4, z5⟩ := P.cells
        unfold set6 at z0 z1 z2 z3 z4 z5
        have hl : ltr k ≠ 0 := by
          intro q
          have := of_ltr (k := k) (by omega) (by omega)
          rw [q] at this
          have h0 : ofK 0 = 0 := rfl
          omega
        refine bodyPost_ret (by simp [results, Try.results72, go_sem, z0, z1, z2, z3, z4, z5]; try rfl) rfl ?_
        refine ⟨?_, below_set6 HB.out.1 (Nat.le_refl _) _ _ _ _ _ _⟩
        unfold rowV rk
        rw [if_neg hl, show (ltr k != 0) = true from by simp [hl]]
      · have he2 : (((i + 1 : Nat) : Int) == (k : Int)) = false := by simp; omega
        go_wp2_with fail
        go_roundw
        case rel =>
          refine ⟨i + 1, by go_num, by omega, fun j h1 => ?_, trivial⟩
          rcases Nat.lt_succ_iff_lt_or_eq.1 h1 with h | rfl
          · exact HN.out j h
          · exact he
        case measure => simp [intOf]; omega
    · have e : i = 8 := by omega
      subst e
      have hk0 : k = 0 ∨ 8 < k := by
        have h1 := HN.out 0 (by omega)
        have h2 := HN.out 1 (by omega)
        have h3 := HN.out 2 (by omega)
        have h4 := HN.out 3 (by omega)
        have h5 := HN.out 4 (by omega)
        have h6 := HN.out 5 (by omega)
        have h7 := HN.out 6 (by omega)
        have h8 := HN.out 7 (by omega)
        omega
      obtain ⟨e1, e2, e3, e4, e5⟩ := nat_none hk0
      have hr : rowV k = .agg #[.int .u8 0, .int .u8 0, .string ⟨#[]⟩, .bool false, .bool false, .bool false] := by
        unfold rowV rk; rw [e1, e2, e3, e4, e5]; rfl
      have hl : (ltr k != 0) = false := by rw [e1]; rfl
      have HR : Hid (rowV k = .agg #[.int .u8 0, .int .u8 0, .string ⟨#[]⟩, .bool false, .bool false, .bool false] ∧ (ltr k != 0) = false) := ⟨hr, hl⟩
      clear hk0 e1 e2 e3 e4 e5 hr hl
      obtain ⟨v0, v1, v2, v3, v4, v5⟩ := V0.cells
      have f0 := V0.free 0
      have f1 := V0.free 1
      have f2 := V0.free 2
      have f3 := V0.free 3
      have f4 := V0.free 4
      have f5 := V0.free 5
      have HV : Hid _ := V0
      clear V0
      go_wp2_with fail
      have P := HV.out.puts (.int .u8 0) (.int .u8 0) (.string ⟨#[]⟩) (.bool false) (.bool false) (.bool false)
      obtain ⟨z0, z1, z2, z3, z4, z5⟩ := P.cells
      unfold set6 at z0 z1 z2 z3 z4 z5
      refine bodyPost_ret (by simp [results, Try.results72, go_sem, z0, z1, z2, z3, z4, z5]; try rfl) rfl ?_
      refine ⟨?_, below_set6 HB.out.1 (Nat.le_refl _) _ _ _ _ _ _⟩
      rw [HR.out.1, HR.out.2]
end Go.Proofs.Ytcakfclfggnmbaa
