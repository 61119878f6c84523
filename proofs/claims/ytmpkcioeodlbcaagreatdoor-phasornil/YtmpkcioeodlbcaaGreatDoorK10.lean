/-
  Kept of Npa.
-/
import Derived.Test.YtmpkcioeodlbcaaGreatDoorK01
import Derived.Test.YtmpkcioeodlbcaaGreatDoorK05
import Derived.Test.YtmpkcioeodlbcaaGreatDoorK09
namespace Go.Proofs.YtmpkcioeodlbcaaGreatDoor
open Go.Maps Go.RowKit Joins Deep
set_option linter.unusedVariables false
set_option maxRecDepth 100000
theorem clone_any (s : ByteArray) (w : World) (hs : s.size ≤ 281474976710656) :
    Calls Tryz.prog 154 #[.string s] w fun e w' => e = .returned (.string s) ∧ Below w.heap.size w w' := by
  have h : ∀ W : World, Calls Tryz.prog 197 #[.string s] W fun e w' => e = .returned (.string s) ∧ Below W.heap.size W w' := fun W => Go.Proofs.Any.stringslite_Clone scM316 s W hs
  go_enter Tryz.func154, Tryz.ntmps154
  go_wp2_with (first | (go_at_call 197; (with_reducible refine (h _).mono ?_); rintro e w1 ⟨rfl, hb⟩))
  go_ret
  exact ⟨rfl, hb⟩
theorem infoTx : (Tryz.prog.info? 9).map (fun i => (i.zero, i.size, i.bytes)) = some (some (.string ⟨#[]⟩), 1, 16) := by kernel_rfl
/-- the copies so far -/
structure Cps (w wr : World) (n k : Nat) (ts : List Tok) : Prop where
  bel : Below w.heap.size w wr
  row : ∃ cs : Array Value, wr.heap[w.heap.size]? = some (.cells cs 9 (0, 0)) ∧ cs.size = n ∧ ∀ (j : Nat) (p : Tok), j < k → ts[j]? = some p → cs[j]? = some (.string p.1)
theorem Cps.next {w wr w1 : World} {n k : Nat} {ts : List Tok} {p : Tok} (h : Cps w wr n k ts) (hk : k < n) (hp : ts[k]? = some p) (hb : Below wr.heap.size wr w1) : Cps w (w1.setCell ⟨w.heap.size, k, none⟩ (.string p.1)) n (k + 1) ts := by
  obtain ⟨cs, h1, h2, h3⟩ := h.row
  have hlt : w.heap.size < wr.heap.size := (Array.getElem?_eq_some_iff.1 h1).1
  have h4 : w1.heap[w.heap.size]? = some (.cells cs 9 (0, 0)) := (hb.block _ hlt).trans h1
  refine ⟨((h.bel.trans (hb.mono h.bel.size)).setCell (p := ⟨w.heap.size, k, none⟩) (Nat.le_refl _) _), cs.setIfInBounds k (.string p.1), heap_setCell_same _ _ _ _ _ _ h4, by rw [Array.size_setIfInBounds]; exact h2, ?_⟩
  intro j q hj hq
  rw [Array.getElem?_setIfInBounds]
  by_cases hjk : k = j
  · subst hjk
    rw [if_pos rfl, if_pos (by omega)]
    rw [hp] at hq; cases hq; rfl
  · rw [if_neg hjk]
    exact h3 j q (by omega) hq
theorem Cps.cellW {w wr w1 : World} {n k : Nat} {ts : List Tok} (h : Cps w wr n k ts) (hk : k < n) (hb : Below wr.heap.size wr w1) : (∃ u, w1.cell? ⟨w.heap.size, k, none⟩ = some u) ∧ w1.frozen? ⟨w.heap.size, k, none⟩ = false := by
  obtain ⟨cs, h1, h2, h3⟩ := h.row
  have hlt : w.heap.size < wr.heap.size := (Array.getElem?_eq_some_iff.1 h1).1
  have h4 : w1.heap[w.heap.size]? = some (.cells cs 9 (0, 0)) := (hb.block _ hlt).trans h1
  refine ⟨⟨cs[k]'(by omega), ?_⟩, frozen_of_row _ _ _ _ _ h4⟩
  rw [cell_of_row _ _ _ _ _ (0, 0) h4]
  exact Array.getElem?_eq_getElem (by omega)
theorem undralloc {w w1 : World} {o : Obj} (h : Below (w.alloc o).heap.size (w.alloc o) w1) : Below w.heap.size w w1 := ((Below.refl _ w).alloc (Nat.le_refl _) o).trans (h.mono (by simp))
set_option maxHeartbeats 2000000 in
theorem texts_any (w : World) (B n c : Nat) (ts : List Tok) (hl : ts.length = n) (hn : n ≤ 65536) (hsz : ∀ p ∈ ts, p.1.size ≤ 65536)
    (hc : ∀ (k : Nat) (p : Tok), ts[k]? = some p → w.cell? ⟨B, k * 3, none⟩ = some (.string p.1) ∧ w.cell? ⟨B, k * 3 + 1, none⟩ = some (.int .i64 p.2.1) ∧ w.cell? ⟨B, k * 3 + 2, none⟩ = some (.int .i64 p.2.2)) :
    Calls Tryz.prog 107 #[.slice (some ⟨B, 0, none⟩) n c] w fun e w' => e = .returned (.slice (some ⟨w.heap.size, 0, none⟩) n n) ∧ Wd w' w.heap.size (ts.map (·.1)) ∧ Below w.heap.size w w' := by
  have hmk := run_make_row' (P := Tryz.prog) 61 9 (.string ⟨#[]⟩) 16 Tryz.underlying61 infoTx rfl .i64 .i64 n (by omega) (by omega)
  have HC : Hid _ := hc
  have HL : Hid (ts.length = n) := hl
  have HZ : Hid _ := hsz
  have C0 : Hid (Cps w (w.alloc (.cells (madeCells #[.string ⟨#[]⟩] n) 9)) n 0 ts) := ⟨(Below.refl _ _).alloc (Nat.le_refl _) _, _, heap_alloc_new w _, by simp [size_madeCells], fun j p hj => by omega⟩
  clear hc hl hsz
  go_enter Tryz.func107, Tryz.ntmps107
  go_wp2_with fail
  go_loopw [11] (fun iv wr => ∃ k : Nat, iv = .int .i64 k ∧ k ≤ n ∧ Hid (Cps w wr n k ts)) (fun iv _ => n - (intOf iv).toNat)
  case atStart => exact ⟨0, rfl, Nat.zero_le _, C0⟩
  case round =>
    obtain ⟨k, rfl, hle, HI⟩ := hrel
    by_cases hk : k < n
    · obtain ⟨p, hp⟩ : ∃ p, ts[k]? = some p := ⟨_, List.getElem?_eq_getElem (by have := HL.out; omega)⟩
      obtain ⟨q0, q1, q2⟩ := HC.out k p hp
      have hB := World.block_lt_of_cell? w _ q0
      have r0 := (HI.out.bel.cell (p := ⟨B, k * 3, none⟩) hB).trans q0
      have r1 := (HI.out.bel.cell (p := ⟨B, k * 3 + 1, none⟩) hB).trans q1
      have r2 := (HI.out.bel.cell (p := ⟨B, k * 3 + 2, none⟩) hB).trans q2
      have hki : (k : Int) < (n : Int) := by omega
      have HP : Hid (ts[k]? = some p) := hp
      have HK : Hid (p.1.size ≤ 281474976710656) := by have := HZ.out p (List.mem_of_getElem? hp); exact (by omega : p.1.size ≤ 281474976710656)
      clear hp q0 q1 q2 hB
      go_wp2_with (first | (go_at_call 154; (with_reducible refine (clone_any _ _ HK.out).mono ?_); rintro e w1 ⟨rfl, hb⟩; (have hb2 := undralloc hb); (obtain ⟨⟨u, hu⟩, hf⟩ := HI.out.cellW hk hb2); (have HB2 : Hid _ := hb2); clear hb hb2))
      go_roundw
      case rel => exact ⟨k + 1, by go_num, by omega, HI.out.next hk HP.out HB2.out⟩
      case measure => simp [intOf]; omega
    · have hkn : k = n := by omega
      subst hkn
      have hkk : ¬ ((k : Int) < (k : Int)) := by omega
      go_wp2_with fail
      go_ret
      refine ⟨rfl, ?_, HI.out.bel⟩
      obtain ⟨cs, h1, h2, h3⟩ := HI.out.row
      intro j u hj
      rw [List.getElem?_map, Option.map_eq_some_iff] at hj
      obtain ⟨p, hp, rfl⟩ := hj
      rw [cell_of_row _ _ _ _ _ (0, 0) h1]
      exact h3 j p (by have := (List.getElem?_eq_some_iff.1 hp).1; have := HL.out; omega) hp
end Go.Proofs.YtmpkcioeodlbcaaGreatDoor
