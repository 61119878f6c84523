/-
  An element's words written and joined: writeSource of package netlist, strings.Join.
-/
import Derived.Test.YtjoncbfaajcioaaGreatDoorNpw
import Derived.Test.YtjoncbfaajcioaaGreatDoorShj
import Derived.Deep.AppendLies
import Derived.Laws.OwnMore
import Derived.Deep.Onto
namespace Go.Proofs.YtjoncbfaajcioaaGreatDoor
open Go.Maps Go.RowKit Joins Deep
set_option linter.unusedVariables false
set_option maxRecDepth 100000

theorem Tryz.infoT : (Tryz.prog.info? 9).map (fun i => (i.zero, i.size, i.bytes)) = some (some (.string ⟨#[]⟩), 1, 16) := by kernel_rfl
theorem own_blk {w : World} {B n : Nat} {cs : Array Value} {T : TypeId} (h : w.heap[B]? = some (.cells cs T (0, 0))) (hn : cs.size = n) (hm : n ≤ 1000) : w.ownsRow B T 1 (.slice (some ⟨B, 0, none⟩) n n) n cs.toList :=
  ⟨by simpa using hn, .inr ⟨B, n, cs, rfl, Nat.le_refl _, h, Nat.le_refl _, by unfold maxLen; omega, by omega, List.take_of_length_le (by rw [Array.length_toList]; omega)⟩⟩
/-- a list of texts in memory, above L -/
def StrR (w : World) (L : Nat) (v : Value) (xs : List ByteArray) : Prop := w.ownsRow L 9 1 v xs.length (xs.map .string) ∧ 0 < xs.length
theorem strJoin {w : World} {L : Nat} {v : Value} {xs : List ByteArray} (h : StrR w L v xs) (hx : xs.length ≤ 1000) (sep : ByteArray) (hl : (Lib.join (xs.map (·.data.toList)) sep.data.toList).length ≤ 140737488355328) :
    Calls Tryz.prog 38 #[v, .string sep] w fun e w' => e = .returned (.string ⟨(Lib.join (xs.map (·.data.toList)) sep.data.toList).toArray⟩) ∧ Below w.heap.size w w' := by
  have h0 := h.1
  obtain ⟨_, ⟨rfl, h2⟩ | ⟨g, cap, cur, rfl, _, h4, h5, h6, h7, h8⟩⟩ := h.1
  · have := h.2; omega
  · refine Any.strings_Join sj156 sjX g 0 cap xs sep w (fun j x hj => ?_) (Array.getElem?_eq_some_iff.1 h4).1 (by omega) h5 hl
    have hjl := (List.getElem?_eq_some_iff.1 hj).1
    rw [Nat.zero_add, h0.cellAt j (by omega), List.getElem?_map, hj]; rfl
/-- the words of a line that stands for a source -/
def srL (n a b t : ByteArray) (ph : Int) : List ByteArray := [n, a, b, t] ++ if ph = 0 then [] else [⟨(Lib.itoa ph).toArray⟩]
theorem writeTwo_r (w : World) (k v : Nat) (n a b c d t : ByteArray) (ph : Int) (hw : Pw w)
    (hP : ∀ W : World, Pw W → Calls Tryz.prog 74 #[.float .f64 v] W fun e w' => e = .returned (.tuple #[.string t, .int .i64 0]) ∧ Below W.heap.size W w') :
    Calls Tryz.prog 45 #[elN k n a b c d v ph] w fun e w' => ∃ u, e = .returned u ∧ StrR w' w.heap.size u [n, a, b, t] ∧ Below w.heap.size w w' := by
  refine (writeTwo_w w k v n a b c d t ph hw hP).mono ?_
  rintro e w' ⟨B, rfl, h1, h2, h3⟩
  exact ⟨_, rfl, ⟨World.ownsRow.mono (own_blk (n := 4) h1 rfl (by omega)) h3, by simp⟩, h2⟩
theorem writeFour_r (w : World) (k v : Nat) (n a b c d t : ByteArray) (ph : Int) (hw : Pw w)
    (hP : ∀ W : World, Pw W → Calls Tryz.prog 74 #[.float .f64 v] W fun e w' => e = .returned (.tuple #[.string t, .int .i64 0]) ∧ Below W.heap.size W w') :
    Calls Tryz.prog 49 #[elN k n a b c d v ph] w fun e w' => ∃ u, e = .returned u ∧ StrR w' w.heap.size u [n, a, b, c, d, t] ∧ Below w.heap.size w w' := by
  refine (writeFour_w w k v n a b c d t ph hw hP).mono ?_
  rintro e w' ⟨B, rfl, h1, h2, h3⟩
  exact ⟨_, rfl, ⟨World.ownsRow.mono (own_blk (n := 6) h1 rfl (by omega)) h3, by simp⟩, h2⟩
set_option maxHeartbeats 4000000 in
theorem writeSource_r (w : World) (k v : Nat) (n a b c d t : ByteArray) (ph : Int) (hw : Pw w) (hp1 : -9223372036854775808 ≤ ph) (hp2 : ph ≤ 9223372036854775807)
    (hP : ∀ W : World, Pw W → Calls Tryz.prog 74 #[.float .f64 v] W fun e w' => e = .returned (.tuple #[.string t, .int .i64 0]) ∧ Below W.heap.size W w') :
    Calls Tryz.prog 47 #[elN k n a b c d v ph] w fun e w' => ∃ u, e = .returned u ∧ StrR w' w.heap.size u (srL n a b t ph) ∧ Below w.heap.size w w' := by
  obtain ⟨i0, hi0, hz0, hz1, hz2⟩ := info_parts Tryz.infoT
  have HT : Hid (∀ W, Pw W → Calls Tryz.prog 45 #[.agg #[.int .u8 (k : Int), .string n, .string a, .string b, .string c, .string d, .float .f64 v, .int .i64 ph]] W fun e w' => ∃ B, e = .returned (.slice (some ⟨B, 0, none⟩) 4 4) ∧ w'.heap[B]? = some (.cells #[.string n, .string a, .string b, .string t] 9 (0, 0)) ∧ Below W.heap.size W w' ∧ W.heap.size ≤ B) := fun W h => writeTwo_w W k v n a b c d t ph h hP
  obtain ⟨wa, hwa⟩ : ∃ wa, w.alloc (.cells #[.int .u8 (k : Int), .string n, .string a, .string b, .string c, .string d, .float .f64 v, .int .i64 ph] 31) = wa := ⟨_, rfl⟩
  have hz : wa.heap[w.heap.size]? = some (.cells #[.int .u8 (k : Int), .string n, .string a, .string b, .string c, .string d, .float .f64 v, .int .i64 ph] 31 (0, 0)) := by rw [← hwa]; exact heap_alloc_new w _
  have BA : Hid (Below w.heap.size w wa) := by rw [← hwa]; exact (Below.refl _ w).alloc (Nat.le_refl _) _
  obtain ⟨⟨c0, c1, c2, c3, c4, c5, c6, c7⟩, -⟩ := eight hz
  have HLT : Hid (w.heap.size < wa.heap.size) := (Array.getElem?_eq_some_iff.1 hz).1
  have HW : Hid (Pw wa) := hw.kept BA.out
  have HC7 : Hid (wa.cell? ⟨w.heap.size, 7, none⟩ = some (.int .i64 ph)) := c7
  have HPH : Hid (-9223372036854775808 ≤ ph ∧ ph ≤ 9223372036854775807) := ⟨hp1, hp2⟩
  clear hz hw hP hp1 hp2
  by_cases h0 : ph = 0
  · have h0b : (ph != 0) = false := by simp [h0]
    have HS : Hid (srL n a b t ph = [n, a, b, t]) := by unfold srL; rw [if_pos h0]; rfl
    clear h0
    go_enter Tryz.func47, Tryz.ntmps47
    go_wp2_with (first
      | (go_at_call 45; (with_reducible refine (HT.out _ HW.out).mono ?_); rintro e1 w1 ⟨B, rfl, hB, hb, hle⟩; (have d7 := (hb.cell (p := ⟨w.heap.size, 7, none⟩) HLT.out).trans HC7.out)))
    go_ret
    exact ⟨_, rfl, by rw [HS.out]; exact ⟨World.ownsRow.mono (own_blk (n := 4) hB rfl (by omega)) (by have := HLT.out; omega), by simp⟩, BA.out.trans (hb.mono (by have := HLT.out; omega))⟩
  · have h0b : (ph != 0) = true := by simp [h0]
    have HS : Hid (srL n a b t ph = [n, a, b, t, ⟨(Lib.itoa ph).toArray⟩]) := by unfold srL; rw [if_neg h0]; rfl
    clear h0
    go_enter Tryz.func47, Tryz.ntmps47
    go_wp2_with (first
      | (go_at_call 45; (with_reducible refine (HT.out _ HW.out).mono ?_); rintro e1 w1 ⟨B, rfl, hB, hb, hle⟩; (have d7 := (hb.cell (p := ⟨w.heap.size, 7, none⟩) HLT.out).trans HC7.out); (have H1 : Hid (w1.heap[B]? = some (.cells #[.string n, .string a, .string b, .string t] 9 (0, 0)) ∧ Below wa.heap.size wa w1 ∧ wa.heap.size ≤ B) := ⟨hB, hb, hle⟩); clear hB hb hle)
      | (go_at_call 64; (with_reducible refine (itoa_any ph HPH.out.1 HPH.out.2 _ (HW.out.kept H1.out.2.1)).mono ?_); rintro e2 w2 ⟨rfl, hb2⟩; (have H2 : Hid (w2.ownsRow B 9 1 (.slice (some ⟨B, 0, none⟩) 4 4) 4 [.string n, .string a, .string b, .string t] ∧ Below w1.heap.size w1 w2 ∧ B < w1.heap.size) := ⟨own_blk (n := 4) ((hb2.block _ (Array.getElem?_eq_some_iff.1 H1.out.1).1).trans H1.out.1) rfl (by omega), hb2, (Array.getElem?_eq_some_iff.1 H1.out.1).1⟩); clear hb2)
      | (at_builtin; refine wpList_append_lies _ (by rfl) _ _ 38 (by rfl) B 9 i0 _ 1 16 Tryz.underlying38 hi0 hz0 hz1 hz2 (by rfl) (by decide) _ _ _ (by rfl) (H2.out.1.alloc _) ⟨w2.heap.size, 0, none⟩ 1 1 [.string ⟨(Lib.itoa ph).toArray⟩] (by rfl) (by rfl) (World.news_of_block (fr := (0, 0)) (t := 9) (cs := #[.string ⟨(Lib.itoa ph).toArray⟩]) (heap_alloc_new _ _)) (fun u hu => by simp at hu; rw [hu]; rfl) (by decide) (by unfold maxLen; omega) (by omega) (by have := H2.out.2.1.size; have := H2.out.2.2; simp; omega) _ rfl ?_; intro g7 cp7 w7 hown7 hgrow7 hat7 hlt7))
    go_ret
    have hs2 := H2.out.2.1.size
    have hB1 := H2.out.2.2
    have hl := HLT.out
    have hle := H1.out.2.2
    have hsa : (w2.alloc (.cells #[.string ⟨(Lib.itoa ph).toArray⟩] 9)).heap.size = w2.heap.size + 1 := by simp
    refine ⟨_, rfl, by rw [HS.out]; exact ⟨World.ownsRow.mono hown7 (by omega), by simp⟩, ?_⟩
    have hB2 : Below w.heap.size w (w2.alloc (.cells #[.string ⟨(Lib.itoa ph).toArray⟩] 9)) := (BA.out.trans (H1.out.2.1.mono (by omega))).trans ((H2.out.2.1.mono (by have := H1.out.2.1.size; omega)).alloc (by have := H1.out.2.1.size; omega) _)
    exact hB2.trans ⟨hgrow7.os, hgrow7.tape, hgrow7.output, hgrow7.size, fun j hj => hgrow7.block j (by have := H1.out.2.1.size; omega) (fun e => by simp [Value.ownBlock] at e; omega)⟩
end Go.Proofs.YtjoncbfaajcioaaGreatDoor
