/-
  An element's words written: number, writeTwo, writeFour of package netlist, given what Print says of its value.
-/
import Derived.Test.YtjoncbfaajcioaaGreatDoorNpb
import Derived.Test.YtjoncbfaajcioaaGreatDoorBpb
import Derived.Deep.RegionHeldLaw
namespace Go.Proofs.YtjoncbfaajcioaaGreatDoor
open Go.Maps Go.RowKit Joins Deep
set_option linter.unusedVariables false
set_option maxRecDepth 100000

theorem number_w (v : Nat) (t : ByteArray) (hP : ∀ W : World, Pw W → Calls Tryz.prog 74 #[.float .f64 v] W fun e w' => e = .returned (.tuple #[.string t, .int .i64 0]) ∧ Below W.heap.size W w') (w : World) (hw : Pw w) :
    Calls Tryz.prog 62 #[.float .f64 v] w fun e w' => e = .returned (.string t) ∧ Below w.heap.size w w' := by
  go_enter Tryz.func62, Tryz.ntmps62
  go_wp2_with (go_at_call 74; (with_reducible refine (hP _ hw).mono ?_); rintro e1 w1 ⟨rfl, B1⟩)
  go_ret
  exact ⟨rfl, B1⟩
theorem kp4 {w1 : World} {B : Nat} {v1 v2 v3 v6 : Value} {o : Obj} (KK : w1.cell? ⟨B, 1, none⟩ = some v1 ∧ w1.cell? ⟨B, 2, none⟩ = some v2 ∧ w1.cell? ⟨B, 3, none⟩ = some v3 ∧ w1.cell? ⟨B, 6, none⟩ = some v6) : (w1.alloc o).cell? ⟨B, 1, none⟩ = some v1 ∧ (w1.alloc o).cell? ⟨B, 2, none⟩ = some v2 ∧ (w1.alloc o).cell? ⟨B, 3, none⟩ = some v3 ∧ (w1.alloc o).cell? ⟨B, 6, none⟩ = some v6 := by
  have hl : B < w1.heap.size := World.block_lt_of_cell? _ _ KK.1
  exact ⟨(World.cell?_alloc_lt _ _ _ hl).trans KK.1, (World.cell?_alloc_lt _ _ _ hl).trans KK.2.1, (World.cell?_alloc_lt _ _ _ hl).trans KK.2.2.1, (World.cell?_alloc_lt _ _ _ hl).trans KK.2.2.2⟩
set_option maxHeartbeats 2000000 in
theorem writeTwo_w (w : World) (k v : Nat) (n a b c d t : ByteArray) (ph : Int) (hw : Pw w)
    (hP : ∀ W : World, Pw W → Calls Tryz.prog 74 #[.float .f64 v] W fun e w' => e = .returned (.tuple #[.string t, .int .i64 0]) ∧ Below W.heap.size W w') :
    Calls Tryz.prog 45 #[elN k n a b c d v ph] w fun e w' => ∃ B, e = .returned (.slice (some ⟨B, 0, none⟩) 4 4) ∧ w'.heap[B]? = some (.cells #[.string n, .string a, .string b, .string t] 9 (0, 0)) ∧ Below w.heap.size w w' ∧ w.heap.size ≤ B := by
  have HN : Hid (∀ W, Pw W → Calls Tryz.prog 62 #[.float .f64 v] W fun e w' => e = .returned (.string t) ∧ Below W.heap.size W w') := fun W h => number_w v t hP W h
  obtain ⟨wa, hwa⟩ : ∃ wa, w.alloc (.cells #[.int .u8 (k : Int), .string n, .string a, .string b, .string c, .string d, .float .f64 v, .int .i64 ph] 31) = wa := ⟨_, rfl⟩
  have hz : wa.heap[w.heap.size]? = some (.cells #[.int .u8 (k : Int), .string n, .string a, .string b, .string c, .string d, .float .f64 v, .int .i64 ph] 31 (0, 0)) := by rw [← hwa]; exact heap_alloc_new w _
  have BA : Hid (Below w.heap.size w wa) := by rw [← hwa]; exact (Below.refl _ w).alloc (Nat.le_refl _) _
  obtain ⟨⟨c0, c1, c2, c3, c4, c5, c6, c7⟩, -⟩ := eight hz
  have hlt : w.heap.size < wa.heap.size := (Array.getElem?_eq_some_iff.1 hz).1
  have HLT : Hid (w.heap.size < wa.heap.size) := hlt
  have HW : Hid (Pw wa.drew) := hw.kept (below_drw BA.out)
  have hp : w.heap.size < wa.drew.heap.size := hlt
  have KQ : Hid (∀ w1 : World, Below wa.drew.heap.size wa.drew w1 → (w1.cell? ⟨w.heap.size, 1, none⟩ = some (.string n) ∧ w1.cell? ⟨w.heap.size, 2, none⟩ = some (.string a) ∧ w1.cell? ⟨w.heap.size, 3, none⟩ = some (.string b) ∧ w1.cell? ⟨w.heap.size, 6, none⟩ = some (.float .f64 v))) := fun w1 B1 => ⟨(B1.cell (p := ⟨w.heap.size, 1, none⟩) hp).trans c1, (B1.cell (p := ⟨w.heap.size, 2, none⟩) hp).trans c2, (B1.cell (p := ⟨w.heap.size, 3, none⟩) hp).trans c3, (B1.cell (p := ⟨w.heap.size, 6, none⟩) hp).trans c6⟩
  clear hz hw c0 c7 hP hp hlt
  go_enter Tryz.func45, Tryz.ntmps45
  go_wp2_with fail
  go_region_held_law (fun W => W.cell? ⟨w.heap.size, 1, none⟩ = some (.string n) ∧ W.cell? ⟨w.heap.size, 2, none⟩ = some (.string a) ∧ W.cell? ⟨w.heap.size, 3, none⟩ = some (.string b) ∧ W.cell? ⟨w.heap.size, 6, none⟩ = some (.float .f64 v))
    (first | with_reducible exact KK | exact kp4 (by assumption) | (repeat' apply And.intro) <;> assumption)
    (first | (go_at_call 62; (with_reducible refine (HN.out _ HW.out).mono ?_); rintro e1 w1 ⟨rfl, B1⟩; have KK := KQ.out w1 B1))
  go_wp2_with fail
  go_ret
  have hs1 := B1.size
  have hl2 := HLT.out
  have hsa : wa.drew.heap.size = wa.heap.size := rfl
  have B2 : Below w.heap.size w w1 := BA.out.trans ⟨B1.os, B1.tape, B1.output, B1.size, fun k hk => B1.block k (by show k < wa.heap.size; omega)⟩
  exact ⟨w1.heap.size, rfl, heap_alloc_new w1 _, B2.alloc B2.size _, B2.size⟩
theorem kp6 {w1 : World} {B : Nat} {v1 v2 v3 v4 v5 v6 : Value} {o : Obj} (KK : w1.cell? ⟨B, 1, none⟩ = some v1 ∧ w1.cell? ⟨B, 2, none⟩ = some v2 ∧ w1.cell? ⟨B, 3, none⟩ = some v3 ∧ w1.cell? ⟨B, 4, none⟩ = some v4 ∧ w1.cell? ⟨B, 5, none⟩ = some v5 ∧ w1.cell? ⟨B, 6, none⟩ = some v6) : (w1.alloc o).cell? ⟨B, 1, none⟩ = some v1 ∧ (w1.alloc o).cell? ⟨B, 2, none⟩ = some v2 ∧ (w1.alloc o).cell? ⟨B, 3, none⟩ = some v3 ∧ (w1.alloc o).cell? ⟨B, 4, none⟩ = some v4 ∧ (w1.alloc o).cell? ⟨B, 5, none⟩ = some v5 ∧ (w1.alloc o).cell? ⟨B, 6, none⟩ = some v6 := by
  have hl : B < w1.heap.size := World.block_lt_of_cell? _ _ KK.1
  exact ⟨(World.cell?_alloc_lt _ _ _ hl).trans KK.1, (World.cell?_alloc_lt _ _ _ hl).trans KK.2.1, (World.cell?_alloc_lt _ _ _ hl).trans KK.2.2.1, (World.cell?_alloc_lt _ _ _ hl).trans KK.2.2.2.1, (World.cell?_alloc_lt _ _ _ hl).trans KK.2.2.2.2.1, (World.cell?_alloc_lt _ _ _ hl).trans KK.2.2.2.2.2⟩
set_option maxHeartbeats 2000000 in
theorem writeFour_w (w : World) (k v : Nat) (n a b c d t : ByteArray) (ph : Int) (hw : Pw w)
    (hP : ∀ W : World, Pw W → Calls Tryz.prog 74 #[.float .f64 v] W fun e w' => e = .returned (.tuple #[.string t, .int .i64 0]) ∧ Below W.heap.size W w') :
    Calls Tryz.prog 49 #[elN k n a b c d v ph] w fun e w' => ∃ B, e = .returned (.slice (some ⟨B, 0, none⟩) 6 6) ∧ w'.heap[B]? = some (.cells #[.string n, .string a, .string b, .string c, .string d, .string t] 9 (0, 0)) ∧ Below w.heap.size w w' ∧ w.heap.size ≤ B := by
  have HN : Hid (∀ W, Pw W → Calls Tryz.prog 62 #[.float .f64 v] W fun e w' => e = .returned (.string t) ∧ Below W.heap.size W w') := fun W h => number_w v t hP W h
  obtain ⟨wa, hwa⟩ : ∃ wa, w.alloc (.cells #[.int .u8 (k : Int), .string n, .string a, .string b, .string c, .string d, .float .f64 v, .int .i64 ph] 31) = wa := ⟨_, rfl⟩
  have hz : wa.heap[w.heap.size]? = some (.cells #[.int .u8 (k : Int), .string n, .string a, .string b, .string c, .string d, .float .f64 v, .int .i64 ph] 31 (0, 0)) := by rw [← hwa]; exact heap_alloc_new w _
  have BA : Hid (Below w.heap.size w wa) := by rw [← hwa]; exact (Below.refl _ w).alloc (Nat.le_refl _) _
  obtain ⟨⟨c0, c1, c2, c3, c4, c5, c6, c7⟩, -⟩ := eight hz
  have hlt : w.heap.size < wa.heap.size := (Array.getElem?_eq_some_iff.1 hz).1
  have HLT : Hid (w.heap.size < wa.heap.size) := hlt
  have HW : Hid (Pw wa.drew) := hw.kept (below_drw BA.out)
  have hp : w.heap.size < wa.drew.heap.size := hlt
  have KQ : Hid (∀ w1 : World, Below wa.drew.heap.size wa.drew w1 → (w1.cell? ⟨w.heap.size, 1, none⟩ = some (.string n) ∧ w1.cell? ⟨w.heap.size, 2, none⟩ = some (.string a) ∧ w1.cell? ⟨w.heap.size, 3, none⟩ = some (.string b) ∧ w1.cell? ⟨w.heap.size, 4, none⟩ = some (.string c) ∧ w1.cell? ⟨w.heap.size, 5, none⟩ = some (.string d) ∧ w1.cell? ⟨w.heap.size, 6, none⟩ = some (.float .f64 v))) := fun w1 B1 => ⟨(B1.cell (p := ⟨w.heap.size, 1, none⟩) hp).trans c1, (B1.cell (p := ⟨w.heap.size, 2, none⟩) hp).trans c2, (B1.cell (p := ⟨w.heap.size, 3, none⟩) hp).trans c3, (B1.cell (p := ⟨w.heap.size, 4, none⟩) hp).trans c4, (B1.cell (p := ⟨w.heap.size, 5, none⟩) hp).trans c5, (B1.cell (p := ⟨w.heap.size, 6, none⟩) hp).trans c6⟩
  clear hz hw c0 c7 hP hp hlt
  go_enter Tryz.func49, Tryz.ntmps49
  go_wp2_with fail
  go_region_held_law (fun W => W.cell? ⟨w.heap.size, 1, none⟩ = some (.string n) ∧ W.cell? ⟨w.heap.size, 2, none⟩ = some (.string a) ∧ W.cell? ⟨w.heap.size, 3, none⟩ = some (.string b) ∧ W.cell? ⟨w.heap.size, 4, none⟩ = some (.string c) ∧ W.cell? ⟨w.heap.size, 5, none⟩ = some (.string d) ∧ W.cell? ⟨w.heap.size, 6, none⟩ = some (.float .f64 v))
    (first | with_reducible exact KK | exact kp6 (by assumption) | (repeat' apply And.intro) <;> assumption)
    (first | (go_at_call 62; (with_reducible refine (HN.out _ HW.out).mono ?_); rintro e1 w1 ⟨rfl, B1⟩; have KK := KQ.out w1 B1))
  go_wp2_with fail
  go_ret
  have hs1 := B1.size
  have hl2 := HLT.out
  have hsa : wa.drew.heap.size = wa.heap.size := rfl
  have B2 : Below w.heap.size w w1 := BA.out.trans ⟨B1.os, B1.tape, B1.output, B1.size, fun k hk => B1.block k (by show k < wa.heap.size; omega)⟩
  exact ⟨w1.heap.size, rfl, heap_alloc_new w1 _, B2.alloc B2.size _, B2.size⟩

end Go.Proofs.YtjoncbfaajcioaaGreatDoor
