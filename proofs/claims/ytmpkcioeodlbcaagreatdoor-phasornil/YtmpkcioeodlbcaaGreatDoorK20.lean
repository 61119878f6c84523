/-
  Several texts in one: Npd Npe.
-/
import Derived.Test.YtmpkcioeodlbcaaGreatDoorK19
namespace Go.Proofs.YtmpkcioeodlbcaaGreatDoor
open Go.Maps Go.RowKit Joins Deep
set_option linter.unusedVariables false
set_option maxRecDepth 100000
/-- the map of the lines -/
def Lns (w : World) (B : Nat) : Prop := w.ownsMap Tryz.prog 94 lnR B 8 lnD
theorem Lns.below {w w' : World} {B : Nat} (h : Lns w B) (hb : Below w.heap.size w w') : Lns w' B := by
  obtain ⟨es, clock, h1, h2⟩ := h
  exact ⟨es, clock, (hb.block _ (Array.getElem?_eq_some_iff.1 h1).1).trans h1, h2⟩
theorem look_1 {w : World} {B k : Nat} (h : Lns w B) (hk : k ≤ 8) (hi : lnK k = 1) : (Instr.lookup 158 (.map (some B)) (.int .u8 (k : Int)) false).run Tryz.prog w = .ok ln1 w := by have := ln_look h k hk; rw [hi] at this; exact this
theorem look_2 {w : World} {B k : Nat} (h : Lns w B) (hk : k ≤ 8) (hi : lnK k = 2) : (Instr.lookup 158 (.map (some B)) (.int .u8 (k : Int)) false).run Tryz.prog w = .ok ln2 w := by have := ln_look h k hk; rw [hi] at this; exact this
theorem look_3 {w : World} {B k : Nat} (h : Lns w B) (hk : k ≤ 8) (hi : lnK k = 3) : (Instr.lookup 158 (.map (some B)) (.int .u8 (k : Int)) false).run Tryz.prog w = .ok ln3 w := by have := ln_look h k hk; rw [hi] at this; exact this
theorem rd_st {w0 w2 : World} {p : Nat} (n a b c d : ByteArray) (v : Nat) (ph : Int) (h1 : w2.heap[p]? = some (.cells #[.int .u8 0, .string ⟨#[]⟩, .string ⟨#[]⟩, .string ⟨#[]⟩, .string ⟨#[]⟩, .string ⟨#[]⟩, .float .f64 0, .int .i64 0] 96 (0, 0))) (hB : Below w0.heap.size w0 w2) : ∃ wz, w2.alloc (.cells #[.int .u8 0, .string n, .string a, .string b, .string c, .string d, .float .f64 v, .int .i64 ph] 96) = wz ∧ (¬ p = w2.heap.size) ∧ (¬ w2.heap.size = p) ∧
    (wz.cell? ⟨p, 0, none⟩ = some (.int .u8 0) ∧ wz.cell? ⟨p, 1, none⟩ = some (.string ⟨#[]⟩) ∧ wz.cell? ⟨p, 2, none⟩ = some (.string ⟨#[]⟩) ∧ wz.cell? ⟨p, 3, none⟩ = some (.string ⟨#[]⟩) ∧ wz.cell? ⟨p, 4, none⟩ = some (.string ⟨#[]⟩) ∧ wz.cell? ⟨p, 5, none⟩ = some (.string ⟨#[]⟩) ∧ wz.cell? ⟨p, 6, none⟩ = some (.float .f64 0) ∧ wz.cell? ⟨p, 7, none⟩ = some (.int .i64 0)) ∧ (wz.frozen? ⟨p, 0, none⟩ = false ∧ wz.frozen? ⟨p, 1, none⟩ = false ∧ wz.frozen? ⟨p, 2, none⟩ = false ∧ wz.frozen? ⟨p, 3, none⟩ = false ∧ wz.frozen? ⟨p, 4, none⟩ = false ∧ wz.frozen? ⟨p, 5, none⟩ = false ∧ wz.frozen? ⟨p, 6, none⟩ = false ∧ wz.frozen? ⟨p, 7, none⟩ = false) ∧ (wz.cell? ⟨w2.heap.size, 0, none⟩ = some (.int .u8 0) ∧ wz.cell? ⟨w2.heap.size, 1, none⟩ = some (.string n) ∧ wz.cell? ⟨w2.heap.size, 2, none⟩ = some (.string a) ∧ wz.cell? ⟨w2.heap.size, 3, none⟩ = some (.string b) ∧ wz.cell? ⟨w2.heap.size, 4, none⟩ = some (.string c) ∧ wz.cell? ⟨w2.heap.size, 5, none⟩ = some (.string d) ∧ wz.cell? ⟨w2.heap.size, 6, none⟩ = some (.float .f64 v) ∧ wz.cell? ⟨w2.heap.size, 7, none⟩ = some (.int .i64 ph)) ∧ (wz.frozen? ⟨w2.heap.size, 0, none⟩ = false ∧ wz.frozen? ⟨w2.heap.size, 1, none⟩ = false ∧ wz.frozen? ⟨w2.heap.size, 2, none⟩ = false ∧ wz.frozen? ⟨w2.heap.size, 3, none⟩ = false ∧ wz.frozen? ⟨w2.heap.size, 4, none⟩ = false ∧ wz.frozen? ⟨w2.heap.size, 5, none⟩ = false ∧ wz.frozen? ⟨w2.heap.size, 6, none⟩ = false ∧ wz.frozen? ⟨w2.heap.size, 7, none⟩ = false) ∧ Hid (wz.heap[p]? = some (.cells #[.int .u8 0, .string ⟨#[]⟩, .string ⟨#[]⟩, .string ⟨#[]⟩, .string ⟨#[]⟩, .string ⟨#[]⟩, .float .f64 0, .int .i64 0] 96 (0, 0))) ∧ Hid (Below w0.heap.size w0 wz) := by
  have hlt : p < w2.heap.size := (Array.getElem?_eq_some_iff.1 h1).1
  obtain ⟨wz, hwz⟩ : ∃ wz, w2.alloc (.cells #[.int .u8 0, .string n, .string a, .string b, .string c, .string d, .float .f64 v, .int .i64 ph] 96) = wz := ⟨_, rfl⟩
  have k1 : wz.heap[p]? = some (.cells #[.int .u8 0, .string ⟨#[]⟩, .string ⟨#[]⟩, .string ⟨#[]⟩, .string ⟨#[]⟩, .string ⟨#[]⟩, .float .f64 0, .int .i64 0] 96 (0, 0)) := by rw [← hwz]; exact (Below.heap_alloc _ _ _ hlt).trans h1
  have k2 : wz.heap[w2.heap.size]? = some (.cells #[.int .u8 0, .string n, .string a, .string b, .string c, .string d, .float .f64 v, .int .i64 ph] 96 (0, 0)) := by rw [← hwz]; exact heap_alloc_new _ _
  exact ⟨wz, hwz, by omega, by omega, (eight k1).1, (eight k1).2, (eight k2).1, (eight k2).2, k1, by rw [← hwz]; exact hB.alloc hB.size _⟩
theorem four_c {w : World} {p : Nat} {a b c d : Value} {t : TypeId} (h : w.heap[p]? = some (.cells #[a, b, c, d] t (0, 0))) : w.cell? ⟨p, 0, none⟩ = some a ∧ w.cell? ⟨p, 1, none⟩ = some b ∧ w.cell? ⟨p, 2, none⟩ = some c ∧ w.cell? ⟨p, 3, none⟩ = some d := by
  refine ⟨?_, ?_, ?_, ?_⟩ <;> rw [cell_of_row w p _ _ _ (0, 0) h] <;> rfl
theorem rd_h {w0 w1 w2 : World} {o : Obj} {cs : Array Value} {t : TypeId} (h : w1.heap[w0.heap.size]? = some (.cells cs t (0, 0))) (hlt : w0.heap.size < w1.heap.size) (hb : Below (w1.alloc o).heap.size (w1.alloc o) w2) : w2.heap[w0.heap.size]? = some (.cells cs t (0, 0)) := by
  rw [hb.block _ (by simp; omega)]
  exact (Below.heap_alloc _ _ _ hlt).trans h
set_option maxHeartbeats 4000000 in
theorem read_1 (w : World) (B bk m cp : Nat) (s0 : ByteArray) (k E : Nat) (Er : Int) (n a b c d : ByteArray) (v : Nat) (ph : Int) (hL : Lns w B) (hs0 : 0 < s0.size) (h0 : w.cell? ⟨bk, 0, none⟩ = some (.string s0)) (hm1 : 4 ≤ m) (hm2 : m ≤ 4) (hk : ofK (byt s0 0) = k) (hk8 : k ≤ 8) (hk0 : k ≠ 0) (hi : lnK k = 1)
    (hR : Hid (∀ W, Below w.heap.size w W → Calls Tryz.prog 147 #[.slice (some ⟨bk, 0, none⟩) m cp] W fun e w' => e = .returned (.tuple #[.agg #[.int .u8 0, .string n, .string a, .string b, .string c, .string d, .float .f64 v, .int .i64 ph], .int .i64 Er]) ∧ Below W.heap.size W w')) :
    Calls Tryz.prog 106 #[.map (some B), .slice (some ⟨bk, 0, none⟩) m cp] w fun e w' => e = .returned (.tuple #[.agg #[.int .u8 (k : Int), .string n, .string a, .string b, .string c, .string d, .float .f64 v, .int .i64 ph], .int .i64 Er]) ∧ Below w.heap.size w w' := by
  have hbk : bk < w.heap.size := World.block_lt_of_cell? w _ h0
  have h0a : ∀ o, (w.alloc o).cell? ⟨bk, 0, none⟩ = some (.string s0) := fun o => by rw [World.cell?_alloc_lt _ _ _ hbk]; exact h0
  have hg := byt_get hs0
  have HB0 : Hid (∀ a b c d e f g i t, Below w.heap.size w (w.alloc (.cells #[a, b, c, d, e, f, g, i] t))) := fun _ _ _ _ _ _ _ _ _ => (Below.refl _ _).alloc (Nat.le_refl _) _
  have hk0b : (k != 0) = true := by simp [hk0]
  have HOF : Hid (∀ W, Calls Tryz.prog 153 #[.int .u8 (byt s0 0 : Nat)] W fun e w' => e = .returned (.tuple #[.int .u8 (k : Nat), .bool true]) ∧ Below W.heap.size W w') := fun W => by have := kof_any (byt s0 0) W (byt_lt _ _); rwa [hk, hk0b] at this
  have i0 : (0 : Int) < (m : Int) := by omega
  have i1 : (0 : Int) < (s0.size : Int) := by omega
  have m1 : ¬ ((m : Int) < 4) := by omega
  have m2 : ¬ ((4 : Int) < (m : Int)) := by omega
  have HL : Hid (Lns w B) := hL
  have HI : Hid (lnK k = 1) := hi
  have HK8 : Hid (k ≤ 8) := hk8
  clear hL hi hk hk0 hk0b hk8 h0
  go_enter Tryz.func106, Tryz.ntmps106
  go_wp2_with (first
    | (go_at_call 153; (try rw [hg]); (with_reducible refine (HOF.out _).mono ?_); rintro e w1 ⟨rfl, hb⟩; (obtain ⟨hz1, hlt, hbz⟩ := zer8 hb); (have hlk := look_1 (HL.out.below hbz) HK8.out HI.out); (have HZ : Hid _ := hz1); (have HBZ : Hid (Below w.heap.size w w1) := hbz); clear hz1 hbz hb)
    | (go_at_call 147; (with_reducible refine (hR.out _ (HBZ.out.alloc HBZ.out.size _)).mono ?_); rintro e w2 ⟨rfl, hb⟩; (obtain ⟨wz, hwz, hne1, hne2, ⟨d0, d1, d2, d3, d4, d5, d6, d7⟩, ⟨f0, f1, f2, f3, f4, f5, f6, f7⟩, ⟨e0, e1, e2, e3, e4, e5, e6, e7⟩, ⟨g0, g1, g2, g3, g4, g5, g6, g7⟩, HZ2, HBZ2⟩ := rd_st n a b c d v ph (rd_h HZ.out hlt hb) (HBZ.out.trans ((undralloc hb).mono HBZ.out.size))); clear hb))
  have hle : w.heap.size ≤ w2.heap.size := by have := HBZ2.out.size; have h2 : wz.heap.size = w2.heap.size + 1 := by (rw [← hwz]; simp)
                                              have := (Array.getElem?_eq_some_iff.1 HZ2.out).1; omega
  have hS : ∀ u, (wz.setCell ⟨w2.heap.size, 0, none⟩ u).heap[w.heap.size]? = _ := fun u => (Below.heap_setCell _ ⟨w2.heap.size, 0, none⟩ u _ (by simpa using hne1)).trans HZ2.out
  have Z := cells_8 (st8_blk (hS (.int .u8 (k : Int))) (.int .u8 (k : Int)) (.string n) (.string a) (.string b) (.string c) (.string d) (.float .f64 v) (.int .i64 ph))
  unfold st8 at Z
  obtain ⟨z0, z1, z2, z3, z4, z5, z6, z7⟩ := Z
  refine bodyPost_ret (by simp [results, Tryz.results106, go_sem, z0, z1, z2, z3, z4, z5, z6, z7]; try rfl) rfl ?_
  exact ⟨rfl, below_set8 (HBZ2.out.setCell (p := ⟨w2.heap.size, 0, none⟩) hle _) (Nat.le_refl _) _ _ _ _ _ _ _ _⟩
set_option maxHeartbeats 4000000 in
theorem read_2 (w : World) (B bk m cp : Nat) (s0 : ByteArray) (k E : Nat) (Er : Int) (n a b c d : ByteArray) (v : Nat) (ph : Int) (hL : Lns w B) (hs0 : 0 < s0.size) (h0 : w.cell? ⟨bk, 0, none⟩ = some (.string s0)) (hm1 : 4 ≤ m) (hm2 : m ≤ 5) (hk : ofK (byt s0 0) = k) (hk8 : k ≤ 8) (hk0 : k ≠ 0) (hi : lnK k = 2)
    (hR : Hid (∀ W, Below w.heap.size w W → Calls Tryz.prog 149 #[.slice (some ⟨bk, 0, none⟩) m cp] W fun e w' => e = .returned (.tuple #[.agg #[.int .u8 0, .string n, .string a, .string b, .string c, .string d, .float .f64 v, .int .i64 ph], .int .i64 Er]) ∧ Below W.heap.size W w')) :
    Calls Tryz.prog 106 #[.map (some B), .slice (some ⟨bk, 0, none⟩) m cp] w fun e w' => e = .returned (.tuple #[.agg #[.int .u8 (k : Int), .string n, .string a, .string b, .string c, .string d, .float .f64 v, .int .i64 ph], .int .i64 Er]) ∧ Below w.heap.size w w' := by
  have hbk : bk < w.heap.size := World.block_lt_of_cell? w _ h0
  have h0a : ∀ o, (w.alloc o).cell? ⟨bk, 0, none⟩ = some (.string s0) := fun o => by rw [World.cell?_alloc_lt _ _ _ hbk]; exact h0
  have hg := byt_get hs0
  have HB0 : Hid (∀ a b c d e f g i t, Below w.heap.size w (w.alloc (.cells #[a, b, c, d, e, f, g, i] t))) := fun _ _ _ _ _ _ _ _ _ => (Below.refl _ _).alloc (Nat.le_refl _) _
  have hk0b : (k != 0) = true := by simp [hk0]
  have HOF : Hid (∀ W, Calls Tryz.prog 153 #[.int .u8 (byt s0 0 : Nat)] W fun e w' => e = .returned (.tuple #[.int .u8 (k : Nat), .bool true]) ∧ Below W.heap.size W w') := fun W => by have := kof_any (byt s0 0) W (byt_lt _ _); rwa [hk, hk0b] at this
  have i0 : (0 : Int) < (m : Int) := by omega
  have i1 : (0 : Int) < (s0.size : Int) := by omega
  have m1 : ¬ ((m : Int) < 4) := by omega
  have m2 : ¬ ((5 : Int) < (m : Int)) := by omega
  have HL : Hid (Lns w B) := hL
  have HI : Hid (lnK k = 2) := hi
  have HK8 : Hid (k ≤ 8) := hk8
  clear hL hi hk hk0 hk0b hk8 h0
  go_enter Tryz.func106, Tryz.ntmps106
  go_wp2_with (first
    | (go_at_call 153; (try rw [hg]); (with_reducible refine (HOF.out _).mono ?_); rintro e w1 ⟨rfl, hb⟩; (obtain ⟨hz1, hlt, hbz⟩ := zer8 hb); (have hlk := look_2 (HL.out.below hbz) HK8.out HI.out); (have HZ : Hid _ := hz1); (have HBZ : Hid (Below w.heap.size w w1) := hbz); clear hz1 hbz hb)
    | (go_at_call 149; (with_reducible refine (hR.out _ (HBZ.out.alloc HBZ.out.size _)).mono ?_); rintro e w2 ⟨rfl, hb⟩; (obtain ⟨wz, hwz, hne1, hne2, ⟨d0, d1, d2, d3, d4, d5, d6, d7⟩, ⟨f0, f1, f2, f3, f4, f5, f6, f7⟩, ⟨e0, e1, e2, e3, e4, e5, e6, e7⟩, ⟨g0, g1, g2, g3, g4, g5, g6, g7⟩, HZ2, HBZ2⟩ := rd_st n a b c d v ph (rd_h HZ.out hlt hb) (HBZ.out.trans ((undralloc hb).mono HBZ.out.size))); clear hb))
  have hle : w.heap.size ≤ w2.heap.size := by have := HBZ2.out.size; have h2 : wz.heap.size = w2.heap.size + 1 := by (rw [← hwz]; simp)
                                              have := (Array.getElem?_eq_some_iff.1 HZ2.out).1; omega
  have hS : ∀ u, (wz.setCell ⟨w2.heap.size, 0, none⟩ u).heap[w.heap.size]? = _ := fun u => (Below.heap_setCell _ ⟨w2.heap.size, 0, none⟩ u _ (by simpa using hne1)).trans HZ2.out
  have Z := cells_8 (st8_blk (hS (.int .u8 (k : Int))) (.int .u8 (k : Int)) (.string n) (.string a) (.string b) (.string c) (.string d) (.float .f64 v) (.int .i64 ph))
  unfold st8 at Z
  obtain ⟨z0, z1, z2, z3, z4, z5, z6, z7⟩ := Z
  refine bodyPost_ret (by simp [results, Tryz.results106, go_sem, z0, z1, z2, z3, z4, z5, z6, z7]; try rfl) rfl ?_
  exact ⟨rfl, below_set8 (HBZ2.out.setCell (p := ⟨w2.heap.size, 0, none⟩) hle _) (Nat.le_refl _) _ _ _ _ _ _ _ _⟩
set_option maxHeartbeats 4000000 in
theorem read_3 (w : World) (B bk m cp : Nat) (s0 : ByteArray) (k E : Nat) (Er : Int) (n a b c d : ByteArray) (v : Nat) (ph : Int) (hL : Lns w B) (hs0 : 0 < s0.size) (h0 : w.cell? ⟨bk, 0, none⟩ = some (.string s0)) (hm1 : 6 ≤ m) (hm2 : m ≤ 6) (hk : ofK (byt s0 0) = k) (hk8 : k ≤ 8) (hk0 : k ≠ 0) (hi : lnK k = 3)
    (hR : Hid (∀ W, Below w.heap.size w W → Calls Tryz.prog 151 #[.slice (some ⟨bk, 0, none⟩) m cp] W fun e w' => e = .returned (.tuple #[.agg #[.int .u8 0, .string n, .string a, .string b, .string c, .string d, .float .f64 v, .int .i64 ph], .int .i64 Er]) ∧ Below W.heap.size W w')) :
    Calls Tryz.prog 106 #[.map (some B), .slice (some ⟨bk, 0, none⟩) m cp] w fun e w' => e = .returned (.tuple #[.agg #[.int .u8 (k : Int), .string n, .string a, .string b, .string c, .string d, .float .f64 v, .int .i64 ph], .int .i64 Er]) ∧ Below w.heap.size w w' := by
  have hbk : bk < w.heap.size := World.block_lt_of_cell? w _ h0
  have h0a : ∀ o, (w.alloc o).cell? ⟨bk, 0, none⟩ = some (.string s0) := fun o => by rw [World.cell?_alloc_lt _ _ _ hbk]; exact h0
  have hg := byt_get hs0
  have HB0 : Hid (∀ a b c d e f g i t, Below w.heap.size w (w.alloc (.cells #[a, b, c, d, e, f, g, i] t))) := fun _ _ _ _ _ _ _ _ _ => (Below.refl _ _).alloc (Nat.le_refl _) _
  have hk0b : (k != 0) = true := by simp [hk0]
  have HOF : Hid (∀ W, Calls Tryz.prog 153 #[.int .u8 (byt s0 0 : Nat)] W fun e w' => e = .returned (.tuple #[.int .u8 (k : Nat), .bool true]) ∧ Below W.heap.size W w') := fun W => by have := kof_any (byt s0 0) W (byt_lt _ _); rwa [hk, hk0b] at this
  have i0 : (0 : Int) < (m : Int) := by omega
  have i1 : (0 : Int) < (s0.size : Int) := by omega
  have m1 : ¬ ((m : Int) < 6) := by omega
  have m2 : ¬ ((6 : Int) < (m : Int)) := by omega
  have HL : Hid (Lns w B) := hL
  have HI : Hid (lnK k = 3) := hi
  have HK8 : Hid (k ≤ 8) := hk8
  clear hL hi hk hk0 hk0b hk8 h0
  go_enter Tryz.func106, Tryz.ntmps106
  go_wp2_with (first
    | (go_at_call 153; (try rw [hg]); (with_reducible refine (HOF.out _).mono ?_); rintro e w1 ⟨rfl, hb⟩; (obtain ⟨hz1, hlt, hbz⟩ := zer8 hb); (have hlk := look_3 (HL.out.below hbz) HK8.out HI.out); (have HZ : Hid _ := hz1); (have HBZ : Hid (Below w.heap.size w w1) := hbz); clear hz1 hbz hb)
    | (go_at_call 151; (with_reducible refine (hR.out _ (HBZ.out.alloc HBZ.out.size _)).mono ?_); rintro e w2 ⟨rfl, hb⟩; (obtain ⟨wz, hwz, hne1, hne2, ⟨d0, d1, d2, d3, d4, d5, d6, d7⟩, ⟨f0, f1, f2, f3, f4, f5, f6, f7⟩, ⟨e0, e1, e2, e3, e4, e5, e6, e7⟩, ⟨g0, g1, g2, g3, g4, g5, g6, g7⟩, HZ2, HBZ2⟩ := rd_st n a b c d v ph (rd_h HZ.out hlt hb) (HBZ.out.trans ((undralloc hb).mono HBZ.out.size))); clear hb))
  have hle : w.heap.size ≤ w2.heap.size := by have := HBZ2.out.size; have h2 : wz.heap.size = w2.heap.size + 1 := by (rw [← hwz]; simp)
                                              have := (Array.getElem?_eq_some_iff.1 HZ2.out).1; omega
  have hS : ∀ u, (wz.setCell ⟨w2.heap.size, 0, none⟩ u).heap[w.heap.size]? = _ := fun u => (Below.heap_setCell _ ⟨w2.heap.size, 0, none⟩ u _ (by simpa using hne1)).trans HZ2.out
  have Z := cells_8 (st8_blk (hS (.int .u8 (k : Int))) (.int .u8 (k : Int)) (.string n) (.string a) (.string b) (.string c) (.string d) (.float .f64 v) (.int .i64 ph))
  unfold st8 at Z
  obtain ⟨z0, z1, z2, z3, z4, z5, z6, z7⟩ := Z
  refine bodyPost_ret (by simp [results, Tryz.results106, go_sem, z0, z1, z2, z3, z4, z5, z6, z7]; try rfl) rfl ?_
  exact ⟨rfl, below_set8 (HBZ2.out.setCell (p := ⟨w2.heap.size, 0, none⟩) hle _) (Nat.le_refl _) _ _ _ _ _ _ _ _⟩
end Go.Proofs.YtmpkcioeodlbcaaGreatDoor
namespace Go.Proofs.YtmpkcioeodlbcaaGreatDoor
open Go.Maps Go.RowKit Joins Deep
set_option linter.unusedVariables false
set_option maxRecDepth 100000
theorem bad_st {w w1 : World} (lo hi : Int) (r q : Nat) (h1 : w1.heap[w.heap.size]? = some (.cells #[.int .u8 0, .string ⟨#[]⟩, .string ⟨#[]⟩, .string ⟨#[]⟩, .string ⟨#[]⟩, .string ⟨#[]⟩, .float .f64 0, .int .i64 0] 96 (0, 0))) (hB : Below w.heap.size w w1) : ∃ wz, w1.alloc (.cells #[.int .i64 lo, .int .i64 hi, .func (.func r) #[] #[], .func (.func q) #[] #[]] 222) = wz ∧ (¬ w.heap.size = w1.heap.size) ∧ (¬ w1.heap.size = w.heap.size) ∧
    (wz.cell? ⟨w.heap.size, 0, none⟩ = some (.int .u8 0) ∧ wz.cell? ⟨w.heap.size, 1, none⟩ = some (.string ⟨#[]⟩) ∧ wz.cell? ⟨w.heap.size, 2, none⟩ = some (.string ⟨#[]⟩) ∧ wz.cell? ⟨w.heap.size, 3, none⟩ = some (.string ⟨#[]⟩) ∧ wz.cell? ⟨w.heap.size, 4, none⟩ = some (.string ⟨#[]⟩) ∧ wz.cell? ⟨w.heap.size, 5, none⟩ = some (.string ⟨#[]⟩) ∧ wz.cell? ⟨w.heap.size, 6, none⟩ = some (.float .f64 0) ∧ wz.cell? ⟨w.heap.size, 7, none⟩ = some (.int .i64 0)) ∧ (wz.frozen? ⟨w.heap.size, 0, none⟩ = false ∧ wz.frozen? ⟨w.heap.size, 1, none⟩ = false ∧ wz.frozen? ⟨w.heap.size, 2, none⟩ = false ∧ wz.frozen? ⟨w.heap.size, 3, none⟩ = false ∧ wz.frozen? ⟨w.heap.size, 4, none⟩ = false ∧ wz.frozen? ⟨w.heap.size, 5, none⟩ = false ∧ wz.frozen? ⟨w.heap.size, 6, none⟩ = false ∧ wz.frozen? ⟨w.heap.size, 7, none⟩ = false) ∧ (wz.cell? ⟨w1.heap.size, 0, none⟩ = some (.int .i64 lo) ∧ wz.cell? ⟨w1.heap.size, 1, none⟩ = some (.int .i64 hi) ∧ wz.cell? ⟨w1.heap.size, 2, none⟩ = some (.func (.func r) #[] #[]) ∧ wz.cell? ⟨w1.heap.size, 3, none⟩ = some (.func (.func q) #[] #[])) ∧ Hid (wz.heap[w.heap.size]? = some (.cells #[.int .u8 0, .string ⟨#[]⟩, .string ⟨#[]⟩, .string ⟨#[]⟩, .string ⟨#[]⟩, .string ⟨#[]⟩, .float .f64 0, .int .i64 0] 96 (0, 0))) ∧ Hid (Below w.heap.size w wz) := by
  have hlt : w.heap.size < w1.heap.size := (Array.getElem?_eq_some_iff.1 h1).1
  obtain ⟨wz, hwz⟩ : ∃ wz, w1.alloc (.cells #[.int .i64 lo, .int .i64 hi, .func (.func r) #[] #[], .func (.func q) #[] #[]] 222) = wz := ⟨_, rfl⟩
  have k1 : wz.heap[w.heap.size]? = some (.cells #[.int .u8 0, .string ⟨#[]⟩, .string ⟨#[]⟩, .string ⟨#[]⟩, .string ⟨#[]⟩, .string ⟨#[]⟩, .float .f64 0, .int .i64 0] 96 (0, 0)) := by rw [← hwz]; exact (Below.heap_alloc _ _ _ hlt).trans h1
  have k2 : wz.heap[w1.heap.size]? = some (.cells #[.int .i64 lo, .int .i64 hi, .func (.func r) #[] #[], .func (.func q) #[] #[]] 222 (0, 0)) := by rw [← hwz]; exact heap_alloc_new _ _
  exact ⟨wz, hwz, by omega, by omega, (eight k1).1, (eight k1).2, four_c k2, k1, by rw [← hwz]; exact hB.alloc hB.size _⟩
set_option maxHeartbeats 4000000 in
theorem read_1lo (w : World) (B bk m cp : Nat) (s0 : ByteArray) (k : Nat) (hL : Lns w B) (hs0 : 0 < s0.size) (h0 : w.cell? ⟨bk, 0, none⟩ = some (.string s0)) (hm0 : 0 < m) (hm1 : m < 4) (hk : ofK (byt s0 0) = k) (hk8 : k ≤ 8) (hk0 : k ≠ 0) (hi : lnK k = 1) :
    Calls Tryz.prog 106 #[.map (some B), .slice (some ⟨bk, 0, none⟩) m cp] w fun e w' => e = .returned (.tuple #[.agg #[.int .u8 0, .string ⟨#[]⟩, .string ⟨#[]⟩, .string ⟨#[]⟩, .string ⟨#[]⟩, .string ⟨#[]⟩, .float .f64 0, .int .i64 0], .int .i64 4]) ∧ Below w.heap.size w w' := by
  have hbk : bk < w.heap.size := World.block_lt_of_cell? w _ h0
  have h0a : ∀ o, (w.alloc o).cell? ⟨bk, 0, none⟩ = some (.string s0) := fun o => by rw [World.cell?_alloc_lt _ _ _ hbk]; exact h0
  have hg := byt_get hs0
  have hk0b : (k != 0) = true := by simp [hk0]
  have HOF : Hid (∀ W, Calls Tryz.prog 153 #[.int .u8 (byt s0 0 : Nat)] W fun e w' => e = .returned (.tuple #[.int .u8 (k : Nat), .bool true]) ∧ Below W.heap.size W w') := fun W => by have := kof_any (byt s0 0) W (byt_lt _ _); rwa [hk, hk0b] at this
  have i0 : (0 : Int) < (m : Int) := by omega
  have i1 : (0 : Int) < (s0.size : Int) := by omega
  have m1 : (m : Int) < 4 := by omega
  have HL : Hid (Lns w B) := hL
  have HI : Hid (lnK k = 1) := hi
  have HK8 : Hid (k ≤ 8) := hk8
  clear hL hi hk hk0 hk0b hk8 h0
  go_enter Tryz.func106, Tryz.ntmps106
  go_wp2_with (first
    | (go_at_call 153; (try rw [hg]); (with_reducible refine (HOF.out _).mono ?_); rintro e w1 ⟨rfl, hb⟩; (obtain ⟨hz1, hlt, hbz⟩ := zer8 hb); (obtain ⟨wz, hwz, hne1, hne2, ⟨d0, d1, d2, d3, d4, d5, d6, d7⟩, ⟨f0, f1, f2, f3, f4, f5, f6, f7⟩, ⟨l0, l1, l2, l3⟩, HZ2, HBZ2⟩ := bad_st 4 4 147 148 hz1 hbz); (have hlk := look_1 (HL.out.below hbz) HK8.out HI.out); clear hz1 hbz hb))
  have Z := cells_8 (st8_blk HZ2.out (.int .u8 0) (.string ⟨#[]⟩) (.string ⟨#[]⟩) (.string ⟨#[]⟩) (.string ⟨#[]⟩) (.string ⟨#[]⟩) (.float .f64 0) (.int .i64 0))
  unfold st8 at Z
  obtain ⟨z0, z1, z2, z3, z4, z5, z6, z7⟩ := Z
  refine bodyPost_ret (by simp [results, Tryz.results106, go_sem, z0, z1, z2, z3, z4, z5, z6, z7]; try rfl) rfl ?_
  exact ⟨rfl, below_set8 HBZ2.out (Nat.le_refl _) _ _ _ _ _ _ _ _⟩
set_option maxHeartbeats 4000000 in
theorem read_1hi (w : World) (B bk m cp : Nat) (s0 : ByteArray) (k : Nat) (hL : Lns w B) (hs0 : 0 < s0.size) (h0 : w.cell? ⟨bk, 0, none⟩ = some (.string s0)) (hm0 : 0 < m) (hm1 : 4 < m) (hk : ofK (byt s0 0) = k) (hk8 : k ≤ 8) (hk0 : k ≠ 0) (hi : lnK k = 1) :
    Calls Tryz.prog 106 #[.map (some B), .slice (some ⟨bk, 0, none⟩) m cp] w fun e w' => e = .returned (.tuple #[.agg #[.int .u8 0, .string ⟨#[]⟩, .string ⟨#[]⟩, .string ⟨#[]⟩, .string ⟨#[]⟩, .string ⟨#[]⟩, .float .f64 0, .int .i64 0], .int .i64 4]) ∧ Below w.heap.size w w' := by
  have hbk : bk < w.heap.size := World.block_lt_of_cell? w _ h0
  have h0a : ∀ o, (w.alloc o).cell? ⟨bk, 0, none⟩ = some (.string s0) := fun o => by rw [World.cell?_alloc_lt _ _ _ hbk]; exact h0
  have hg := byt_get hs0
  have hk0b : (k != 0) = true := by simp [hk0]
  have HOF : Hid (∀ W, Calls Tryz.prog 153 #[.int .u8 (byt s0 0 : Nat)] W fun e w' => e = .returned (.tuple #[.int .u8 (k : Nat), .bool true]) ∧ Below W.heap.size W w') := fun W => by have := kof_any (byt s0 0) W (byt_lt _ _); rwa [hk, hk0b] at this
  have i0 : (0 : Int) < (m : Int) := by omega
  have i1 : (0 : Int) < (s0.size : Int) := by omega
  have m1 : ¬ ((m : Int) < 4) := by omega
  have m2 : (4 : Int) < (m : Int) := by omega
  have HL : Hid (Lns w B) := hL
  have HI : Hid (lnK k = 1) := hi
  have HK8 : Hid (k ≤ 8) := hk8
  clear hL hi hk hk0 hk0b hk8 h0
  go_enter Tryz.func106, Tryz.ntmps106
  go_wp2_with (first
    | (go_at_call 153; (try rw [hg]); (with_reducible refine (HOF.out _).mono ?_); rintro e w1 ⟨rfl, hb⟩; (obtain ⟨hz1, hlt, hbz⟩ := zer8 hb); (obtain ⟨wz, hwz, hne1, hne2, ⟨d0, d1, d2, d3, d4, d5, d6, d7⟩, ⟨f0, f1, f2, f3, f4, f5, f6, f7⟩, ⟨l0, l1, l2, l3⟩, HZ2, HBZ2⟩ := bad_st 4 4 147 148 hz1 hbz); (have hlk := look_1 (HL.out.below hbz) HK8.out HI.out); clear hz1 hbz hb))
  have Z := cells_8 (st8_blk HZ2.out (.int .u8 0) (.string ⟨#[]⟩) (.string ⟨#[]⟩) (.string ⟨#[]⟩) (.string ⟨#[]⟩) (.string ⟨#[]⟩) (.float .f64 0) (.int .i64 0))
  unfold st8 at Z
  obtain ⟨z0, z1, z2, z3, z4, z5, z6, z7⟩ := Z
  refine bodyPost_ret (by simp [results, Tryz.results106, go_sem, z0, z1, z2, z3, z4, z5, z6, z7]; try rfl) rfl ?_
  exact ⟨rfl, below_set8 HBZ2.out (Nat.le_refl _) _ _ _ _ _ _ _ _⟩
set_option maxHeartbeats 4000000 in
theorem read_2lo (w : World) (B bk m cp : Nat) (s0 : ByteArray) (k : Nat) (hL : Lns w B) (hs0 : 0 < s0.size) (h0 : w.cell? ⟨bk, 0, none⟩ = some (.string s0)) (hm0 : 0 < m) (hm1 : m < 4) (hk : ofK (byt s0 0) = k) (hk8 : k ≤ 8) (hk0 : k ≠ 0) (hi : lnK k = 2) :
    Calls Tryz.prog 106 #[.map (some B), .slice (some ⟨bk, 0, none⟩) m cp] w fun e w' => e = .returned (.tuple #[.agg #[.int .u8 0, .string ⟨#[]⟩, .string ⟨#[]⟩, .string ⟨#[]⟩, .string ⟨#[]⟩, .string ⟨#[]⟩, .float .f64 0, .int .i64 0], .int .i64 4]) ∧ Below w.heap.size w w' := by
  have hbk : bk < w.heap.size := World.block_lt_of_cell? w _ h0
  have h0a : ∀ o, (w.alloc o).cell? ⟨bk, 0, none⟩ = some (.string s0) := fun o => by rw [World.cell?_alloc_lt _ _ _ hbk]; exact h0
  have hg := byt_get hs0
  have hk0b : (k != 0) = true := by simp [hk0]
  have HOF : Hid (∀ W, Calls Tryz.prog 153 #[.int .u8 (byt s0 0 : Nat)] W fun e w' => e = .returned (.tuple #[.int .u8 (k : Nat), .bool true]) ∧ Below W.heap.size W w') := fun W => by have := kof_any (byt s0 0) W (byt_lt _ _); rwa [hk, hk0b] at this
  have i0 : (0 : Int) < (m : Int) := by omega
  have i1 : (0 : Int) < (s0.size : Int) := by omega
  have m1 : (m : Int) < 4 := by omega
  have HL : Hid (Lns w B) := hL
  have HI : Hid (lnK k = 2) := hi
  have HK8 : Hid (k ≤ 8) := hk8
  clear hL hi hk hk0 hk0b hk8 h0
  go_enter Tryz.func106, Tryz.ntmps106
  go_wp2_with (first
    | (go_at_call 153; (try rw [hg]); (with_reducible refine (HOF.out _).mono ?_); rintro e w1 ⟨rfl, hb⟩; (obtain ⟨hz1, hlt, hbz⟩ := zer8 hb); (obtain ⟨wz, hwz, hne1, hne2, ⟨d0, d1, d2, d3, d4, d5, d6, d7⟩, ⟨f0, f1, f2, f3, f4, f5, f6, f7⟩, ⟨l0, l1, l2, l3⟩, HZ2, HBZ2⟩ := bad_st 4 5 149 150 hz1 hbz); (have hlk := look_2 (HL.out.below hbz) HK8.out HI.out); clear hz1 hbz hb))
  have Z := cells_8 (st8_blk HZ2.out (.int .u8 0) (.string ⟨#[]⟩) (.string ⟨#[]⟩) (.string ⟨#[]⟩) (.string ⟨#[]⟩) (.string ⟨#[]⟩) (.float .f64 0) (.int .i64 0))
  unfold st8 at Z
  obtain ⟨z0, z1, z2, z3, z4, z5, z6, z7⟩ := Z
  refine bodyPost_ret (by simp [results, Tryz.results106, go_sem, z0, z1, z2, z3, z4, z5, z6, z7]; try rfl) rfl ?_
  exact ⟨rfl, below_set8 HBZ2.out (Nat.le_refl _) _ _ _ _ _ _ _ _⟩
set_option maxHeartbeats 4000000 in
theorem read_2hi (w : World) (B bk m cp : Nat) (s0 : ByteArray) (k : Nat) (hL : Lns w B) (hs0 : 0 < s0.size) (h0 : w.cell? ⟨bk, 0, none⟩ = some (.string s0)) (hm0 : 0 < m) (hm1 : 5 < m) (hk : ofK (byt s0 0) = k) (hk8 : k ≤ 8) (hk0 : k ≠ 0) (hi : lnK k = 2) :
    Calls Tryz.prog 106 #[.map (some B), .slice (some ⟨bk, 0, none⟩) m cp] w fun e w' => e = .returned (.tuple #[.agg #[.int .u8 0, .string ⟨#[]⟩, .string ⟨#[]⟩, .string ⟨#[]⟩, .string ⟨#[]⟩, .string ⟨#[]⟩, .float .f64 0, .int .i64 0], .int .i64 4]) ∧ Below w.heap.size w w' := by
  have hbk : bk < w.heap.size := World.block_lt_of_cell? w _ h0
  have h0a : ∀ o, (w.alloc o).cell? ⟨bk, 0, none⟩ = some (.string s0) := fun o => by rw [World.cell?_alloc_lt _ _ _ hbk]; exact h0
  have hg := byt_get hs0
  have hk0b : (k != 0) = true := by simp [hk0]
  have HOF : Hid (∀ W, Calls Tryz.prog 153 #[.int .u8 (byt s0 0 : Nat)] W fun e w' => e = .returned (.tuple #[.int .u8 (k : Nat), .bool true]) ∧ Below W.heap.size W w') := fun W => by have := kof_any (byt s0 0) W (byt_lt _ _); rwa [hk, hk0b] at this
  have i0 : (0 : Int) < (m : Int) := by omega
  have i1 : (0 : Int) < (s0.size : Int) := by omega
  have m1 : ¬ ((m : Int) < 4) := by omega
  have m2 : (5 : Int) < (m : Int) := by omega
  have HL : Hid (Lns w B) := hL
  have HI : Hid (lnK k = 2) := hi
  have HK8 : Hid (k ≤ 8) := hk8
  clear hL hi hk hk0 hk0b hk8 h0
  go_enter Tryz.func106, Tryz.ntmps106
  go_wp2_with (first
    | (go_at_call 153; (try rw [hg]); (with_reducible refine (HOF.out _).mono ?_); rintro e w1 ⟨rfl, hb⟩; (obtain ⟨hz1, hlt, hbz⟩ := zer8 hb); (obtain ⟨wz, hwz, hne1, hne2, ⟨d0, d1, d2, d3, d4, d5, d6, d7⟩, ⟨f0, f1, f2, f3, f4, f5, f6, f7⟩, ⟨l0, l1, l2, l3⟩, HZ2, HBZ2⟩ := bad_st 4 5 149 150 hz1 hbz); (have hlk := look_2 (HL.out.below hbz) HK8.out HI.out); clear hz1 hbz hb))
  have Z := cells_8 (st8_blk HZ2.out (.int .u8 0) (.string ⟨#[]⟩) (.string ⟨#[]⟩) (.string ⟨#[]⟩) (.string ⟨#[]⟩) (.string ⟨#[]⟩) (.float .f64 0) (.int .i64 0))
  unfold st8 at Z
  obtain ⟨z0, z1, z2, z3, z4, z5, z6, z7⟩ := Z
  refine bodyPost_ret (by simp [results, Tryz.results106, go_sem, z0, z1, z2, z3, z4, z5, z6, z7]; try rfl) rfl ?_
  exact ⟨rfl, below_set8 HBZ2.out (Nat.le_refl _) _ _ _ _ _ _ _ _⟩
set_option maxHeartbeats 4000000 in
theorem read_3lo (w : World) (B bk m cp : Nat) (s0 : ByteArray) (k : Nat) (hL : Lns w B) (hs0 : 0 < s0.size) (h0 : w.cell? ⟨bk, 0, none⟩ = some (.string s0)) (hm0 : 0 < m) (hm1 : m < 6) (hk : ofK (byt s0 0) = k) (hk8 : k ≤ 8) (hk0 : k ≠ 0) (hi : lnK k = 3) :
    Calls Tryz.prog 106 #[.map (some B), .slice (some ⟨bk, 0, none⟩) m cp] w fun e w' => e = .returned (.tuple #[.agg #[.int .u8 0, .string ⟨#[]⟩, .string ⟨#[]⟩, .string ⟨#[]⟩, .string ⟨#[]⟩, .string ⟨#[]⟩, .float .f64 0, .int .i64 0], .int .i64 4]) ∧ Below w.heap.size w w' := by
  have hbk : bk < w.heap.size := World.block_lt_of_cell? w _ h0
  have h0a : ∀ o, (w.alloc o).cell? ⟨bk, 0, none⟩ = some (.string s0) := fun o => by rw [World.cell?_alloc_lt _ _ _ hbk]; exact h0
  have hg := byt_get hs0
  have hk0b : (k != 0) = true := by simp [hk0]
  have HOF : Hid (∀ W, Calls Tryz.prog 153 #[.int .u8 (byt s0 0 : Nat)] W fun e w' => e = .returned (.tuple #[.int .u8 (k : Nat), .bool true]) ∧ Below W.heap.size W w') := fun W => by have := kof_any (byt s0 0) W (byt_lt _ _); rwa [hk, hk0b] at this
  have i0 : (0 : Int) < (m : Int) := by omega
  have i1 : (0 : Int) < (s0.size : Int) := by omega
  have m1 : (m : Int) < 6 := by omega
  have HL : Hid (Lns w B) := hL
  have HI : Hid (lnK k = 3) := hi
  have HK8 : Hid (k ≤ 8) := hk8
  clear hL hi hk hk0 hk0b hk8 h0
  go_enter Tryz.func106, Tryz.ntmps106
  go_wp2_with (first
    | (go_at_call 153; (try rw [hg]); (with_reducible refine (HOF.out _).mono ?_); rintro e w1 ⟨rfl, hb⟩; (obtain ⟨hz1, hlt, hbz⟩ := zer8 hb); (obtain ⟨wz, hwz, hne1, hne2, ⟨d0, d1, d2, d3, d4, d5, d6, d7⟩, ⟨f0, f1, f2, f3, f4, f5, f6, f7⟩, ⟨l0, l1, l2, l3⟩, HZ2, HBZ2⟩ := bad_st 6 6 151 152 hz1 hbz); (have hlk := look_3 (HL.out.below hbz) HK8.out HI.out); clear hz1 hbz hb))
  have Z := cells_8 (st8_blk HZ2.out (.int .u8 0) (.string ⟨#[]⟩) (.string ⟨#[]⟩) (.string ⟨#[]⟩) (.string ⟨#[]⟩) (.string ⟨#[]⟩) (.float .f64 0) (.int .i64 0))
  unfold st8 at Z
  obtain ⟨z0, z1, z2, z3, z4, z5, z6, z7⟩ := Z
  refine bodyPost_ret (by simp [results, Tryz.results106, go_sem, z0, z1, z2, z3, z4, z5, z6, z7]; try rfl) rfl ?_
  exact ⟨rfl, below_set8 HBZ2.out (Nat.le_refl _) _ _ _ _ _ _ _ _⟩
set_option maxHeartbeats 4000000 in
theorem read_3hi (w : World) (B bk m cp : Nat) (s0 : ByteArray) (k : Nat) (hL : Lns w B) (hs0 : 0 < s0.size) (h0 : w.cell? ⟨bk, 0, none⟩ = some (.string s0)) (hm0 : 0 < m) (hm1 : 6 < m) (hk : ofK (byt s0 0) = k) (hk8 : k ≤ 8) (hk0 : k ≠ 0) (hi : lnK k = 3) :
    Calls Tryz.prog 106 #[.map (some B), .slice (some ⟨bk, 0, none⟩) m cp] w fun e w' => e = .returned (.tuple #[.agg #[.int .u8 0, .string ⟨#[]⟩, .string ⟨#[]⟩, .string ⟨#[]⟩, .string ⟨#[]⟩, .string ⟨#[]⟩, .float .f64 0, .int .i64 0], .int .i64 4]) ∧ Below w.heap.size w w' := by
  have hbk : bk < w.heap.size := World.block_lt_of_cell? w _ h0
  have h0a : ∀ o, (w.alloc o).cell? ⟨bk, 0, none⟩ = some (.string s0) := fun o => by rw [World.cell?_alloc_lt _ _ _ hbk]; exact h0
  have hg := byt_get hs0
  have hk0b : (k != 0) = true := by simp [hk0]
  have HOF : Hid (∀ W, Calls Tryz.prog 153 #[.int .u8 (byt s0 0 : Nat)] W fun e w' => e = .returned (.tuple #[.int .u8 (k : Nat), .bool true]) ∧ Below W.heap.size W w') := fun W => by have := kof_any (byt s0 0) W (byt_lt _ _); rwa [hk, hk0b] at this
  have i0 : (0 : Int) < (m : Int) := by omega
  have i1 : (0 : Int) < (s0.size : Int) := by omega
  have m1 : ¬ ((m : Int) < 6) := by omega
  have m2 : (6 : Int) < (m : Int) := by omega
  have HL : Hid (Lns w B) := hL
  have HI : Hid (lnK k = 3) := hi
  have HK8 : Hid (k ≤ 8) := hk8
  clear hL hi hk hk0 hk0b hk8 h0
  go_enter Tryz.func106, Tryz.ntmps106
  go_wp2_with (first
    | (go_at_call 153; (try rw [hg]); (with_reducible refine (HOF.out _).mono ?_); rintro e w1 ⟨rfl, hb⟩; (obtain ⟨hz1, hlt, hbz⟩ := zer8 hb); (obtain ⟨wz, hwz, hne1, hne2, ⟨d0, d1, d2, d3, d4, d5, d6, d7⟩, ⟨f0, f1, f2, f3, f4, f5, f6, f7⟩, ⟨l0, l1, l2, l3⟩, HZ2, HBZ2⟩ := bad_st 6 6 151 152 hz1 hbz); (have hlk := look_3 (HL.out.below hbz) HK8.out HI.out); clear hz1 hbz hb))
  have Z := cells_8 (st8_blk HZ2.out (.int .u8 0) (.string ⟨#[]⟩) (.string ⟨#[]⟩) (.string ⟨#[]⟩) (.string ⟨#[]⟩) (.string ⟨#[]⟩) (.float .f64 0) (.int .i64 0))
  unfold st8 at Z
  obtain ⟨z0, z1, z2, z3, z4, z5, z6, z7⟩ := Z
  refine bodyPost_ret (by simp [results, Tryz.results106, go_sem, z0, z1, z2, z3, z4, z5, z6, z7]; try rfl) rfl ?_
  exact ⟨rfl, below_set8 HBZ2.out (Nat.le_refl _) _ _ _ _ _ _ _ _⟩
theorem none_st {w w1 : World} (h1 : w1.heap[w.heap.size]? = some (.cells #[.int .u8 0, .string ⟨#[]⟩, .string ⟨#[]⟩, .string ⟨#[]⟩, .string ⟨#[]⟩, .string ⟨#[]⟩, .float .f64 0, .int .i64 0] 96 (0, 0))) (hB : Below w.heap.size w w1) :
    (w1.cell? ⟨w.heap.size, 0, none⟩ = some (.int .u8 0) ∧ w1.cell? ⟨w.heap.size, 1, none⟩ = some (.string ⟨#[]⟩) ∧ w1.cell? ⟨w.heap.size, 2, none⟩ = some (.string ⟨#[]⟩) ∧ w1.cell? ⟨w.heap.size, 3, none⟩ = some (.string ⟨#[]⟩) ∧ w1.cell? ⟨w.heap.size, 4, none⟩ = some (.string ⟨#[]⟩) ∧ w1.cell? ⟨w.heap.size, 5, none⟩ = some (.string ⟨#[]⟩) ∧ w1.cell? ⟨w.heap.size, 6, none⟩ = some (.float .f64 0) ∧ w1.cell? ⟨w.heap.size, 7, none⟩ = some (.int .i64 0)) ∧ (w1.frozen? ⟨w.heap.size, 0, none⟩ = false ∧ w1.frozen? ⟨w.heap.size, 1, none⟩ = false ∧ w1.frozen? ⟨w.heap.size, 2, none⟩ = false ∧ w1.frozen? ⟨w.heap.size, 3, none⟩ = false ∧ w1.frozen? ⟨w.heap.size, 4, none⟩ = false ∧ w1.frozen? ⟨w.heap.size, 5, none⟩ = false ∧ w1.frozen? ⟨w.heap.size, 6, none⟩ = false ∧ w1.frozen? ⟨w.heap.size, 7, none⟩ = false) ∧ Hid (w1.heap[w.heap.size]? = some (.cells #[.int .u8 0, .string ⟨#[]⟩, .string ⟨#[]⟩, .string ⟨#[]⟩, .string ⟨#[]⟩, .string ⟨#[]⟩, .float .f64 0, .int .i64 0] 96 (0, 0))) ∧ Hid (Below w.heap.size w w1) := ⟨(eight h1).1, (eight h1).2, h1, hB⟩
set_option maxHeartbeats 4000000 in
theorem read_0 (w : World) (B bk m cp : Nat) (s0 : ByteArray) (hs0 : 0 < s0.size) (h0 : w.cell? ⟨bk, 0, none⟩ = some (.string s0)) (hm0 : 0 < m) (hk : ofK (byt s0 0) = 0) :
    Calls Tryz.prog 106 #[.map (some B), .slice (some ⟨bk, 0, none⟩) m cp] w fun e w' => e = .returned (.tuple #[.agg #[.int .u8 0, .string ⟨#[]⟩, .string ⟨#[]⟩, .string ⟨#[]⟩, .string ⟨#[]⟩, .string ⟨#[]⟩, .float .f64 0, .int .i64 0], .int .i64 8]) ∧ Below w.heap.size w w' := by
  have hbk : bk < w.heap.size := World.block_lt_of_cell? w _ h0
  have h0a : ∀ o, (w.alloc o).cell? ⟨bk, 0, none⟩ = some (.string s0) := fun o => by rw [World.cell?_alloc_lt _ _ _ hbk]; exact h0
  have hg := byt_get hs0
  have HOF : Hid (∀ W, Calls Tryz.prog 153 #[.int .u8 (byt s0 0 : Nat)] W fun e w' => e = .returned (.tuple #[.int .u8 0, .bool false]) ∧ Below W.heap.size W w') := fun W => by have := kof_any (byt s0 0) W (byt_lt _ _); rw [hk] at this; exact this
  have i0 : (0 : Int) < (m : Int) := by omega
  have i1 : (0 : Int) < (s0.size : Int) := by omega
  clear hk h0
  go_enter Tryz.func106, Tryz.ntmps106
  go_wp2_with (first
    | (go_at_call 153; (try rw [hg]); (with_reducible refine (HOF.out _).mono ?_); rintro e w1 ⟨rfl, hb⟩; (obtain ⟨hz1, hlt, hbz⟩ := zer8 hb); (obtain ⟨⟨d0, d1, d2, d3, d4, d5, d6, d7⟩, ⟨f0, f1, f2, f3, f4, f5, f6, f7⟩, HZ2, HBZ2⟩ := none_st hz1 hbz); clear hz1 hbz hb))
  have Z := cells_8 (st8_blk HZ2.out (.int .u8 0) (.string ⟨#[]⟩) (.string ⟨#[]⟩) (.string ⟨#[]⟩) (.string ⟨#[]⟩) (.string ⟨#[]⟩) (.float .f64 0) (.int .i64 0))
  unfold st8 at Z
  obtain ⟨z0, z1, z2, z3, z4, z5, z6, z7⟩ := Z
  refine bodyPost_ret (by simp [results, Tryz.results106, go_sem, z0, z1, z2, z3, z4, z5, z6, z7]; try rfl) rfl ?_
  exact ⟨rfl, below_set8 HBZ2.out (Nat.le_refl _) _ _ _ _ _ _ _ _⟩
end Go.Proofs.YtmpkcioeodlbcaaGreatDoor
