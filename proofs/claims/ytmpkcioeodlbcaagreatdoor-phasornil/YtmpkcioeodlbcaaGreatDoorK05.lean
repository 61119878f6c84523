/-
  Several texts in one: Nst Nmg Npa Sha.
-/
import Derived.Test.YtmpkcioeodlbcaaGreatDoorK04
import Derived.Deep.Cut
import Derived.Deep.DeepCutAuto
import Derived.Deep.CutBlock
import Derived.Deep.CutRange
import Derived.Test.YtmpkcioeodlbcaaGreatDoorK01
import Derived.Test.YtmpkcioeodlbcaaGreatDoorK03
import Derived.Test.YtmpkcioeodlbcaaGreatDoorProg
import Derived.Shelf.Strconv.AtoiAll
namespace Go.Proofs.YtmpkcioeodlbcaaGreatDoor
open Go.Maps Go.RowKit
set_option maxRecDepth 100000
/-- eight cells of a block, each of them may be written -/
theorem eight {w : World} {p : Nat} {a b c d e f g h : Value} {t : TypeId} (hb : w.heap[p]? = some (.cells #[a, b, c, d, e, f, g, h] t (0, 0))) :
    (w.cell? ⟨p, 0, none⟩ = some a ∧ w.cell? ⟨p, 1, none⟩ = some b ∧ w.cell? ⟨p, 2, none⟩ = some c ∧ w.cell? ⟨p, 3, none⟩ = some d ∧ w.cell? ⟨p, 4, none⟩ = some e ∧ w.cell? ⟨p, 5, none⟩ = some f ∧ w.cell? ⟨p, 6, none⟩ = some g ∧ w.cell? ⟨p, 7, none⟩ = some h) ∧
    (w.frozen? ⟨p, 0, none⟩ = false ∧ w.frozen? ⟨p, 1, none⟩ = false ∧ w.frozen? ⟨p, 2, none⟩ = false ∧ w.frozen? ⟨p, 3, none⟩ = false ∧ w.frozen? ⟨p, 4, none⟩ = false ∧ w.frozen? ⟨p, 5, none⟩ = false ∧ w.frozen? ⟨p, 6, none⟩ = false ∧ w.frozen? ⟨p, 7, none⟩ = false) := by
  refine ⟨⟨?_, ?_, ?_, ?_, ?_, ?_, ?_, ?_⟩, ⟨?_, ?_, ?_, ?_, ?_, ?_, ?_, ?_⟩⟩
  all_goals first | exact frozen_of_row w p _ _ _ hb | (rw [cell_of_row w p _ _ _ (0, 0) hb]; rfl)
theorem below_set {w0 w : World} {p j : Nat} {u : Value} (hb : Below p w0 w) : Below p w0 (w.setCell ⟨p, j, none⟩ u) :=
  ⟨hb.os, hb.tape, hb.output, by have := hb.size; simpa [World.setCell] using this, fun k hk => (heap_setCell_other w ⟨p, j, none⟩ k u (by simp; omega)).trans (hb.block k hk)⟩
def st8 (w : World) (p : Nat) (a b c d e f g h : Value) : World := (((((((w.setCell ⟨p, 0, none⟩ a).setCell ⟨p, 1, none⟩ b).setCell ⟨p, 2, none⟩ c).setCell ⟨p, 3, none⟩ d).setCell ⟨p, 4, none⟩ e).setCell ⟨p, 5, none⟩ f).setCell ⟨p, 6, none⟩ g).setCell ⟨p, 7, none⟩ h
theorem set_at {w : World} {p i : Nat} {c c' : Array Value} {t : TypeId} {v : Value} (hb : w.heap[p]? = some (.cells c t (0, 0))) (hc : c.setIfInBounds i v = c') : (w.setCell ⟨p, i, none⟩ v).heap[p]? = some (.cells c' t (0, 0)) := by rw [← hc]; exact heap_setCell_same w p i c t v hb
theorem st8_blk {w : World} {p : Nat} {a b c d e f g h : Value} {t : TypeId} (hb : w.heap[p]? = some (.cells #[a, b, c, d, e, f, g, h] t (0, 0))) (a' b' c' d' e' f' g' h' : Value) : (st8 w p a' b' c' d' e' f' g' h').heap[p]? = some (.cells #[a', b', c', d', e', f', g', h'] t (0, 0)) := by
  have h0 := set_at (i := 0) (v := a') (c' := #[a', b, c, d, e, f, g, h]) hb rfl
  have h1 := set_at (i := 1) (v := b') (c' := #[a', b', c, d, e, f, g, h]) h0 rfl
  have h2 := set_at (i := 2) (v := c') (c' := #[a', b', c', d, e, f, g, h]) h1 rfl
  have h3 := set_at (i := 3) (v := d') (c' := #[a', b', c', d', e, f, g, h]) h2 rfl
  have h4 := set_at (i := 4) (v := e') (c' := #[a', b', c', d', e', f, g, h]) h3 rfl
  have h5 := set_at (i := 5) (v := f') (c' := #[a', b', c', d', e', f', g, h]) h4 rfl
  have h6 := set_at (i := 6) (v := g') (c' := #[a', b', c', d', e', f', g', h]) h5 rfl
  have h7 := set_at (i := 7) (v := h') (c' := #[a', b', c', d', e', f', g', h']) h6 rfl
  unfold st8
  exact h7
theorem st8_bel {w0 w : World} {p : Nat} (hb : Below p w0 w) (a b c d e f g h : Value) : Below p w0 (st8 w p a b c d e f g h) := by
  unfold st8
  exact below_set (below_set (below_set (below_set (below_set (below_set (below_set (below_set hb)))))))

/-- two cells of a block that is known whole -/
theorem tw_c {w : World} {B : Nat} {a b : Value} {T : TypeId} (h : w.heap[B]? = some (.cells #[a, b] T (0, 0))) : w.cell? ⟨B, 0, none⟩ = some a ∧ w.cell? ⟨B, 1, none⟩ = some b ∧ w.frozen? ⟨B, 0, none⟩ = false ∧ w.frozen? ⟨B, 1, none⟩ = false :=
  ⟨by rw [cell_of_row w B 0 _ T (0, 0) h]; rfl, by rw [cell_of_row w B 1 _ T (0, 0) h]; rfl, frozen_of_row w B 0 _ T h, frozen_of_row w B 1 _ T h⟩
theorem tw_set {w : World} {B : Nat} {a b : Value} {T : TypeId} (h : w.heap[B]? = some (.cells #[a, b] T (0, 0))) (x y : Value) :
    ((w.setCell ⟨B, 0, none⟩ x).setCell ⟨B, 1, none⟩ y).cell? ⟨B, 0, none⟩ = some x ∧ ((w.setCell ⟨B, 0, none⟩ x).setCell ⟨B, 1, none⟩ y).cell? ⟨B, 1, none⟩ = some y := by
  obtain ⟨c0, c1, _, _⟩ := tw_c h
  constructor
  · rw [World.cell?_setCell_other _ _ _ _ (by simp)]
    exact World.cell?_setCell_same _ _ _ c0
  · refine World.cell?_setCell_same _ _ _ (u := b) ?_
    rw [World.cell?_setCell_other _ _ _ _ (by simp)]; exact c1
theorem tw_bel {w w' : World} {f n : Nat} (h : Below n w w') (hf : n ≤ f) (x y : Value) : Below n w ((w'.setCell ⟨f, 0, none⟩ x).setCell ⟨f, 1, none⟩ y) :=
  (h.setCell (p := ⟨f, 0, none⟩) hf _).setCell (p := ⟨f, 1, none⟩) hf _

end Go.Proofs.YtmpkcioeodlbcaaGreatDoor
namespace Go.Proofs.YtmpkcioeodlbcaaGreatDoor
open Go.Maps Go.RowKit
set_option maxRecDepth 100000
/-- words that lie in a block -/
def Wd (w : World) (b : Nat) (ws : List ByteArray) : Prop := ∀ (k : Nat) (u : ByteArray), ws[k]? = some u → w.cell? ⟨b, k, none⟩ = some (.string u)
theorem Wd.below {w w' : World} {b : Nat} {ws : List ByteArray} (h : Wd w b ws) (hb : Below w.heap.size w w') : Wd w' b ws := fun k u hk => (hb.cell (World.block_lt_of_cell? w _ (h k u hk))).trans (h k u hk)
abbrev elN (k : Nat) (n a b c d : ByteArray) (v : Nat) (ph : Int) : Value := .agg #[.int .u8 (k : Int), .string n, .string a, .string b, .string c, .string d, .float .f64 v, .int .i64 ph]
def Hdn (P : Prop) : Prop := P
theorem Hdn.out {P : Prop} (h : Hdn P) : P := h
theorem below_drw {w0 w : World} {p : Nat} (h : Below p w0 w) : Below p w0 w.drew := ⟨h.os, h.tape, h.output, h.size, h.block⟩
theorem drew_blk {W : World} {p : Nat} {c : Option Obj} (h : W.heap[p]? = c) : W.drew.heap[p]? = c := h
set_option maxHeartbeats 1000000 in
theorem readTwo_by (w : World) (b n c : Nat) (s0 s1 s2 s3 : ByteArray) (x : Nat) (E A : Int) (hn : 4 ≤ n) (h0 : w.cell? ⟨b, 0, none⟩ = some (.string s0)) (h1 : w.cell? ⟨b, 1, none⟩ = some (.string s1)) (h2 : w.cell? ⟨b, 2, none⟩ = some (.string s2)) (h3 : w.cell? ⟨b, 3, none⟩ = some (.string s3))
    (hP : ∀ W : World, Calls Tryz.prog 193 #[.string s3] W fun e w' => e = .returned (.tuple #[.float .f64 x, .agg #[.int .i64 E, .int .i64 A]]) ∧ Below W.heap.size W w') :
    Calls Tryz.prog 147 #[.slice (some ⟨b, 0, none⟩) n c] w fun e w' => e = .returned (.tuple #[elN 0 s0 s1 s2 ⟨#[]⟩ ⟨#[]⟩ x 0, .int .i64 E]) ∧ Below w.heap.size w w' := by
  have hlt : b < w.heap.size := World.block_lt_of_cell? w _ h0
  have i0 : (0 : Int) < (n : Int) := by omega
  have i1 : (1 : Int) < (n : Int) := by omega
  have i2 : (2 : Int) < (n : Int) := by omega
  have i3 : (3 : Int) < (n : Int) := by omega
  have h3a : (w.alloc (.cells #[.int .u8 0, .string ⟨#[]⟩, .string ⟨#[]⟩, .string ⟨#[]⟩, .string ⟨#[]⟩, .string ⟨#[]⟩, .float .f64 0, .int .i64 0] 96)).cell? ⟨b, 3, none⟩ = some (.string s3) := by rw [World.cell?_alloc_lt _ _ _ hlt]; exact h3
  go_enter Tryz.func147, Tryz.ntmps147
  go_wp2_with (go_at_call 193; (with_reducible refine (hP _).mono ?_); rintro e1 w1 ⟨rfl, B1⟩)
  have BA : Below w.heap.size w (w.alloc (.cells #[.int .u8 0, .string ⟨#[]⟩, .string ⟨#[]⟩, .string ⟨#[]⟩, .string ⟨#[]⟩, .string ⟨#[]⟩, .float .f64 0, .int .i64 0] 96)) := (Below.refl _ w).alloc (Nat.le_refl _) _
  have sz0 : (w.alloc (.cells #[.int .u8 0, .string ⟨#[]⟩, .string ⟨#[]⟩, .string ⟨#[]⟩, .string ⟨#[]⟩, .string ⟨#[]⟩, .float .f64 0, .int .i64 0] 96)).heap.size = w.heap.size + 1 := by simp
  have hz1 : w1.heap[w.heap.size]? = some (.cells #[.int .u8 0, .string ⟨#[]⟩, .string ⟨#[]⟩, .string ⟨#[]⟩, .string ⟨#[]⟩, .string ⟨#[]⟩, .float .f64 0, .int .i64 0] 96 (0, 0)) := by rw [B1.block _ (by rw [sz0]; omega)]; exact heap_alloc_new w _
  have hs1 := B1.size
  rw [sz0] at hs1
  have BB : Below w.heap.size w w1 := BA.trans (B1.mono (by rw [sz0]; omega))
  obtain ⟨wz, hwz⟩ : ∃ wz, wz = w1.alloc (.cells #[.int .i64 E, .int .i64 A] 69) := ⟨_, rfl⟩
  have BZ : Below w.heap.size w wz := by rw [hwz]; exact BB.alloc (by omega) _
  have hz : wz.heap[w.heap.size]? = some (.cells #[.int .u8 0, .string ⟨#[]⟩, .string ⟨#[]⟩, .string ⟨#[]⟩, .string ⟨#[]⟩, .string ⟨#[]⟩, .float .f64 0, .int .i64 0] 96 (0, 0)) := by rw [hwz, Below.heap_alloc _ _ _ (by omega)]; exact hz1
  have kE : wz.cell? ⟨w1.heap.size, 0, none⟩ = some (.int .i64 E) := by rw [hwz]; exact World.cell?_alloc_new _ _ _ _
  have k0 := (BZ.cell (p := ⟨b, 0, none⟩) hlt).trans h0
  have k1 := (BZ.cell (p := ⟨b, 1, none⟩) hlt).trans h1
  have k2 := (BZ.cell (p := ⟨b, 2, none⟩) hlt).trans h2
  have q1 : ¬ b = w.heap.size := by omega
  have q2 : ¬ w.heap.size = b := by omega
  have q3 : ¬ w1.heap.size = w.heap.size := by omega
  have q4 : ¬ w.heap.size = w1.heap.size := by omega
  rw [← hwz]
  clear hwz BA B1 sz0 hz1 BB h3a hP h0 h1 h2 h3
  go_cut [3] (fun v wc => v = .int .i64 E ∧ wc.heap[w.heap.size]? = some (.cells #[.int .u8 0, .string s0, .string s1, .string s2, .string ⟨#[]⟩, .string ⟨#[]⟩, .float .f64 x, .int .i64 0] 96 (0, 0)) ∧ Below w.heap.size w wc)
  case first =>
    have HZ : Hdn (Below w.heap.size w wz ∧ wz.heap[w.heap.size]? = some (.cells #[.int .u8 0, .string ⟨#[]⟩, .string ⟨#[]⟩, .string ⟨#[]⟩, .string ⟨#[]⟩, .string ⟨#[]⟩, .float .f64 0, .int .i64 0] 96 (0, 0))) := ⟨BZ, hz⟩
    obtain ⟨⟨c0, c1, c2, c3, c4, c5, c6, c7⟩, ⟨f0, f1, f2, f3, f4, f5, f6, f7⟩⟩ := eight hz
    clear BZ hz hs1
    go_region_held_law (fun W => W.cell? ⟨b, 0, none⟩ = some (.string s0) ∧ W.cell? ⟨b, 1, none⟩ = some (.string s1) ∧ W.cell? ⟨b, 2, none⟩ = some (.string s2) ∧ W.cell? ⟨w1.heap.size, 0, none⟩ = some (.int .i64 E)) (go_keep) (fail)
    go_wp2_with fail
    go_meet
    case rel =>
      have e8 := st8_blk HZ.out.2 (.int .u8 0) (.string s0) (.string s1) (.string s2) (.string ⟨#[]⟩) (.string ⟨#[]⟩) (.float .f64 x) (.int .i64 0)
      have b8 := st8_bel HZ.out.1 (.int .u8 0) (.string s0) (.string s1) (.string s2) (.string ⟨#[]⟩) (.string ⟨#[]⟩) (.float .f64 x) (.int .i64 0)
      unfold st8 at e8 b8
      exact ⟨rfl, drew_blk e8, below_drw b8⟩
  case rest =>
    obtain ⟨rfl, hzz, BZZ⟩ := hcut
    obtain ⟨⟨c0, c1, c2, c3, c4, c5, c6, c7⟩, -⟩ := eight hzz
    go_wp2_with fail
    (try simp only [Exit.inBlock, Exit.then])
    refine bodyPost_ret (by simp [results, Tryz.results147, go_sem, c0, c1, c2, c3, c4, c5, c6, c7]; try rfl) rfl ?_
    exact ⟨rfl, BZZ⟩

set_option maxHeartbeats 1000000 in
theorem readFour_by (w : World) (b n c : Nat) (s0 s1 s2 s3 s4 s5 : ByteArray) (x : Nat) (E A : Int) (hn : 6 ≤ n) (h0 : w.cell? ⟨b, 0, none⟩ = some (.string s0)) (h1 : w.cell? ⟨b, 1, none⟩ = some (.string s1)) (h2 : w.cell? ⟨b, 2, none⟩ = some (.string s2)) (h3 : w.cell? ⟨b, 3, none⟩ = some (.string s3)) (h4 : w.cell? ⟨b, 4, none⟩ = some (.string s4)) (h5 : w.cell? ⟨b, 5, none⟩ = some (.string s5))
    (hP : ∀ W : World, Calls Tryz.prog 193 #[.string s5] W fun e w' => e = .returned (.tuple #[.float .f64 x, .agg #[.int .i64 E, .int .i64 A]]) ∧ Below W.heap.size W w') :
    Calls Tryz.prog 151 #[.slice (some ⟨b, 0, none⟩) n c] w fun e w' => e = .returned (.tuple #[elN 0 s0 s1 s2 s3 s4 x 0, .int .i64 E]) ∧ Below w.heap.size w w' := by
  have hlt : b < w.heap.size := World.block_lt_of_cell? w _ h0
  have i0 : (0 : Int) < (n : Int) := by omega
  have i1 : (1 : Int) < (n : Int) := by omega
  have i2 : (2 : Int) < (n : Int) := by omega
  have i3 : (3 : Int) < (n : Int) := by omega
  have i4 : (4 : Int) < (n : Int) := by omega
  have i5 : (5 : Int) < (n : Int) := by omega
  have h5a : (w.alloc (.cells #[.int .u8 0, .string ⟨#[]⟩, .string ⟨#[]⟩, .string ⟨#[]⟩, .string ⟨#[]⟩, .string ⟨#[]⟩, .float .f64 0, .int .i64 0] 96)).cell? ⟨b, 5, none⟩ = some (.string s5) := by rw [World.cell?_alloc_lt _ _ _ hlt]; exact h5
  go_enter Tryz.func151, Tryz.ntmps151
  go_wp2_with (go_at_call 193; (with_reducible refine (hP _).mono ?_); rintro e1 w1 ⟨rfl, B1⟩)
  have BA : Below w.heap.size w (w.alloc (.cells #[.int .u8 0, .string ⟨#[]⟩, .string ⟨#[]⟩, .string ⟨#[]⟩, .string ⟨#[]⟩, .string ⟨#[]⟩, .float .f64 0, .int .i64 0] 96)) := (Below.refl _ w).alloc (Nat.le_refl _) _
  have sz0 : (w.alloc (.cells #[.int .u8 0, .string ⟨#[]⟩, .string ⟨#[]⟩, .string ⟨#[]⟩, .string ⟨#[]⟩, .string ⟨#[]⟩, .float .f64 0, .int .i64 0] 96)).heap.size = w.heap.size + 1 := by simp
  have hz1 : w1.heap[w.heap.size]? = some (.cells #[.int .u8 0, .string ⟨#[]⟩, .string ⟨#[]⟩, .string ⟨#[]⟩, .string ⟨#[]⟩, .string ⟨#[]⟩, .float .f64 0, .int .i64 0] 96 (0, 0)) := by rw [B1.block _ (by rw [sz0]; omega)]; exact heap_alloc_new w _
  have hs1 := B1.size
  rw [sz0] at hs1
  have BB : Below w.heap.size w w1 := BA.trans (B1.mono (by rw [sz0]; omega))
  obtain ⟨wz, hwz⟩ : ∃ wz, wz = w1.alloc (.cells #[.int .i64 E, .int .i64 A] 69) := ⟨_, rfl⟩
  have BZ : Below w.heap.size w wz := by rw [hwz]; exact BB.alloc (by omega) _
  have hz : wz.heap[w.heap.size]? = some (.cells #[.int .u8 0, .string ⟨#[]⟩, .string ⟨#[]⟩, .string ⟨#[]⟩, .string ⟨#[]⟩, .string ⟨#[]⟩, .float .f64 0, .int .i64 0] 96 (0, 0)) := by rw [hwz, Below.heap_alloc _ _ _ (by omega)]; exact hz1
  have kE : wz.cell? ⟨w1.heap.size, 0, none⟩ = some (.int .i64 E) := by rw [hwz]; exact World.cell?_alloc_new _ _ _ _
  have k0 := (BZ.cell (p := ⟨b, 0, none⟩) hlt).trans h0
  have k1 := (BZ.cell (p := ⟨b, 1, none⟩) hlt).trans h1
  have k2 := (BZ.cell (p := ⟨b, 2, none⟩) hlt).trans h2
  have k3 := (BZ.cell (p := ⟨b, 3, none⟩) hlt).trans h3
  have k4 := (BZ.cell (p := ⟨b, 4, none⟩) hlt).trans h4
  have q1 : ¬ b = w.heap.size := by omega
  have q2 : ¬ w.heap.size = b := by omega
  have q3 : ¬ w1.heap.size = w.heap.size := by omega
  have q4 : ¬ w.heap.size = w1.heap.size := by omega
  rw [← hwz]
  clear hwz BA B1 sz0 hz1 BB h5a hP h0 h1 h2 h3 h4 h5
  go_cut [3] (fun v wc => v = .int .i64 E ∧ wc.heap[w.heap.size]? = some (.cells #[.int .u8 0, .string s0, .string s1, .string s2, .string s3, .string s4, .float .f64 x, .int .i64 0] 96 (0, 0)) ∧ Below w.heap.size w wc)
  case first =>
    have HZ : Hdn (Below w.heap.size w wz ∧ wz.heap[w.heap.size]? = some (.cells #[.int .u8 0, .string ⟨#[]⟩, .string ⟨#[]⟩, .string ⟨#[]⟩, .string ⟨#[]⟩, .string ⟨#[]⟩, .float .f64 0, .int .i64 0] 96 (0, 0))) := ⟨BZ, hz⟩
    obtain ⟨⟨c0, c1, c2, c3, c4, c5, c6, c7⟩, ⟨f0, f1, f2, f3, f4, f5, f6, f7⟩⟩ := eight hz
    clear BZ hz hs1
    go_region_held_law (fun W => W.cell? ⟨b, 0, none⟩ = some (.string s0) ∧ W.cell? ⟨b, 1, none⟩ = some (.string s1) ∧ W.cell? ⟨b, 2, none⟩ = some (.string s2) ∧ W.cell? ⟨b, 3, none⟩ = some (.string s3) ∧ W.cell? ⟨b, 4, none⟩ = some (.string s4) ∧ W.cell? ⟨w1.heap.size, 0, none⟩ = some (.int .i64 E)) (go_keep) (fail)
    go_wp2_with fail
    go_meet
    case rel =>
      have e8 := st8_blk HZ.out.2 (.int .u8 0) (.string s0) (.string s1) (.string s2) (.string s3) (.string s4) (.float .f64 x) (.int .i64 0)
      have b8 := st8_bel HZ.out.1 (.int .u8 0) (.string s0) (.string s1) (.string s2) (.string s3) (.string s4) (.float .f64 x) (.int .i64 0)
      unfold st8 at e8 b8
      exact ⟨rfl, drew_blk e8, below_drw b8⟩
  case rest =>
    obtain ⟨rfl, hzz, BZZ⟩ := hcut
    obtain ⟨⟨c0, c1, c2, c3, c4, c5, c6, c7⟩, -⟩ := eight hzz
    go_wp2_with fail
    (try simp only [Exit.inBlock, Exit.then])
    refine bodyPost_ret (by simp [results, Tryz.results151, go_sem, c0, c1, c2, c3, c4, c5, c6, c7]; try rfl) rfl ?_
    exact ⟨rfl, BZZ⟩

end Go.Proofs.YtmpkcioeodlbcaaGreatDoor
namespace Go.Proofs.YtmpkcioeodlbcaaGreatDoor
open Go.Maps Go.RowKit Joins Deep
set_option linter.unusedVariables false
set_option maxRecDepth 100000
theorem clone_any (s : ByteArray) (w : World) (hs : s.size ≤ 281474976710656) :
    Calls Tryz.prog 154 #[.string s] w fun e w' => e = .returned (.string s) ∧ Below w.heap.size w w' := by
  have h : ∀ W : World, Calls Tryz.prog 197 #[.string s] W fun e w' => e = .returned (.string s) ∧ Below W.heap.size W w' := fun W => Go.Proofs.Any.stringslite_Clone scM316 s W hs
  go_enter Tryz.func154, Tryz.ntmps154
  go_wp2_with (first | (go_at_call 197; (with_reducible refine (h _).mono ?_); rintro e w1 ⟨rfl, hb⟩))
  go_ret
  exact ⟨rfl, hb⟩
theorem infoTx : (Tryz.prog.info? 9).map (fun i => (i.zero, i.size, i.bytes)) = some (some (.string ⟨#[]⟩), 1, 16) := by kernel_rfl
/-- the copies so far -/
structure Cps (w wr : World) (n k : Nat) (ts : List Tok) : Prop where
  bel : Below w.heap.size w wr
  row : ∃ cs : Array Value, wr.heap[w.heap.size]? = some (.cells cs 9 (0, 0)) ∧ cs.size = n ∧ ∀ (j : Nat) (p : Tok), j < k → ts[j]? = some p → cs[j]? = some (.string p.1)
theorem Cps.next {w wr w1 : World} {n k : Nat} {ts : List Tok} {p : Tok} (h : Cps w wr n k ts) (hk : k < n) (hp : ts[k]? = some p) (hb : Below wr.heap.size wr w1) : Cps w (w1.setCell ⟨w.heap.size, k, none⟩ (.string p.1)) n (k + 1) ts := by
  obtain ⟨cs, h1, h2, h3⟩ := h.row
  have hlt : w.heap.size < wr.heap.size := (Array.getElem?_eq_some_iff.1 h1).1
  have h4 : w1.heap[w.heap.size]? = some (.cells cs 9 (0, 0)) := (hb.block _ hlt).trans h1
  refine ⟨((h.bel.trans (hb.mono h.bel.size)).setCell (p := ⟨w.heap.size, k, none⟩) (Nat.le_refl _) _), cs.setIfInBounds k (.string p.1), heap_setCell_same _ _ _ _ _ _ h4, by rw [Array.size_setIfInBounds]; exact h2, ?_⟩
  intro j q hj hq
  rw [Array.getElem?_setIfInBounds]
  by_cases hjk : k = j
  · subst hjk
    rw [if_pos rfl, if_pos (by omega)]
    rw [hp] at hq; cases hq; rfl
  · rw [if_neg hjk]
    exact h3 j q (by omega) hq
theorem Cps.cellW {w wr w1 : World} {n k : Nat} {ts : List Tok} (h : Cps w wr n k ts) (hk : k < n) (hb : Below wr.heap.size wr w1) : (∃ u, w1.cell? ⟨w.heap.size, k, none⟩ = some u) ∧ w1.frozen? ⟨w.heap.size, k, none⟩ = false := by
  obtain ⟨cs, h1, h2, h3⟩ := h.row
  have hlt : w.heap.size < wr.heap.size := (Array.getElem?_eq_some_iff.1 h1).1
  have h4 : w1.heap[w.heap.size]? = some (.cells cs 9 (0, 0)) := (hb.block _ hlt).trans h1
  refine ⟨⟨cs[k]'(by omega), ?_⟩, frozen_of_row _ _ _ _ _ h4⟩
  rw [cell_of_row _ _ _ _ _ (0, 0) h4]
  exact Array.getElem?_eq_getElem (by omega)
theorem undralloc {w w1 : World} {o : Obj} (h : Below (w.alloc o).heap.size (w.alloc o) w1) : Below w.heap.size w w1 := ((Below.refl _ w).alloc (Nat.le_refl _) o).trans (h.mono (by simp))
set_option maxHeartbeats 2000000 in
theorem texts_any (w : World) (B n c : Nat) (ts : List Tok) (hl : ts.length = n) (hn : n ≤ 65536) (hsz : ∀ p ∈ ts, p.1.size ≤ 65536)
    (hc : ∀ (k : Nat) (p : Tok), ts[k]? = some p → w.cell? ⟨B, k * 3, none⟩ = some (.string p.1) ∧ w.cell? ⟨B, k * 3 + 1, none⟩ = some (.int .i64 p.2.1) ∧ w.cell? ⟨B, k * 3 + 2, none⟩ = some (.int .i64 p.2.2)) :
    Calls Tryz.prog 107 #[.slice (some ⟨B, 0, none⟩) n c] w fun e w' => e = .returned (.slice (some ⟨w.heap.size, 0, none⟩) n n) ∧ Wd w' w.heap.size (ts.map (·.1)) ∧ Below w.heap.size w w' := by
  have hmk := run_make_row' (P := Tryz.prog) 61 9 (.string ⟨#[]⟩) 16 Tryz.underlying61 infoTx rfl .i64 .i64 n (by omega) (by omega)
  have HC : Hid _ := hc
  have HL : Hid (ts.length = n) := hl
  have HZ : Hid _ := hsz
  have C0 : Hid (Cps w (w.alloc (.cells (madeCells #[.string ⟨#[]⟩] n) 9)) n 0 ts) := ⟨(Below.refl _ _).alloc (Nat.le_refl _) _, _, heap_alloc_new w _, by simp [size_madeCells], fun j p hj => by omega⟩
  clear hc hl hsz
  go_enter Tryz.func107, Tryz.ntmps107
  go_wp2_with fail
  go_loopw [11] (fun iv wr => ∃ k : Nat, iv = .int .i64 k ∧ k ≤ n ∧ Hid (Cps w wr n k ts)) (fun iv _ => n - (intOf iv).toNat)
  case atStart => exact ⟨0, rfl, Nat.zero_le _, C0⟩
  case round =>
    obtain ⟨k, rfl, hle, HI⟩ := hrel
    by_cases hk : k < n
    · obtain ⟨p, hp⟩ : ∃ p, ts[k]? = some p := ⟨_, List.getElem?_eq_getElem (by have := HL.out; omega)⟩
      obtain ⟨q0, q1, q2⟩ := HC.out k p hp
      have hB := World.block_lt_of_cell? w _ q0
      have r0 := (HI.out.bel.cell (p := ⟨B, k * 3, none⟩) hB).trans q0
      have r1 := (HI.out.bel.cell (p := ⟨B, k * 3 + 1, none⟩) hB).trans q1
      have r2 := (HI.out.bel.cell (p := ⟨B, k * 3 + 2, none⟩) hB).trans q2
      have hki : (k : Int) < (n : Int) := by omega
      have HP : Hid (ts[k]? = some p) := hp
      have HK : Hid (p.1.size ≤ 281474976710656) := by have := HZ.out p (List.mem_of_getElem? hp); exact (by omega : p.1.size ≤ 281474976710656)
      clear hp q0 q1 q2 hB
      go_wp2_with (first | (go_at_call 154; (with_reducible refine (clone_any _ _ HK.out).mono ?_); rintro e w1 ⟨rfl, hb⟩; (have hb2 := undralloc hb); (obtain ⟨⟨u, hu⟩, hf⟩ := HI.out.cellW hk hb2); (have HB2 : Hid _ := hb2); clear hb hb2))
      go_roundw
      case rel => exact ⟨k + 1, by go_num, by omega, HI.out.next hk HP.out HB2.out⟩
      case measure => simp [intOf]; omega
    · have hkn : k = n := by omega
      subst hkn
      have hkk : ¬ ((k : Int) < (k : Int)) := by omega
      go_wp2_with fail
      go_ret
      refine ⟨rfl, ?_, HI.out.bel⟩
      obtain ⟨cs, h1, h2, h3⟩ := HI.out.row
      intro j u hj
      rw [List.getElem?_map, Option.map_eq_some_iff] at hj
      obtain ⟨p, hp, rfl⟩ := hj
      rw [cell_of_row _ _ _ _ _ (0, 0) h1]
      exact h3 j p (by have := (List.getElem?_eq_some_iff.1 hp).1; have := HL.out; omega) hp
end Go.Proofs.YtmpkcioeodlbcaaGreatDoor
namespace Go.Proofs.YtmpkcioeodlbcaaGreatDoor
open Go.Shelf Go.Proofs
def saR : Ren := ⟨fun | 129 => 290 | 171 => 196 | 172 => 222 | 205 => 311 | 243 => 223 | 244 => 250 | 245 => 251 | 246 => 252 | 247 => 273 | 279 => 274 | 280 => 275 | 281 => 276 | 282 => 277 | 283 => 278 | 284 => 279 | 285 => 280 | 286 => 281 | 287 => 310 | 316 => 197 | 317 => 312 | 318 => 313 | 319 => 314 | 320 => 315 | 321 => 326 | 322 => 327 | 337 => 328 | 338 => 329 | n => n, fun | 0 => 0 | 2 => 2 | 3 => 3 | 4 => 4 | 5 => 5 | 9 => 9 | 20 => 20 | 21 => 21 | 37 => 298 | 46 => 227 | 51 => 303 | 53 => 47 | 75 => 295 | 76 => 296 | 80 => 379 | 85 => 350 | 127 => 299 | 143 => 396 | 145 => 398 | 167 => 349 | 168 => 352 | 171 => 355 | 173 => 358 | 175 => 380 | 210 => 383 | 212 => 386 | 213 => 387 | 232 => 404 | 233 => 405 | n => n, fun | 15 => 2 | 16 => 3 | 17 => 4 | 18 => 7 | 19 => 8 | n => n⟩
theorem sa172 : Lays.n172 Tryz.prog saR := {
  mixed := by kernel_rfl
  f129 := Tryz.func290.trans (congrArg some (by kernel_rfl))
  f171 := Tryz.func196.trans (congrArg some (by kernel_rfl))
  f172 := Tryz.func222.trans (congrArg some (by kernel_rfl))
  f205 := Tryz.func311.trans (congrArg some (by kernel_rfl))
  f243 := Tryz.func223.trans (congrArg some (by kernel_rfl))
  f244 := Tryz.func250.trans (congrArg some (by kernel_rfl))
  f245 := Tryz.func251.trans (congrArg some (by kernel_rfl))
  f246 := Tryz.func252.trans (congrArg some (by kernel_rfl))
  f247 := Tryz.func273.trans (congrArg some (by kernel_rfl))
  f279 := Tryz.func274.trans (congrArg some (by kernel_rfl))
  f280 := Tryz.func275.trans (congrArg some (by kernel_rfl))
  f281 := Tryz.func276.trans (congrArg some (by kernel_rfl))
  f282 := Tryz.func277.trans (congrArg some (by kernel_rfl))
  f283 := Tryz.func278.trans (congrArg some (by kernel_rfl))
  f284 := Tryz.func279.trans (congrArg some (by kernel_rfl))
  f285 := Tryz.func280.trans (congrArg some (by kernel_rfl))
  f286 := Tryz.func281.trans (congrArg some (by kernel_rfl))
  f287 := Tryz.func310.trans (congrArg some (by kernel_rfl))
  f316 := Tryz.func197.trans (congrArg some (by kernel_rfl))
  f317 := Tryz.func312.trans (congrArg some (by kernel_rfl))
  f318 := Tryz.func313.trans (congrArg some (by kernel_rfl))
  f319 := Tryz.func314.trans (congrArg some (by kernel_rfl))
  f320 := Tryz.func315.trans (congrArg some (by kernel_rfl))
  f321 := Tryz.func326.trans (congrArg some (by kernel_rfl))
  f322 := Tryz.func327.trans (congrArg some (by kernel_rfl))
  f337 := Tryz.func328.trans (congrArg some (by kernel_rfl))
  f338 := Tryz.func329.trans (congrArg some (by kernel_rfl))
  t0 := Tryz.underlying0
  a0 := Tryz.isAgg0
  z0 := Tryz.sizeOf0
  v0 := Tryz.zeroValue0
  t2 := Tryz.underlying2
  a2 := Tryz.isAgg2
  z2 := Tryz.sizeOf2
  v2 := Tryz.zeroValue2
  t3 := Tryz.underlying3
  a3 := Tryz.isAgg3
  z3 := Tryz.sizeOf3
  v3 := Tryz.zeroValue3
  t4 := Tryz.underlying4
  a4 := Tryz.isAgg4
  z4 := Tryz.sizeOf4
  v4 := Tryz.zeroValue4
  t5 := Tryz.underlying5
  a5 := Tryz.isAgg5
  z5 := Tryz.sizeOf5
  v5 := Tryz.zeroValue5
  t9 := Tryz.underlying9
  a9 := Tryz.isAgg9
  z9 := Tryz.sizeOf9
  v9 := Tryz.zeroValue9
  t20 := Tryz.underlying20
  a20 := Tryz.isAgg20
  z20 := Tryz.sizeOf20
  v20 := Tryz.zeroValue20
  t21 := Tryz.underlying21
  a21 := Tryz.isAgg21
  z21 := Tryz.sizeOf21
  v21 := Tryz.zeroValue21
  t37 := Tryz.underlying298
  a37 := Tryz.isAgg298
  z37 := Tryz.sizeOf298
  v37 := Tryz.zeroValue298
  t46 := Tryz.underlying227
  a46 := Tryz.isAgg227
  z46 := Tryz.sizeOf227
  v46 := Tryz.zeroValue227
  t51 := Tryz.underlying303
  a51 := Tryz.isAgg303
  z51 := Tryz.sizeOf303
  v51 := Tryz.zeroValue303
  t53 := Tryz.underlying47
  a53 := Tryz.isAgg47
  z53 := Tryz.sizeOf47
  v53 := Tryz.zeroValue47
  t75 := Tryz.underlying295
  a75 := Tryz.isAgg295
  z75 := Tryz.sizeOf295
  v75 := Tryz.zeroValue295
  t76 := Tryz.underlying296
  a76 := Tryz.isAgg296
  z76 := Tryz.sizeOf296
  v76 := Tryz.zeroValue296
  t85 := Tryz.underlying350
  a85 := Tryz.isAgg350
  z85 := Tryz.sizeOf350
  v85 := Tryz.zeroValue350
  t127 := Tryz.underlying299
  a127 := Tryz.isAgg299
  z127 := Tryz.sizeOf299
  v127 := Tryz.zeroValue299
  t143 := Tryz.underlying396
  a143 := Tryz.isAgg396
  z143 := Tryz.sizeOf396
  v143 := Tryz.zeroValue396
  t145 := Tryz.underlying398
  a145 := Tryz.isAgg398
  z145 := Tryz.sizeOf398
  v145 := Tryz.zeroValue398
  t167 := Tryz.underlying349
  a167 := Tryz.isAgg349
  z167 := Tryz.sizeOf349
  v167 := Tryz.zeroValue349
  t168 := Tryz.underlying352
  a168 := Tryz.isAgg352
  z168 := Tryz.sizeOf352
  v168 := Tryz.zeroValue352
  t171 := Tryz.underlying355
  a171 := Tryz.isAgg355
  z171 := Tryz.sizeOf355
  v171 := Tryz.zeroValue355
  t173 := Tryz.underlying358
  a173 := Tryz.isAgg358
  z173 := Tryz.sizeOf358
  v173 := Tryz.zeroValue358
  t175 := Tryz.underlying380
  a175 := Tryz.isAgg380
  z175 := Tryz.sizeOf380
  v175 := Tryz.zeroValue380
  t210 := Tryz.underlying383
  a210 := Tryz.isAgg383
  z210 := Tryz.sizeOf383
  v210 := Tryz.zeroValue383
  t212 := Tryz.underlying386
  a212 := Tryz.isAgg386
  z212 := Tryz.sizeOf386
  v212 := Tryz.zeroValue386
  t213 := Tryz.underlying387
  a213 := Tryz.isAgg387
  z213 := Tryz.sizeOf387
  t232 := Tryz.underlying404
  a232 := Tryz.isAgg404
  z232 := Tryz.sizeOf404
  v232 := Tryz.zeroValue404
  t233 := Tryz.underlying405
  a233 := Tryz.isAgg405
  z233 := Tryz.sizeOf405
  v233 := Tryz.zeroValue405
  g15 := by kernel_rfl
  g16 := by kernel_rfl
  g17 := by kernel_rfl
  g18 := by kernel_rfl
  g19 := by kernel_rfl }
theorem saM172 : LaysM.n172 Tryz.prog saR := { sa172 with
  t80 := Tryz.underlying379
  a80 := Tryz.isAgg379
  z80 := Tryz.sizeOf379
  v80 := Tryz.zeroValue379
  i0 := by kernel_rfl
  i2 := by kernel_rfl
  i3 := by kernel_rfl
  i4 := by kernel_rfl
  i5 := by kernel_rfl
  i9 := by kernel_rfl
  i20 := by kernel_rfl
  i21 := by kernel_rfl
  i37 := by kernel_rfl
  i46 := by kernel_rfl
  i51 := by kernel_rfl
  i53 := by kernel_rfl
  i75 := by kernel_rfl
  i76 := by kernel_rfl
  i80 := by kernel_rfl
  i85 := by kernel_rfl
  i127 := by kernel_rfl
  i143 := by kernel_rfl
  i145 := by kernel_rfl
  i167 := by kernel_rfl
  i168 := by kernel_rfl
  i171 := by kernel_rfl
  i173 := by kernel_rfl
  i175 := by kernel_rfl
  i210 := by kernel_rfl
  i212 := by kernel_rfl
  i232 := by kernel_rfl
  i233 := by kernel_rfl
  m15 := by kernel_rfl
  m16 := by kernel_rfl
  m17 := by kernel_rfl
  m18 := by kernel_rfl
  m19 := by kernel_rfl }
theorem saC172 : LaysC.n172 Tryz.prog saR := { saM172 with
  c0 := by kernel_rfl
  c2 := by kernel_rfl
  c3 := by kernel_rfl
  c4 := by kernel_rfl
  c5 := by kernel_rfl
  c9 := by kernel_rfl
  c20 := by kernel_rfl
  c21 := by kernel_rfl
  c37 := by kernel_rfl
  c46 := by kernel_rfl
  c51 := by kernel_rfl
  c53 := by kernel_rfl
  c75 := by kernel_rfl
  c76 := by kernel_rfl
  c80 := by kernel_rfl
  c85 := by kernel_rfl
  c127 := by kernel_rfl
  c143 := by kernel_rfl
  c145 := by kernel_rfl
  c167 := by kernel_rfl
  c168 := by kernel_rfl
  c171 := by kernel_rfl
  c173 := by kernel_rfl
  c175 := by kernel_rfl
  c210 := by kernel_rfl
  c212 := by kernel_rfl
  c213 := by kernel_rfl
  c232 := by kernel_rfl
  c233 := by kernel_rfl }
end Go.Proofs.YtmpkcioeodlbcaaGreatDoor
