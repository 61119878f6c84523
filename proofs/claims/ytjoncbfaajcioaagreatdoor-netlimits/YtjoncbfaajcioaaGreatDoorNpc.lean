/-
  A line's words read: readSource of package netlist.
-/
import Derived.Test.YtjoncbfaajcioaaGreatDoorNpb
import Derived.Test.YtjoncbfaajcioaaGreatDoorBqf
import Derived.Test.YtjoncbfaajcioaaGreatDoorBpc
import Derived.Deep.MidRow
namespace Go.Proofs.YtjoncbfaajcioaaGreatDoor
open Go.Maps Go.RowKit Joins Deep
set_option linter.unusedVariables false
set_option maxRecDepth 100000

/-- what Parse says of a word -/
def PaC (s : ByteArray) : Prop := ∀ W : World, Calls Tryz.prog 61 #[.string s] W fun e w' => e = .returned (.tuple #[.float .f64 (paW s), .agg #[.int .i64 (paE s), .int .i64 (paA s)]]) ∧ Below W.heap.size W w'
theorem paC (s : ByteArray) : PaC s := fun W => Parse_any s W
theorem wd_cells {w : World} {b : Nat} {ws : List ByteArray} (h : Wd w b ws) {k : Nat} {u : ByteArray} (hk : ws[k]? = some u) : w.cell? ⟨b, k, none⟩ = some (.string u) := h k u hk
theorem readTwo_w (w : World) (b n c : Nat) (ws : List ByteArray) (s0 s1 s2 s3 : ByteArray) (r : List ByteArray) (hws : ws = s0 :: s1 :: s2 :: s3 :: r) (hn : 4 ≤ n) (h : Wd w b ws) :
    Calls Tryz.prog 44 #[.slice (some ⟨b, 0, none⟩) n c] w fun e w' => e = .returned (.tuple #[elN 0 s0 s1 s2 ⟨#[]⟩ ⟨#[]⟩ (paW s3) 0, .int .i64 (paE s3)]) ∧ Below w.heap.size w w' := by
  subst hws
  exact readTwo_by w b n c s0 s1 s2 s3 _ _ _ hn (h 0 _ rfl) (h 1 _ rfl) (h 2 _ rfl) (h 3 _ rfl) (paC s3)
theorem readFour_w (w : World) (b n c : Nat) (ws : List ByteArray) (s0 s1 s2 s3 s4 s5 : ByteArray) (r : List ByteArray) (hws : ws = s0 :: s1 :: s2 :: s3 :: s4 :: s5 :: r) (hn : 6 ≤ n) (h : Wd w b ws) :
    Calls Tryz.prog 48 #[.slice (some ⟨b, 0, none⟩) n c] w fun e w' => e = .returned (.tuple #[elN 0 s0 s1 s2 s3 s4 (paW s5) 0, .int .i64 (paE s5)]) ∧ Below w.heap.size w w' := by
  subst hws
  exact readFour_by w b n c s0 s1 s2 s3 s4 s5 _ _ _ hn (h 0 _ rfl) (h 1 _ rfl) (h 2 _ rfl) (h 3 _ rfl) (h 4 _ rfl) (h 5 _ rfl) (paC s5)
/-- a source's line -/
def srE (n : Nat) (s3 s4 : ByteArray) : Int := if paE s3 ≠ 0 ∨ n = 4 then paE s3 else if phO s4 = true then 0 else 2
def srP (n : Nat) (s3 s4 : ByteArray) : Int := if paE s3 ≠ 0 ∨ n = 4 then 0 else if phO s4 = true then phI s4 else 0
theorem zer8 {w w1 : World} (hb : Below (w.alloc (.cells #[.int .u8 0, .string ⟨#[]⟩, .string ⟨#[]⟩, .string ⟨#[]⟩, .string ⟨#[]⟩, .string ⟨#[]⟩, .float .f64 0, .int .i64 0] 31)).heap.size (w.alloc (.cells #[.int .u8 0, .string ⟨#[]⟩, .string ⟨#[]⟩, .string ⟨#[]⟩, .string ⟨#[]⟩, .string ⟨#[]⟩, .float .f64 0, .int .i64 0] 31)) w1) : w1.heap[w.heap.size]? = some (.cells #[.int .u8 0, .string ⟨#[]⟩, .string ⟨#[]⟩, .string ⟨#[]⟩, .string ⟨#[]⟩, .string ⟨#[]⟩, .float .f64 0, .int .i64 0] 31 (0, 0)) ∧ w.heap.size < w1.heap.size ∧ Below w.heap.size w w1 := by
  have h := (hb.block w.heap.size (by simp)).trans (heap_alloc_new w _)
  exact ⟨h, (Array.getElem?_eq_some_iff.1 h).1, undralloc hb⟩
theorem src_st {w w1 : World} (s0 s1 s2 : ByteArray) (x : Nat) (hb : Below (w.alloc (.cells #[.int .u8 0, .string ⟨#[]⟩, .string ⟨#[]⟩, .string ⟨#[]⟩, .string ⟨#[]⟩, .string ⟨#[]⟩, .float .f64 0, .int .i64 0] 31)).heap.size (w.alloc (.cells #[.int .u8 0, .string ⟨#[]⟩, .string ⟨#[]⟩, .string ⟨#[]⟩, .string ⟨#[]⟩, .string ⟨#[]⟩, .float .f64 0, .int .i64 0] 31)) w1) : ∃ wz, w1.alloc (.cells #[.int .u8 0, .string s0, .string s1, .string s2, .string ⟨#[]⟩, .string ⟨#[]⟩, .float .f64 x, .int .i64 0] 31) = wz ∧ w.heap.size < w1.heap.size ∧ (¬ w.heap.size = w1.heap.size) ∧ (¬ w1.heap.size = w.heap.size) ∧
    (wz.cell? ⟨w.heap.size, 0, none⟩ = some (.int .u8 0) ∧ wz.cell? ⟨w.heap.size, 1, none⟩ = some (.string ⟨#[]⟩) ∧ wz.cell? ⟨w.heap.size, 2, none⟩ = some (.string ⟨#[]⟩) ∧ wz.cell? ⟨w.heap.size, 3, none⟩ = some (.string ⟨#[]⟩) ∧ wz.cell? ⟨w.heap.size, 4, none⟩ = some (.string ⟨#[]⟩) ∧ wz.cell? ⟨w.heap.size, 5, none⟩ = some (.string ⟨#[]⟩) ∧ wz.cell? ⟨w.heap.size, 6, none⟩ = some (.float .f64 0) ∧ wz.cell? ⟨w.heap.size, 7, none⟩ = some (.int .i64 0)) ∧
    (wz.frozen? ⟨w.heap.size, 0, none⟩ = false ∧ wz.frozen? ⟨w.heap.size, 1, none⟩ = false ∧ wz.frozen? ⟨w.heap.size, 2, none⟩ = false ∧ wz.frozen? ⟨w.heap.size, 3, none⟩ = false ∧ wz.frozen? ⟨w.heap.size, 4, none⟩ = false ∧ wz.frozen? ⟨w.heap.size, 5, none⟩ = false ∧ wz.frozen? ⟨w.heap.size, 6, none⟩ = false ∧ wz.frozen? ⟨w.heap.size, 7, none⟩ = false) ∧
    (wz.cell? ⟨w1.heap.size, 0, none⟩ = some (.int .u8 0) ∧ wz.cell? ⟨w1.heap.size, 1, none⟩ = some (.string s0) ∧ wz.cell? ⟨w1.heap.size, 2, none⟩ = some (.string s1) ∧ wz.cell? ⟨w1.heap.size, 3, none⟩ = some (.string s2) ∧ wz.cell? ⟨w1.heap.size, 4, none⟩ = some (.string ⟨#[]⟩) ∧ wz.cell? ⟨w1.heap.size, 5, none⟩ = some (.string ⟨#[]⟩) ∧ wz.cell? ⟨w1.heap.size, 6, none⟩ = some (.float .f64 x) ∧ wz.cell? ⟨w1.heap.size, 7, none⟩ = some (.int .i64 0)) ∧
    (wz.frozen? ⟨w1.heap.size, 0, none⟩ = false ∧ wz.frozen? ⟨w1.heap.size, 1, none⟩ = false ∧ wz.frozen? ⟨w1.heap.size, 2, none⟩ = false ∧ wz.frozen? ⟨w1.heap.size, 3, none⟩ = false ∧ wz.frozen? ⟨w1.heap.size, 4, none⟩ = false ∧ wz.frozen? ⟨w1.heap.size, 5, none⟩ = false ∧ wz.frozen? ⟨w1.heap.size, 6, none⟩ = false ∧ wz.frozen? ⟨w1.heap.size, 7, none⟩ = false) ∧
    Hid (wz.heap[w.heap.size]? = some (.cells #[.int .u8 0, .string ⟨#[]⟩, .string ⟨#[]⟩, .string ⟨#[]⟩, .string ⟨#[]⟩, .string ⟨#[]⟩, .float .f64 0, .int .i64 0] 31 (0, 0)) ∧ wz.heap[w1.heap.size]? = some (.cells #[.int .u8 0, .string s0, .string s1, .string s2, .string ⟨#[]⟩, .string ⟨#[]⟩, .float .f64 x, .int .i64 0] 31 (0, 0))) ∧ Hid (Below w.heap.size w wz) := by
  obtain ⟨h1, hlt, hB⟩ := zer8 hb
  obtain ⟨wz, hwz⟩ : ∃ wz, w1.alloc (.cells #[.int .u8 0, .string s0, .string s1, .string s2, .string ⟨#[]⟩, .string ⟨#[]⟩, .float .f64 x, .int .i64 0] 31) = wz := ⟨_, rfl⟩
  have k1 : wz.heap[w.heap.size]? = some (.cells #[.int .u8 0, .string ⟨#[]⟩, .string ⟨#[]⟩, .string ⟨#[]⟩, .string ⟨#[]⟩, .string ⟨#[]⟩, .float .f64 0, .int .i64 0] 31 (0, 0)) := by rw [← hwz]; exact (Below.heap_alloc _ _ _ hlt).trans h1
  have k2 : wz.heap[w1.heap.size]? = some (.cells #[.int .u8 0, .string s0, .string s1, .string s2, .string ⟨#[]⟩, .string ⟨#[]⟩, .float .f64 x, .int .i64 0] 31 (0, 0)) := by rw [← hwz]; exact heap_alloc_new _ _
  exact ⟨wz, hwz, hlt, by omega, by omega, (eight k1).1, (eight k1).2, (eight k2).1, (eight k2).2, ⟨k1, k2⟩, by rw [← hwz]; exact hB.alloc hB.size _⟩
theorem infoE8 : (Tryz.prog.info? 31).map (·.size) = some 8 := by kernel_rfl
/-- eight cells that may be written -/
def Th8 (w : World) (p : Nat) : Prop := ∃ a b c d e f g h : Value, ∃ t, w.heap[p]? = some (.cells #[a, b, c, d, e, f, g, h] t (0, 0))
theorem Th8.there {w : World} {p : Nat} (h : Th8 w p) : w.there p 0 8 := by
  obtain ⟨a, b, c, d, e, f, g, i, t, h⟩ := h
  obtain ⟨⟨d0, d1, d2, d3, d4, d5, d6, d7⟩, ⟨f0, f1, f2, f3, f4, f5, f6, f7⟩⟩ := eight h
  intro j hj
  rw [Nat.zero_add]
  match j, hj with
  | 0, _ => exact ⟨by rw [d0]; rfl, f0⟩
  | 1, _ => exact ⟨by rw [d1]; rfl, f1⟩
  | 2, _ => exact ⟨by rw [d2]; rfl, f2⟩
  | 3, _ => exact ⟨by rw [d3]; rfl, f3⟩
  | 4, _ => exact ⟨by rw [d4]; rfl, f4⟩
  | 5, _ => exact ⟨by rw [d5]; rfl, f5⟩
  | 6, _ => exact ⟨by rw [d6]; rfl, f6⟩
  | 7, _ => exact ⟨by rw [d7]; rfl, f7⟩
theorem Th8.al {w : World} {p : Nat} (h : Th8 w p) (o : Obj) : Th8 (w.alloc o) p := by
  obtain ⟨a, b, c, d, e, f, g, i, t, h⟩ := h
  exact ⟨a, b, c, d, e, f, g, i, t, (Below.heap_alloc _ _ _ (Array.getElem?_eq_some_iff.1 h).1).trans h⟩
theorem Th8.below {w w' : World} {p : Nat} (h : Th8 w p) (hb : Below w.heap.size w w') : Th8 w' p := by
  obtain ⟨a, b, c, d, e, f, g, i, t, h⟩ := h
  exact ⟨a, b, c, d, e, f, g, i, t, (hb.block _ (Array.getElem?_eq_some_iff.1 h).1).trans h⟩
/-- what was stored lies there -/
theorem put8 {w0 w : World} {p : Nat} (h : Th8 w p) (hb : Below w0.heap.size w0 w) (hp : w0.heap.size ≤ p) (a b c d e f g i : Value) :
    ((w.setCells p 0 [a, b, c, d, e, f, g, i]).cell? ⟨p, 0, none⟩ = some a ∧ (w.setCells p 0 [a, b, c, d, e, f, g, i]).cell? ⟨p, 1, none⟩ = some b ∧ (w.setCells p 0 [a, b, c, d, e, f, g, i]).cell? ⟨p, 2, none⟩ = some c ∧ (w.setCells p 0 [a, b, c, d, e, f, g, i]).cell? ⟨p, 3, none⟩ = some d ∧ (w.setCells p 0 [a, b, c, d, e, f, g, i]).cell? ⟨p, 4, none⟩ = some e ∧ (w.setCells p 0 [a, b, c, d, e, f, g, i]).cell? ⟨p, 5, none⟩ = some f ∧ (w.setCells p 0 [a, b, c, d, e, f, g, i]).cell? ⟨p, 6, none⟩ = some g ∧ (w.setCells p 0 [a, b, c, d, e, f, g, i]).cell? ⟨p, 7, none⟩ = some i) ∧
    Below w0.heap.size w0 (w.setCells p 0 [a, b, c, d, e, f, g, i]) := by
  have h1 := World.rangeAt_setCells_same w p 0 [a, b, c, d, e, f, g, i] h.there
  refine ⟨⟨?_, ?_, ?_, ?_, ?_, ?_, ?_, ?_⟩, ?_⟩
  · exact h1 0 _ rfl
  · exact h1 1 _ rfl
  · exact h1 2 _ rfl
  · exact h1 3 _ rfl
  · exact h1 4 _ rfl
  · exact h1 5 _ rfl
  · exact h1 6 _ rfl
  · exact h1 7 _ rfl
  · exact below_set8 hb hp a b c d e f g i
theorem st_eq {w : World} {p : Nat} (h : Th8 w p) (k : Nat) (n a b c d : ByteArray) (v : Nat) (ph : Int) : (storeCells ⟨p, 0, none⟩ [.int .u8 (k : Int), .string n, .string a, .string b, .string c, .string d, .float .f64 v, .int .i64 ph] 0).run Tryz.prog w = .ok () (w.setCells p 0 [.int .u8 (k : Int), .string n, .string a, .string b, .string c, .string d, .float .f64 v, .int .i64 ph]) := by
  have := run_storeCells_cells (P := Tryz.prog) p 0 [.int .u8 (k : Int), .string n, .string a, .string b, .string c, .string d, .float .f64 v, .int .i64 ph] 0 w (fun j hj => by simpa using (h.there j (by simpa using hj)).1) (fun j hj => by simpa using (h.there j (by simpa using hj)).2) (fun v hv => by simp at hv; rcases hv with rfl | rfl | rfl | rfl | rfl | rfl | rfl | rfl <;> rfl)
  simpa using this
theorem ph_st {w0 wz w2 : World} {p q : Nat} (s0 s1 s2 : ByteArray) (x : Nat) (h1 : wz.heap[p]? = some (.cells #[.int .u8 0, .string ⟨#[]⟩, .string ⟨#[]⟩, .string ⟨#[]⟩, .string ⟨#[]⟩, .string ⟨#[]⟩, .float .f64 0, .int .i64 0] 31 (0, 0))) (h2 : wz.heap[q]? = some (.cells #[.int .u8 0, .string s0, .string s1, .string s2, .string ⟨#[]⟩, .string ⟨#[]⟩, .float .f64 x, .int .i64 0] 31 (0, 0))) (hpq : ¬ p = q) (hp : w0.heap.size ≤ q) (hB : Below w0.heap.size w0 wz) (hb : Below (wz.setCell ⟨q, 7, none⟩ (.int .i64 0)).heap.size (wz.setCell ⟨q, 7, none⟩ (.int .i64 0)) w2) :
    (w2.cell? ⟨p, 0, none⟩ = some (.int .u8 0) ∧ w2.cell? ⟨p, 1, none⟩ = some (.string ⟨#[]⟩) ∧ w2.cell? ⟨p, 2, none⟩ = some (.string ⟨#[]⟩) ∧ w2.cell? ⟨p, 3, none⟩ = some (.string ⟨#[]⟩) ∧ w2.cell? ⟨p, 4, none⟩ = some (.string ⟨#[]⟩) ∧ w2.cell? ⟨p, 5, none⟩ = some (.string ⟨#[]⟩) ∧ w2.cell? ⟨p, 6, none⟩ = some (.float .f64 0) ∧ w2.cell? ⟨p, 7, none⟩ = some (.int .i64 0)) ∧ (w2.frozen? ⟨p, 0, none⟩ = false ∧ w2.frozen? ⟨p, 1, none⟩ = false ∧ w2.frozen? ⟨p, 2, none⟩ = false ∧ w2.frozen? ⟨p, 3, none⟩ = false ∧ w2.frozen? ⟨p, 4, none⟩ = false ∧ w2.frozen? ⟨p, 5, none⟩ = false ∧ w2.frozen? ⟨p, 6, none⟩ = false ∧ w2.frozen? ⟨p, 7, none⟩ = false) ∧ (w2.cell? ⟨q, 0, none⟩ = some (.int .u8 0) ∧ w2.cell? ⟨q, 1, none⟩ = some (.string s0) ∧ w2.cell? ⟨q, 2, none⟩ = some (.string s1) ∧ w2.cell? ⟨q, 3, none⟩ = some (.string s2) ∧ w2.cell? ⟨q, 4, none⟩ = some (.string ⟨#[]⟩) ∧ w2.cell? ⟨q, 5, none⟩ = some (.string ⟨#[]⟩) ∧ w2.cell? ⟨q, 6, none⟩ = some (.float .f64 x) ∧ w2.cell? ⟨q, 7, none⟩ = some (.int .i64 0)) ∧ (w2.frozen? ⟨q, 0, none⟩ = false ∧ w2.frozen? ⟨q, 1, none⟩ = false ∧ w2.frozen? ⟨q, 2, none⟩ = false ∧ w2.frozen? ⟨q, 3, none⟩ = false ∧ w2.frozen? ⟨q, 4, none⟩ = false ∧ w2.frozen? ⟨q, 5, none⟩ = false ∧ w2.frozen? ⟨q, 6, none⟩ = false ∧ w2.frozen? ⟨q, 7, none⟩ = false) ∧ Hid (w2.heap[p]? = some (.cells #[.int .u8 0, .string ⟨#[]⟩, .string ⟨#[]⟩, .string ⟨#[]⟩, .string ⟨#[]⟩, .string ⟨#[]⟩, .float .f64 0, .int .i64 0] 31 (0, 0)) ∧ w2.heap[q]? = some (.cells #[.int .u8 0, .string s0, .string s1, .string s2, .string ⟨#[]⟩, .string ⟨#[]⟩, .float .f64 x, .int .i64 0] 31 (0, 0))) ∧ Hid (Below w0.heap.size w0 w2) := by
  have a1 : (wz.setCell ⟨q, 7, none⟩ (.int .i64 0)).heap[p]? = some (.cells #[.int .u8 0, .string ⟨#[]⟩, .string ⟨#[]⟩, .string ⟨#[]⟩, .string ⟨#[]⟩, .string ⟨#[]⟩, .float .f64 0, .int .i64 0] 31 (0, 0)) := (Below.heap_setCell _ ⟨q, 7, none⟩ _ _ (by simpa using hpq)).trans h1
  have a2 : (wz.setCell ⟨q, 7, none⟩ (.int .i64 0)).heap[q]? = some (.cells #[.int .u8 0, .string s0, .string s1, .string s2, .string ⟨#[]⟩, .string ⟨#[]⟩, .float .f64 x, .int .i64 0] 31 (0, 0)) := heap_setCell_same _ q 7 _ _ _ h2
  have k1 := (hb.block _ (Array.getElem?_eq_some_iff.1 a1).1).trans a1
  have k2 := (hb.block _ (Array.getElem?_eq_some_iff.1 a2).1).trans a2
  have hB2 : Below w0.heap.size w0 (wz.setCell ⟨q, 7, none⟩ (.int .i64 0)) := hB.setCell (p := ⟨q, 7, none⟩) hp _
  exact ⟨(eight k1).1, (eight k1).2, (eight k2).1, (eight k2).2, ⟨k1, k2⟩, hB2.trans (hb.mono hB2.size)⟩
set_option maxHeartbeats 4000000 in
theorem readSource_w (w : World) (b n c : Nat) (ws : List ByteArray) (s0 s1 s2 s3 s4 : ByteArray) (r : List ByteArray) (hws : ws = s0 :: s1 :: s2 :: s3 :: r) (h5 : n = 5 → ws[4]? = some s4) (hn : n = 4 ∨ n = 5) (h : Wd w b ws) (hw : Wow w) (hs : s4.size ≤ 65536) :
    Calls Tryz.prog 46 #[.slice (some ⟨b, 0, none⟩) n c] w fun e w' => e = .returned (.tuple #[elN 0 s0 s1 s2 ⟨#[]⟩ ⟨#[]⟩ (paW s3) (srP n s3 s4), .int .i64 (srE n s3 s4)]) ∧ Below w.heap.size w w' := by
  have hR : Hid (∀ W, Below w.heap.size w W → Calls Tryz.prog 44 #[.slice (some ⟨b, 0, none⟩) n c] W fun e w' => e = .returned (.tuple #[elN 0 s0 s1 s2 ⟨#[]⟩ ⟨#[]⟩ (paW s3) 0, .int .i64 (paE s3)]) ∧ Below W.heap.size W w') := fun W hB => readTwo_w W b n c ws s0 s1 s2 s3 r hws (by omega) (h.below hB)
  have HB0 : Hid (∀ a b c d e f g i t, Below w.heap.size w (w.alloc (.cells #[a, b, c, d, e, f, g, i] t))) := fun _ _ _ _ _ _ _ _ _ => (Below.refl _ _).alloc (Nat.le_refl _) _
  obtain ⟨E, hE⟩ : ∃ E, E = paE s3 := ⟨_, rfl⟩
  by_cases hq : paE s3 ≠ 0 ∨ n = 4
  · have e1 : srE n s3 s4 = E := by unfold srE; rw [if_pos hq, hE]
    have e2 : srP n s3 s4 = 0 := by unfold srP; rw [if_pos hq]
    rw [e1, e2]
    rw [← hE] at hR hq
    have hc : (E != 0) = true ∨ ((E != 0) = false ∧ n = 4) := by
      by_cases q : E = 0
      · right; exact ⟨by simp [q], by rcases hq with h | h; exact absurd q h; exact h⟩
      · left; simp [q]
    clear hq e1 e2 hE h hws h5 hw hs
    unfold elN at hR ⊢
    rcases hc with hc | ⟨hc, hc4⟩
    · go_enter Tryz.func46, Tryz.ntmps46
      go_wp2_with (first
        | (go_at_call 44; (with_reducible refine (hR.out _ (HB0.out _ _ _ _ _ _ _ _ _)).mono ?_); rintro e w1 ⟨rfl, hb⟩; (obtain ⟨wz, hwz, hlt, hne1, hne2, ⟨d0, d1, d2, d3, d4, d5, d6, d7⟩, ⟨f0, f1, f2, f3, f4, f5, f6, f7⟩, ⟨e0, e1, e2, e3, e4, e5, e6, e7⟩, ⟨g0, g1, g2, g3, g4, g5, g6, g7⟩, HZ, HBZ⟩ := src_st s0 s1 s2 (paW s3) hb); clear hb))
      have hS : ∀ v, (wz.setCell ⟨w1.heap.size, 7, none⟩ v).heap[w.heap.size]? = _ := fun v => (Below.heap_setCell _ ⟨w1.heap.size, 7, none⟩ v _ (by simpa using hne1)).trans HZ.out.1
      have Z := cells_8 (st8_blk (hS (.int .i64 0)) (.int .u8 0) (.string s0) (.string s1) (.string s2) (.string ⟨#[]⟩) (.string ⟨#[]⟩) (.float .f64 (paW s3)) (.int .i64 0))
      unfold st8 at Z
      obtain ⟨z0, z1, z2, z3, z4, z5, z6, z7⟩ := Z
      refine bodyPost_ret (by simp [results, Tryz.results46, go_sem, z0, z1, z2, z3, z4, z5, z6, z7]; try rfl) rfl ?_
      exact ⟨rfl, below_set8 (HBZ.out.setCell (p := ⟨w1.heap.size, 7, none⟩) (by simp only; omega) _) (Nat.le_refl _) _ _ _ _ _ _ _ _⟩
    · subst hc4
      go_enter Tryz.func46, Tryz.ntmps46
      go_wp2_with (first
        | (go_at_call 44; (with_reducible refine (hR.out _ (HB0.out _ _ _ _ _ _ _ _ _)).mono ?_); rintro e w1 ⟨rfl, hb⟩; (obtain ⟨wz, hwz, hlt, hne1, hne2, ⟨d0, d1, d2, d3, d4, d5, d6, d7⟩, ⟨f0, f1, f2, f3, f4, f5, f6, f7⟩, ⟨e0, e1, e2, e3, e4, e5, e6, e7⟩, ⟨g0, g1, g2, g3, g4, g5, g6, g7⟩, HZ, HBZ⟩ := src_st s0 s1 s2 (paW s3) hb); clear hb))
      have hS : ∀ v, (wz.setCell ⟨w1.heap.size, 7, none⟩ v).heap[w.heap.size]? = _ := fun v => (Below.heap_setCell _ ⟨w1.heap.size, 7, none⟩ v _ (by simpa using hne1)).trans HZ.out.1
      have Z := cells_8 (st8_blk (hS (.int .i64 0)) (.int .u8 0) (.string s0) (.string s1) (.string s2) (.string ⟨#[]⟩) (.string ⟨#[]⟩) (.float .f64 (paW s3)) (.int .i64 0))
      unfold st8 at Z
      obtain ⟨z0, z1, z2, z3, z4, z5, z6, z7⟩ := Z
      refine bodyPost_ret (by simp [results, Tryz.results46, go_sem, z0, z1, z2, z3, z4, z5, z6, z7]; try rfl) rfl ?_
      exact ⟨rfl, below_set8 (HBZ.out.setCell (p := ⟨w1.heap.size, 7, none⟩) (by simp only; omega) _) (Nat.le_refl _) _ _ _ _ _ _ _ _⟩

  · have hE0 : E = 0 := by rw [hE]; exact Classical.byContradiction fun q => hq (.inl q)
    have hn5 : n = 5 := by rcases hn with h | h; exact absurd (.inr h) hq; exact h
    have e1 : srE n s3 s4 = if phO s4 = true then 0 else 2 := by unfold srE; rw [if_neg hq]
    have e2 : srP n s3 s4 = if phO s4 = true then phI s4 else 0 := by unfold srP; rw [if_neg hq]
    rw [e1, e2]
    rw [← hE, hE0] at hR
    have c4w := h 4 s4 (h5 hn5)
    have hbw := World.block_lt_of_cell? w _ c4w
    have hbw : b < w.heap.size := hbw
    have HP : Hid (∀ W, Below w.heap.size w W → Calls Tryz.prog 63 #[.string s4] W fun e w' => ∃ x, e = .returned (.tuple #[.int .i64 x, .bool (phO s4)]) ∧ (phO s4 = true → x = phI s4) ∧ Below W.heap.size W w') := fun W hB => phase_any s4 W (hw.kept hB) hs
    have HC4 : Hid (∀ W, Below w.heap.size w W → W.cell? ⟨b, 4, none⟩ = some (.string s4)) := fun W hB => (hB.cell (p := ⟨b, 4, none⟩) hbw).trans c4w
    clear hq e1 e2 hE h hws h5 hw hs c4w hn
    subst hn5 hE0
    unfold elN at hR ⊢
    cases hph : phO s4
    · rw [hph] at HP
      clear hph
      go_enter Tryz.func46, Tryz.ntmps46
      go_wp2_with (first
        | (go_at_call 44; (with_reducible refine (hR.out _ (HB0.out _ _ _ _ _ _ _ _ _)).mono ?_); rintro e w1 ⟨rfl, hb⟩; (obtain ⟨wz, hwz, hlt, hne1, hne2, ⟨d0, d1, d2, d3, d4, d5, d6, d7⟩, ⟨f0, f1, f2, f3, f4, f5, f6, f7⟩, ⟨e0, e1, e2, e3, e4, e5, e6, e7⟩, ⟨g0, g1, g2, g3, g4, g5, g6, g7⟩, HZ, HBZ⟩ := src_st s0 s1 s2 (paW s3) hb); (have c4 := HC4.out wz HBZ.out); (have hbn : ¬ b = w1.heap.size := by omega); (have hbn2 : ¬ w1.heap.size = b := by omega); (have hbn3 : ¬ b = w.heap.size := by omega); clear hb)
        | (go_at_call 63; (with_reducible refine (HP.out _ (HBZ.out.setCell (p := ⟨w1.heap.size, 7, none⟩) (Nat.le_of_lt hlt) _)).mono ?_); rintro e w2 ⟨x, rfl, hx, hb⟩; (have HX : Hid _ := hx); clear d0 d1 d2 d3 d4 d5 d6 d7 f0 f1 f2 f3 f4 f5 f6 f7 e0 e1 e2 e3 e4 e5 e6 e7 g0 g1 g2 g3 g4 g5 g6 g7 hx; (obtain ⟨⟨d0, d1, d2, d3, d4, d5, d6, d7⟩, ⟨f0, f1, f2, f3, f4, f5, f6, f7⟩, ⟨e0, e1, e2, e3, e4, e5, e6, e7⟩, ⟨g0, g1, g2, g3, g4, g5, g6, g7⟩, HZ2, HBZ2⟩ := ph_st s0 s1 s2 (paW s3) HZ.out.1 HZ.out.2 hne1 (Nat.le_of_lt hlt) HBZ.out hb); clear hb))
      have Z := cells_8 (st8_blk HZ2.out.1 (.int .u8 0) (.string s0) (.string s1) (.string s2) (.string ⟨#[]⟩) (.string ⟨#[]⟩) (.float .f64 (paW s3)) (.int .i64 0))
      unfold st8 at Z
      obtain ⟨z0, z1, z2, z3, z4, z5, z6, z7⟩ := Z
      refine bodyPost_ret (by simp [results, Tryz.results46, go_sem, z0, z1, z2, z3, z4, z5, z6, z7]; try rfl) rfl ?_
      exact ⟨rfl, below_set8 HBZ2.out (Nat.le_refl _) _ _ _ _ _ _ _ _⟩
    · rw [hph] at HP
      clear hph
      go_enter Tryz.func46, Tryz.ntmps46
      go_wp2_with (first
        | (go_at_call 44; (with_reducible refine (hR.out _ (HB0.out _ _ _ _ _ _ _ _ _)).mono ?_); rintro e w1 ⟨rfl, hb⟩; (obtain ⟨wz, hwz, hlt, hne1, hne2, ⟨d0, d1, d2, d3, d4, d5, d6, d7⟩, ⟨f0, f1, f2, f3, f4, f5, f6, f7⟩, ⟨e0, e1, e2, e3, e4, e5, e6, e7⟩, ⟨g0, g1, g2, g3, g4, g5, g6, g7⟩, HZ, HBZ⟩ := src_st s0 s1 s2 (paW s3) hb); (have c4 := HC4.out wz HBZ.out); (have hbn : ¬ b = w1.heap.size := by omega); (have hbn2 : ¬ w1.heap.size = b := by omega); (have hbn3 : ¬ b = w.heap.size := by omega); clear hb)
        | (go_at_call 63; (with_reducible refine (HP.out _ (HBZ.out.setCell (p := ⟨w1.heap.size, 7, none⟩) (Nat.le_of_lt hlt) _)).mono ?_); rintro e w2 ⟨x, rfl, hx, hb⟩; (have HX : Hid _ := hx); clear d0 d1 d2 d3 d4 d5 d6 d7 f0 f1 f2 f3 f4 f5 f6 f7 e0 e1 e2 e3 e4 e5 e6 e7 g0 g1 g2 g3 g4 g5 g6 g7 hx; (obtain ⟨⟨d0, d1, d2, d3, d4, d5, d6, d7⟩, ⟨f0, f1, f2, f3, f4, f5, f6, f7⟩, ⟨e0, e1, e2, e3, e4, e5, e6, e7⟩, ⟨g0, g1, g2, g3, g4, g5, g6, g7⟩, HZ2, HBZ2⟩ := ph_st s0 s1 s2 (paW s3) HZ.out.1 HZ.out.2 hne1 (Nat.le_of_lt hlt) HBZ.out hb); clear hb))
      have hS : ∀ v, (w2.setCell ⟨w1.heap.size, 7, none⟩ v).heap[w.heap.size]? = _ := fun v => (Below.heap_setCell _ ⟨w1.heap.size, 7, none⟩ v _ (by simpa using hne1)).trans HZ2.out.1
      have Z := cells_8 (st8_blk (hS (.int .i64 x)) (.int .u8 0) (.string s0) (.string s1) (.string s2) (.string ⟨#[]⟩) (.string ⟨#[]⟩) (.float .f64 (paW s3)) (.int .i64 x))
      unfold st8 at Z
      obtain ⟨z0, z1, z2, z3, z4, z5, z6, z7⟩ := Z
      refine bodyPost_ret (by simp [results, Tryz.results46, go_sem, z0, z1, z2, z3, z4, z5, z6, z7]; try rfl) rfl ?_
      refine ⟨?_, below_set8 (HBZ2.out.setCell (p := ⟨w1.heap.size, 7, none⟩) (by simp only; omega) _) (Nat.le_refl _) _ _ _ _ _ _ _ _⟩
      rw [HX.out (by simp)]
end Go.Proofs.YtjoncbfaajcioaaGreatDoor
