/-
  Several texts in one: Npc Npd Npe Npf.
-/
import Derived.Test.YtmpkcioeodlbcaaGreatDoorK13
import Derived.Test.YtmpkcioeodlbcaaGreatDoorK22
import Derived.Test.YtmpkcioeodlbcaaGreatDoorK24
import Derived.Deep.MidRow
namespace Go.Proofs.YtmpkcioeodlbcaaGreatDoor
open Go.Maps Go.RowKit Joins Deep
set_option linter.unusedVariables false
set_option maxRecDepth 100000
/-- what Parse says of a word -/
def PaC (s : ByteArray) : Prop := ∀ W : World, Calls Tryz.prog 193 #[.string s] W fun e w' => e = .returned (.tuple #[.float .f64 (paW s), .agg #[.int .i64 (paE s), .int .i64 (paA s)]]) ∧ Below W.heap.size W w'
theorem paC (s : ByteArray) : PaC s := fun W => Parse_any s W
theorem readTwo_w (w : World) (b n c : Nat) (ws : List ByteArray) (s0 s1 s2 s3 : ByteArray) (r : List ByteArray) (hws : ws = s0 :: s1 :: s2 :: s3 :: r) (hn : 4 ≤ n) (h : Wd w b ws) :
    Calls Tryz.prog 147 #[.slice (some ⟨b, 0, none⟩) n c] w fun e w' => e = .returned (.tuple #[elN 0 s0 s1 s2 ⟨#[]⟩ ⟨#[]⟩ (paW s3) 0, .int .i64 (paE s3)]) ∧ Below w.heap.size w w' := by
  subst hws
  exact readTwo_by w b n c s0 s1 s2 s3 _ _ _ hn (h 0 _ rfl) (h 1 _ rfl) (h 2 _ rfl) (h 3 _ rfl) (paC s3)
theorem readFour_w (w : World) (b n c : Nat) (ws : List ByteArray) (s0 s1 s2 s3 s4 s5 : ByteArray) (r : List ByteArray) (hws : ws = s0 :: s1 :: s2 :: s3 :: s4 :: s5 :: r) (hn : 6 ≤ n) (h : Wd w b ws) :
    Calls Tryz.prog 151 #[.slice (some ⟨b, 0, none⟩) n c] w fun e w' => e = .returned (.tuple #[elN 0 s0 s1 s2 s3 s4 (paW s5) 0, .int .i64 (paE s5)]) ∧ Below w.heap.size w w' := by
  subst hws
  exact readFour_by w b n c s0 s1 s2 s3 s4 s5 _ _ _ hn (h 0 _ rfl) (h 1 _ rfl) (h 2 _ rfl) (h 3 _ rfl) (h 4 _ rfl) (h 5 _ rfl) (paC s5)
/-- a source's line -/
def srE (n : Nat) (s3 s4 : ByteArray) : Int := if paE s3 ≠ 0 ∨ n = 4 then paE s3 else if phO s4 = true then 0 else 2
def srP (n : Nat) (s3 s4 : ByteArray) : Int := if paE s3 ≠ 0 ∨ n = 4 then 0 else if phO s4 = true then phI s4 else 0
theorem zer8 {w w1 : World} (hb : Below (w.alloc (.cells #[.int .u8 0, .string ⟨#[]⟩, .string ⟨#[]⟩, .string ⟨#[]⟩, .string ⟨#[]⟩, .string ⟨#[]⟩, .float .f64 0, .int .i64 0] 96)).heap.size (w.alloc (.cells #[.int .u8 0, .string ⟨#[]⟩, .string ⟨#[]⟩, .string ⟨#[]⟩, .string ⟨#[]⟩, .string ⟨#[]⟩, .float .f64 0, .int .i64 0] 96)) w1) : w1.heap[w.heap.size]? = some (.cells #[.int .u8 0, .string ⟨#[]⟩, .string ⟨#[]⟩, .string ⟨#[]⟩, .string ⟨#[]⟩, .string ⟨#[]⟩, .float .f64 0, .int .i64 0] 96 (0, 0)) ∧ w.heap.size < w1.heap.size ∧ Below w.heap.size w w1 := by
  have h := (hb.block w.heap.size (by simp)).trans (heap_alloc_new w _)
  exact ⟨h, (Array.getElem?_eq_some_iff.1 h).1, undralloc hb⟩
theorem src_st {w w1 : World} (s0 s1 s2 : ByteArray) (x : Nat) (hb : Below (w.alloc (.cells #[.int .u8 0, .string ⟨#[]⟩, .string ⟨#[]⟩, .string ⟨#[]⟩, .string ⟨#[]⟩, .string ⟨#[]⟩, .float .f64 0, .int .i64 0] 96)).heap.size (w.alloc (.cells #[.int .u8 0, .string ⟨#[]⟩, .string ⟨#[]⟩, .string ⟨#[]⟩, .string ⟨#[]⟩, .string ⟨#[]⟩, .float .f64 0, .int .i64 0] 96)) w1) : ∃ wz, w1.alloc (.cells #[.int .u8 0, .string s0, .string s1, .string s2, .string ⟨#[]⟩, .string ⟨#[]⟩, .float .f64 x, .int .i64 0] 96) = wz ∧ w.heap.size < w1.heap.size ∧ (¬ w.heap.size = w1.heap.size) ∧ (¬ w1.heap.size = w.heap.size) ∧
    (wz.cell? ⟨w.heap.size, 0, none⟩ = some (.int .u8 0) ∧ wz.cell? ⟨w.heap.size, 1, none⟩ = some (.string ⟨#[]⟩) ∧ wz.cell? ⟨w.heap.size, 2, none⟩ = some (.string ⟨#[]⟩) ∧ wz.cell? ⟨w.heap.size, 3, none⟩ = some (.string ⟨#[]⟩) ∧ wz.cell? ⟨w.heap.size, 4, none⟩ = some (.string ⟨#[]⟩) ∧ wz.cell? ⟨w.heap.size, 5, none⟩ = some (.string ⟨#[]⟩) ∧ wz.cell? ⟨w.heap.size, 6, none⟩ = some (.float .f64 0) ∧ wz.cell? ⟨w.heap.size, 7, none⟩ = some (.int .i64 0)) ∧
    (wz.frozen? ⟨w.heap.size, 0, none⟩ = false ∧ wz.frozen? ⟨w.heap.size, 1, none⟩ = false ∧ wz.frozen? ⟨w.heap.size, 2, none⟩ = false ∧ wz.frozen? ⟨w.heap.size, 3, none⟩ = false ∧ wz.frozen? ⟨w.heap.size, 4, none⟩ = false ∧ wz.frozen? ⟨w.heap.size, 5, none⟩ = false ∧ wz.frozen? ⟨w.heap.size, 6, none⟩ = false ∧ wz.frozen? ⟨w.heap.size, 7, none⟩ = false) ∧
    (wz.cell? ⟨w1.heap.size, 0, none⟩ = some (.int .u8 0) ∧ wz.cell? ⟨w1.heap.size, 1, none⟩ = some (.string s0) ∧ wz.cell? ⟨w1.heap.size, 2, none⟩ = some (.string s1) ∧ wz.cell? ⟨w1.heap.size, 3, none⟩ = some (.string s2) ∧ wz.cell? ⟨w1.heap.size, 4, none⟩ = some (.string ⟨#[]⟩) ∧ wz.cell? ⟨w1.heap.size, 5, none⟩ = some (.string ⟨#[]⟩) ∧ wz.cell? ⟨w1.heap.size, 6, none⟩ = some (.float .f64 x) ∧ wz.cell? ⟨w1.heap.size, 7, none⟩ = some (.int .i64 0)) ∧
    (wz.frozen? ⟨w1.heap.size, 0, none⟩ = false ∧ wz.frozen? ⟨w1.heap.size, 1, none⟩ = false ∧ wz.frozen? ⟨w1.heap.size, 2, none⟩ = false ∧ wz.frozen? ⟨w1.heap.size, 3, none⟩ = false ∧ wz.frozen? ⟨w1.heap.size, 4, none⟩ = false ∧ wz.frozen? ⟨w1.heap.size, 5, none⟩ = false ∧ wz.frozen? ⟨w1.heap.size, 6, none⟩ = false ∧ wz.frozen? ⟨w1.heap.size, 7, none⟩ = false) ∧
    Hid (wz.heap[w.heap.size]? = some (.cells #[.int .u8 0, .string ⟨#[]⟩, .string ⟨#[]⟩, .string ⟨#[]⟩, .string ⟨#[]⟩, .string ⟨#[]⟩, .float .f64 0, .int .i64 0] 96 (0, 0)) ∧ wz.heap[w1.heap.size]? = some (.cells #[.int .u8 0, .string s0, .string s1, .string s2, .string ⟨#[]⟩, .string ⟨#[]⟩, .float .f64 x, .int .i64 0] 96 (0, 0))) ∧ Hid (Below w.heap.size w wz) := by
  obtain ⟨h1, hlt, hB⟩ := zer8 hb
  obtain ⟨wz, hwz⟩ : ∃ wz, w1.alloc (.cells #[.int .u8 0, .string s0, .string s1, .string s2, .string ⟨#[]⟩, .string ⟨#[]⟩, .float .f64 x, .int .i64 0] 96) = wz := ⟨_, rfl⟩
  have k1 : wz.heap[w.heap.size]? = some (.cells #[.int .u8 0, .string ⟨#[]⟩, .string ⟨#[]⟩, .string ⟨#[]⟩, .string ⟨#[]⟩, .string ⟨#[]⟩, .float .f64 0, .int .i64 0] 96 (0, 0)) := by rw [← hwz]; exact (Below.heap_alloc _ _ _ hlt).trans h1
  have k2 : wz.heap[w1.heap.size]? = some (.cells #[.int .u8 0, .string s0, .string s1, .string s2, .string ⟨#[]⟩, .string ⟨#[]⟩, .float .f64 x, .int .i64 0] 96 (0, 0)) := by rw [← hwz]; exact heap_alloc_new _ _
  exact ⟨wz, hwz, hlt, by omega, by omega, (eight k1).1, (eight k1).2, (eight k2).1, (eight k2).2, ⟨k1, k2⟩, by rw [← hwz]; exact hB.alloc hB.size _⟩
theorem ph_st {w0 wz w2 : World} {p q : Nat} (s0 s1 s2 : ByteArray) (x : Nat) (h1 : wz.heap[p]? = some (.cells #[.int .u8 0, .string ⟨#[]⟩, .string ⟨#[]⟩, .string ⟨#[]⟩, .string ⟨#[]⟩, .string ⟨#[]⟩, .float .f64 0, .int .i64 0] 96 (0, 0))) (h2 : wz.heap[q]? = some (.cells #[.int .u8 0, .string s0, .string s1, .string s2, .string ⟨#[]⟩, .string ⟨#[]⟩, .float .f64 x, .int .i64 0] 96 (0, 0))) (hpq : ¬ p = q) (hp : w0.heap.size ≤ q) (hB : Below w0.heap.size w0 wz) (hb : Below (wz.setCell ⟨q, 7, none⟩ (.int .i64 0)).heap.size (wz.setCell ⟨q, 7, none⟩ (.int .i64 0)) w2) :
    (w2.cell? ⟨p, 0, none⟩ = some (.int .u8 0) ∧ w2.cell? ⟨p, 1, none⟩ = some (.string ⟨#[]⟩) ∧ w2.cell? ⟨p, 2, none⟩ = some (.string ⟨#[]⟩) ∧ w2.cell? ⟨p, 3, none⟩ = some (.string ⟨#[]⟩) ∧ w2.cell? ⟨p, 4, none⟩ = some (.string ⟨#[]⟩) ∧ w2.cell? ⟨p, 5, none⟩ = some (.string ⟨#[]⟩) ∧ w2.cell? ⟨p, 6, none⟩ = some (.float .f64 0) ∧ w2.cell? ⟨p, 7, none⟩ = some (.int .i64 0)) ∧ (w2.frozen? ⟨p, 0, none⟩ = false ∧ w2.frozen? ⟨p, 1, none⟩ = false ∧ w2.frozen? ⟨p, 2, none⟩ = false ∧ w2.frozen? ⟨p, 3, none⟩ = false ∧ w2.frozen? ⟨p, 4, none⟩ = false ∧ w2.frozen? ⟨p, 5, none⟩ = false ∧ w2.frozen? ⟨p, 6, none⟩ = false ∧ w2.frozen? ⟨p, 7, none⟩ = false) ∧ (w2.cell? ⟨q, 0, none⟩ = some (.int .u8 0) ∧ w2.cell? ⟨q, 1, none⟩ = some (.string s0) ∧ w2.cell? ⟨q, 2, none⟩ = some (.string s1) ∧ w2.cell? ⟨q, 3, none⟩ = some (.string s2) ∧ w2.cell? ⟨q, 4, none⟩ = some (.string ⟨#[]⟩) ∧ w2.cell? ⟨q, 5, none⟩ = some (.string ⟨#[]⟩) ∧ w2.cell? ⟨q, 6, none⟩ = some (.float .f64 x) ∧ w2.cell? ⟨q, 7, none⟩ = some (.int .i64 0)) ∧ (w2.frozen? ⟨q, 0, none⟩ = false ∧ w2.frozen? ⟨q, 1, none⟩ = false ∧ w2.frozen? ⟨q, 2, none⟩ = false ∧ w2.frozen? ⟨q, 3, none⟩ = false ∧ w2.frozen? ⟨q, 4, none⟩ = false ∧ w2.frozen? ⟨q, 5, none⟩ = false ∧ w2.frozen? ⟨q, 6, none⟩ = false ∧ w2.frozen? ⟨q, 7, none⟩ = false) ∧ Hid (w2.heap[p]? = some (.cells #[.int .u8 0, .string ⟨#[]⟩, .string ⟨#[]⟩, .string ⟨#[]⟩, .string ⟨#[]⟩, .string ⟨#[]⟩, .float .f64 0, .int .i64 0] 96 (0, 0)) ∧ w2.heap[q]? = some (.cells #[.int .u8 0, .string s0, .string s1, .string s2, .string ⟨#[]⟩, .string ⟨#[]⟩, .float .f64 x, .int .i64 0] 96 (0, 0))) ∧ Hid (Below w0.heap.size w0 w2) := by
  have a1 : (wz.setCell ⟨q, 7, none⟩ (.int .i64 0)).heap[p]? = some (.cells #[.int .u8 0, .string ⟨#[]⟩, .string ⟨#[]⟩, .string ⟨#[]⟩, .string ⟨#[]⟩, .string ⟨#[]⟩, .float .f64 0, .int .i64 0] 96 (0, 0)) := (Below.heap_setCell _ ⟨q, 7, none⟩ _ _ (by simpa using hpq)).trans h1
  have a2 : (wz.setCell ⟨q, 7, none⟩ (.int .i64 0)).heap[q]? = some (.cells #[.int .u8 0, .string s0, .string s1, .string s2, .string ⟨#[]⟩, .string ⟨#[]⟩, .float .f64 x, .int .i64 0] 96 (0, 0)) := heap_setCell_same _ q 7 _ _ _ h2
  have k1 := (hb.block _ (Array.getElem?_eq_some_iff.1 a1).1).trans a1
  have k2 := (hb.block _ (Array.getElem?_eq_some_iff.1 a2).1).trans a2
  have hB2 : Below w0.heap.size w0 (wz.setCell ⟨q, 7, none⟩ (.int .i64 0)) := hB.setCell (p := ⟨q, 7, none⟩) hp _
  exact ⟨(eight k1).1, (eight k1).2, (eight k2).1, (eight k2).2, ⟨k1, k2⟩, hB2.trans (hb.mono hB2.size)⟩
set_option maxHeartbeats 4000000 in
theorem readSource_w (w : World) (b n c : Nat) (ws : List ByteArray) (s0 s1 s2 s3 s4 : ByteArray) (r : List ByteArray) (hws : ws = s0 :: s1 :: s2 :: s3 :: r) (h5 : n = 5 → ws[4]? = some s4) (hn : n = 4 ∨ n = 5) (h : Wd w b ws) (hw : Wow w) (hs : s4.size ≤ 65536) :
    Calls Tryz.prog 149 #[.slice (some ⟨b, 0, none⟩) n c] w fun e w' => e = .returned (.tuple #[elN 0 s0 s1 s2 ⟨#[]⟩ ⟨#[]⟩ (paW s3) (srP n s3 s4), .int .i64 (srE n s3 s4)]) ∧ Below w.heap.size w w' := by
  have hR : Hid (∀ W, Below w.heap.size w W → Calls Tryz.prog 147 #[.slice (some ⟨b, 0, none⟩) n c] W fun e w' => e = .returned (.tuple #[elN 0 s0 s1 s2 ⟨#[]⟩ ⟨#[]⟩ (paW s3) 0, .int .i64 (paE s3)]) ∧ Below W.heap.size W w') := fun W hB => readTwo_w W b n c ws s0 s1 s2 s3 r hws (by omega) (h.below hB)
  have HB0 : Hid (∀ a b c d e f g i t, Below w.heap.size w (w.alloc (.cells #[a, b, c, d, e, f, g, i] t))) := fun _ _ _ _ _ _ _ _ _ => (Below.refl _ _).alloc (Nat.le_refl _) _
  obtain ⟨E, hE⟩ : ∃ E, E = paE s3 := ⟨_, rfl⟩
  by_cases hq : paE s3 ≠ 0 ∨ n = 4
  · have e1 : srE n s3 s4 = E := by unfold srE; rw [if_pos hq, hE]
    have e2 : srP n s3 s4 = 0 := by unfold srP; rw [if_pos hq]
    rw [e1, e2]
    rw [← hE] at hR hq
    have hc : (E != 0) = true ∨ ((E != 0) = false ∧ n = 4) := by
      by_cases q : E = 0
      · right; exact ⟨by simp [q], by rcases hq with h | h; exact absurd q h; exact h⟩
      · left; simp [q]
    clear hq e1 e2 hE h hws h5 hw hs
    unfold elN at hR ⊢
    rcases hc with hc | ⟨hc, hc4⟩
    · go_enter Tryz.func149, Tryz.ntmps149
      go_wp2_with (first
        | (go_at_call 147; (with_reducible refine (hR.out _ (HB0.out _ _ _ _ _ _ _ _ _)).mono ?_); rintro e w1 ⟨rfl, hb⟩; (obtain ⟨wz, hwz, hlt, hne1, hne2, ⟨d0, d1, d2, d3, d4, d5, d6, d7⟩, ⟨f0, f1, f2, f3, f4, f5, f6, f7⟩, ⟨e0, e1, e2, e3, e4, e5, e6, e7⟩, ⟨g0, g1, g2, g3, g4, g5, g6, g7⟩, HZ, HBZ⟩ := src_st s0 s1 s2 (paW s3) hb); clear hb))
      have hS : ∀ v, (wz.setCell ⟨w1.heap.size, 7, none⟩ v).heap[w.heap.size]? = _ := fun v => (Below.heap_setCell _ ⟨w1.heap.size, 7, none⟩ v _ (by simpa using hne1)).trans HZ.out.1
      have Z := cells_8 (st8_blk (hS (.int .i64 0)) (.int .u8 0) (.string s0) (.string s1) (.string s2) (.string ⟨#[]⟩) (.string ⟨#[]⟩) (.float .f64 (paW s3)) (.int .i64 0))
      unfold st8 at Z
      obtain ⟨z0, z1, z2, z3, z4, z5, z6, z7⟩ := Z
      refine bodyPost_ret (by simp [results, Tryz.results149, go_sem, z0, z1, z2, z3, z4, z5, z6, z7]; try rfl) rfl ?_
      exact ⟨rfl, below_set8 (HBZ.out.setCell (p := ⟨w1.heap.size, 7, none⟩) (by simp only; omega) _) (Nat.le_refl _) _ _ _ _ _ _ _ _⟩
    · subst hc4
      go_enter Tryz.func149, Tryz.ntmps149
      go_wp2_with (first
        | (go_at_call 147; (with_reducible refine (hR.out _ (HB0.out _ _ _ _ _ _ _ _ _)).mono ?_); rintro e w1 ⟨rfl, hb⟩; (obtain ⟨wz, hwz, hlt, hne1, hne2, ⟨d0, d1, d2, d3, d4, d5, d6, d7⟩, ⟨f0, f1, f2, f3, f4, f5, f6, f7⟩, ⟨e0, e1, e2, e3, e4, e5, e6, e7⟩, ⟨g0, g1, g2, g3, g4, g5, g6, g7⟩, HZ, HBZ⟩ := src_st s0 s1 s2 (paW s3) hb); clear hb))
      have hS : ∀ v, (wz.setCell ⟨w1.heap.size, 7, none⟩ v).heap[w.heap.size]? = _ := fun v => (Below.heap_setCell _ ⟨w1.heap.size, 7, none⟩ v _ (by simpa using hne1)).trans HZ.out.1
      have Z := cells_8 (st8_blk (hS (.int .i64 0)) (.int .u8 0) (.string s0) (.string s1) (.string s2) (.string ⟨#[]⟩) (.string ⟨#[]⟩) (.float .f64 (paW s3)) (.int .i64 0))
      unfold st8 at Z
      obtain ⟨z0, z1, z2, z3, z4, z5, z6, z7⟩ := Z
      refine bodyPost_ret (by simp [results, Tryz.results149, go_sem, z0, z1, z2, z3, z4, z5, z6, z7]; try rfl) rfl ?_
      exact ⟨rfl, below_set8 (HBZ.out.setCell (p := ⟨w1.heap.size, 7, none⟩) (by simp only; omega) _) (Nat.le_refl _) _ _ _ _ _ _ _ _⟩

  · have hE0 : E = 0 := by rw [hE]; exact Classical.byContradiction fun q => hq (.inl q)
    have hn5 : n = 5 := by rcases hn with h | h; exact absurd (.inr h) hq; exact h
    have e1 : srE n s3 s4 = if phO s4 = true then 0 else 2 := by unfold srE; rw [if_neg hq]
    have e2 : srP n s3 s4 = if phO s4 = true then phI s4 else 0 := by unfold srP; rw [if_neg hq]
    rw [e1, e2]
    rw [← hE, hE0] at hR
    have c4w := h 4 s4 (h5 hn5)
    have hbw := World.block_lt_of_cell? w _ c4w
    have hbw : b < w.heap.size := hbw
    have HP : Hid (∀ W, Below w.heap.size w W → Calls Tryz.prog 195 #[.string s4] W fun e w' => ∃ x, e = .returned (.tuple #[.int .i64 x, .bool (phO s4)]) ∧ (phO s4 = true → x = phI s4) ∧ Below W.heap.size W w') := fun W hB => phase_any s4 W (hw.kept hB) hs
    have HC4 : Hid (∀ W, Below w.heap.size w W → W.cell? ⟨b, 4, none⟩ = some (.string s4)) := fun W hB => (hB.cell (p := ⟨b, 4, none⟩) hbw).trans c4w
    clear hq e1 e2 hE h hws h5 hw hs c4w hn
    subst hn5 hE0
    unfold elN at hR ⊢
    cases hph : phO s4
    · rw [hph] at HP
      clear hph
      go_enter Tryz.func149, Tryz.ntmps149
      go_wp2_with (first
        | (go_at_call 147; (with_reducible refine (hR.out _ (HB0.out _ _ _ _ _ _ _ _ _)).mono ?_); rintro e w1 ⟨rfl, hb⟩; (obtain ⟨wz, hwz, hlt, hne1, hne2, ⟨d0, d1, d2, d3, d4, d5, d6, d7⟩, ⟨f0, f1, f2, f3, f4, f5, f6, f7⟩, ⟨e0, e1, e2, e3, e4, e5, e6, e7⟩, ⟨g0, g1, g2, g3, g4, g5, g6, g7⟩, HZ, HBZ⟩ := src_st s0 s1 s2 (paW s3) hb); (have c4 := HC4.out wz HBZ.out); (have hbn : ¬ b = w1.heap.size := by omega); (have hbn2 : ¬ w1.heap.size = b := by omega); (have hbn3 : ¬ b = w.heap.size := by omega); clear hb)
        | (go_at_call 195; (with_reducible refine (HP.out _ (HBZ.out.setCell (p := ⟨w1.heap.size, 7, none⟩) (Nat.le_of_lt hlt) _)).mono ?_); rintro e w2 ⟨x, rfl, hx, hb⟩; (have HX : Hid _ := hx); clear d0 d1 d2 d3 d4 d5 d6 d7 f0 f1 f2 f3 f4 f5 f6 f7 e0 e1 e2 e3 e4 e5 e6 e7 g0 g1 g2 g3 g4 g5 g6 g7 hx; (obtain ⟨⟨d0, d1, d2, d3, d4, d5, d6, d7⟩, ⟨f0, f1, f2, f3, f4, f5, f6, f7⟩, ⟨e0, e1, e2, e3, e4, e5, e6, e7⟩, ⟨g0, g1, g2, g3, g4, g5, g6, g7⟩, HZ2, HBZ2⟩ := ph_st s0 s1 s2 (paW s3) HZ.out.1 HZ.out.2 hne1 (Nat.le_of_lt hlt) HBZ.out hb); clear hb))
      have Z := cells_8 (st8_blk HZ2.out.1 (.int .u8 0) (.string s0) (.string s1) (.string s2) (.string ⟨#[]⟩) (.string ⟨#[]⟩) (.float .f64 (paW s3)) (.int .i64 0))
      unfold st8 at Z
      obtain ⟨z0, z1, z2, z3, z4, z5, z6, z7⟩ := Z
      refine bodyPost_ret (by simp [results, Tryz.results149, go_sem, z0, z1, z2, z3, z4, z5, z6, z7]; try rfl) rfl ?_
      exact ⟨rfl, below_set8 HBZ2.out (Nat.le_refl _) _ _ _ _ _ _ _ _⟩
    · rw [hph] at HP
      clear hph
      go_enter Tryz.func149, Tryz.ntmps149
      go_wp2_with (first
        | (go_at_call 147; (with_reducible refine (hR.out _ (HB0.out _ _ _ _ _ _ _ _ _)).mono ?_); rintro e w1 ⟨rfl, hb⟩; (obtain ⟨wz, hwz, hlt, hne1, hne2, ⟨d0, d1, d2, d3, d4, d5, d6, d7⟩, ⟨f0, f1, f2, f3, f4, f5, f6, f7⟩, ⟨e0, e1, e2, e3, e4, e5, e6, e7⟩, ⟨g0, g1, g2, g3, g4, g5, g6, g7⟩, HZ, HBZ⟩ := src_st s0 s1 s2 (paW s3) hb); (have c4 := HC4.out wz HBZ.out); (have hbn : ¬ b = w1.heap.size := by omega); (have hbn2 : ¬ w1.heap.size = b := by omega); (have hbn3 : ¬ b = w.heap.size := by omega); clear hb)
        | (go_at_call 195; (with_reducible refine (HP.out _ (HBZ.out.setCell (p := ⟨w1.heap.size, 7, none⟩) (Nat.le_of_lt hlt) _)).mono ?_); rintro e w2 ⟨x, rfl, hx, hb⟩; (have HX : Hid _ := hx); clear d0 d1 d2 d3 d4 d5 d6 d7 f0 f1 f2 f3 f4 f5 f6 f7 e0 e1 e2 e3 e4 e5 e6 e7 g0 g1 g2 g3 g4 g5 g6 g7 hx; (obtain ⟨⟨d0, d1, d2, d3, d4, d5, d6, d7⟩, ⟨f0, f1, f2, f3, f4, f5, f6, f7⟩, ⟨e0, e1, e2, e3, e4, e5, e6, e7⟩, ⟨g0, g1, g2, g3, g4, g5, g6, g7⟩, HZ2, HBZ2⟩ := ph_st s0 s1 s2 (paW s3) HZ.out.1 HZ.out.2 hne1 (Nat.le_of_lt hlt) HBZ.out hb); clear hb))
      have hS : ∀ v, (w2.setCell ⟨w1.heap.size, 7, none⟩ v).heap[w.heap.size]? = _ := fun v => (Below.heap_setCell _ ⟨w1.heap.size, 7, none⟩ v _ (by simpa using hne1)).trans HZ2.out.1
      have Z := cells_8 (st8_blk (hS (.int .i64 x)) (.int .u8 0) (.string s0) (.string s1) (.string s2) (.string ⟨#[]⟩) (.string ⟨#[]⟩) (.float .f64 (paW s3)) (.int .i64 x))
      unfold st8 at Z
      obtain ⟨z0, z1, z2, z3, z4, z5, z6, z7⟩ := Z
      refine bodyPost_ret (by simp [results, Tryz.results149, go_sem, z0, z1, z2, z3, z4, z5, z6, z7]; try rfl) rfl ?_
      refine ⟨?_, below_set8 (HBZ2.out.setCell (p := ⟨w1.heap.size, 7, none⟩) (by simp only; omega) _) (Nat.le_refl _) _ _ _ _ _ _ _ _⟩
      rw [HX.out (by simp)]
end Go.Proofs.YtmpkcioeodlbcaaGreatDoor
namespace Go.Proofs.YtmpkcioeodlbcaaGreatDoor
open Go.Maps Go.RowKit Joins Deep
set_option linter.unusedVariables false
set_option maxRecDepth 100000
/-- the map of the lines -/
def Lns (w : World) (B : Nat) : Prop := w.ownsMap Tryz.prog 94 lnR B 8 lnD
theorem Lns.below {w w' : World} {B : Nat} (h : Lns w B) (hb : Below w.heap.size w w') : Lns w' B := by
  obtain ⟨es, clock, h1, h2⟩ := h
  exact ⟨es, clock, (hb.block _ (Array.getElem?_eq_some_iff.1 h1).1).trans h1, h2⟩
theorem look_1 {w : World} {B k : Nat} (h : Lns w B) (hk : k ≤ 8) (hi : lnK k = 1) : (Instr.lookup 158 (.map (some B)) (.int .u8 (k : Int)) false).run Tryz.prog w = .ok ln1 w := by have := ln_look h k hk; rw [hi] at this; exact this
theorem look_2 {w : World} {B k : Nat} (h : Lns w B) (hk : k ≤ 8) (hi : lnK k = 2) : (Instr.lookup 158 (.map (some B)) (.int .u8 (k : Int)) false).run Tryz.prog w = .ok ln2 w := by have := ln_look h k hk; rw [hi] at this; exact this
theorem look_3 {w : World} {B k : Nat} (h : Lns w B) (hk : k ≤ 8) (hi : lnK k = 3) : (Instr.lookup 158 (.map (some B)) (.int .u8 (k : Int)) false).run Tryz.prog w = .ok ln3 w := by have := ln_look h k hk; rw [hi] at this; exact this
theorem rd_st {w0 w2 : World} {p : Nat} (n a b c d : ByteArray) (v : Nat) (ph : Int) (h1 : w2.heap[p]? = some (.cells #[.int .u8 0, .string ⟨#[]⟩, .string ⟨#[]⟩, .string ⟨#[]⟩, .string ⟨#[]⟩, .string ⟨#[]⟩, .float .f64 0, .int .i64 0] 96 (0, 0))) (hB : Below w0.heap.size w0 w2) : ∃ wz, w2.alloc (.cells #[.int .u8 0, .string n, .string a, .string b, .string c, .string d, .float .f64 v, .int .i64 ph] 96) = wz ∧ (¬ p = w2.heap.size) ∧ (¬ w2.heap.size = p) ∧
    (wz.cell? ⟨p, 0, none⟩ = some (.int .u8 0) ∧ wz.cell? ⟨p, 1, none⟩ = some (.string ⟨#[]⟩) ∧ wz.cell? ⟨p, 2, none⟩ = some (.string ⟨#[]⟩) ∧ wz.cell? ⟨p, 3, none⟩ = some (.string ⟨#[]⟩) ∧ wz.cell? ⟨p, 4, none⟩ = some (.string ⟨#[]⟩) ∧ wz.cell? ⟨p, 5, none⟩ = some (.string ⟨#[]⟩) ∧ wz.cell? ⟨p, 6, none⟩ = some (.float .f64 0) ∧ wz.cell? ⟨p, 7, none⟩ = some (.int .i64 0)) ∧ (wz.frozen? ⟨p, 0, none⟩ = false ∧ wz.frozen? ⟨p, 1, none⟩ = false ∧ wz.frozen? ⟨p, 2, none⟩ = false ∧ wz.frozen? ⟨p, 3, none⟩ = false ∧ wz.frozen? ⟨p, 4, none⟩ = false ∧ wz.frozen? ⟨p, 5, none⟩ = false ∧ wz.frozen? ⟨p, 6, none⟩ = false ∧ wz.frozen? ⟨p, 7, none⟩ = false) ∧ (wz.cell? ⟨w2.heap.size, 0, none⟩ = some (.int .u8 0) ∧ wz.cell? ⟨w2.heap.size, 1, none⟩ = some (.string n) ∧ wz.cell? ⟨w2.heap.size, 2, none⟩ = some (.string a) ∧ wz.cell? ⟨w2.heap.size, 3, none⟩ = some (.string b) ∧ wz.cell? ⟨w2.heap.size, 4, none⟩ = some (.string c) ∧ wz.cell? ⟨w2.heap.size, 5, none⟩ = some (.string d) ∧ wz.cell? ⟨w2.heap.size, 6, none⟩ = some (.float .f64 v) ∧ wz.cell? ⟨w2.heap.size, 7, none⟩ = some (.int .i64 ph)) ∧ (wz.frozen? ⟨w2.heap.size, 0, none⟩ = false ∧ wz.frozen? ⟨w2.heap.size, 1, none⟩ = false ∧ wz.frozen? ⟨w2.heap.size, 2, none⟩ = false ∧ wz.frozen? ⟨w2.heap.size, 3, none⟩ = false ∧ wz.frozen? ⟨w2.heap.size, 4, none⟩ = false ∧ wz.frozen? ⟨w2.heap.size, 5, none⟩ = false ∧ wz.frozen? ⟨w2.heap.size, 6, none⟩ = false ∧ wz.frozen? ⟨w2.heap.size, 7, none⟩ = false) ∧ Hid (wz.heap[p]? = some (.cells #[.int .u8 0, .string ⟨#[]⟩, .string ⟨#[]⟩, .string ⟨#[]⟩, .string ⟨#[]⟩, .string ⟨#[]⟩, .float .f64 0, .int .i64 0] 96 (0, 0))) ∧ Hid (Below w0.heap.size w0 wz) := by
  have hlt : p < w2.heap.size := (Array.getElem?_eq_some_iff.1 h1).1
  obtain ⟨wz, hwz⟩ : ∃ wz, w2.alloc (.cells #[.int .u8 0, .string n, .string a, .string b, .string c, .string d, .float .f64 v, .int .i64 ph] 96) = wz := ⟨_, rfl⟩
  have k1 : wz.heap[p]? = some (.cells #[.int .u8 0, .string ⟨#[]⟩, .string ⟨#[]⟩, .string ⟨#[]⟩, .string ⟨#[]⟩, .string ⟨#[]⟩, .float .f64 0, .int .i64 0] 96 (0, 0)) := by rw [← hwz]; exact (Below.heap_alloc _ _ _ hlt).trans h1
  have k2 : wz.heap[w2.heap.size]? = some (.cells #[.int .u8 0, .string n, .string a, .string b, .string c, .string d, .float .f64 v, .int .i64 ph] 96 (0, 0)) := by rw [← hwz]; exact heap_alloc_new _ _
  exact ⟨wz, hwz, by omega, by omega, (eight k1).1, (eight k1).2, (eight k2).1, (eight k2).2, k1, by rw [← hwz]; exact hB.alloc hB.size _⟩
theorem four_c {w : World} {p : Nat} {a b c d : Value} {t : TypeId} (h : w.heap[p]? = some (.cells #[a, b, c, d] t (0, 0))) : w.cell? ⟨p, 0, none⟩ = some a ∧ w.cell? ⟨p, 1, none⟩ = some b ∧ w.cell? ⟨p, 2, none⟩ = some c ∧ w.cell? ⟨p, 3, none⟩ = some d := by
  refine ⟨?_, ?_, ?_, ?_⟩ <;> rw [cell_of_row w p _ _ _ (0, 0) h] <;> rfl
theorem rd_h {w0 w1 w2 : World} {o : Obj} {cs : Array Value} {t : TypeId} (h : w1.heap[w0.heap.size]? = some (.cells cs t (0, 0))) (hlt : w0.heap.size < w1.heap.size) (hb : Below (w1.alloc o).heap.size (w1.alloc o) w2) : w2.heap[w0.heap.size]? = some (.cells cs t (0, 0)) := by
  rw [hb.block _ (by simp; omega)]
  exact (Below.heap_alloc _ _ _ hlt).trans h
set_option maxHeartbeats 4000000 in
theorem read_1 (w : World) (B bk m cp : Nat) (s0 : ByteArray) (k E : Nat) (Er : Int) (n a b c d : ByteArray) (v : Nat) (ph : Int) (hL : Lns w B) (hs0 : 0 < s0.size) (h0 : w.cell? ⟨bk, 0, none⟩ = some (.string s0)) (hm1 : 4 ≤ m) (hm2 : m ≤ 4) (hk : ofK (byt s0 0) = k) (hk8 : k ≤ 8) (hk0 : k ≠ 0) (hi : lnK k = 1)
    (hR : Hid (∀ W, Below w.heap.size w W → Calls Tryz.prog 147 #[.slice (some ⟨bk, 0, none⟩) m cp] W fun e w' => e = .returned (.tuple #[.agg #[.int .u8 0, .string n, .string a, .string b, .string c, .string d, .float .f64 v, .int .i64 ph], .int .i64 Er]) ∧ Below W.heap.size W w')) :
    Calls Tryz.prog 106 #[.map (some B), .slice (some ⟨bk, 0, none⟩) m cp] w fun e w' => e = .returned (.tuple #[.agg #[.int .u8 (k : Int), .string n, .string a, .string b, .string c, .string d, .float .f64 v, .int .i64 ph], .int .i64 Er]) ∧ Below w.heap.size w w' := by
  have hbk : bk < w.heap.size := World.block_lt_of_cell? w _ h0
  have h0a : ∀ o, (w.alloc o).cell? ⟨bk, 0, none⟩ = some (.string s0) := fun o => by rw [World.cell?_alloc_lt _ _ _ hbk]; exact h0
  have hg := byt_get hs0
  have HB0 : Hid (∀ a b c d e f g i t, Below w.heap.size w (w.alloc (.cells #[a, b, c, d, e, f, g, i] t))) := fun _ _ _ _ _ _ _ _ _ => (Below.refl _ _).alloc (Nat.le_refl _) _
  have hk0b : (k != 0) = true := by simp [hk0]
  have HOF : Hid (∀ W, Calls Tryz.prog 153 #[.int .u8 (byt s0 0 : Nat)] W fun e w' => e = .returned (.tuple #[.int .u8 (k : Nat), .bool true]) ∧ Below W.heap.size W w') := fun W => by have := kof_any (byt s0 0) W (byt_lt _ _); rwa [hk, hk0b] at this
  have i0 : (0 : Int) < (m : Int) := by omega
  have i1 : (0 : Int) < (s0.size : Int) := by omega
  have m1 : ¬ ((m : Int) < 4) := by omega
  have m2 : ¬ ((4 : Int) < (m : Int)) := by omega
  have HL : Hid (Lns w B) := hL
  have HI : Hid (lnK k = 1) := hi
  have HK8 : Hid (k ≤ 8) := hk8
  clear hL hi hk hk0 hk0b hk8 h0
  go_enter Tryz.func106, Tryz.ntmps106
  go_wp2_with (first
    | (go_at_call 153; (try rw [hg]); (with_reducible refine (HOF.out _).mono ?_); rintro e w1 ⟨rfl, hb⟩; (obtain ⟨hz1, hlt, hbz⟩ := zer8 hb); (have hlk := look_1 (HL.out.below hbz) HK8.out HI.out); (have HZ : Hid _ := hz1); (have HBZ : Hid (Below w.heap.size w w1) := hbz); clear hz1 hbz hb)
    | (go_at_call 147; (with_reducible refine (hR.out _ (HBZ.out.alloc HBZ.out.size _)).mono ?_); rintro e w2 ⟨rfl, hb⟩; (obtain ⟨wz, hwz, hne1, hne2, ⟨d0, d1, d2, d3, d4, d5, d6, d7⟩, ⟨f0, f1, f2, f3, f4, f5, f6, f7⟩, ⟨e0, e1, e2, e3, e4, e5, e6, e7⟩, ⟨g0, g1, g2, g3, g4, g5, g6, g7⟩, HZ2, HBZ2⟩ := rd_st n a b c d v ph (rd_h HZ.out hlt hb) (HBZ.out.trans ((undralloc hb).mono HBZ.out.size))); clear hb))
  have hle : w.heap.size ≤ w2.heap.size := by have := HBZ2.out.size; have h2 : wz.heap.size = w2.heap.size + 1 := by (rw [← hwz]; simp)
                                              have := (Array.getElem?_eq_some_iff.1 HZ2.out).1; omega
  have hS : ∀ u, (wz.setCell ⟨w2.heap.size, 0, none⟩ u).heap[w.heap.size]? = _ := fun u => (Below.heap_setCell _ ⟨w2.heap.size, 0, none⟩ u _ (by simpa using hne1)).trans HZ2.out
  have Z := cells_8 (st8_blk (hS (.int .u8 (k : Int))) (.int .u8 (k : Int)) (.string n) (.string a) (.string b) (.string c) (.string d) (.float .f64 v) (.int .i64 ph))
  unfold st8 at Z
  obtain ⟨z0, z1, z2, z3, z4, z5, z6, z7⟩ := Z
  refine bodyPost_ret (by simp [results, Tryz.results106, go_sem, z0, z1, z2, z3, z4, z5, z6, z7]; try rfl) rfl ?_
  exact ⟨rfl, below_set8 (HBZ2.out.setCell (p := ⟨w2.heap.size, 0, none⟩) hle _) (Nat.le_refl _) _ _ _ _ _ _ _ _⟩
set_option maxHeartbeats 4000000 in
theorem read_2 (w : World) (B bk m cp : Nat) (s0 : ByteArray) (k E : Nat) (Er : Int) (n a b c d : ByteArray) (v : Nat) (ph : Int) (hL : Lns w B) (hs0 : 0 < s0.size) (h0 : w.cell? ⟨bk, 0, none⟩ = some (.string s0)) (hm1 : 4 ≤ m) (hm2 : m ≤ 5) (hk : ofK (byt s0 0) = k) (hk8 : k ≤ 8) (hk0 : k ≠ 0) (hi : lnK k = 2)
    (hR : Hid (∀ W, Below w.heap.size w W → Calls Tryz.prog 149 #[.slice (some ⟨bk, 0, none⟩) m cp] W fun e w' => e = .returned (.tuple #[.agg #[.int .u8 0, .string n, .string a, .string b, .string c, .string d, .float .f64 v, .int .i64 ph], .int .i64 Er]) ∧ Below W.heap.size W w')) :
    Calls Tryz.prog 106 #[.map (some B), .slice (some ⟨bk, 0, none⟩) m cp] w fun e w' => e = .returned (.tuple #[.agg #[.int .u8 (k : Int), .string n, .string a, .string b, .string c, .string d, .float .f64 v, .int .i64 ph], .int .i64 Er]) ∧ Below w.heap.size w w' := by
  have hbk : bk < w.heap.size := World.block_lt_of_cell? w _ h0
  have h0a : ∀ o, (w.alloc o).cell? ⟨bk, 0, none⟩ = some (.string s0) := fun o => by rw [World.cell?_alloc_lt _ _ _ hbk]; exact h0
  have hg := byt_get hs0
  have HB0 : Hid (∀ a b c d e f g i t, Below w.heap.size w (w.alloc (.cells #[a, b, c, d, e, f, g, i] t))) := fun _ _ _ _ _ _ _ _ _ => (Below.refl _ _).alloc (Nat.le_refl _) _
  have hk0b : (k != 0) = true := by simp [hk0]
  have HOF : Hid (∀ W, Calls Tryz.prog 153 #[.int .u8 (byt s0 0 : Nat)] W fun e w' => e = .returned (.tuple #[.int .u8 (k : Nat), .bool true]) ∧ Below W.heap.size W w') := fun W => by have := kof_any (byt s0 0) W (byt_lt _ _); rwa [hk, hk0b] at this
  have i0 : (0 : Int) < (m : Int) := by omega
  have i1 : (0 : Int) < (s0.size : Int) := by omega
  have m1 : ¬ ((m : Int) < 4) := by omega
  have m2 : ¬ ((5 : Int) < (m : Int)) := by omega
  have HL : Hid (Lns w B) := hL
  have HI : Hid (lnK k = 2) := hi
  have HK8 : Hid (k ≤ 8) := hk8
  clear hL hi hk hk0 hk0b hk8 h0
  go_enter Tryz.func106, Tryz.ntmps106
  go_wp2_with (first
    | (go_at_call 153; (try rw [hg]); (with_reducible refine (HOF.out _).mono ?_); rintro e w1 ⟨rfl, hb⟩; (obtain ⟨hz1, hlt, hbz⟩ := zer8 hb); (have hlk := look_2 (HL.out.below hbz) HK8.out HI.out); (have HZ : Hid _ := hz1); (have HBZ : Hid (Below w.heap.size w w1) := hbz); clear hz1 hbz hb)
    | (go_at_call 149; (with_reducible refine (hR.out _ (HBZ.out.alloc HBZ.out.size _)).mono ?_); rintro e w2 ⟨rfl, hb⟩; (obtain ⟨wz, hwz, hne1, hne2, ⟨d0, d1, d2, d3, d4, d5, d6, d7⟩, ⟨f0, f1, f2, f3, f4, f5, f6, f7⟩, ⟨e0, e1, e2, e3, e4, e5, e6, e7⟩, ⟨g0, g1, g2, g3, g4, g5, g6, g7⟩, HZ2, HBZ2⟩ := rd_st n a b c d v ph (rd_h HZ.out hlt hb) (HBZ.out.trans ((undralloc hb).mono HBZ.out.size))); clear hb))
  have hle : w.heap.size ≤ w2.heap.size := by have := HBZ2.out.size; have h2 : wz.heap.size = w2.heap.size + 1 := by (rw [← hwz]; simp)
                                              have := (Array.getElem?_eq_some_iff.1 HZ2.out).1; omega
  have hS : ∀ u, (wz.setCell ⟨w2.heap.size, 0, none⟩ u).heap[w.heap.size]? = _ := fun u => (Below.heap_setCell _ ⟨w2.heap.size, 0, none⟩ u _ (by simpa using hne1)).trans HZ2.out
  have Z := cells_8 (st8_blk (hS (.int .u8 (k : Int))) (.int .u8 (k : Int)) (.string n) (.string a) (.string b) (.string c) (.string d) (.float .f64 v) (.int .i64 ph))
  unfold st8 at Z
  obtain ⟨z0, z1, z2, z3, z4, z5, z6, z7⟩ := Z
  refine bodyPost_ret (by simp [results, Tryz.results106, go_sem, z0, z1, z2, z3, z4, z5, z6, z7]; try rfl) rfl ?_
  exact ⟨rfl, below_set8 (HBZ2.out.setCell (p := ⟨w2.heap.size, 0, none⟩) hle _) (Nat.le_refl _) _ _ _ _ _ _ _ _⟩
set_option maxHeartbeats 4000000 in
theorem read_3 (w : World) (B bk m cp : Nat) (s0 : ByteArray) (k E : Nat) (Er : Int) (n a b c d : ByteArray) (v : Nat) (ph : Int) (hL : Lns w B) (hs0 : 0 < s0.size) (h0 : w.cell? ⟨bk, 0, none⟩ = some (.string s0)) (hm1 : 6 ≤ m) (hm2 : m ≤ 6) (hk : ofK (byt s0 0) = k) (hk8 : k ≤ 8) (hk0 : k ≠ 0) (hi : lnK k = 3)
    (hR : Hid (∀ W, Below w.heap.size w W → Calls Tryz.prog 151 #[.slice (some ⟨bk, 0, none⟩) m cp] W fun e w' => e = .returned (.tuple #[.agg #[.int .u8 0, .string n, .string a, .string b, .string c, .string d, .float .f64 v, .int .i64 ph], .int .i64 Er]) ∧ Below W.heap.size W w')) :
    Calls Tryz.prog 106 #[.map (some B), .slice (some ⟨bk, 0, none⟩) m cp] w fun e w' => e = .returned (.tuple #[.agg #[.int .u8 (k : Int), .string n, .string a, .string b, .string c, .string d, .float .f64 v, .int .i64 ph], .int .i64 Er]) ∧ Below w.heap.size w w' := by
  have hbk : bk < w.heap.size := World.block_lt_of_cell? w _ h0
  have h0a : ∀ o, (w.alloc o).cell? ⟨bk, 0, none⟩ = some (.string s0) := fun o => by rw [World.cell?_alloc_lt _ _ _ hbk]; exact h0
  have hg := byt_get hs0
  have HB0 : Hid (∀ a b c d e f g i t, Below w.heap.size w (w.alloc (.cells #[a, b, c, d, e, f, g, i] t))) := fun _ _ _ _ _ _ _ _ _ => (Below.refl _ _).alloc (Nat.le_refl _) _
  have hk0b : (k != 0) = true := by simp [hk0]
  have HOF : Hid (∀ W, Calls Tryz.prog 153 #[.int .u8 (byt s0 0 : Nat)] W fun e w' => e = .returned (.tuple #[.int .u8 (k : Nat), .bool true]) ∧ Below W.heap.size W w') := fun W => by have := kof_any (byt s0 0) W (byt_lt _ _); rwa [hk, hk0b] at this
  have i0 : (0 : Int) < (m : Int) := by omega
  have i1 : (0 : Int) < (s0.size : Int) := by omega
  have m1 : ¬ ((m : Int) < 6) := by omega
  have m2 : ¬ ((6 : Int) < (m : Int)) := by omega
  have HL : Hid (Lns w B) := hL
  have HI : Hid (lnK k = 3) := hi
  have HK8 : Hid (k ≤ 8) := hk8
  clear hL hi hk hk0 hk0b hk8 h0
  go_enter Tryz.func106, Tryz.ntmps106
  go_wp2_with (first
    | (go_at_call 153; (try rw [hg]); (with_reducible refine (HOF.out _).mono ?_); rintro e w1 ⟨rfl, hb⟩; (obtain ⟨hz1, hlt, hbz⟩ := zer8 hb); (have hlk := look_3 (HL.out.below hbz) HK8.out HI.out); (have HZ : Hid _ := hz1); (have HBZ : Hid (Below w.heap.size w w1) := hbz); clear hz1 hbz hb)
    | (go_at_call 151; (with_reducible refine (hR.out _ (HBZ.out.alloc HBZ.out.size _)).mono ?_); rintro e w2 ⟨rfl, hb⟩; (obtain ⟨wz, hwz, hne1, hne2, ⟨d0, d1, d2, d3, d4, d5, d6, d7⟩, ⟨f0, f1, f2, f3, f4, f5, f6, f7⟩, ⟨e0, e1, e2, e3, e4, e5, e6, e7⟩, ⟨g0, g1, g2, g3, g4, g5, g6, g7⟩, HZ2, HBZ2⟩ := rd_st n a b c d v ph (rd_h HZ.out hlt hb) (HBZ.out.trans ((undralloc hb).mono HBZ.out.size))); clear hb))
  have hle : w.heap.size ≤ w2.heap.size := by have := HBZ2.out.size; have h2 : wz.heap.size = w2.heap.size + 1 := by (rw [← hwz]; simp)
                                              have := (Array.getElem?_eq_some_iff.1 HZ2.out).1; omega
  have hS : ∀ u, (wz.setCell ⟨w2.heap.size, 0, none⟩ u).heap[w.heap.size]? = _ := fun u => (Below.heap_setCell _ ⟨w2.heap.size, 0, none⟩ u _ (by simpa using hne1)).trans HZ2.out
  have Z := cells_8 (st8_blk (hS (.int .u8 (k : Int))) (.int .u8 (k : Int)) (.string n) (.string a) (.string b) (.string c) (.string d) (.float .f64 v) (.int .i64 ph))
  unfold st8 at Z
  obtain ⟨z0, z1, z2, z3, z4, z5, z6, z7⟩ := Z
  refine bodyPost_ret (by simp [results, Tryz.results106, go_sem, z0, z1, z2, z3, z4, z5, z6, z7]; try rfl) rfl ?_
  exact ⟨rfl, below_set8 (HBZ2.out.setCell (p := ⟨w2.heap.size, 0, none⟩) hle _) (Nat.le_refl _) _ _ _ _ _ _ _ _⟩
end Go.Proofs.YtmpkcioeodlbcaaGreatDoor
namespace Go.Proofs.YtmpkcioeodlbcaaGreatDoor
open Go.Maps Go.RowKit Joins Deep
set_option linter.unusedVariables false
set_option maxRecDepth 100000
theorem bad_st {w w1 : World} (lo hi : Int) (r q : Nat) (h1 : w1.heap[w.heap.size]? = some (.cells #[.int .u8 0, .string ⟨#[]⟩, .string ⟨#[]⟩, .string ⟨#[]⟩, .string ⟨#[]⟩, .string ⟨#[]⟩, .float .f64 0, .int .i64 0] 96 (0, 0))) (hB : Below w.heap.size w w1) : ∃ wz, w1.alloc (.cells #[.int .i64 lo, .int .i64 hi, .func (.func r) #[] #[], .func (.func q) #[] #[]] 222) = wz ∧ (¬ w.heap.size = w1.heap.size) ∧ (¬ w1.heap.size = w.heap.size) ∧
    (wz.cell? ⟨w.heap.size, 0, none⟩ = some (.int .u8 0) ∧ wz.cell? ⟨w.heap.size, 1, none⟩ = some (.string ⟨#[]⟩) ∧ wz.cell? ⟨w.heap.size, 2, none⟩ = some (.string ⟨#[]⟩) ∧ wz.cell? ⟨w.heap.size, 3, none⟩ = some (.string ⟨#[]⟩) ∧ wz.cell? ⟨w.heap.size, 4, none⟩ = some (.string ⟨#[]⟩) ∧ wz.cell? ⟨w.heap.size, 5, none⟩ = some (.string ⟨#[]⟩) ∧ wz.cell? ⟨w.heap.size, 6, none⟩ = some (.float .f64 0) ∧ wz.cell? ⟨w.heap.size, 7, none⟩ = some (.int .i64 0)) ∧ (wz.frozen? ⟨w.heap.size, 0, none⟩ = false ∧ wz.frozen? ⟨w.heap.size, 1, none⟩ = false ∧ wz.frozen? ⟨w.heap.size, 2, none⟩ = false ∧ wz.frozen? ⟨w.heap.size, 3, none⟩ = false ∧ wz.frozen? ⟨w.heap.size, 4, none⟩ = false ∧ wz.frozen? ⟨w.heap.size, 5, none⟩ = false ∧ wz.frozen? ⟨w.heap.size, 6, none⟩ = false ∧ wz.frozen? ⟨w.heap.size, 7, none⟩ = false) ∧ (wz.cell? ⟨w1.heap.size, 0, none⟩ = some (.int .i64 lo) ∧ wz.cell? ⟨w1.heap.size, 1, none⟩ = some (.int .i64 hi) ∧ wz.cell? ⟨w1.heap.size, 2, none⟩ = some (.func (.func r) #[] #[]) ∧ wz.cell? ⟨w1.heap.size, 3, none⟩ = some (.func (.func q) #[] #[])) ∧ Hid (wz.heap[w.heap.size]? = some (.cells #[.int .u8 0, .string ⟨#[]⟩, .string ⟨#[]⟩, .string ⟨#[]⟩, .string ⟨#[]⟩, .string ⟨#[]⟩, .float .f64 0, .int .i64 0] 96 (0, 0))) ∧ Hid (Below w.heap.size w wz) := by
  have hlt : w.heap.size < w1.heap.size := (Array.getElem?_eq_some_iff.1 h1).1
  obtain ⟨wz, hwz⟩ : ∃ wz, w1.alloc (.cells #[.int .i64 lo, .int .i64 hi, .func (.func r) #[] #[], .func (.func q) #[] #[]] 222) = wz := ⟨_, rfl⟩
  have k1 : wz.heap[w.heap.size]? = some (.cells #[.int .u8 0, .string ⟨#[]⟩, .string ⟨#[]⟩, .string ⟨#[]⟩, .string ⟨#[]⟩, .string ⟨#[]⟩, .float .f64 0, .int .i64 0] 96 (0, 0)) := by rw [← hwz]; exact (Below.heap_alloc _ _ _ hlt).trans h1
  have k2 : wz.heap[w1.heap.size]? = some (.cells #[.int .i64 lo, .int .i64 hi, .func (.func r) #[] #[], .func (.func q) #[] #[]] 222 (0, 0)) := by rw [← hwz]; exact heap_alloc_new _ _
  exact ⟨wz, hwz, by omega, by omega, (eight k1).1, (eight k1).2, four_c k2, k1, by rw [← hwz]; exact hB.alloc hB.size _⟩
set_option maxHeartbeats 4000000 in
theorem read_1lo (w : World) (B bk m cp : Nat) (s0 : ByteArray) (k : Nat) (hL : Lns w B) (hs0 : 0 < s0.size) (h0 : w.cell? ⟨bk, 0, none⟩ = some (.string s0)) (hm0 : 0 < m) (hm1 : m < 4) (hk : ofK (byt s0 0) = k) (hk8 : k ≤ 8) (hk0 : k ≠ 0) (hi : lnK k = 1) :
    Calls Tryz.prog 106 #[.map (some B), .slice (some ⟨bk, 0, none⟩) m cp] w fun e w' => e = .returned (.tuple #[.agg #[.int .u8 0, .string ⟨#[]⟩, .string ⟨#[]⟩, .string ⟨#[]⟩, .string ⟨#[]⟩, .string ⟨#[]⟩, .float .f64 0, .int .i64 0], .int .i64 4]) ∧ Below w.heap.size w w' := by
  have hbk : bk < w.heap.size := World.block_lt_of_cell? w _ h0
  have h0a : ∀ o, (w.alloc o).cell? ⟨bk, 0, none⟩ = some (.string s0) := fun o => by rw [World.cell?_alloc_lt _ _ _ hbk]; exact h0
  have hg := byt_get hs0
  have hk0b : (k != 0) = true := by simp [hk0]
  have HOF : Hid (∀ W, Calls Tryz.prog 153 #[.int .u8 (byt s0 0 : Nat)] W fun e w' => e = .returned (.tuple #[.int .u8 (k : Nat), .bool true]) ∧ Below W.heap.size W w') := fun W => by have := kof_any (byt s0 0) W (byt_lt _ _); rwa [hk, hk0b] at this
  have i0 : (0 : Int) < (m : Int) := by omega
  have i1 : (0 : Int) < (s0.size : Int) := by omega
  have m1 : (m : Int) < 4 := by omega
  have HL : Hid (Lns w B) := hL
  have HI : Hid (lnK k = 1) := hi
  have HK8 : Hid (k ≤ 8) := hk8
  clear hL hi hk hk0 hk0b hk8 h0
  go_enter Tryz.func106, Tryz.ntmps106
  go_wp2_with (first
    | (go_at_call 153; (try rw [hg]); (with_reducible refine (HOF.out _).mono ?_); rintro e w1 ⟨rfl, hb⟩; (obtain ⟨hz1, hlt, hbz⟩ := zer8 hb); (obtain ⟨wz, hwz, hne1, hne2, ⟨d0, d1, d2, d3, d4, d5, d6, d7⟩, ⟨f0, f1, f2, f3, f4, f5, f6, f7⟩, ⟨l0, l1, l2, l3⟩, HZ2, HBZ2⟩ := bad_st 4 4 147 148 hz1 hbz); (have hlk := look_1 (HL.out.below hbz) HK8.out HI.out); clear hz1 hbz hb))
  have Z := cells_8 (st8_blk HZ2.out (.int .u8 0) (.string ⟨#[]⟩) (.string ⟨#[]⟩) (.string ⟨#[]⟩) (.string ⟨#[]⟩) (.string ⟨#[]⟩) (.float .f64 0) (.int .i64 0))
  unfold st8 at Z
  obtain ⟨z0, z1, z2, z3, z4, z5, z6, z7⟩ := Z
  refine bodyPost_ret (by simp [results, Tryz.results106, go_sem, z0, z1, z2, z3, z4, z5, z6, z7]; try rfl) rfl ?_
  exact ⟨rfl, below_set8 HBZ2.out (Nat.le_refl _) _ _ _ _ _ _ _ _⟩
set_option maxHeartbeats 4000000 in
theorem read_1hi (w : World) (B bk m cp : Nat) (s0 : ByteArray) (k : Nat) (hL : Lns w B) (hs0 : 0 < s0.size) (h0 : w.cell? ⟨bk, 0, none⟩ = some (.string s0)) (hm0 : 0 < m) (hm1 : 4 < m) (hk : ofK (byt s0 0) = k) (hk8 : k ≤ 8) (hk0 : k ≠ 0) (hi : lnK k = 1) :
    Calls Tryz.prog 106 #[.map (some B), .slice (some ⟨bk, 0, none⟩) m cp] w fun e w' => e = .returned (.tuple #[.agg #[.int .u8 0, .string ⟨#[]⟩, .string ⟨#[]⟩, .string ⟨#[]⟩, .string ⟨#[]⟩, .string ⟨#[]⟩, .float .f64 0, .int .i64 0], .int .i64 4]) ∧ Below w.heap.size w w' := by
  have hbk : bk < w.heap.size := World.block_lt_of_cell? w _ h0
  have h0a : ∀ o, (w.alloc o).cell? ⟨bk, 0, none⟩ = some (.string s0) := fun o => by rw [World.cell?_alloc_lt _ _ _ hbk]; exact h0
  have hg := byt_get hs0
  have hk0b : (k != 0) = true := by simp [hk0]
  have HOF : Hid (∀ W, Calls Tryz.prog 153 #[.int .u8 (byt s0 0 : Nat)] W fun e w' => e = .returned (.tuple #[.int .u8 (k : Nat), .bool true]) ∧ Below W.heap.size W w') := fun W => by have := kof_any (byt s0 0) W (byt_lt _ _); rwa [hk, hk0b] at this
  have i0 : (0 : Int) < (m : Int) := by omega
  have i1 : (0 : Int) < (s0.size : Int) := by omega
  have m1 : ¬ ((m : Int) < 4) := by omega
  have m2 : (4 : Int) < (m : Int) := by omega
  have HL : Hid (Lns w B) := hL
  have HI : Hid (lnK k = 1) := hi
  have HK8 : Hid (k ≤ 8) := hk8
  clear hL hi hk hk0 hk0b hk8 h0
  go_enter Tryz.func106, Tryz.ntmps106
  go_wp2_with (first
    | (go_at_call 153; (try rw [hg]); (with_reducible refine (HOF.out _).mono ?_); rintro e w1 ⟨rfl, hb⟩; (obtain ⟨hz1, hlt, hbz⟩ := zer8 hb); (obtain ⟨wz, hwz, hne1, hne2, ⟨d0, d1, d2, d3, d4, d5, d6, d7⟩, ⟨f0, f1, f2, f3, f4, f5, f6, f7⟩, ⟨l0, l1, l2, l3⟩, HZ2, HBZ2⟩ := bad_st 4 4 147 148 hz1 hbz); (have hlk := look_1 (HL.out.below hbz) HK8.out HI.out); clear hz1 hbz hb))
  have Z := cells_8 (st8_blk HZ2.out (.int .u8 0) (.string ⟨#[]⟩) (.string ⟨#[]⟩) (.string ⟨#[]⟩) (.string ⟨#[]⟩) (.string ⟨#[]⟩) (.float .f64 0) (.int .i64 0))
  unfold st8 at Z
  obtain ⟨z0, z1, z2, z3, z4, z5, z6, z7⟩ := Z
  refine bodyPost_ret (by simp [results, Tryz.results106, go_sem, z0, z1, z2, z3, z4, z5, z6, z7]; try rfl) rfl ?_
  exact ⟨rfl, below_set8 HBZ2.out (Nat.le_refl _) _ _ _ _ _ _ _ _⟩
set_option maxHeartbeats 4000000 in
theorem read_2lo (w : World) (B bk m cp : Nat) (s0 : ByteArray) (k : Nat) (hL : Lns w B) (hs0 : 0 < s0.size) (h0 : w.cell? ⟨bk, 0, none⟩ = some (.string s0)) (hm0 : 0 < m) (hm1 : m < 4) (hk : ofK (byt s0 0) = k) (hk8 : k ≤ 8) (hk0 : k ≠ 0) (hi : lnK k = 2) :
    Calls Tryz.prog 106 #[.map (some B), .slice (some ⟨bk, 0, none⟩) m cp] w fun e w' => e = .returned (.tuple #[.agg #[.int .u8 0, .string ⟨#[]⟩, .string ⟨#[]⟩, .string ⟨#[]⟩, .string ⟨#[]⟩, .string ⟨#[]⟩, .float .f64 0, .int .i64 0], .int .i64 4]) ∧ Below w.heap.size w w' := by
  have hbk : bk < w.heap.size := World.block_lt_of_cell? w _ h0
  have h0a : ∀ o, (w.alloc o).cell? ⟨bk, 0, none⟩ = some (.string s0) := fun o => by rw [World.cell?_alloc_lt _ _ _ hbk]; exact h0
  have hg := byt_get hs0
  have hk0b : (k != 0) = true := by simp [hk0]
  have HOF : Hid (∀ W, Calls Tryz.prog 153 #[.int .u8 (byt s0 0 : Nat)] W fun e w' => e = .returned (.tuple #[.int .u8 (k : Nat), .bool true]) ∧ Below W.heap.size W w') := fun W => by have := kof_any (byt s0 0) W (byt_lt _ _); rwa [hk, hk0b] at this
  have i0 : (0 : Int) < (m : Int) := by omega
  have i1 : (0 : Int) < (s0.size : Int) := by omega
  have m1 : (m : Int) < 4 := by omega
  have HL : Hid (Lns w B) := hL
  have HI : Hid (lnK k = 2) := hi
  have HK8 : Hid (k ≤ 8) := hk8
  clear hL hi hk hk0 hk0b hk8 h0
  go_enter Tryz.func106, Tryz.ntmps106
  go_wp2_with (first
    | (go_at_call 153; (try rw [hg]); (with_reducible refine (HOF.out _).mono ?_); rintro e w1 ⟨rfl, hb⟩; (obtain ⟨hz1, hlt, hbz⟩ := zer8 hb); (obtain ⟨wz, hwz, hne1, hne2, ⟨d0, d1, d2, d3, d4, d5, d6, d7⟩, ⟨f0, f1, f2, f3, f4, f5, f6, f7⟩, ⟨l0, l1, l2, l3⟩, HZ2, HBZ2⟩ := bad_st 4 5 149 150 hz1 hbz); (have hlk := look_2 (HL.out.below hbz) HK8.out HI.out); clear hz1 hbz hb))
  have Z := cells_8 (st8_blk HZ2.out (.int .u8 0) (.string ⟨#[]⟩) (.string ⟨#[]⟩) (.string ⟨#[]⟩) (.string ⟨#[]⟩) (.string ⟨#[]⟩) (.float .f64 0) (.int .i64 0))
  unfold st8 at Z
  obtain ⟨z0, z1, z2, z3, z4, z5, z6, z7⟩ := Z
  refine bodyPost_ret (by simp [results, Tryz.results106, go_sem, z0, z1, z2, z3, z4, z5, z6, z7]; try rfl) rfl ?_
  exact ⟨rfl, below_set8 HBZ2.out (Nat.le_refl _) _ _ _ _ _ _ _ _⟩
set_option maxHeartbeats 4000000 in
theorem read_2hi (w : World) (B bk m cp : Nat) (s0 : ByteArray) (k : Nat) (hL : Lns w B) (hs0 : 0 < s0.size) (h0 : w.cell? ⟨bk, 0, none⟩ = some (.string s0)) (hm0 : 0 < m) (hm1 : 5 < m) (hk : ofK (byt s0 0) = k) (hk8 : k ≤ 8) (hk0 : k ≠ 0) (hi : lnK k = 2) :
    Calls Tryz.prog 106 #[.map (some B), .slice (some ⟨bk, 0, none⟩) m cp] w fun e w' => e = .returned (.tuple #[.agg #[.int .u8 0, .string ⟨#[]⟩, .string ⟨#[]⟩, .string ⟨#[]⟩, .string ⟨#[]⟩, .string ⟨#[]⟩, .float .f64 0, .int .i64 0], .int .i64 4]) ∧ Below w.heap.size w w' := by
  have hbk : bk < w.heap.size := World.block_lt_of_cell? w _ h0
  have h0a : ∀ o, (w.alloc o).cell? ⟨bk, 0, none⟩ = some (.string s0) := fun o => by rw [World.cell?_alloc_lt _ _ _ hbk]; exact h0
  have hg := byt_get hs0
  have hk0b : (k != 0) = true := by simp [hk0]
  have HOF : Hid (∀ W, Calls Tryz.prog 153 #[.int .u8 (byt s0 0 : Nat)] W fun e w' => e = .returned (.tuple #[.int .u8 (k : Nat), .bool true]) ∧ Below W.heap.size W w') := fun W => by have := kof_any (byt s0 0) W (byt_lt _ _); rwa [hk, hk0b] at this
  have i0 : (0 : Int) < (m : Int) := by omega
  have i1 : (0 : Int) < (s0.size : Int) := by omega
  have m1 : ¬ ((m : Int) < 4) := by omega
  have m2 : (5 : Int) < (m : Int) := by omega
  have HL : Hid (Lns w B) := hL
  have HI : Hid (lnK k = 2) := hi
  have HK8 : Hid (k ≤ 8) := hk8
  clear hL hi hk hk0 hk0b hk8 h0
  go_enter Tryz.func106, Tryz.ntmps106
  go_wp2_with (first
    | (go_at_call 153; (try rw [hg]); (with_reducible refine (HOF.out _).mono ?_); rintro e w1 ⟨rfl, hb⟩; (obtain ⟨hz1, hlt, hbz⟩ := zer8 hb); (obtain ⟨wz, hwz, hne1, hne2, ⟨d0, d1, d2, d3, d4, d5, d6, d7⟩, ⟨f0, f1, f2, f3, f4, f5, f6, f7⟩, ⟨l0, l1, l2, l3⟩, HZ2, HBZ2⟩ := bad_st 4 5 149 150 hz1 hbz); (have hlk := look_2 (HL.out.below hbz) HK8.out HI.out); clear hz1 hbz hb))
  have Z := cells_8 (st8_blk HZ2.out (.int .u8 0) (.string ⟨#[]⟩) (.string ⟨#[]⟩) (.string ⟨#[]⟩) (.string ⟨#[]⟩) (.string ⟨#[]⟩) (.float .f64 0) (.int .i64 0))
  unfold st8 at Z
  obtain ⟨z0, z1, z2, z3, z4, z5, z6, z7⟩ := Z
  refine bodyPost_ret (by simp [results, Tryz.results106, go_sem, z0, z1, z2, z3, z4, z5, z6, z7]; try rfl) rfl ?_
  exact ⟨rfl, below_set8 HBZ2.out (Nat.le_refl _) _ _ _ _ _ _ _ _⟩
set_option maxHeartbeats 4000000 in
theorem read_3lo (w : World) (B bk m cp : Nat) (s0 : ByteArray) (k : Nat) (hL : Lns w B) (hs0 : 0 < s0.size) (h0 : w.cell? ⟨bk, 0, none⟩ = some (.string s0)) (hm0 : 0 < m) (hm1 : m < 6) (hk : ofK (byt s0 0) = k) (hk8 : k ≤ 8) (hk0 : k ≠ 0) (hi : lnK k = 3) :
    Calls Tryz.prog 106 #[.map (some B), .slice (some ⟨bk, 0, none⟩) m cp] w fun e w' => e = .returned (.tuple #[.agg #[.int .u8 0, .string ⟨#[]⟩, .string ⟨#[]⟩, .string ⟨#[]⟩, .string ⟨#[]⟩, .string ⟨#[]⟩, .float .f64 0, .int .i64 0], .int .i64 4]) ∧ Below w.heap.size w w' := by
  have hbk : bk < w.heap.size := World.block_lt_of_cell? w _ h0
  have h0a : ∀ o, (w.alloc o).cell? ⟨bk, 0, none⟩ = some (.string s0) := fun o => by rw [World.cell?_alloc_lt _ _ _ hbk]; exact h0
  have hg := byt_get hs0
  have hk0b : (k != 0) = true := by simp [hk0]
  have HOF : Hid (∀ W, Calls Tryz.prog 153 #[.int .u8 (byt s0 0 : Nat)] W fun e w' => e = .returned (.tuple #[.int .u8 (k : Nat), .bool true]) ∧ Below W.heap.size W w') := fun W => by have := kof_any (byt s0 0) W (byt_lt _ _); rwa [hk, hk0b] at this
  have i0 : (0 : Int) < (m : Int) := by omega
  have i1 : (0 : Int) < (s0.size : Int) := by omega
  have m1 : (m : Int) < 6 := by omega
  have HL : Hid (Lns w B) := hL
  have HI : Hid (lnK k = 3) := hi
  have HK8 : Hid (k ≤ 8) := hk8
  clear hL hi hk hk0 hk0b hk8 h0
  go_enter Tryz.func106, Tryz.ntmps106
  go_wp2_with (first
    | (go_at_call 153; (try rw [hg]); (with_reducible refine (HOF.out _).mono ?_); rintro e w1 ⟨rfl, hb⟩; (obtain ⟨hz1, hlt, hbz⟩ := zer8 hb); (obtain ⟨wz, hwz, hne1, hne2, ⟨d0, d1, d2, d3, d4, d5, d6, d7⟩, ⟨f0, f1, f2, f3, f4, f5, f6, f7⟩, ⟨l0, l1, l2, l3⟩, HZ2, HBZ2⟩ := bad_st 6 6 151 152 hz1 hbz); (have hlk := look_3 (HL.out.below hbz) HK8.out HI.out); clear hz1 hbz hb))
  have Z := cells_8 (st8_blk HZ2.out (.int .u8 0) (.string ⟨#[]⟩) (.string ⟨#[]⟩) (.string ⟨#[]⟩) (.string ⟨#[]⟩) (.string ⟨#[]⟩) (.float .f64 0) (.int .i64 0))
  unfold st8 at Z
  obtain ⟨z0, z1, z2, z3, z4, z5, z6, z7⟩ := Z
  refine bodyPost_ret (by simp [results, Tryz.results106, go_sem, z0, z1, z2, z3, z4, z5, z6, z7]; try rfl) rfl ?_
  exact ⟨rfl, below_set8 HBZ2.out (Nat.le_refl _) _ _ _ _ _ _ _ _⟩
set_option maxHeartbeats 4000000 in
theorem read_3hi (w : World) (B bk m cp : Nat) (s0 : ByteArray) (k : Nat) (hL : Lns w B) (hs0 : 0 < s0.size) (h0 : w.cell? ⟨bk, 0, none⟩ = some (.string s0)) (hm0 : 0 < m) (hm1 : 6 < m) (hk : ofK (byt s0 0) = k) (hk8 : k ≤ 8) (hk0 : k ≠ 0) (hi : lnK k = 3) :
    Calls Tryz.prog 106 #[.map (some B), .slice (some ⟨bk, 0, none⟩) m cp] w fun e w' => e = .returned (.tuple #[.agg #[.int .u8 0, .string ⟨#[]⟩, .string ⟨#[]⟩, .string ⟨#[]⟩, .string ⟨#[]⟩, .string ⟨#[]⟩, .float .f64 0, .int .i64 0], .int .i64 4]) ∧ Below w.heap.size w w' := by
  have hbk : bk < w.heap.size := World.block_lt_of_cell? w _ h0
  have h0a : ∀ o, (w.alloc o).cell? ⟨bk, 0, none⟩ = some (.string s0) := fun o => by rw [World.cell?_alloc_lt _ _ _ hbk]; exact h0
  have hg := byt_get hs0
  have hk0b : (k != 0) = true := by simp [hk0]
  have HOF : Hid (∀ W, Calls Tryz.prog 153 #[.int .u8 (byt s0 0 : Nat)] W fun e w' => e = .returned (.tuple #[.int .u8 (k : Nat), .bool true]) ∧ Below W.heap.size W w') := fun W => by have := kof_any (byt s0 0) W (byt_lt _ _); rwa [hk, hk0b] at this
  have i0 : (0 : Int) < (m : Int) := by omega
  have i1 : (0 : Int) < (s0.size : Int) := by omega
  have m1 : ¬ ((m : Int) < 6) := by omega
  have m2 : (6 : Int) < (m : Int) := by omega
  have HL : Hid (Lns w B) := hL
  have HI : Hid (lnK k = 3) := hi
  have HK8 : Hid (k ≤ 8) := hk8
  clear hL hi hk hk0 hk0b hk8 h0
  go_enter Tryz.func106, Tryz.ntmps106
  go_wp2_with (first
    | (go_at_call 153; (try rw [hg]); (with_reducible refine (HOF.out _).mono ?_); rintro e w1 ⟨rfl, hb⟩; (obtain ⟨hz1, hlt, hbz⟩ := zer8 hb); (obtain ⟨wz, hwz, hne1, hne2, ⟨d0, d1, d2, d3, d4, d5, d6, d7⟩, ⟨f0, f1, f2, f3, f4, f5, f6, f7⟩, ⟨l0, l1, l2, l3⟩, HZ2, HBZ2⟩ := bad_st 6 6 151 152 hz1 hbz); (have hlk := look_3 (HL.out.below hbz) HK8.out HI.out); clear hz1 hbz hb))
  have Z := cells_8 (st8_blk HZ2.out (.int .u8 0) (.string ⟨#[]⟩) (.string ⟨#[]⟩) (.string ⟨#[]⟩) (.string ⟨#[]⟩) (.string ⟨#[]⟩) (.float .f64 0) (.int .i64 0))
  unfold st8 at Z
  obtain ⟨z0, z1, z2, z3, z4, z5, z6, z7⟩ := Z
  refine bodyPost_ret (by simp [results, Tryz.results106, go_sem, z0, z1, z2, z3, z4, z5, z6, z7]; try rfl) rfl ?_
  exact ⟨rfl, below_set8 HBZ2.out (Nat.le_refl _) _ _ _ _ _ _ _ _⟩
theorem none_st {w w1 : World} (h1 : w1.heap[w.heap.size]? = some (.cells #[.int .u8 0, .string ⟨#[]⟩, .string ⟨#[]⟩, .string ⟨#[]⟩, .string ⟨#[]⟩, .string ⟨#[]⟩, .float .f64 0, .int .i64 0] 96 (0, 0))) (hB : Below w.heap.size w w1) :
    (w1.cell? ⟨w.heap.size, 0, none⟩ = some (.int .u8 0) ∧ w1.cell? ⟨w.heap.size, 1, none⟩ = some (.string ⟨#[]⟩) ∧ w1.cell? ⟨w.heap.size, 2, none⟩ = some (.string ⟨#[]⟩) ∧ w1.cell? ⟨w.heap.size, 3, none⟩ = some (.string ⟨#[]⟩) ∧ w1.cell? ⟨w.heap.size, 4, none⟩ = some (.string ⟨#[]⟩) ∧ w1.cell? ⟨w.heap.size, 5, none⟩ = some (.string ⟨#[]⟩) ∧ w1.cell? ⟨w.heap.size, 6, none⟩ = some (.float .f64 0) ∧ w1.cell? ⟨w.heap.size, 7, none⟩ = some (.int .i64 0)) ∧ (w1.frozen? ⟨w.heap.size, 0, none⟩ = false ∧ w1.frozen? ⟨w.heap.size, 1, none⟩ = false ∧ w1.frozen? ⟨w.heap.size, 2, none⟩ = false ∧ w1.frozen? ⟨w.heap.size, 3, none⟩ = false ∧ w1.frozen? ⟨w.heap.size, 4, none⟩ = false ∧ w1.frozen? ⟨w.heap.size, 5, none⟩ = false ∧ w1.frozen? ⟨w.heap.size, 6, none⟩ = false ∧ w1.frozen? ⟨w.heap.size, 7, none⟩ = false) ∧ Hid (w1.heap[w.heap.size]? = some (.cells #[.int .u8 0, .string ⟨#[]⟩, .string ⟨#[]⟩, .string ⟨#[]⟩, .string ⟨#[]⟩, .string ⟨#[]⟩, .float .f64 0, .int .i64 0] 96 (0, 0))) ∧ Hid (Below w.heap.size w w1) := ⟨(eight h1).1, (eight h1).2, h1, hB⟩
set_option maxHeartbeats 4000000 in
theorem read_0 (w : World) (B bk m cp : Nat) (s0 : ByteArray) (hs0 : 0 < s0.size) (h0 : w.cell? ⟨bk, 0, none⟩ = some (.string s0)) (hm0 : 0 < m) (hk : ofK (byt s0 0) = 0) :
    Calls Tryz.prog 106 #[.map (some B), .slice (some ⟨bk, 0, none⟩) m cp] w fun e w' => e = .returned (.tuple #[.agg #[.int .u8 0, .string ⟨#[]⟩, .string ⟨#[]⟩, .string ⟨#[]⟩, .string ⟨#[]⟩, .string ⟨#[]⟩, .float .f64 0, .int .i64 0], .int .i64 8]) ∧ Below w.heap.size w w' := by
  have hbk : bk < w.heap.size := World.block_lt_of_cell? w _ h0
  have h0a : ∀ o, (w.alloc o).cell? ⟨bk, 0, none⟩ = some (.string s0) := fun o => by rw [World.cell?_alloc_lt _ _ _ hbk]; exact h0
  have hg := byt_get hs0
  have HOF : Hid (∀ W, Calls Tryz.prog 153 #[.int .u8 (byt s0 0 : Nat)] W fun e w' => e = .returned (.tuple #[.int .u8 0, .bool false]) ∧ Below W.heap.size W w') := fun W => by have := kof_any (byt s0 0) W (byt_lt _ _); rw [hk] at this; exact this
  have i0 : (0 : Int) < (m : Int) := by omega
  have i1 : (0 : Int) < (s0.size : Int) := by omega
  clear hk h0
  go_enter Tryz.func106, Tryz.ntmps106
  go_wp2_with (first
    | (go_at_call 153; (try rw [hg]); (with_reducible refine (HOF.out _).mono ?_); rintro e w1 ⟨rfl, hb⟩; (obtain ⟨hz1, hlt, hbz⟩ := zer8 hb); (obtain ⟨⟨d0, d1, d2, d3, d4, d5, d6, d7⟩, ⟨f0, f1, f2, f3, f4, f5, f6, f7⟩, HZ2, HBZ2⟩ := none_st hz1 hbz); clear hz1 hbz hb))
  have Z := cells_8 (st8_blk HZ2.out (.int .u8 0) (.string ⟨#[]⟩) (.string ⟨#[]⟩) (.string ⟨#[]⟩) (.string ⟨#[]⟩) (.string ⟨#[]⟩) (.float .f64 0) (.int .i64 0))
  unfold st8 at Z
  obtain ⟨z0, z1, z2, z3, z4, z5, z6, z7⟩ := Z
  refine bodyPost_ret (by simp [results, Tryz.results106, go_sem, z0, z1, z2, z3, z4, z5, z6, z7]; try rfl) rfl ?_
  exact ⟨rfl, below_set8 HBZ2.out (Nat.le_refl _) _ _ _ _ _ _ _ _⟩
end Go.Proofs.YtmpkcioeodlbcaaGreatDoor
namespace Go.Proofs.YtmpkcioeodlbcaaGreatDoor
open Go.Maps Go.RowKit Joins Deep
set_option linter.unusedVariables false
set_option maxRecDepth 100000
def wdA (ws : List ByteArray) (i : Nat) : ByteArray := ws.getD i ⟨#[]⟩
/-- what is wrong with a line's words -/
def rdE (ws : List ByteArray) : Int :=
  if ofK (byt (wdA ws 0) 0) = 0 then 8
  else if lnK (ofK (byt (wdA ws 0) 0)) = 1 then (if ws.length = 4 then paE (wdA ws 3) else 4)
  else if lnK (ofK (byt (wdA ws 0) 0)) = 2 then (if ws.length = 4 ∨ ws.length = 5 then srE ws.length (wdA ws 3) (wdA ws 4) else 4)
  else (if ws.length = 6 then paE (wdA ws 5) else 4)
/-- the element that they say -/
def rdX (ws : List ByteArray) : Elm :=
  if lnK (ofK (byt (wdA ws 0) 0)) = 1 then ⟨ofK (byt (wdA ws 0) 0), wdA ws 0, wdA ws 1, wdA ws 2, ⟨#[]⟩, ⟨#[]⟩, paW (wdA ws 3), 0⟩
  else if lnK (ofK (byt (wdA ws 0) 0)) = 2 then ⟨ofK (byt (wdA ws 0) 0), wdA ws 0, wdA ws 1, wdA ws 2, ⟨#[]⟩, ⟨#[]⟩, paW (wdA ws 3), srP ws.length (wdA ws 3) (wdA ws 4)⟩
  else ⟨ofK (byt (wdA ws 0) 0), wdA ws 0, wdA ws 1, wdA ws 2, wdA ws 3, wdA ws 4, paW (wdA ws 5), 0⟩
theorem ofK_le8 (c : Nat) : ofK c ≤ 8 := by unfold ofK; (repeat' split) <;> omega
theorem lnK_of {k : Nat} (h : k ≤ 8) (h0 : k ≠ 0) : lnK k = 1 ∨ lnK k = 2 ∨ lnK k = 3 := by
  unfold lnK; (repeat' split) <;> omega
def zElm : Elm := ⟨0, ⟨#[]⟩, ⟨#[]⟩, ⟨#[]⟩, ⟨#[]⟩, ⟨#[]⟩, 0, 0⟩
theorem wdA_get {ws : List ByteArray} {i : Nat} (h : i < ws.length) : ws[i]? = some (wdA ws i) := by
  unfold wdA; rw [List.getD_eq_getElem?_getD, List.getElem?_eq_getElem h]; rfl
theorem four_of {ws : List ByteArray} (h : 4 ≤ ws.length) : ∃ r, ws = wdA ws 0 :: wdA ws 1 :: wdA ws 2 :: wdA ws 3 :: r := by
  match ws, h with
  | a :: b :: c :: d :: r, _ => exact ⟨r, rfl⟩
theorem six_of {ws : List ByteArray} (h : 6 ≤ ws.length) : ∃ r, ws = wdA ws 0 :: wdA ws 1 :: wdA ws 2 :: wdA ws 3 :: wdA ws 4 :: wdA ws 5 :: r := by
  match ws, h with
  | a :: b :: c :: d :: e :: f :: r, _ => exact ⟨r, rfl⟩
theorem read_any (w : World) (B bk m cp : Nat) (ws : List ByteArray) (hl : ws.length = m) (hm : 0 < m) (hL : Lns w B) (hw : Wow w) (hWd : Wd w bk ws) (hs0 : 0 < (wdA ws 0).size) (hsz : ∀ i, (wdA ws i).size ≤ 65536) :
    Calls Tryz.prog 106 #[.map (some B), .slice (some ⟨bk, 0, none⟩) m cp] w fun e w' => ∃ y : Elm, e = .returned (.tuple #[elV y, .int .i64 (rdE ws)]) ∧ (rdE ws = 0 → y = rdX ws) ∧ Below w.heap.size w w' := by
  obtain ⟨k, hk⟩ : ∃ k, ofK (byt (wdA ws 0) 0) = k := ⟨_, rfl⟩
  have h0 := hWd 0 _ (wdA_get (by omega))
  have hE : rdE ws = if k = 0 then 8 else if lnK k = 1 then (if m = 4 then paE (wdA ws 3) else 4) else if lnK k = 2 then (if m = 4 ∨ m = 5 then srE m (wdA ws 3) (wdA ws 4) else 4) else (if m = 6 then paE (wdA ws 5) else 4) := by unfold rdE; rw [hk, hl]
  have hX : rdX ws = if lnK k = 1 then ⟨k, wdA ws 0, wdA ws 1, wdA ws 2, ⟨#[]⟩, ⟨#[]⟩, paW (wdA ws 3), 0⟩ else if lnK k = 2 then ⟨k, wdA ws 0, wdA ws 1, wdA ws 2, ⟨#[]⟩, ⟨#[]⟩, paW (wdA ws 3), srP m (wdA ws 3) (wdA ws 4)⟩ else ⟨k, wdA ws 0, wdA ws 1, wdA ws 2, wdA ws 3, wdA ws 4, paW (wdA ws 5), 0⟩ := by unfold rdX; rw [hk, hl]
  have hk8 : k ≤ 8 := by rw [← hk]; exact ofK_le8 _
  by_cases hk0 : k = 0
  · rw [if_pos hk0] at hE
    rw [hE]
    refine (read_0 w B bk m cp _ hs0 h0 hm (hk.trans hk0)).mono ?_
    rintro e w' ⟨rfl, hb⟩
    exact ⟨zElm, rfl, (fun h => by cases h), hb⟩
  · rw [if_neg hk0] at hE
    rcases lnK_of hk8 hk0 with hi | hi | hi
    · rw [if_pos hi] at hE hX
      by_cases h4 : m = 4
      · rw [if_pos h4] at hE
        rw [hE, hX]
        obtain ⟨r, hr⟩ := four_of (ws := ws) (by omega)
        refine (read_1 w B bk m cp _ k 0 (paE (wdA ws 3)) _ _ _ _ _ _ _ hL hs0 h0 (by omega) (by omega) hk hk8 hk0 hi (fun W hB => readTwo_w W bk m cp ws _ _ _ _ r hr (by omega) (hWd.below hB))).mono ?_
        rintro e w' ⟨rfl, hb⟩
        exact ⟨_, rfl, fun _ => rfl, hb⟩
      · rw [if_neg h4] at hE
        rw [hE]
        rcases (by omega : m < 4 ∨ 4 < m) with q | q
        · refine (read_1lo w B bk m cp _ k hL hs0 h0 hm q hk hk8 hk0 hi).mono ?_
          rintro e w' ⟨rfl, hb⟩
          exact ⟨zElm, rfl, (fun h => by cases h), hb⟩
        · refine (read_1hi w B bk m cp _ k hL hs0 h0 hm q hk hk8 hk0 hi).mono ?_
          rintro e w' ⟨rfl, hb⟩
          exact ⟨zElm, rfl, (fun h => by cases h), hb⟩
    · rw [if_neg (by omega), if_pos hi] at hE hX
      by_cases h4 : m = 4 ∨ m = 5
      · rw [if_pos h4] at hE
        rw [hE, hX]
        obtain ⟨r, hr⟩ := four_of (ws := ws) (by omega)
        refine (read_2 w B bk m cp _ k 0 (srE m (wdA ws 3) (wdA ws 4)) _ _ _ _ _ _ _ hL hs0 h0 (by omega) (by omega) hk hk8 hk0 hi (fun W hB => readSource_w W bk m cp ws _ _ _ _ (wdA ws 4) r hr (fun h5 => wdA_get (by omega)) h4 (hWd.below hB) (hw.kept hB) (hsz 4))).mono ?_
        rintro e w' ⟨rfl, hb⟩
        exact ⟨_, rfl, fun _ => rfl, hb⟩
      · rw [if_neg h4] at hE
        rw [hE]
        rcases (by omega : m < 4 ∨ 5 < m) with q | q
        · refine (read_2lo w B bk m cp _ k hL hs0 h0 hm q hk hk8 hk0 hi).mono ?_
          rintro e w' ⟨rfl, hb⟩
          exact ⟨zElm, rfl, (fun h => by cases h), hb⟩
        · refine (read_2hi w B bk m cp _ k hL hs0 h0 hm q hk hk8 hk0 hi).mono ?_
          rintro e w' ⟨rfl, hb⟩
          exact ⟨zElm, rfl, (fun h => by cases h), hb⟩
    · rw [if_neg (by omega), if_neg (by omega)] at hE hX
      by_cases h4 : m = 6
      · rw [if_pos h4] at hE
        rw [hE, hX]
        obtain ⟨r, hr⟩ := six_of (ws := ws) (by omega)
        refine (read_3 w B bk m cp _ k 0 (paE (wdA ws 5)) _ _ _ _ _ _ _ hL hs0 h0 (by omega) (by omega) hk hk8 hk0 hi (fun W hB => readFour_w W bk m cp ws _ _ _ _ _ _ r hr (by omega) (hWd.below hB))).mono ?_
        rintro e w' ⟨rfl, hb⟩
        exact ⟨_, rfl, fun _ => rfl, hb⟩
      · rw [if_neg h4] at hE
        rw [hE]
        rcases (by omega : m < 6 ∨ 6 < m) with q | q
        · refine (read_3lo w B bk m cp _ k hL hs0 h0 hm q hk hk8 hk0 hi).mono ?_
          rintro e w' ⟨rfl, hb⟩
          exact ⟨zElm, rfl, (fun h => by cases h), hb⟩
        · refine (read_3hi w B bk m cp _ k hL hs0 h0 hm q hk hk8 hk0 hi).mono ?_
          rintro e w' ⟨rfl, hb⟩
          exact ⟨zElm, rfl, (fun h => by cases h), hb⟩
end Go.Proofs.YtmpkcioeodlbcaaGreatDoor
