/-
  Several texts in one: Nmb Nst.
-/
import Derived.Test.YtmpkcioeodlbcaaGreatDoorK06
import Derived.Test.YtmpkcioeodlbcaaGreatDoorChecked
import Derived.Maps.OwnSet
import Derived.Maps.Own
import Derived.WalkKit
import Derived.OwnWalk
import Derived.Deep.RegionHeldLaw
import Derived.Deep.AppendLies
namespace Go.Proofs.YtmpkcioeodlbcaaGreatDoor
open Go.Maps Go.RowKit
theorem lawS : Keyed Tryz.prog 9 := string_keyed Tryz.underlying9
theorem zeroI (w : World) : (zeroValue 3).run Tryz.prog w = .ok (.int .i64 0) w := by kernel_rfl
theorem key_s (l : List UInt8) (h : l.length ≤ 100000) : keyOf Tryz.prog 9 (.string ⟨l.toArray⟩) = some (kyS l) := by
  have := Go.WideMaps.keyOf_string_mk (P := Tryz.prog) (s := ⟨l.toArray⟩) Tryz.underlying9 (by unfold maxLen; simp [ByteArray.size]; omega)
  simpa using this
/-- the map of a row of names, in the block B -/
def Mp (w : World) (B : Nat) (xs : List (List UInt8)) : Prop := ∃ D : DataW Unit, w.ownsMap Tryz.prog 9 (plainElem Tryz.prog 3) B xs.length D ∧ MdOk D xs
theorem nplace_any (w : World) (p f B : Nat) (xs : List (List UInt8)) (l : List UInt8) (hl : l.length ≤ 100000) (hc : w.cell? ⟨p, f + 1, none⟩ = some (.map (some B))) (hm : Mp w B xs) :
    Calls Tryz.prog 82 #[.pointer (some ⟨p, f, none⟩), .string ⟨l.toArray⟩] w fun e w' => e = .returned (.tuple #[.int .i64 (posL xs l), .bool (decide (l ∈ xs))]) ∧ w' = w := by
  obtain ⟨D, hown, hD⟩ := hm
  have hkey := key_s l hl
  go_enter Tryz.func82, Tryz.ntmps82
  go_wp2_with (at_lookup; refine wpList_lookup_own_ok_int _ rfl _ _ 62 rfl 9 3 .i64 lawS Tryz.underlying62 Tryz.underlying3 (zeroI _) B xs.length D rfl hown _ _ rfl hkey ?_; intro c hat hwc)
  go_ret2
  rw [hD.ak l] at hat
  obtain rfl : ((posL xs l : Nat) : Int) = c := (Lit.int.inj (DataW.lit.inj hat)).2
  refine ⟨?_, rfl⟩
  show Ending.returned (.tuple #[.int .i64 ((posL xs l : Nat) : Int), .bool (has D (kyS l))]) = _
  rw [hD.hs l]

abbrev sv (l : List UInt8) : Value := .string ⟨l.toArray⟩
/-- a row of names in a struct: its list, its map -/
structure Rn (w : World) (base p f : Nat) (v : Value) (B : Nat) (xs : List (List UInt8)) : Prop where
  c0 : w.cell? ⟨p, f, none⟩ = some v
  c1 : w.cell? ⟨p, f + 1, none⟩ = some (.map (some B))
  fz : w.frozen? ⟨p, f, none⟩ = false
  row : w.ownsRow base 9 1 v xs.length (xs.map sv)
  mp : Mp w B xs
theorem map_ne {w : World} {B n : Nat} {D : DataW Unit} {R : Value → Option (DataW Unit × List MemPlace)} {k : TypeId} (h : w.ownsMap Tryz.prog k R B n D) {p f : Nat} {u : Value} (hc : w.cell? ⟨p, f, none⟩ = some u) : p ≠ B := by
  rintro rfl
  obtain ⟨es, clock, hb, _⟩ := h
  unfold World.cell? at hc
  simp [hb] at hc
theorem row_neB {w : World} {B n m base : Nat} {D : DataW Unit} {R : Value → Option (DataW Unit × List MemPlace)} {k e : TypeId} {v : Value} {xs : List Value} (h : w.ownsMap Tryz.prog k R B n D) (hr : w.ownsRow base e 1 v m xs) : v.ownBlock ≠ some B := by
  intro hv
  obtain ⟨es, clock, hb, _⟩ := h
  obtain ⟨_, ⟨rfl, _⟩ | ⟨g, cap, cur, rfl, _, h4, _⟩⟩ := hr
  · cases hv
  · simp [Value.ownBlock] at hv
    subst hv
    rw [hb] at h4; cases h4
theorem Tryz.infoS : (Tryz.prog.info? 9).map (fun i => (i.zero, i.size, i.bytes)) = some (some (.string ByteArray.empty), 1, 16) := by kernel_rfl
/-- what add may have turned: the struct's own cell, the map, the list's own row -/
structure Ad (w w' : World) (p f B : Nat) (v : Value) : Prop where
  os : w'.os = w.os
  tape : w'.tape = w.tape
  output : w'.output = w.output
  sz : w.heap.size ≤ w'.heap.size
  fr : ∀ k, k < w.heap.size → k ≠ p → k ≠ B → v.ownBlock ≠ some k → w'.heap[k]? = w.heap[k]?
  cl : ∀ j, j ≠ f → w'.cell? ⟨p, j, none⟩ = w.cell? ⟨p, j, none⟩
  fz : ∀ j, w'.frozen? ⟨p, j, none⟩ = w.frozen? ⟨p, j, none⟩
theorem grown_setN {w : World} {p f : Nat} {u : Value} : w.grownBy (w.setCell ⟨p, f, none⟩ u) (some p) :=
  ⟨rfl, rfl, rfl, by simp [World.setCell], fun i _ hne => heap_setCell_other w ⟨p, f, none⟩ i u (fun e => hne (by simp [e]))⟩
theorem add_old (w : World) (base p f B : Nat) (v : Value) (xs : List (List UInt8)) (l : List UInt8) (hl : l.length ≤ 100000) (h : Rn w base p f v B xs) (hm : l ∈ xs) :
    Calls Tryz.prog 112 #[.pointer (some ⟨p, f, none⟩), sv l] w fun e w' => e = .returned (.tuple #[]) ∧ w' = w := by
  obtain ⟨D, hown, hD⟩ := h.mp
  have hkey := key_s l hl
  have hc := h.c1
  have hh : has D (kyS l) = true := by rw [hD.hs l]; exact decide_eq_true hm
  go_enter Tryz.func112, Tryz.ntmps112
  go_wp2_with (at_lookup; refine wpList_lookup_own_ok_int _ rfl _ _ 62 rfl 9 3 .i64 lawS Tryz.underlying62 Tryz.underlying3 (zeroI _) B xs.length D rfl hown _ _ rfl hkey ?_; intro c hat hwc)
  (try simp only [Exit.inBlock, Exit.then])
  refine bodyPost_ret (results_none rfl _ _ _) rfl ?_
  exact ⟨rfl, rfl⟩
theorem add_new (w : World) (base p f B : Nat) (v : Value) (xs : List (List UInt8)) (l : List UInt8) (hl : l.length ≤ 100000) (hx : xs.length ≤ 100000) (h : Rn w base p f v B xs) (hm : l ∉ xs) (hbp : ∀ g, v.ownBlock = some g → g ≠ p) (hb : base ≤ w.heap.size) :
    Calls Tryz.prog 112 #[.pointer (some ⟨p, f, none⟩), sv l] w fun e w' => e = .returned (.tuple #[]) ∧ ∃ v', Rn w' base p f v' B (xs ++ [l]) ∧ Ad w w' p f B v ∧ ∀ g, v'.ownBlock = some g → v.ownBlock = some g ∨ w.heap.size ≤ g := by
  obtain ⟨D, hown, hD⟩ := h.mp
  have hkey := key_s l hl
  have hc0 := h.c0
  have hc1 := h.c1
  have hh : has D (kyS l) = false := by rw [hD.hs l]; exact decide_eq_false hm
  obtain ⟨A, cap, rfl⟩ : ∃ A cap, v = .slice A xs.length cap := by
    obtain ⟨_, ⟨h1, h2⟩ | ⟨g, cap, cur, h1, _⟩⟩ := h.row
    · exact ⟨none, 0, by rw [h1, h2]⟩
    · exact ⟨_, _, h1⟩
  obtain ⟨w2, hrun, own2, grow2⟩ := hown.drew.update lawS Tryz.underlying62 (by unfold maxLen; omega) hkey (plainElem_int (H := Unit) Tryz.underlying3 (a := (xs.length : Int)) (WalkArith.wf_i64 (by omega)))
  go_enter Tryz.func112, Tryz.ntmps112
  go_wp2_with (at_lookup; refine wpList_lookup_own_ok_int _ rfl _ _ 62 rfl 9 3 .i64 lawS Tryz.underlying62 Tryz.underlying3 (zeroI _) B xs.length D rfl hown _ _ rfl hkey ?_; intro c hat hwc)
  have hpB : p ≠ B := map_ne hown hc0
  have k0 : w2.cell? ⟨p, f, none⟩ = some (.slice A xs.length cap) := grow2.cell hc0 (by simpa using hpB)
  have k1 : w2.cell? ⟨p, f + 1, none⟩ = some (.map (some B)) := grow2.cell hc1 (by simpa using hpB)
  have hrB := row_neB hown h.row
  have row2 := h.row.kept (w' := w2) ⟨grow2.os, grow2.tape, grow2.output, grow2.size, grow2.block⟩ (Or.inr hrB)
  have hp2 : p < w.heap.size := World.block_lt_of_cell? w ⟨p, f, none⟩ hc0
  have kf : w2.frozen? ⟨p, f, none⟩ = false := (grow2.frozen_far ⟨p, f, none⟩ hp2 (by simpa using hpB)).trans h.fz
  have hb2 : base ≤ w2.heap.size := Nat.le_trans hb grow2.size
  obtain ⟨i0, hi0, hz0, hz1, hz2⟩ := info_parts Tryz.infoS
  go_region_held_law (fun W => W.cell? ⟨p, f, none⟩ = some (.slice A xs.length cap) ∧ W.cell? ⟨p, f + 1, none⟩ = some (.map (some B))) (first | exact ⟨k0, k1⟩ | go_keep) (fail)
  go_wp2_with (at_builtin; refine wpList_append_lies _ (by rfl) _ _ 61 (by rfl) base 9 i0 (.string ByteArray.empty) 1 16 Tryz.underlying61 hi0 hz0 hz1 hz2 (by rfl) (by decide) _ _ _ (by rfl) (row2.alloc _) ⟨w2.heap.size, 0, none⟩ 1 1 [sv l] (by rfl) (by rfl) ?c1 ?c2 (by decide) ?c3 ?c4 ?c5 _ rfl ?next)
  case c1 => exact World.news_of_block (fr := (0, 0)) (t := 9) (cs := #[sv l]) (heap_alloc_new _ _)
  case c2 => intro u hu; simp at hu; subst hu; rfl
  case c3 => unfold maxLen; omega
  case c4 => omega
  case c5 => simp; omega
  case next =>
    intro g2 cap2 w4 hown4 hgrow hat4 hlt4
    have hp3 : p < (w2.alloc (.cells #[sv l] 9)).heap.size := by have := grow2.size; simp; simp at this; omega
    have hvp : some p ≠ (Value.slice A xs.length cap).ownBlock := fun e => hbp p e.symm rfl
    have k4 : w4.cell? ⟨p, f, none⟩ = some (.slice A xs.length cap) := hgrow.cell (by rw [World.cell?_alloc_lt _ _ _ (World.block_lt_of_cell? w2 _ k0)]; exact k0) hvp
    have kf4 : w4.frozen? ⟨p, f, none⟩ = false := by
      rw [hgrow.frozen_far ⟨p, f, none⟩ hp3 hvp, World.frozen?_alloc_old (h := Nat.ne_of_lt (World.block_lt_of_cell? w2 _ k0))]; exact kf
    go_wp2_with fail
    go_end0
    have hs2 : w.heap.size ≤ w2.heap.size := grow2.size
    have hs4 : w2.heap.size + 1 ≤ w4.heap.size := by have := hgrow.size; simpa using this
    have gp : g2 ≠ p := by
      rcases hat4 with h1 | h1
      · exact hbp g2 h1
      · omega
    have G := grown_setN (w := w4) (p := p) (f := f) (u := .slice (some ⟨g2, 0, none⟩) (xs.length + 1) cap2)
    have q1 : w4.cell? ⟨p, f + 1, none⟩ = some (.map (some B)) := hgrow.cell (by rw [World.cell?_alloc_lt _ _ _ (World.block_lt_of_cell? w2 _ k1)]; exact k1) hvp
    have ob2 := ((own2.alloc (.cells #[sv l] 9)).kept hgrow (Ne.symm hrB)).kept G (by simpa using Ne.symm hpB)
    refine ⟨rfl, .slice (some ⟨g2, 0, none⟩) (xs.length + 1) cap2, ⟨World.cell?_setCell_same _ _ _ k4, ?_, ?_, ?_, ⟨_, ?_, hD.push hm⟩⟩, ⟨?_, ?_, ?_, ?_, fun k hk hkp hkB hkv => ?_, fun j hj => ?_, fun j => ?_⟩, fun g hg => ?_⟩
    · rw [World.cell?_setCell_other _ _ _ _ (by simp)]; exact q1
    · simp [kf4]
    · have := hown4.kept G (Or.inr (by simpa [Value.ownBlock] using gp))
      simpa using this
    · simpa using ob2
    · exact G.os.trans (hgrow.os.trans grow2.os)
    · exact G.tape.trans (hgrow.tape.trans grow2.tape)
    · exact G.output.trans (hgrow.output.trans grow2.output)
    · have := G.size; omega
    · rw [G.block k (by omega) (by simpa using hkp), hgrow.block k (by simp; omega) (fun e => hkv e.symm), Below.heap_alloc w2 _ k (by omega), grow2.block k hk (by simpa using hkB)]; rfl
    · rw [World.cell?_setCell_other _ _ _ _ (by intro e; cases e; exact hj rfl), hgrow.cell_far ⟨p, j, none⟩ hp3 hvp, World.cell?_alloc_lt w2 _ ⟨p, j, none⟩ (World.block_lt_of_cell? w2 ⟨p, f, none⟩ k0)]
      exact grow2.cell_far ⟨p, j, none⟩ hp2 (by simpa using hpB)
    · have hne : (⟨p, j, none⟩ : Addr).block ≠ w2.heap.size := Nat.ne_of_lt (World.block_lt_of_cell? w2 ⟨p, f, none⟩ k0)
      rw [show (w4.setCell ⟨p, f, none⟩ (.slice (some ⟨g2, 0, none⟩) (xs.length + 1) cap2)).frozen? ⟨p, j, none⟩ = w4.frozen? ⟨p, j, none⟩ by simp, hgrow.frozen_far ⟨p, j, none⟩ hp3 hvp, World.frozen?_alloc_old (h := hne)]
      exact grow2.frozen_far ⟨p, j, none⟩ hp2 (by simpa using hpB)
    · have e : g2 = g := by simpa [Value.ownBlock] using hg
      subst e
      rcases hat4 with h1 | h1
      · exact .inl h1
      · exact .inr (by omega)

end Go.Proofs.YtmpkcioeodlbcaaGreatDoor
namespace Go.Proofs.YtmpkcioeodlbcaaGreatDoor
open Go.Maps Go.RowKit
set_option maxRecDepth 100000
/-- eight cells of a block, each of them may be written -/
theorem eight {w : World} {p : Nat} {a b c d e f g h : Value} {t : TypeId} (hb : w.heap[p]? = some (.cells #[a, b, c, d, e, f, g, h] t (0, 0))) :
    (w.cell? ⟨p, 0, none⟩ = some a ∧ w.cell? ⟨p, 1, none⟩ = some b ∧ w.cell? ⟨p, 2, none⟩ = some c ∧ w.cell? ⟨p, 3, none⟩ = some d ∧ w.cell? ⟨p, 4, none⟩ = some e ∧ w.cell? ⟨p, 5, none⟩ = some f ∧ w.cell? ⟨p, 6, none⟩ = some g ∧ w.cell? ⟨p, 7, none⟩ = some h) ∧
    (w.frozen? ⟨p, 0, none⟩ = false ∧ w.frozen? ⟨p, 1, none⟩ = false ∧ w.frozen? ⟨p, 2, none⟩ = false ∧ w.frozen? ⟨p, 3, none⟩ = false ∧ w.frozen? ⟨p, 4, none⟩ = false ∧ w.frozen? ⟨p, 5, none⟩ = false ∧ w.frozen? ⟨p, 6, none⟩ = false ∧ w.frozen? ⟨p, 7, none⟩ = false) := by
  refine ⟨⟨?_, ?_, ?_, ?_, ?_, ?_, ?_, ?_⟩, ⟨?_, ?_, ?_, ?_, ?_, ?_, ?_, ?_⟩⟩
  all_goals first | exact frozen_of_row w p _ _ _ hb | (rw [cell_of_row w p _ _ _ (0, 0) hb]; rfl)
theorem below_set {w0 w : World} {p j : Nat} {u : Value} (hb : Below p w0 w) : Below p w0 (w.setCell ⟨p, j, none⟩ u) :=
  ⟨hb.os, hb.tape, hb.output, by have := hb.size; simpa [World.setCell] using this, fun k hk => (heap_setCell_other w ⟨p, j, none⟩ k u (by simp; omega)).trans (hb.block k hk)⟩
def st8 (w : World) (p : Nat) (a b c d e f g h : Value) : World := (((((((w.setCell ⟨p, 0, none⟩ a).setCell ⟨p, 1, none⟩ b).setCell ⟨p, 2, none⟩ c).setCell ⟨p, 3, none⟩ d).setCell ⟨p, 4, none⟩ e).setCell ⟨p, 5, none⟩ f).setCell ⟨p, 6, none⟩ g).setCell ⟨p, 7, none⟩ h
theorem set_at {w : World} {p i : Nat} {c c' : Array Value} {t : TypeId} {v : Value} (hb : w.heap[p]? = some (.cells c t (0, 0))) (hc : c.setIfInBounds i v = c') : (w.setCell ⟨p, i, none⟩ v).heap[p]? = some (.cells c' t (0, 0)) := by rw [← hc]; exact heap_setCell_same w p i c t v hb
theorem st8_blk {w : World} {p : Nat} {a b c d e f g h : Value} {t : TypeId} (hb : w.heap[p]? = some (.cells #[a, b, c, d, e, f, g, h] t (0, 0))) (a' b' c' d' e' f' g' h' : Value) : (st8 w p a' b' c' d' e' f' g' h').heap[p]? = some (.cells #[a', b', c', d', e', f', g', h'] t (0, 0)) := by
  have h0 := set_at (i := 0) (v := a') (c' := #[a', b, c, d, e, f, g, h]) hb rfl
  have h1 := set_at (i := 1) (v := b') (c' := #[a', b', c, d, e, f, g, h]) h0 rfl
  have h2 := set_at (i := 2) (v := c') (c' := #[a', b', c', d, e, f, g, h]) h1 rfl
  have h3 := set_at (i := 3) (v := d') (c' := #[a', b', c', d', e, f, g, h]) h2 rfl
  have h4 := set_at (i := 4) (v := e') (c' := #[a', b', c', d', e', f, g, h]) h3 rfl
  have h5 := set_at (i := 5) (v := f') (c' := #[a', b', c', d', e', f', g, h]) h4 rfl
  have h6 := set_at (i := 6) (v := g') (c' := #[a', b', c', d', e', f', g', h]) h5 rfl
  have h7 := set_at (i := 7) (v := h') (c' := #[a', b', c', d', e', f', g', h']) h6 rfl
  unfold st8
  exact h7
theorem st8_bel {w0 w : World} {p : Nat} (hb : Below p w0 w) (a b c d e f g h : Value) : Below p w0 (st8 w p a b c d e f g h) := by
  unfold st8
  exact below_set (below_set (below_set (below_set (below_set (below_set (below_set (below_set hb)))))))

/-- two cells of a block that is known whole -/
theorem tw_c {w : World} {B : Nat} {a b : Value} {T : TypeId} (h : w.heap[B]? = some (.cells #[a, b] T (0, 0))) : w.cell? ⟨B, 0, none⟩ = some a ∧ w.cell? ⟨B, 1, none⟩ = some b ∧ w.frozen? ⟨B, 0, none⟩ = false ∧ w.frozen? ⟨B, 1, none⟩ = false :=
  ⟨by rw [cell_of_row w B 0 _ T (0, 0) h]; rfl, by rw [cell_of_row w B 1 _ T (0, 0) h]; rfl, frozen_of_row w B 0 _ T h, frozen_of_row w B 1 _ T h⟩
theorem tw_set {w : World} {B : Nat} {a b : Value} {T : TypeId} (h : w.heap[B]? = some (.cells #[a, b] T (0, 0))) (x y : Value) :
    ((w.setCell ⟨B, 0, none⟩ x).setCell ⟨B, 1, none⟩ y).cell? ⟨B, 0, none⟩ = some x ∧ ((w.setCell ⟨B, 0, none⟩ x).setCell ⟨B, 1, none⟩ y).cell? ⟨B, 1, none⟩ = some y := by
  obtain ⟨c0, c1, _, _⟩ := tw_c h
  constructor
  · rw [World.cell?_setCell_other _ _ _ _ (by simp)]
    exact World.cell?_setCell_same _ _ _ c0
  · refine World.cell?_setCell_same _ _ _ (u := b) ?_
    rw [World.cell?_setCell_other _ _ _ _ (by simp)]; exact c1
theorem tw_bel {w w' : World} {f n : Nat} (h : Below n w w') (hf : n ≤ f) (x y : Value) : Below n w ((w'.setCell ⟨f, 0, none⟩ x).setCell ⟨f, 1, none⟩ y) :=
  (h.setCell (p := ⟨f, 0, none⟩) hf _).setCell (p := ⟨f, 1, none⟩) hf _

end Go.Proofs.YtmpkcioeodlbcaaGreatDoor
