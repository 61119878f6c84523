/-
  What ApartTexts of the given package gridworkkit hands back.
-/
import Derived.Test.YtmhplaanpbpndaaWtm
import Derived.BigQuiet
import Derived.Deep.RegionWith
import Derived.Deep.RegionHeldLaw
namespace Go.Proofs.Ytmhplaanpbpndaa.Tx
open Fl RowKit Go.Maps Joins Deep
set_option linter.unusedVariables false

theorem infoT2 : (Try.prog.info? 9).map (fun i => (i.zero, i.size, i.bytes)) = some (some (.string ByteArray.empty), 1, 16) := by kernel_rfl
theorem infoTR : (Try.prog.info? 42).map (fun i => (i.zero, i.size, i.bytes)) = some (some (.slice none 0 0), 1, 24) := by kernel_rfl
theorem Many.on {base LB m : Nat} {n : Nat → Nat} {V : Nat → Value} {L : Nat → List (List UInt8)} {w w' : World} (h : Many base LB m n V L w) (hb : Below w.heap.size w w') : Many base LB m n V L w' :=
  h.at hb.size (hb.block LB h.lt) (fun j hj g hg => hb.block g ((h.own j hj).lt g hg).2)
theorem vs_of {base LB m : Nat} {n : Nat → Nat} {V : Nat → Value} {L : Nat → List (List UInt8)} {w : World} (h : Many base LB m n V L w) : Vs w.heap.size LB m V := ⟨fun j hj g hg => ((h.own j hj).lt g hg).2, h.apart, h.off, h.lt⟩
theorem gone0 {base LB m : Nat} {n : Nat → Nat} {V H : Nat → Value} {L : Nat → List (List UInt8)} {w : World} (h : Many base LB m n V L w) (hL : ∀ j, j < m → L j = marks ((j : Int) + 10) (n j)) : Gone base w.heap.size LB m 0 0 n V H w :=
  ⟨fun _ h => absurd h (Nat.not_lt_zero _), fun _ h => absurd h (Nat.not_lt_zero _), fun j _ hj => by rw [← hL j hj]; exact h.own j hj, h.cell, Nat.le_refl _, fun _ h => absurd h (Nat.not_lt_zero _), fun _ _ h => absurd h (Nat.not_lt_zero _)⟩
/-- what the inner loop keeps while row k is gone on with -/
structure Going (base k i : Nat) (n : Nat → Nat) (V : Nat → Value) (w2 : World) (g0 : Value) (w : World) : Prop where
  grown : w2.grownBy w (V k).ownBlock
  own : w.ownsRow base 9 1 g0 (n k + i) ((marks ((k : Int) + 10) (n k + i)).map sv)
  loc : g0.ownBlock = (V k).ownBlock ∨ ∃ h, g0.ownBlock = some h ∧ w2.heap.size ≤ h
  old : ∀ g, (V k).ownBlock = some g → g < w2.heap.size ∧ ∀ j, j < n k → w.cell? ⟨g, j, none⟩ = some (sv (mk ((k : Int) + 10) (j : Int)))
theorem going_next {base k i : Nat} {n : Nat → Nat} {V : Nat → Value} {w2 w w' : World} {g0 v' : Value} {o : Obj} (h : Going base k i n V w2 g0 w) (ho : w'.ownsRow base 9 1 v' (n k + i + 1) ((marks ((k : Int) + 10) (n k + i)).map sv ++ [sv (mk ((k : Int) + 10) ((n k : Int) + (i : Int)))]))
    (hg : (w.alloc o).grownBy w' g0.ownBlock) (hat : v'.ownBlock = g0.ownBlock ∨ v'.ownBlock = some (w.heap.size + 1)) (hk : Keeps g0 ((marks ((k : Int) + 10) (n k + i)).map sv) w') : Going base k (i + 1) n V w2 v' w' := by
  have hs := h.grown.size
  refine ⟨?_, ?_, ?_, ?_⟩
  · refine (h.grown.andThen (World.grownBy_alloc w o none) (fun j e => by cases e)).andThen hg ?_
    intro j hj
    rcases h.loc with e | ⟨q, e, hq⟩
    · right; rw [← e]; exact hj
    · left
      rw [e] at hj
      cases hj
      exact hq
  · rw [marks_next] at ho; exact ho
  · rcases hat with e | e
    · rcases h.loc with e2 | ⟨q, e2, hq⟩
      · left; rw [e, e2]
      · right; exact ⟨q, by rw [e, e2], hq⟩
    · right; exact ⟨_, e, by omega⟩
  · intro g hV
    obtain ⟨hlt, hc⟩ := h.old g hV
    refine ⟨hlt, fun j hj => ?_⟩
    rcases h.loc with e | ⟨q, e, hq⟩
    · exact hk g j _ (by rw [e]; exact hV) (marks_get _ (by omega))
    · rw [hg.cell_far _ (by show g < _; rw [size_al]; omega) (by intro e2; rw [e] at e2; have e3 : g = q := Option.some.inj e2; omega)]
      rw [World.cell?_of_block (heap_alloc_old w o (show g < w.heap.size by omega))]
      exact hc j hj

theorem gone_step {base W0 LB m k : Nat} {n : Nat → Nat} {V H : Nat → Value} {w2 w : World} {g0 gv : Value} (hS : Vs W0 LB m V) (hk : k < m) (hG : Gone base W0 LB m k k n V H w2) (hgs : w2.ownsRow W0 42 1 gv k ((List.range k).map H))
    (hgap : ∀ j, j < k → ∀ g, (H j).ownBlock = some g → gv.ownBlock ≠ some g) (hI : Going base k 6 n V w2 g0 w) :
    Gone base W0 LB m (k + 1) (k + 1) n V (upd H k g0) w ∧ w.ownsRow W0 42 1 gv k ((List.range k).map H) ∧ (∀ j, j < k + 1 → ∀ g, (upd H k g0 j).ownBlock = some g → gv.ownBlock ≠ some g) := by
  have hz := hG.size
  have hHV : ∀ j, j < k → ∀ g, (V k).ownBlock = some g → (H j).ownBlock ≠ some g := by
    intro j hj g hV e
    rcases hG.loc j hj with e2 | ⟨h, e2, hh⟩
    · rw [e2] at e
      exact hS.apart j k (by omega) hk (by omega) g e hV
    · rw [e2] at e
      have := hS.lt k hk g hV
      cases e
      omega
  have G1 := hG.less.kept hS (by omega) hI.grown (fun g e => ⟨fun e2 => by subst e2; exact hS.off k hk e, fun j hj hjk e2 => hS.apart j k hj hk (by omega) g e2 e, fun j hj => hHV j hj g e⟩)
  have hgv : ∀ g, gv.ownBlock = some g → W0 ≤ g ∧ g < w2.heap.size := fun g e => hgs.lt g e
  refine ⟨gone_push G1 hI.own (fun g hg => (hI.old g hg).2) ?_ ?_, hgs.kept hI.grown (ne_or (fun g e e2 => ?_)), ?_⟩
  · rcases hI.loc with e | ⟨h, e, hh⟩
    · exact .inl e
    · exact .inr ⟨h, e, by omega⟩
  · intro j hj g hg e
    have hl := ((hG.row j hj).lt g hg).2
    rcases hI.loc with e2 | ⟨h, e2, hh⟩
    · rw [e2] at e; exact hHV j hj g e hg
    · rw [e2] at e; cases e; omega
  · have := hS.lt k hk g e2
    have := (hgv g e).1
    omega
  · intro j hj g hg e
    by_cases ej : j = k
    · subst ej
      rw [upd_self] at hg
      obtain ⟨h1, h2⟩ := hgv g e
      rcases hI.loc with e2 | ⟨h, e2, hh⟩
      · rw [e2] at hg
        have := hS.lt j hk g hg
        omega
      · rw [e2] at hg; cases hg; omega
    · rw [upd_ne _ _ ej] at hg
      exact hgap j (by omega) g hg e
theorem gone_gs {base W0 LB m k : Nat} {n : Nat → Nat} {V H : Nat → Value} {w w' : World} {gv gv' : Value} {o : Obj} (hS : Vs W0 LB m V) (hk : k ≤ m) (hG : Gone base W0 LB m k k n V H w) (hge : ∀ g, gv.ownBlock = some g → W0 ≤ g)
    (hgap : ∀ j, j < k → ∀ g, (H j).ownBlock = some g → gv.ownBlock ≠ some g) (hg : (w.alloc o).grownBy w' gv.ownBlock) (hat : gv'.ownBlock = gv.ownBlock ∨ gv'.ownBlock = some (w.heap.size + 1)) :
    Gone base W0 LB m k k n V H w' ∧ (∀ j, j < k → ∀ g, (H j).ownBlock = some g → gv'.ownBlock ≠ some g) := by
  have G1 := hG.kept hS hk (World.grownBy_alloc w o none) (fun g e => by cases e)
  refine ⟨G1.kept hS hk hg (fun g e => ⟨fun e2 => ?_, fun j hj _ e2 => ?_, fun j hj e2 => hgap j hj g e2 e⟩), ?_⟩
  · have := hS.lb
    have := hge g e
    omega
  · have := hS.lt j hj g e2
    have := hge g e
    omega
  · intro j hj g hH e
    rcases hat with e2 | e2
    · rw [e2] at e; exact hgap j hj g hH e
    · rw [e2] at e
      have := ((hG.row j hj).lt g hH).2
      cases e
      omega

theorem Going.on {base k i : Nat} {n : Nat → Nat} {V : Nat → Value} {w2 w w' : World} {g0 : Value} (h : Going base k i n V w2 g0 w) (hb : Below w.heap.size w w') : Going base k i n V w2 g0 w' :=
  ⟨h.grown.andThen (show w.grownBy w' none from ⟨hb.os, hb.tape, hb.output, hb.size, fun k hk _ => hb.block k hk⟩) (fun j e => nomatch e), own_below h.own hb, h.loc, fun g hg => ⟨(h.old g hg).1, fun j hj => (hb.cell (Nat.lt_of_lt_of_le (h.old g hg).1 h.grown.size)).trans ((h.old g hg).2 j hj)⟩⟩
set_option maxRecDepth 10000 in
set_option maxHeartbeats 40000000 in
theorem kapart_any (base LB m B : Nat) (n : Nat → Nat) (V : Nat → Value) (E : Nat → List (List UInt8)) (w : World) (hm0 : 0 < m) (hm : m ≤ 8) (hT : Many base LB m n V E w) (hsz : ∀ j, j < m → n j * 16 + 96 ≤ 140737488355328) (hB : ∀ j, j < m → ∀ g, (V j).ownBlock = some g → B ≤ g) (hBw : B ≤ w.heap.size) (hbs : base ≤ w.heap.size) :
    Calls Try.prog 15 #[.slice (some ⟨LB, 0, none⟩) m m] w fun e w' => e = .returned (.bool true) ∧ Below B w w' := by
  have hVf : ∀ j, j < m → (∃ g C, V j = .slice (some ⟨g, 0, none⟩) (n j) C) ∨ (∃ A C, V j = .slice A 0 C ∧ n j = 0) := fun j hj => by
    rcases (hT.own j hj).2 with ⟨hv, h0⟩ | ⟨g, cap, cur, hv, _⟩
    · exact .inr ⟨_, _, hv, h0⟩
    · exact .inl ⟨_, _, hv⟩
  go_enter Try.func15, Try.ntmps15
  go_wp2
  go_loopw [3] (fun kv wr => ∃ k : Nat, k ≤ m ∧ kv = .int .i64 k ∧ Many base LB m n V (wr1 E k 0 n) wr ∧ Below B w wr) (fun kv _ => m - (intOf kv).toNat)
  case atStart => exact ⟨0, Nat.zero_le _, rfl, by rw [wr1_start]; exact hT, Below.refl _ _⟩
  case round =>
    obtain ⟨k, hk, rfl, hM, hbel⟩ := hrel
    by_cases hlt : k < m
    · have hsk := hsz k hlt
      have hck := hM.cell k hlt
      have hbd := hM.lt
      obtain ⟨A, C, hVk⟩ := own_form (hM.own k hlt)
      rw [hVk] at hck
      go_wp2
      go_loopw [4] (fun iv wr => ∃ i : Nat, i ≤ n k ∧ iv = .int .i64 i ∧ Many base LB m n V (wr1 E k i n) wr ∧ Below B w wr) (fun iv _ => n k - (intOf iv).toNat)
      case atStart => exact ⟨0, Nat.zero_le _, rfl, hM, hbel⟩
      case round =>
        obtain ⟨i, hi, rfl, hMi, hbeli⟩ := hrel
        have hci := hMi.cell k hlt
        have hlti := hMi.lt
        by_cases hin : i < n k
        · have hlen : (E k).length = n k := hT.len k hlt
          obtain ⟨g, C', hVg, _⟩ := own_shape (hMi.own k hlt) (by omega)
          have hbk : (V k).ownBlock = some g := by rw [hVg]; rfl
          have hok := hMi.own k hlt
          have hst := hMi.store (i := i) hlt hVg (mk ((k : Int) + 10) (i : Int))
          rw [wr1_set E k i n (by omega)] at hst
          have hBk := hB k hlt g hbk
          rw [hVg] at hok hci
          have hcell := hok.cellAt i (by omega)
          have hfz := hok.frozenAt i
          have hget : ((wr1 E k i n k).map sv)[i]? = some (sv (tat (wr1 E k i n k) i)) := by
            have hl := hMi.len k hlt
            rw [List.getElem?_map, tat_lt (by omega)]; rfl
          have hget0 := hget
          rw [hget] at hcell
          obtain ⟨y, hy⟩ : ∃ y, y = tat (wr1 E k i n k) i := ⟨_, rfl⟩
          have HB : Hid (Below B w wr) := hbeli
          have HS : Hid (∀ W, Below wr.heap.size wr W → Many base LB m n V (wr1 E k (i + 1) n) (W.setCell ⟨g, i, none⟩ (sv (mk ((k : Int) + 10) (i : Int)))) ∧ W.cell? ⟨LB, k, none⟩ = some (.slice (some ⟨g, 0, none⟩) (n k) C') ∧ W.cell? ⟨g, i, none⟩ = some (sv y) ∧ W.frozen? ⟨g, i, none⟩ = false ∧ (W.setCell ⟨g, i, none⟩ (sv (mk ((k : Int) + 10) (i : Int)))).cell? ⟨LB, k, none⟩ = some (.slice (some ⟨g, 0, none⟩) (n k) C')) := fun W hW => by
            have q := (hMi.on hW).store (i := i) hlt hVg (mk ((k : Int) + 10) (i : Int))
            rw [wr1_set E k i n (by omega)] at q
            have o2 := (hMi.on hW).own k hlt
            rw [hVg] at o2
            have k2 := (hMi.on hW).cell k hlt
            rw [hVg] at k2
            have c2 := o2.cellAt i (by omega)
            rw [hget, ← hy] at c2
            have k5 := q.cell k hlt
            rw [hVg] at k5
            exact ⟨q, k2, c2, o2.frozenAt i, k5⟩
          have HVk : Hid (V k = .slice A (n k) C) := hVk
          clear hst
          rw [← hy] at hcell
          clear hy hget hget0 hbeli hMi hM hT hbel hck hbd hsz hB hlen hok hVg hbk hVk hVf
          have hmk := fun W => mark_w k (i : Int) W (by omega) (by omega) (by omega)
          go_wp2
          go_region_held_law (fun W => W.cell? ⟨LB, k, none⟩ = some (.slice (some ⟨g, 0, none⟩) (n k) C')) (first | exact hci | exact k1 | exact k4 | go_keep) (first
            | (go_at_call 37; (with_reducible refine (hmk _).mono ?_); rintro e w9 ⟨rfl, hb9⟩; (have HX : Hid (Below wr.heap.size wr w9) := Below.trans (b := wr.drew) (Below.drew (Below.refl _ _)) (hb9.mono (Nat.le_refl _))); (obtain ⟨-, k1, k2, k3, k4⟩ := HS.out _ HX.out); clear hb9))
          have HQ := HS.out _ HX.out
          have HBW : Hid (Below B w (w9.setCell ⟨g, i, none⟩ (sv (mk ((k : Int) + 10) (i : Int))))) := (HB.out.trans (HX.out.mono (Nat.le_trans hBw HB.out.size))).setCell (p := ⟨g, i, none⟩) hBk _
          clear k1 k2 k3 k4
          go_wp2
          go_roundw
          case rel => exact ⟨i + 1, by omega, by go_num, HQ.1, HBW.out⟩
          case measure => simp [intOf]; omega
        · have e : i = n k := by omega
          subst e
          rw [hVk] at hci
          rw [wr1_next E k n (hT.len k hlt)] at hMi
          have HM : Hid (Many base LB m n V (wr1 E (k + 1) 0 n) wr) := hMi
          have HB : Hid (Below B w wr) := hbeli
          have HVk : Hid (V k = .slice A (n k) C) := hVk
          clear hMi hbeli hM hbel hT hsz hB hVk hVf
          go_wp2
          go_roundw
          case rel => exact ⟨k + 1, by omega, by go_num, HM.out, HB.out⟩
          case measure => simp [intOf]; omega
    · have e : m = k := by omega
      subst e
      clear hT hk hlt
      have hSz := hbel.size
      have hS0 := vs_of hM
      have hG0 := gone0 (H := fun _ => Value.slice none 0 0) hM (fun j hj => by unfold wr1; rw [if_pos hj])
      have hBwr : B ≤ wr.heap.size := Nat.le_trans hBw hbel.size
      obtain ⟨W0, hW0⟩ : ∃ W0, W0 = wr.heap.size := ⟨_, rfl⟩
      rw [← hW0] at hS0 hG0 hBwr
      have hbW : base ≤ W0 := by omega
      clear hM
      go_wp2
      go_loopw [5, 6] (fun gv kv wr => ∃ (k : Nat) (H : Nat → Value) (gv0 : Value), k ≤ m ∧ kv = .int .i64 k ∧ gv0 = gv ∧ Gone base W0 LB m k k n V H wr ∧ wr.ownsRow W0 42 1 gv0 k ((List.range k).map H) ∧ (∀ j, j < k → ∀ g, (H j).ownBlock = some g → gv0.ownBlock ≠ some g) ∧ Below B w wr) (fun _ kv _ => m - (intOf kv).toNat)
      case atStart => exact ⟨0, fun _ => Value.slice none 0 0, _, Nat.zero_le _, rfl, rfl, hG0, World.ownsRow_nil _ _ _ _, fun j hj => absurd hj (Nat.not_lt_zero _), hbel⟩
      case round =>
        obtain ⟨k, H, gv0, hk, rfl, rfl, hG, hgs, hgap, hb1⟩ := hrel
        clear hG0 hbel hW0 hSz
        have hWr := hG.size
        by_cases hlt : k < m
        · have hsk := hsz k hlt
          have hck := hG.cell k hlt
          have hown0 := hG.rest k (Nat.le_refl _) hlt
          obtain ⟨A, C, hVk⟩ := own_form hown0
          have hlr : LB < wr.heap.size := by have := hS0.lb; omega
          rw [hVk] at hck
          have HVk : Hid (V k = .slice A (n k) C) := hVk
          have hI0 : Going base k 0 n V wr (V k) wr := ⟨⟨rfl, rfl, rfl, Nat.le_refl _, fun _ _ _ => rfl⟩, hown0, .inl rfl, fun g hg => ⟨(hown0.lt g hg).2, fun j hj => by
            have := hown0.cells (g := g) (by rw [hVk] at hg ⊢; cases A with
              | none => simp [Value.ownBlock] at hg
              | some a => rcases hown0.2 with ⟨hv, _⟩ | ⟨g', cap, cur, hv, _⟩
                          · rw [hVk] at hv; cases hv
                          · rw [hVk] at hv; cases hv; simp [Value.ownBlock] at hg; subst hg; rfl) j _ (marks_get _ hj)
            rw [add_at] at this; exact this⟩⟩
          clear hVk hown0
          go_wp2
          obtain ⟨w2, hw2⟩ : ∃ w2, w2 = wr := ⟨_, rfl⟩
          rw [← hw2] at hG hgs hb1 hI0 hlr hck hWr
          have HLR : Hid (LB < w2.heap.size ∧ w2.cell? ⟨LB, k, none⟩ = some (.slice A (n k) C)) := ⟨hlr, hck⟩
          have HG : Hid (Gone base W0 LB m k k n V H w2) := hG
          have HGS : Hid (w2.ownsRow W0 42 1 gv0 k ((List.range k).map H)) := hgs
          have HGA : Hid (∀ j, j < k → ∀ g, (H j).ownBlock = some g → gv0.ownBlock ≠ some g) := hgap
          have HB1 : Hid (Below B w w2) := hb1
          clear hG hgs hgap hb1
          go_loopw [7, 8] (fun g iv wr => ∃ (i : Nat) (g0 : Value), i ≤ 6 ∧ iv = .int .i64 i ∧ g0 = g ∧ Going base k i n V w2 g0 wr) (fun _ iv _ => 6 - (intOf iv).toNat)
          case atStart => exact ⟨0, _, by omega, rfl, HVk.out, by rw [← hw2]; exact hI0⟩
          case round =>
            obtain ⟨i, g0, hi, rfl, rfl, hI⟩ := hrel
            clear hw2 hI0 hck hlr
            have hs2 := hI.grown.size
            have hlbk : (V k).ownBlock ≠ some LB := hS0.off k hlt
            have hckr : wr.cell? ⟨LB, k, none⟩ = some (.slice A (n k) C) := by rw [hI.grown.cell_far _ HLR.out.1 (fun e => hlbk e.symm)]; exact HLR.out.2
            have hlrr : LB < wr.heap.size := Nat.lt_of_lt_of_le HLR.out.1 hs2
            by_cases hin : i < 6
            · obtain ⟨i0, hi0, hz0, hz1, hz2⟩ := info_parts infoT2
              have hown := hI.own
              have HI : Hid (Going base k i n V w2 g0 wr) := hI
              have HSZ : Hid (∀ j, j < m → n j * 16 + 96 ≤ 140737488355328) := hsz
              have HBB : Hid (∀ j, j < m → ∀ g, (V j).ownBlock = some g → B ≤ g) := hB
              have HS0 : Hid (Vs W0 LB m V) := hS0
              clear hI hlbk hsz hB hS0 hVf
              go_wp2_with (first
                | (go_at_call 37; refine (mark_any _ _ _ (by omega) (by omega) (by omega) (by omega)).mono ?_; rintro e w9 ⟨rfl, hb9⟩; (have hI9 := HI.out.on hb9); (have hown := hI9.own); (have HI : Hid (Going base k i n V w2 g0 w9) := hI9); (have hs9 := hb9.size); clear hI9 hb9)
                | (at_builtin; refine wpList_append_keeps rfl _ _ 42 rfl base 9 i0 (.string ByteArray.empty) 16 Try.underlying42 hi0 hz0 hz1 hz2 rfl _ _ _ rfl (hown.alloc _) ⟨_, 0, none⟩ 1 1 [sv (mk ((k : Int) + 10) ((n k : Int) + (i : Int)))] rfl rfl ?c1 ?c2 ?c3 ?c4 ?c5 ?_))
              case c1 =>
                intro j u hj
                match j, hj with
                | 0, hj =>
                  simp at hj; subst hj
                  simp [Addr.add]
              case c2 => intro u hu; simp at hu; subst hu; rfl
              case c3 => unfold maxLen; omega
              case c4 => omega
              case c5 => simp; omega
              · intro v' w3 hown' hgrow hat hkeep
                have R := going_next HI.out hown' hgrow hat hkeep
                clear hown' hgrow hown hat hkeep
                go_wp2
                go_roundw
                case rel => exact ⟨i + 1, v', by omega, by go_num, rfl, R⟩
                case measure => simp [intOf]; omega
            · have e6 : i = 6 := by omega
              subst e6
              obtain ⟨G1, hgs1, hgap1⟩ := gone_step hS0 hlt HG.out HGS.out HGA.out hI
              have hb2 : Below B w wr := HB1.out.grown hI.grown (by omega) (fun j hj => hB k hlt j hj)
              obtain ⟨h, c, hg0, hge⟩ := own_shape hI.own (by omega)
              subst hg0
              have hgv : ∀ g, gv0.ownBlock = some g → W0 ≤ g := fun g e => own_ge hgs1 e
              have hstep := fun (v' : Value) (o : Obj) (w3 : World) (hg : (wr.alloc o).grownBy w3 gv0.ownBlock) (hat : v'.ownBlock = gv0.ownBlock ∨ v'.ownBlock = some (wr.heap.size + 1)) => gone_gs hS0 (by omega) G1 hgv hgap1 hg hat
              have HST : Hid (∀ (v' : Value) (o : Obj) (w3 : World), (wr.alloc o).grownBy w3 gv0.ownBlock → (v'.ownBlock = gv0.ownBlock ∨ v'.ownBlock = some (wr.heap.size + 1)) → Gone base W0 LB m (k + 1) (k + 1) n V (upd H k (.slice (some ⟨h, 0, none⟩) (n k + 6) c)) w3 ∧ (∀ j, j < k + 1 → ∀ g, (upd H k (.slice (some ⟨h, 0, none⟩) (n k + 6) c) j).ownBlock = some g → v'.ownBlock ≠ some g)) := hstep
              have HGV : Hid (∀ g, gv0.ownBlock = some g → W0 ≤ g) := hgv
              have HB2 : Hid (Below B w wr) := hb2
              have HSZ : Hid (∀ j, j < m → n j * 16 + 96 ≤ 140737488355328) := hsz
              have HBB : Hid (∀ j, j < m → ∀ g, (V j).ownBlock = some g → B ≤ g) := hB
              have HS0 : Hid (Vs W0 LB m V) := hS0
              obtain ⟨i1, hi1, hy0, hy1, hy2⟩ := info_parts infoTR
              clear hI hlbk hsz hB hS0 hstep hgv hb2 G1 hgap1 hVf
              go_wp2_with (first
                | (at_builtin; refine wpList_append_own_at _ rfl _ _ 51 rfl W0 42 i1 (.slice none 0 0) 1 24 Try.underlying51 hi1 hy0 hy1 hy2 rfl (by decide) _ _ _ rfl (hgs1.alloc _) ⟨_, 0, none⟩ 1 1 [.slice (some ⟨h, 0, none⟩) (n k + 6) c] rfl rfl ?c1 ?c2 ?c3 ?c4 ?c5 ?_))
              case c1 =>
                intro j u hj
                match j, hj with
                | 0, hj =>
                  simp at hj; subst hj
                  simp [Addr.add]
              case c2 => intro u hu; simp at hu; subst hu; rfl
              case c3 => unfold maxLen; omega
              case c4 => omega
              case c5 => simp; omega
              · intro v' w3 hown' hgrow _ hat
                obtain ⟨R1, R3⟩ := HST.out v' _ w3 hgrow (by simpa using hat)
                have R2 : Below B w w3 := (HB2.out.alloc (by omega) _).grown hgrow (by simp; omega) (fun j hj => by have := HGV.out j hj; omega)
                have R4 : w3.ownsRow W0 42 1 v' (k + 1) ((List.range (k + 1)).map (upd H k (.slice (some ⟨h, 0, none⟩) (n k + 6) c))) := by rw [range_upd]; exact hown'
                clear hown' hgrow hgs1 hat
                go_wp2
                go_roundw
                case rel => exact ⟨k + 1, _, v', by omega, by go_num, rfl, R1, R4, R3, R2⟩
                case measure => simp [intOf]; omega
        · have e : m = k := by omega
          subst e
          obtain ⟨gb, gc, hgv, hgb⟩ := own_shape hgs hm0
          subst hgv
          have hS' : ∀ j, j < m → ∃ h c, H j = .slice (some ⟨h, 0, none⟩) (n j + 6) c := fun j hj => by
            obtain ⟨h, c, e, _⟩ := own_shape (hG.row j hj) (by omega)
            exact ⟨h, c, e⟩
          have pick : ∃ (P Q : Nat → Nat), ∀ j, j < m → H j = .slice (some ⟨P j, 0, none⟩) (n j + 6) (Q j) :=
            ⟨fun j => if hj : j < m then Classical.choose (hS' j hj) else 0, fun j => if hj : j < m then Classical.choose (Classical.choose_spec (hS' j hj)) else 0, fun j hj => by
              simp only [hj, dif_pos]; exact Classical.choose_spec (Classical.choose_spec (hS' j hj))⟩
          obtain ⟨P, Q, hPQ⟩ := pick
          have F1 : Hid (∀ j, j < m → wr.cell? ⟨gb, j, none⟩ = some (.slice (some ⟨P j, 0, none⟩) (n j + 6) (Q j))) := fun j hj => by
            have := hgs.cellAt j (by simp; omega)
            rw [this]; simp [hj, hPQ j hj]
          have F2 : Hid (∀ j i, j < m → i < n j + 6 → wr.cell? ⟨P j, i, none⟩ = some (sv (mk ((j : Int) + 10) (i : Int)))) := fun j i hj hi => by
            have := hG.row j hj
            rw [hPQ j hj] at this
            rw [this.cellAt i (by omega)]
            exact marks_get _ hi
          have F3 : Hid (∀ j, j < m → wr.cell? ⟨LB, j, none⟩ = some (V j)) := hG.cell
          have F4 : Hid (∀ j, j < m → ∀ g, (V j).ownBlock = some g → ∀ i, i < n j → wr.cell? ⟨g, i, none⟩ = some (sv (mk ((j : Int) + 10) (i : Int)))) := hG.old
          have HB : Hid (Below B w wr) := hb1
          have hlbw : LB < wr.heap.size := by have := hS0.lb; omega
          have HV : Hid (∀ j, j < m → (∃ g C, V j = .slice (some ⟨g, 0, none⟩) (n j) C) ∨ (∃ A C, V j = .slice A 0 C ∧ n j = 0)) := hVf
          clear hG hgs hgap hb1 hB hBwr hS' hPQ hS0 hVf
          go_wp2
          obtain ⟨w5, hw5⟩ : ∃ w5, w5 = wr := ⟨_, rfl⟩
          rw [← hw5] at F1 F2 F3 F4 HB hlbw
          go_loopw [9] (fun kv wr => ∃ (k : Nat), k ≤ m ∧ kv = .int .i64 k ∧ Hid (Below w5.heap.size w5 wr)) (fun kv _ => m - (intOf kv).toNat)
          case atStart => exact ⟨0, Nat.zero_le _, rfl, by rw [hw5]; exact Below.refl _ _⟩
          case round =>
            obtain ⟨k, hk, rfl, HQ0⟩ := hrel
            clear hw5
            by_cases hlt : k < m
            · obtain ⟨A, C, hVk⟩ : ∃ A C, V k = .slice A (n k) C := by
                rcases HV.out k hlt with ⟨g, C, e⟩ | ⟨A, C, e, h0⟩
                · exact ⟨_, _, e⟩
                · exact ⟨A, C, by rw [h0]; exact e⟩
              have HVk : Hid (V k = .slice A (n k) C) := hVk
              clear hVk
              go_wp2
              go_loopw [10] (fun iv wr => ∃ (i : Nat), i ≤ n k + 6 ∧ iv = .int .i64 i ∧ Hid (Below w5.heap.size w5 wr)) (fun iv _ => n k + 6 - (intOf iv).toNat)
              case atStart => exact ⟨0, Nat.zero_le _, rfl, HQ0⟩
              case round =>
                clear HQ0
                obtain ⟨i, hi, rfl, HQ⟩ := hrel
                have hup : Hid (∀ W (a : Addr) v, Below w5.heap.size w5 W → w5.cell? a = some v → W.cell? a = some v) := fun W a v hb hc => (hb.cell (World.block_lt_of_cell? w5 _ hc)).trans hc
                have c1 := hup.out _ _ _ HQ.out (F1.out k hlt)
                have hsk := hsz k hlt
                by_cases hin : i < n k + 6
                · have c2 := hup.out _ _ _ HQ.out (F2.out k i hlt hin)
                  have hmk := fun W => mark_w k (i : Int) W (by omega) (by omega) (by omega)
                  have hin2 : (i : Int) < (n k : Int) + 6 := by omega
                  by_cases hik : i < n k
                  · obtain ⟨g, C', hVg⟩ : ∃ g C', V k = .slice (some ⟨g, 0, none⟩) (n k) C' := by
                      rcases HV.out k hlt with ⟨g, C, e⟩ | ⟨A, C, e, h0⟩
                      · exact ⟨_, _, e⟩
                      · omega
                    have F3k := F3.out k hlt
                    rw [hVg] at F3k
                    have F4k := F4.out k hlt g (by rw [hVg]; rfl) i hik
                    have c3 := hup.out _ _ _ HQ.out F3k
                    have c4 := hup.out _ _ _ HQ.out F4k
                    have HF : Hid (∀ W, Below w5.heap.size w5 W → W.cell? ⟨gb, k, none⟩ = some (.slice (some ⟨P k, 0, none⟩) (n k + 6) (Q k)) ∧ W.cell? ⟨P k, i, none⟩ = some (sv (mk ((k : Int) + 10) (i : Int))) ∧ W.cell? ⟨LB, k, none⟩ = some (.slice (some ⟨g, 0, none⟩) (n k) C') ∧ W.cell? ⟨g, i, none⟩ = some (sv (mk ((k : Int) + 10) (i : Int)))) := fun W hb => ⟨hup.out _ _ _ hb (F1.out k hlt), hup.out _ _ _ hb (F2.out k i hlt hin), hup.out _ _ _ hb F3k, hup.out _ _ _ hb F4k⟩
                    have hikI : (i : Int) < (n k : Int) := by omega
                    have hik4 : decide (i < n k) = true := decide_eq_true hik
                    clear hsz F1 F2 F3 F4 HB hik HV HVk hVg F3k F4k hup
                    go_wp2
                    go_region_held_law (fun W => W.cell? ⟨gb, k, none⟩ = some (.slice (some ⟨P k, 0, none⟩) (n k + 6) (Q k)) ∧ W.cell? ⟨P k, i, none⟩ = some (sv (mk ((k : Int) + 10) (i : Int))) ∧ W.cell? ⟨LB, k, none⟩ = some (.slice (some ⟨g, 0, none⟩) (n k) C') ∧ W.cell? ⟨g, i, none⟩ = some (sv (mk ((k : Int) + 10) (i : Int)))) (first | exact ⟨c1, c2, c3, c4⟩ | exact HF.out _ HX.out | go_keep) (first
                      | (go_at_call 37; (with_reducible refine (hmk _).mono ?_); rintro e w9 ⟨rfl, hb9⟩; (have HX : Hid (Below w5.heap.size w5 w9) := Below.trans (b := wr.drew) (Below.drew HQ.out) (hb9.mono HQ.out.size)); (obtain ⟨k1, k2, k3, k4⟩ := HF.out _ HX.out); clear hb9))
                    clear k1 k2 k3 k4 c1 c2 c3 c4
                    go_wp2
                    go_roundw
                    case rel => exact ⟨i + 1, by omega, by go_num, HX⟩
                    case measure => simp [intOf]; omega
                  · have F3k := F3.out k hlt
                    rw [HVk.out] at F3k
                    have c3 := hup.out _ _ _ HQ.out F3k
                    have HF : Hid (∀ W, Below w5.heap.size w5 W → W.cell? ⟨gb, k, none⟩ = some (.slice (some ⟨P k, 0, none⟩) (n k + 6) (Q k)) ∧ W.cell? ⟨P k, i, none⟩ = some (sv (mk ((k : Int) + 10) (i : Int))) ∧ W.cell? ⟨LB, k, none⟩ = some (.slice A (n k) C)) := fun W hb => ⟨hup.out _ _ _ hb (F1.out k hlt), hup.out _ _ _ hb (F2.out k i hlt hin), hup.out _ _ _ hb F3k⟩
                    have hikI : ¬ (i : Int) < (n k : Int) := by omega
                    have hik4 : decide (i < n k) = false := decide_eq_false hik
                    have hik5 : decide ((i : Int) < (n k : Int)) = false := decide_eq_false hikI
                    have hik6 : n k ≤ i := by omega
                    have hik7 : decide (n k ≤ i) = true := decide_eq_true hik6
                    have hik8 : (n k : Int) ≤ (i : Int) := by omega
                    have hik9 : decide ((n k : Int) ≤ (i : Int)) = true := decide_eq_true hik8
                    clear hsz F1 F2 F3 F4 HB HV HVk F3k hup
                    go_wp2
                    refine wp_region_held_drew (S := (fun W : World => W.cell? ⟨gb, k, none⟩ = some (.slice (some ⟨P k, 0, none⟩) (n k + 6) (Q k)) ∧ W.cell? ⟨P k, i, none⟩ = some (sv (mk ((k : Int) + 10) (i : Int))) ∧ W.cell? ⟨LB, k, none⟩ = some (.slice A (n k) C))) (by kernel_rfl) ⟨c1, c2, c3⟩ (fun hHeld => ?_)
                    refine wpAnyH_take (i := 0) (v := ?qv0z) (by (simp only [List.getElem?_toArray, List.getElem?_cons_zero]; rfl)) (by kernel_rfl) (by kernel_rfl) (by kernel_rfl) ?qQ0z (Or.inl ⟨by rfl, ?qh0z⟩) hHeld ?qr0z
                    case qQ0z => exact fun _ _ _ h => h
                    case qh0z => (intro w hSw; (try dsimp only at hSw); go_simp; try with_reducible rfl)
                    try simp only [Act.put, List.setIfInBounds_toArray, List.set_cons_zero, List.set_cons_succ]
                    refine wpAnyH_take (i := 1) (v := ?qv1z) (by (simp only [List.getElem?_toArray, List.getElem?_cons_zero, List.getElem?_cons_succ]; rfl)) (by kernel_rfl) (by kernel_rfl) (by kernel_rfl) ?qQ1z (Or.inl ⟨by rfl, ?qh1z⟩) hHeld ?qr1z
                    case qQ1z => exact fun _ _ _ h => h
                    case qh1z => (intro w hSw; (try dsimp only at hSw); go_simp; try with_reducible rfl)
                    try simp only [Act.put, List.setIfInBounds_toArray, List.set_cons_zero, List.set_cons_succ]
                    refine wpAnyH_take (i := 2) (v := ?qv2z) (by (simp only [List.getElem?_toArray, List.getElem?_cons_zero, List.getElem?_cons_succ]; rfl)) (by kernel_rfl) (by kernel_rfl) (by kernel_rfl) ?qQ2z (Or.inl ⟨by rfl, ?qh2z⟩) hHeld ?qr2z
                    case qQ2z => exact fun _ _ _ h => h
                    case qh2z => (intro w hSw; (try dsimp only at hSw); go_simp; try with_reducible rfl)
                    try simp only [Act.put, List.setIfInBounds_toArray, List.set_cons_zero, List.set_cons_succ]
                    refine wpAnyH_take (i := 3) (v := ?qv3z) (by (simp only [List.getElem?_toArray, List.getElem?_cons_zero, List.getElem?_cons_succ]; rfl)) (by kernel_rfl) (by kernel_rfl) (by kernel_rfl) ?qQ3z (Or.inl ⟨by rfl, ?qh3z⟩) hHeld ?qr3z
                    case qQ3z => exact fun _ _ _ h => h
                    case qh3z => (intro w hSw; (try dsimp only at hSw); go_simp; try with_reducible rfl)
                    try simp only [Act.put, List.setIfInBounds_toArray, List.set_cons_zero, List.set_cons_succ]
                    refine wpAnyH_take (i := 4) (v := ?qv4z) (by (simp only [List.getElem?_toArray, List.getElem?_cons_zero, List.getElem?_cons_succ]; rfl)) (by kernel_rfl) (by kernel_rfl) (by kernel_rfl) ?qQ4z (Or.inl ⟨by rfl, ?qh4z⟩) hHeld ?qr4z
                    case qQ4z => exact fun _ _ _ h => h
                    case qh4z => (intro w hSw; (try dsimp only at hSw); go_simp; try with_reducible rfl)
                    try simp only [Act.put, List.setIfInBounds_toArray, List.set_cons_zero, List.set_cons_succ]
                    refine wpAnyH_take (i := 5) (v := ?qv5z) (by (simp only [List.getElem?_toArray, List.getElem?_cons_zero, List.getElem?_cons_succ]; rfl)) (by kernel_rfl) (by kernel_rfl) (by kernel_rfl) ?qQ5z (Or.inl ⟨by rfl, ?qh5z⟩) hHeld ?qr5z
                    case qQ5z => exact fun _ _ _ h => h
                    case qh5z => (intro w hSw; (try dsimp only at hSw); go_simp; try with_reducible rfl)
                    try simp only [Act.put, List.setIfInBounds_toArray, List.set_cons_zero, List.set_cons_succ]
                    refine wpAnyH_take (i := 6) (v := ?qv6z) (by (simp only [List.getElem?_toArray, List.getElem?_cons_zero, List.getElem?_cons_succ]; rfl)) (by kernel_rfl) (by kernel_rfl) (by kernel_rfl) ?qQ6z (Or.inl ⟨by rfl, ?qh6z⟩) hHeld ?qr6z
                    case qQ6z => exact fun _ _ _ h => h
                    case qh6z => (intro w hSw; (try dsimp only at hSw); go_simp; try with_reducible rfl)
                    try simp only [Act.put, List.setIfInBounds_toArray, List.set_cons_zero, List.set_cons_succ]
                    refine wpAnyH_take (i := 7) (v := ?qv7z) (by (simp only [List.getElem?_toArray, List.getElem?_cons_zero, List.getElem?_cons_succ]; rfl)) (by kernel_rfl) (by kernel_rfl) (by kernel_rfl) ?qQ7z (Or.inl ⟨by rfl, ?qh7z⟩) hHeld ?qr7z
                    case qQ7z => exact fun _ _ _ h => h
                    case qh7z => (intro w hSw; (try dsimp only at hSw); go_simp; try with_reducible rfl)
                    try simp only [Act.put, List.setIfInBounds_toArray, List.set_cons_zero, List.set_cons_succ]
                    refine wpAnyH_take (i := 8) (v := ?qv8z) (by (simp only [List.getElem?_toArray, List.getElem?_cons_zero, List.getElem?_cons_succ]; rfl)) (by kernel_rfl) (by kernel_rfl) (by kernel_rfl) ?qQ8z (Or.inl ⟨by rfl, ?qh8z⟩) hHeld ?qr8z
                    case qQ8z => exact fun _ _ _ h => h
                    case qh8z => (intro w hSw; (try dsimp only at hSw); go_simp; try with_reducible rfl)
                    try simp only [Act.put, List.setIfInBounds_toArray, List.set_cons_zero, List.set_cons_succ]
                    refine wpAnyH_take (i := 9) (v := ?qv9z) (by (simp only [List.getElem?_toArray, List.getElem?_cons_zero, List.getElem?_cons_succ]; rfl)) (by kernel_rfl) (by kernel_rfl) (by kernel_rfl) ?qQ9z (Or.inl ⟨by rfl, ?qh9z⟩) hHeld ?qr9z
                    case qQ9z => exact fun _ _ _ h => h
                    case qh9z => (intro w hSw; (try dsimp only at hSw); go_simp; try with_reducible rfl)
                    try simp only [Act.put, List.setIfInBounds_toArray, List.set_cons_zero, List.set_cons_succ]
                    refine wpAnyH_ready (rs := [10]) (by kernel_rfl) (by simp) ?_
                    refine AllReadyH.cons rfl (fun K hK => ?_) AllReadyH.nil
                    go_simp
                    go_wp2_with (go_at_call 37; (refine (hmk _).mono ?_); rintro e w9 ⟨rfl, hb9⟩; (have HX : Hid (Below w5.heap.size w5 w9) := Below.trans (b := wr.drew) (Below.drew HQ.out) (hb9.mono HQ.out.size)); clear hb9)
                    refine hK.out _ _ (HF.out _ HX.out) (fun hHeld => ?_)
                    clear hK K
                    try simp only [Act.put, List.setIfInBounds_toArray, List.set_cons_zero, List.set_cons_succ]
                    refine wpAnyH_take (i := 11) (v := ?qv11z) (by (simp only [List.getElem?_toArray, List.getElem?_cons_zero, List.getElem?_cons_succ]; rfl)) (by kernel_rfl) (by kernel_rfl) (by kernel_rfl) ?qQ11z (Or.inl ⟨by rfl, ?qh11z⟩) hHeld ?qr11z
                    case qQ11z => exact fun _ _ _ h => h
                    case qh11z => (intro w hSw; (try dsimp only at hSw); go_simp; try with_reducible rfl)
                    try simp only [Act.put, List.setIfInBounds_toArray, List.set_cons_zero, List.set_cons_succ]
                    refine wpAnyH_take (i := 12) (v := ?qv12z) (by (simp only [List.getElem?_toArray, List.getElem?_cons_zero, List.getElem?_cons_succ]; rfl)) (by kernel_rfl) (by kernel_rfl) (by kernel_rfl) ?qQ12z (Or.inl ⟨by rfl, ?qh12z⟩) hHeld ?qr12z
                    case qQ12z => exact fun _ _ _ h => h
                    case qh12z => (intro w hSw; (try dsimp only at hSw); go_simp; try with_reducible rfl)
                    try simp only [Act.put, List.setIfInBounds_toArray, List.set_cons_zero, List.set_cons_succ]
                    refine wpAnyH_take (i := 13) (v := ?qv13z) (by (simp only [List.getElem?_toArray, List.getElem?_cons_zero, List.getElem?_cons_succ]; rfl)) (by kernel_rfl) (by kernel_rfl) (by kernel_rfl) ?qQ13z (Or.inl ⟨by rfl, ?qh13z⟩) hHeld ?qr13z
                    case qQ13z => exact fun _ _ _ h => h
                    case qh13z => (intro w hSw; (try dsimp only at hSw); go_simp; try with_reducible rfl)
                    try simp only [Act.put, List.setIfInBounds_toArray, List.set_cons_zero, List.set_cons_succ]
                    refine wpAnyH_take (i := 14) (v := ?qv14z) (by (simp only [List.getElem?_toArray, List.getElem?_cons_zero, List.getElem?_cons_succ]; rfl)) (by kernel_rfl) (by kernel_rfl) (by kernel_rfl) ?qQ14z (Or.inl ⟨by rfl, ?qh14z⟩) hHeld ?qr14z
                    case qQ14z => exact fun _ _ _ h => h
                    case qh14z => (intro w hSw; (try dsimp only at hSw); go_simp; try with_reducible rfl)
                    try simp only [Act.put, List.setIfInBounds_toArray, List.set_cons_zero, List.set_cons_succ]
                    refine wpAnyH_take (i := 15) (v := ?qv15z) (by (simp only [List.getElem?_toArray, List.getElem?_cons_zero, List.getElem?_cons_succ]; rfl)) (by kernel_rfl) (by kernel_rfl) (by kernel_rfl) ?qQ15z (Or.inl ⟨by rfl, ?qh15z⟩) hHeld ?qr15z
                    case qQ15z => exact fun _ _ _ h => h
                    case qh15z => (intro w hSw; (try dsimp only at hSw); go_simp; try with_reducible rfl)
                    try simp only [Act.put, List.setIfInBounds_toArray, List.set_cons_zero, List.set_cons_succ]
                    refine wpAnyH_take (i := 16) (v := ?qv16z) (by (simp only [List.getElem?_toArray, List.getElem?_cons_zero, List.getElem?_cons_succ]; rfl)) (by kernel_rfl) (by kernel_rfl) (by kernel_rfl) ?qQ16z (Or.inl ⟨by rfl, ?qh16z⟩) hHeld ?qr16z
                    case qQ16z => exact fun _ _ _ h => h
                    case qh16z => (intro w hSw; (try dsimp only at hSw); go_simp; try with_reducible rfl)
                    try simp only [Act.put, List.setIfInBounds_toArray, List.set_cons_zero, List.set_cons_succ]
                    refine wpAnyH_take (i := 17) (v := ?qv17z) (by (simp only [List.getElem?_toArray, List.getElem?_cons_zero, List.getElem?_cons_succ]; rfl)) (by kernel_rfl) (by kernel_rfl) (by kernel_rfl) ?qQ17z (Or.inl ⟨by rfl, ?qh17z⟩) hHeld ?qr17z
                    case qQ17z => exact fun _ _ _ h => h
                    case qh17z => (intro w hSw; (try dsimp only at hSw); go_simp; try with_reducible rfl)
                    try simp only [Act.put, List.setIfInBounds_toArray, List.set_cons_zero, List.set_cons_succ]
                    refine wpAnyH_take (i := 18) (v := ?qv18z) (by (simp only [List.getElem?_toArray, List.getElem?_cons_zero, List.getElem?_cons_succ]; rfl)) (by kernel_rfl) (by kernel_rfl) (by kernel_rfl) ?qQ18z (Or.inl ⟨by rfl, ?qh18z⟩) hHeld ?qr18z
                    case qQ18z => exact fun _ _ _ h => h
                    case qh18z => (intro w hSw; (try dsimp only at hSw); go_simp; try with_reducible rfl)
                    try simp only [Act.put, List.setIfInBounds_toArray, List.set_cons_zero, List.set_cons_succ]
                    refine wpAnyH_take (i := 19) (v := ?qv19z) (by (simp only [List.getElem?_toArray, List.getElem?_cons_zero, List.getElem?_cons_succ]; rfl)) (by kernel_rfl) (by kernel_rfl) (by kernel_rfl) ?qQ19z (Or.inl ⟨by rfl, ?qh19z⟩) hHeld ?qr19z
                    case qQ19z => exact fun _ _ _ h => h
                    case qh19z => (intro w hSw; (try dsimp only at hSw); go_simp; try with_reducible rfl)
                    try simp only [Act.put, List.setIfInBounds_toArray, List.set_cons_zero, List.set_cons_succ]
                    refine wpAnyH_take (i := 20) (v := ?qv20z) (by (simp only [List.getElem?_toArray, List.getElem?_cons_zero, List.getElem?_cons_succ]; rfl)) (by kernel_rfl) (by kernel_rfl) (by kernel_rfl) ?qQ20z (Or.inl ⟨by rfl, ?qh20z⟩) hHeld ?qr20z
                    case qQ20z => exact fun _ _ _ h => h
                    case qh20z => (intro w hSw; (try dsimp only at hSw); go_simp; try with_reducible rfl)
                    try simp only [Act.put, List.setIfInBounds_toArray, List.set_cons_zero, List.set_cons_succ]
                    refine wpAnyH_take (i := 21) (v := undef) (by (simp only [List.getElem?_toArray, List.getElem?_cons_zero, List.getElem?_cons_succ]; rfl)) (by kernel_rfl) (by kernel_rfl) (by kernel_rfl) ?qQ21z (Or.inr ⟨by rfl, rfl⟩) hHeld ?qr21z
                    case qQ21z => exact fun _ _ _ h => h
                    try simp only [Act.put, List.setIfInBounds_toArray, List.set_cons_zero, List.set_cons_succ]
                    refine wpAnyH_take (i := 22) (v := undef) (by (simp only [List.getElem?_toArray, List.getElem?_cons_zero, List.getElem?_cons_succ]; rfl)) (by kernel_rfl) (by kernel_rfl) (by kernel_rfl) ?qQ22z (Or.inr ⟨by rfl, rfl⟩) hHeld ?qr22z
                    case qQ22z => exact fun _ _ _ h => h
                    try simp only [Act.put, List.setIfInBounds_toArray, List.set_cons_zero, List.set_cons_succ]
                    refine wpAnyH_take (i := 23) (v := undef) (by (simp only [List.getElem?_toArray, List.getElem?_cons_zero, List.getElem?_cons_succ]; rfl)) (by kernel_rfl) (by kernel_rfl) (by kernel_rfl) ?qQ23z (Or.inr ⟨by rfl, rfl⟩) hHeld ?qr23z
                    case qQ23z => exact fun _ _ _ h => h
                    try simp only [Act.put, List.setIfInBounds_toArray, List.set_cons_zero, List.set_cons_succ]
                    refine wpAnyH_take (i := 24) (v := undef) (by (simp only [List.getElem?_toArray, List.getElem?_cons_zero, List.getElem?_cons_succ]; rfl)) (by kernel_rfl) (by kernel_rfl) (by kernel_rfl) ?qQ24z (Or.inr ⟨by rfl, rfl⟩) hHeld ?qr24z
                    case qQ24z => exact fun _ _ _ h => h
                    try simp only [Act.put, List.setIfInBounds_toArray, List.set_cons_zero, List.set_cons_succ]
                    refine wpAnyH_take (i := 25) (v := undef) (by (simp only [List.getElem?_toArray, List.getElem?_cons_zero, List.getElem?_cons_succ]; rfl)) (by kernel_rfl) (by kernel_rfl) (by kernel_rfl) ?qQ25z (Or.inr ⟨by rfl, rfl⟩) hHeld ?qr25z
                    case qQ25z => exact fun _ _ _ h => h
                    try simp only [Act.put, List.setIfInBounds_toArray, List.set_cons_zero, List.set_cons_succ]
                    refine wpAnyH_take (i := 26) (v := undef) (by (simp only [List.getElem?_toArray, List.getElem?_cons_zero, List.getElem?_cons_succ]; rfl)) (by kernel_rfl) (by kernel_rfl) (by kernel_rfl) ?qQ26z (Or.inr ⟨by rfl, rfl⟩) hHeld ?qr26z
                    case qQ26z => exact fun _ _ _ h => h
                    try simp only [Act.put, List.setIfInBounds_toArray, List.set_cons_zero, List.set_cons_succ]
                    refine wpAnyH_take (i := 27) (v := undef) (by (simp only [List.getElem?_toArray, List.getElem?_cons_zero, List.getElem?_cons_succ]; rfl)) (by kernel_rfl) (by kernel_rfl) (by kernel_rfl) ?qQ27z (Or.inr ⟨by rfl, rfl⟩) hHeld ?qr27z
                    case qQ27z => exact fun _ _ _ h => h
                    try simp only [Act.put, List.setIfInBounds_toArray, List.set_cons_zero, List.set_cons_succ]
                    refine wpAnyH_take (i := 28) (v := undef) (by (simp only [List.getElem?_toArray, List.getElem?_cons_zero, List.getElem?_cons_succ]; rfl)) (by kernel_rfl) (by kernel_rfl) (by kernel_rfl) ?qQ28z (Or.inr ⟨by rfl, rfl⟩) hHeld ?qr28z
                    case qQ28z => exact fun _ _ _ h => h
                    try simp only [Act.put, List.setIfInBounds_toArray, List.set_cons_zero, List.set_cons_succ]
                    refine wpAnyH_take (i := 29) (v := undef) (by (simp only [List.getElem?_toArray, List.getElem?_cons_zero, List.getElem?_cons_succ]; rfl)) (by kernel_rfl) (by kernel_rfl) (by kernel_rfl) ?qQ29z (Or.inr ⟨by rfl, rfl⟩) hHeld ?qr29z
                    case qQ29z => exact fun _ _ _ h => h
                    try simp only [Act.put, List.setIfInBounds_toArray, List.set_cons_zero, List.set_cons_succ]
                    refine wpAnyH_take (i := 30) (v := undef) (by (simp only [List.getElem?_toArray, List.getElem?_cons_zero, List.getElem?_cons_succ]; rfl)) (by kernel_rfl) (by kernel_rfl) (by kernel_rfl) ?qQ30z (Or.inr ⟨by rfl, rfl⟩) hHeld ?qr30z
                    case qQ30z => exact fun _ _ _ h => h
                    try simp only [Act.put, List.setIfInBounds_toArray, List.set_cons_zero, List.set_cons_succ]
                    refine wpAnyH_take (i := 31) (v := undef) (by (simp only [List.getElem?_toArray, List.getElem?_cons_zero, List.getElem?_cons_succ]; rfl)) (by kernel_rfl) (by kernel_rfl) (by kernel_rfl) ?qQ31z (Or.inr ⟨by rfl, rfl⟩) hHeld ?qr31z
                    case qQ31z => exact fun _ _ _ h => h
                    try simp only [Act.put, List.setIfInBounds_toArray, List.set_cons_zero, List.set_cons_succ]
                    refine wpAnyH_take (i := 32) (v := undef) (by (simp only [List.getElem?_toArray, List.getElem?_cons_zero, List.getElem?_cons_succ]; rfl)) (by kernel_rfl) (by kernel_rfl) (by kernel_rfl) ?qQ32z (Or.inr ⟨by rfl, rfl⟩) hHeld ?qr32z
                    case qQ32z => exact fun _ _ _ h => h
                    try simp only [Act.put, List.setIfInBounds_toArray, List.set_cons_zero, List.set_cons_succ]
                    refine wpAnyH_take (i := 33) (v := undef) (by (simp only [List.getElem?_toArray, List.getElem?_cons_zero, List.getElem?_cons_succ]; rfl)) (by kernel_rfl) (by kernel_rfl) (by kernel_rfl) ?qQ33z (Or.inr ⟨by rfl, rfl⟩) hHeld ?qr33z
                    case qQ33z => exact fun _ _ _ h => h
                    try simp only [Act.put, List.setIfInBounds_toArray, List.set_cons_zero, List.set_cons_succ]
                    refine wpAnyH_take (i := 34) (v := undef) (by (simp only [List.getElem?_toArray, List.getElem?_cons_zero, List.getElem?_cons_succ]; rfl)) (by kernel_rfl) (by kernel_rfl) (by kernel_rfl) ?qQ34z (Or.inr ⟨by rfl, rfl⟩) hHeld ?qr34z
                    case qQ34z => exact fun _ _ _ h => h
                    try simp only [Act.put, List.setIfInBounds_toArray, List.set_cons_zero, List.set_cons_succ]
                    refine wpAnyH_take (i := 35) (v := undef) (by (simp only [List.getElem?_toArray, List.getElem?_cons_zero, List.getElem?_cons_succ]; rfl)) (by kernel_rfl) (by kernel_rfl) (by kernel_rfl) ?qQ35z (Or.inr ⟨by rfl, rfl⟩) hHeld ?qr35z
                    case qQ35z => exact fun _ _ _ h => h
                    try simp only [Act.put, List.setIfInBounds_toArray, List.set_cons_zero, List.set_cons_succ]
                    refine wpAnyH_take (i := 36) (v := ?qv36z) (by (simp only [List.getElem?_toArray, List.getElem?_cons_zero, List.getElem?_cons_succ]; rfl)) (by kernel_rfl) (by kernel_rfl) (by kernel_rfl) ?qQ36z (Or.inl ⟨by rfl, ?qh36z⟩) hHeld ?qr36z
                    case qQ36z => exact fun _ _ _ h => h
                    case qh36z => (intro w hSw; (try dsimp only at hSw); go_simp; try with_reducible rfl)
                    try simp only [Act.put, List.setIfInBounds_toArray, List.set_cons_zero, List.set_cons_succ]
                    refine wpAnyH_take (i := 37) (v := ?qv37z) (by (simp only [List.getElem?_toArray, List.getElem?_cons_zero, List.getElem?_cons_succ]; rfl)) (by kernel_rfl) (by kernel_rfl) (by kernel_rfl) ?qQ37z (Or.inl ⟨by rfl, ?qh37z⟩) hHeld ?qr37z
                    case qQ37z => exact fun _ _ _ h => h
                    case qh37z => (intro w hSw; (try dsimp only at hSw); go_simp; try with_reducible rfl)
                    try simp only [Act.put, List.setIfInBounds_toArray, List.set_cons_zero, List.set_cons_succ]
                    refine wpAnyH_done (by kernel_rfl) ?_ _
                    clear c1 c2 c3
                    go_wp2
                    go_roundw
                    case rel => exact ⟨i + 1, by omega, by go_num, HX⟩
                    case measure => simp [intOf]; omega
                · have e : i = n k + 6 := by omega
                  subst e
                  clear hsz F1 F2 F3 F4 HB HV HVk hup
                  go_wp2
                  go_roundw
                  case rel => exact ⟨k + 1, by omega, by go_num, HQ⟩
                  case measure => simp [intOf]; omega
            · clear hsz F1 F2 F3 F4 HV
              go_wp2
              go_ret
              exact ⟨rfl, HB.out.trans (HQ0.out.mono (Nat.le_trans hBw HB.out.size))⟩
end Go.Proofs.Ytmhplaanpbpndaa.Tx
