/-
  What ApartNumbers of the given package gridworkkit hands back.
-/
import Derived.Test.YtgpjlobclcbniaaVq
import Derived.BigQuiet
import Derived.Deep.RegionWith
namespace Go.Proofs.Ytgpjlobclcbniaa
open Fl RowKit

theorem Try.infoS : (Try.prog.info? 23).map (fun i => (i.zero, i.size, i.bytes)) = some (some (.slice none 0 0), 1, 24) := by kernel_rfl
theorem wrap10 {k : Nat} (hk : k ≤ 10) : IntKind.i64.wrap ((k : Int) + 10) = (k : Int) + 10 := by rw [IntKind.wrap_i64]; omega
theorem mark_w (k : Nat) (i : Int) (w : World) (hk : k ≤ 10) (hi : 0 ≤ i) (hi2 : i ≤ 1000000000000000) :
    Calls Try.prog 41 #[.int .i64 (IntKind.i64.wrap ((k : Int) + 10)), .int .i64 i] w fun e w' => e = .returned (.complex .f64 (mk1 ((k : Int) + 10) i) (floatOfInt .f64 ((k : Int) + 10))) ∧ w' = w := by
  rw [wrap10 hk]; exact mark_any _ _ _ (by omega) (by omega) hi hi2
theorem vs_of {base LB m : Nat} {n : Nat → Nat} {V : Nat → Value} {L : Nat → List Cw} {w : World} (h : Many base LB m n V L w) : Vs w.heap.size LB m V := ⟨fun j hj g hg => ((h.own j hj).lt g hg).2, h.apart, h.off, h.lt⟩
theorem gone0 {base LB m : Nat} {n : Nat → Nat} {V H : Nat → Value} {L : Nat → List Cw} {w : World} (h : Many base LB m n V L w) (hL : ∀ j, j < m → L j = marks ((j : Int) + 10) (n j)) : Gone base w.heap.size LB m 0 0 n V H w :=
  ⟨fun _ h => absurd h (Nat.not_lt_zero _), fun _ h => absurd h (Nat.not_lt_zero _), fun j _ hj => by rw [← hL j hj]; exact h.own j hj, h.cell, Nat.le_refl _, fun _ h => absurd h (Nat.not_lt_zero _), fun _ _ h => absurd h (Nat.not_lt_zero _)⟩
/-- what the inner loop keeps while row k is gone on with -/
structure Going (base k i : Nat) (n : Nat → Nat) (V : Nat → Value) (w2 : World) (g0 : Value) (w : World) : Prop where
  grown : w2.grownBy w (V k).ownBlock
  own : w.ownsRow base 55 1 g0 (n k + i) ((marks ((k : Int) + 10) (n k + i)).map cx)
  loc : g0.ownBlock = (V k).ownBlock ∨ ∃ h, g0.ownBlock = some h ∧ w2.heap.size ≤ h
  old : ∀ g, (V k).ownBlock = some g → g < w2.heap.size ∧ ∀ j, j < n k → w.cell? ⟨g, j, none⟩ = some (cx (mk ((k : Int) + 10) (j : Int)))
theorem going_next {base k i : Nat} {n : Nat → Nat} {V : Nat → Value} {w2 w w' : World} {g0 v' : Value} {o : Obj} (h : Going base k i n V w2 g0 w) (ho : w'.ownsRow base 55 1 v' (n k + i + 1) ((marks ((k : Int) + 10) (n k + i)).map cx ++ [cx (mk ((k : Int) + 10) ((n k : Int) + (i : Int)))]))
    (hg : (w.alloc o).grownBy w' g0.ownBlock) (hat : v'.ownBlock = g0.ownBlock ∨ v'.ownBlock = some (w.heap.size + 1)) (hk : Keeps g0 ((marks ((k : Int) + 10) (n k + i)).map cx) w') : Going base k (i + 1) n V w2 v' w' := by
  have hs := h.grown.size
  refine ⟨?_, ?_, ?_, ?_⟩
  · refine (h.grown.andThen (World.grownBy_alloc w o none) (fun j e => by cases e)).andThen hg ?_
    intro j hj
    rcases h.loc with e | ⟨q, e, hq⟩
    · right; rw [← e]; exact hj
    · left
      rw [e] at hj
      cases hj
      exact hq
  · rw [marks_next] at ho; exact ho
  · rcases hat with e | e
    · rcases h.loc with e2 | ⟨q, e2, hq⟩
      · left; rw [e, e2]
      · right; exact ⟨q, by rw [e, e2], hq⟩
    · right; exact ⟨_, e, by omega⟩
  · intro g hV
    obtain ⟨hlt, hc⟩ := h.old g hV
    refine ⟨hlt, fun j hj => ?_⟩
    rcases h.loc with e | ⟨q, e, hq⟩
    · exact hk g j _ (by rw [e]; exact hV) (marks_get _ (by omega))
    · rw [hg.cell_far _ (by show g < _; rw [size_al]; omega) (by intro e2; rw [e] at e2; have e3 : g = q := Option.some.inj e2; omega)]
      rw [World.cell?_of_block (heap_alloc_old w o (show g < w.heap.size by omega))]
      exact hc j hj

theorem gone_step {base W0 LB m k : Nat} {n : Nat → Nat} {V H : Nat → Value} {w2 w : World} {g0 gv : Value} (hS : Vs W0 LB m V) (hk : k < m) (hG : Gone base W0 LB m k k n V H w2) (hgs : w2.ownsRow W0 23 1 gv k ((List.range k).map H))
    (hgap : ∀ j, j < k → ∀ g, (H j).ownBlock = some g → gv.ownBlock ≠ some g) (hI : Going base k 6 n V w2 g0 w) :
    Gone base W0 LB m (k + 1) (k + 1) n V (upd H k g0) w ∧ w.ownsRow W0 23 1 gv k ((List.range k).map H) ∧ (∀ j, j < k + 1 → ∀ g, (upd H k g0 j).ownBlock = some g → gv.ownBlock ≠ some g) := by
  have hz := hG.size
  have hHV : ∀ j, j < k → ∀ g, (V k).ownBlock = some g → (H j).ownBlock ≠ some g := by
    intro j hj g hV e
    rcases hG.loc j hj with e2 | ⟨h, e2, hh⟩
    · rw [e2] at e
      exact hS.apart j k (by omega) hk (by omega) g e hV
    · rw [e2] at e
      have := hS.lt k hk g hV
      cases e
      omega
  have G1 := hG.less.kept hS (by omega) hI.grown (fun g e => ⟨fun e2 => by subst e2; exact hS.off k hk e, fun j hj hjk e2 => hS.apart j k hj hk (by omega) g e2 e, fun j hj => hHV j hj g e⟩)
  have hgv : ∀ g, gv.ownBlock = some g → W0 ≤ g ∧ g < w2.heap.size := fun g e => hgs.lt g e
  refine ⟨gone_push G1 hI.own (fun g hg => (hI.old g hg).2) ?_ ?_, hgs.kept hI.grown (ne_or (fun g e e2 => ?_)), ?_⟩
  · rcases hI.loc with e | ⟨h, e, hh⟩
    · exact .inl e
    · exact .inr ⟨h, e, by omega⟩
  · intro j hj g hg e
    have hl := ((hG.row j hj).lt g hg).2
    rcases hI.loc with e2 | ⟨h, e2, hh⟩
    · rw [e2] at e; exact hHV j hj g e hg
    · rw [e2] at e; cases e; omega
  · have := hS.lt k hk g e2
    have := (hgv g e).1
    omega
  · intro j hj g hg e
    by_cases ej : j = k
    · subst ej
      rw [upd_self] at hg
      obtain ⟨h1, h2⟩ := hgv g e
      rcases hI.loc with e2 | ⟨h, e2, hh⟩
      · rw [e2] at hg
        have := hS.lt j hk g hg
        omega
      · rw [e2] at hg; cases hg; omega
    · rw [upd_ne _ _ ej] at hg
      exact hgap j (by omega) g hg e
theorem gone_gs {base W0 LB m k : Nat} {n : Nat → Nat} {V H : Nat → Value} {w w' : World} {gv gv' : Value} {o : Obj} (hS : Vs W0 LB m V) (hk : k ≤ m) (hG : Gone base W0 LB m k k n V H w) (hge : ∀ g, gv.ownBlock = some g → W0 ≤ g)
    (hgap : ∀ j, j < k → ∀ g, (H j).ownBlock = some g → gv.ownBlock ≠ some g) (hg : (w.alloc o).grownBy w' gv.ownBlock) (hat : gv'.ownBlock = gv.ownBlock ∨ gv'.ownBlock = some (w.heap.size + 1)) :
    Gone base W0 LB m k k n V H w' ∧ (∀ j, j < k → ∀ g, (H j).ownBlock = some g → gv'.ownBlock ≠ some g) := by
  have G1 := hG.kept hS hk (World.grownBy_alloc w o none) (fun g e => by cases e)
  refine ⟨G1.kept hS hk hg (fun g e => ⟨fun e2 => ?_, fun j hj _ e2 => ?_, fun j hj e2 => hgap j hj g e2 e⟩), ?_⟩
  · have := hS.lb
    have := hge g e
    omega
  · have := hS.lt j hj g e2
    have := hge g e
    omega
  · intro j hj g hH e
    rcases hat with e2 | e2
    · rw [e2] at e; exact hgap j hj g hH e
    · rw [e2] at e
      have := ((hG.row j hj).lt g hH).2
      cases e
      omega

end Go.Proofs.Ytgpjlobclcbniaa
