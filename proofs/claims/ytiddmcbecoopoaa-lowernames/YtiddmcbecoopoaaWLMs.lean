/-
  The walk of LowerMirror, where both are eliminated.
-/
import Derived.Test.YtiddmcbecoopoaaWLMf
import Derived.Deep.QuietTactic
import Derived.BigQuiet
namespace Go.Proofs.Ytiddmcbecoopoaa
open Fl RowKit

theorem makesT {N T : Nat} {f : Nat → Cw} {S : Es} (hT : T = N * N) (h : OfMakes N f S) : ∀ (W : World) (A : Option Addr) (c : Nat), T ≤ c → Rc W A (ro T f) → Calls Try.prog 15 #[.agg #[.int .i64 N, .int .i64 N, .slice A T c]] W fun e w' => ∃ p, e = .returned (.tuple #[.pointer (some ⟨p, 0, none⟩), .agg #[.int .i64 0, .int .i64 0]]) ∧ (∃ b gr go bl, Lo w' b p N gr go bl S.M S.o S.s) ∧ Below W.heap.size W w' := by
  subst hT
  intro W A c h1 h2
  refine (h W A c h1 h2).mono ?_
  rintro e w' ⟨p, gr, go, bl, rfl, hL, hb⟩
  exact ⟨p, rfl, ⟨_, gr, go, bl, hL⟩, hb⟩
/-- a Lower that is held: the pointer and what it says -/
def Lh (w : World) (p N : Nat) (S : Es) : Prop := ∃ b gr go bl, Lo w b p N gr go bl S.M S.o S.s
theorem Lh.below {w w' : World} {p N : Nat} {S : Es} (h : Lh w p N S) (hb : Below w.heap.size w w') : Lh w' p N S := by
  obtain ⟨b, gr, go, bl, hL⟩ := h
  exact ⟨b, gr, go, bl, hL.below hb⟩
theorem Lh.drewN {w : World} {p N : Nat} {S : Es} (h : Lh w p N S) (m : Nat) : Lh (w.drewN m) p N S := by
  obtain ⟨b, gr, go, bl, hL⟩ := h
  exact ⟨b, gr, go, bl, hL.drewN m⟩
theorem hl_any {w : World} {p N T : Nat} {S : Es} (h : Lh w p N S) (hN : N ≤ 64) (hT : T = N * N) : Calls Try.prog 17 #[.pointer (some ⟨p, 0, none⟩)] w fun e w' => ∃ g, e = .returned (.agg #[.int .i64 N, .int .i64 N, .slice (some ⟨g, 0, none⟩) T T]) ∧ Rc w' (some ⟨g, 0, none⟩) (ro T (flw N (lE S.M))) ∧ Below w.heap.size w w' := by
  subst hT
  obtain ⟨b, gr, go, bl, hL⟩ := h
  refine (l_any hN hL.hs hL.rws).mono ?_
  rintro e w' ⟨g, rfl, hR, hb⟩
  exact ⟨g, rfl, hR.rc, hb⟩
theorem hu_any {w : World} {p N T : Nat} {S : Es} (h : Lh w p N S) (hN : N ≤ 64) (hT : T = N * N) : Calls Try.prog 18 #[.pointer (some ⟨p, 0, none⟩)] w fun e w' => ∃ g, e = .returned (.agg #[.int .i64 N, .int .i64 N, .slice (some ⟨g, 0, none⟩) T T]) ∧ Rc w' (some ⟨g, 0, none⟩) (ro T (flw N (uE S.M))) ∧ Below w.heap.size w w' := by
  subst hT
  obtain ⟨b, gr, go, bl, hL⟩ := h
  refine (u_any hN hL.hs hL.rws).mono ?_
  rintro e w' ⟨g, rfl, hR, hb⟩
  exact ⟨g, rfl, hR.rc, hb⟩
theorem ho_any {w : World} {p N : Nat} {S : Es} (h : Lh w p N S) (hN : N ≤ 64) : Calls Try.prog 19 #[.pointer (some ⟨p, 0, none⟩)] w fun e w' => ∃ g, e = .returned (.slice (some ⟨g, 0, none⟩) N N) ∧ Qi w' (some ⟨g, 0, none⟩) (ri N S.o) ∧ Below w.heap.size w w' := by
  obtain ⟨b, gr, go, bl, hL⟩ := h
  refine (lorder_any (ri N S.o) (ri_len _ _) (by omega) hL.hs hL.ord.qi).mono ?_
  rintro e w' ⟨g, rfl, hI, hb⟩
  exact ⟨g, rfl, hI.qi, hb⟩
theorem hs_any {w : World} {p N : Nat} {S : Es} (h : Lh w p N S) : Calls Try.prog 20 #[.pointer (some ⟨p, 0, none⟩)] w fun e w' => e = .returned (.int .i64 S.s) ∧ Below w.heap.size w w' := by
  obtain ⟨b, gr, go, bl, hL⟩ := h
  exact lsign_any hL.hs
/-- all that the walk carries -/
structure Mc9 (w0 : World) (N T pm px py c : Nat) (A : Option Addr) (f : Nat → Cw) (S S' : Es) (W : World) : Prop where
  m : V3 pm (.int .i64 N) (.int .i64 N) (.slice A T c) W
  d : Rc W A (ro T f)
  x : Lh W px N S
  y : Lh W py N S'
  b : Below w0.heap.size w0 W
theorem Mc9.below {w0 : World} {N T pm px py c : Nat} {A : Option Addr} {f : Nat → Cw} {S S' : Es} {W W' : World} (h : Mc9 w0 N T pm px py c A f S S' W) (hb : Below W.heap.size W W') : Mc9 w0 N T pm px py c A f S S' W' :=
  ⟨h.m.below hb, h.d.below hb, h.x.below hb, h.y.below hb, h.b.trans (hb.mono h.b.size)⟩
theorem Mc9.drewN {w0 : World} {N T pm px py c : Nat} {A : Option Addr} {f : Nat → Cw} {S S' : Es} {W : World} (h : Mc9 w0 N T pm px py c A f S S' W) (m : Nat) : Mc9 w0 N T pm px py c A f S S' (W.drewN m) :=
  ⟨h.m.drewN m, h.d.drewN m, h.x.drewN m, h.y.drewN m, below_drewN h.b m⟩
/-- which places were met -/
def hitB (o : Nat → Nat) (k j : Nat) : Bool := (List.range k).any (fun i => o i == j)
theorem hit_succ (o : Nat → Nat) (k j : Nat) : hitB o (k + 1) j = (hitB o k j || o k == j) := by
  unfold hitB
  rw [List.range_succ, List.any_append]
  simp
theorem hit_no {n : Nat} {o : Nat → Nat} (h : inO n o) {k : Nat} (hk : k < n) : hitB o k (o k) = false := by
  unfold hitB
  rw [List.any_eq_false]
  intro i hi e
  have hi' := List.mem_range.1 hi
  have := h.2 i k (by omega) hk (by simpa using e)
  omega
structure Mt9 (w : World) (p n : Nat) (o : Nat → Nat) (k : Nat) : Prop where
  lt : p < w.heap.size
  cell : ∀ j, j < n → w.cell? ⟨p, j, none⟩ = some (.bool (hitB o k j))
  frozen : ∀ j, w.frozen? ⟨p, j, none⟩ = false
theorem Mt9.next {w : World} {p n k : Nat} {o : Nat → Nat} (h : Mt9 w p n o k) : Mt9 (w.setCell ⟨p, o k, none⟩ (.bool true)) p n o (k + 1) := by
  refine ⟨by simpa using h.lt, fun j hj => ?_, fun j => by simpa using h.frozen j⟩
  rw [hit_succ]
  by_cases e : o k = j
  · subst e
    rw [World.cell?_setCell_same _ _ _ (h.cell _ hj)]
    simp
  · rw [World.cell?_setCell_other _ _ _ _ (by intro c; cases c; exact e rfl), h.cell j hj]
    simp [e]
theorem Mt9.drewN {w : World} {p n k : Nat} {o : Nat → Nat} (h : Mt9 w p n o k) (m : Nat) : Mt9 (w.drewN m) p n o k := ⟨h.lt, h.cell, h.frozen⟩
theorem Try.infoBl : (Try.prog.info? 4).map (fun i => (i.zero, i.size, i.bytes)) = some (some (.bool false), 1, 1) := by kernel_rfl

end Go.Proofs.Ytiddmcbecoopoaa
