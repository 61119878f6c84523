/-
  The program's right side in memory: the side, its numbers, and how one of them is put.
-/
import Derived.Test.YtmhplaanpbpndaaStb
import Derived.Test.YtmhplaanpbpndaaSrm
import Derived.Deep.RegionHeldLaw
namespace Go.Proofs.Ytmhplaanpbpndaa
open Fl Go.Maps RowKit Joins Deep
set_option linter.unusedVariables false

/-- a number put at a place; -1: the ground's -/
def rput (op : Cn → Cn → Cn) (i : Int) (Y : Cn) (R : Nat → Cn) : Nat → Cn := fun j => if (j : Int) = i then op (R j) Y else R j
/-- is what was put there finite? -/
def rfin (op : Cn → Cn → Cn) (i : Int) (Y : Cn) (R : Nat → Cn) : Bool := decide (i < 0) || finC (op (R i.toNat) Y)
theorem rput_no (op : Cn → Cn → Cn) (Y : Cn) (R : Nat → Cn) : rput op (-1) Y R = R := by funext j; unfold rput; rw [if_neg (by omega)]
/-- a row of numbers, by what they stand for -/
def Nr (w : World) (base : Nat) (v : Value) (n : Nat) (R : Nat → Cn) : Prop := ∃ xs : List Cw, Rw w base v n xs ∧ repl R n xs
/-- nothing that was there is touched but the row v -/
structure Kv (base : Nat) (v : Value) (w w' : World) : Prop where
  bel : Below base w w'
  ot : ∀ q, q < w.heap.size → v.ownBlock ≠ some q → w'.heap[q]? = w.heap[q]?
theorem Kv.refl (base : Nat) (v : Value) (w : World) : Kv base v w w := ⟨Below.refl _ _, fun _ _ _ => rfl⟩
theorem Kv.trans {base : Nat} {v : Value} {a b c : World} (h : Kv base v a b) (k : Kv base v b c) : Kv base v a c := ⟨h.bel.trans k.bel, fun q h1 h2 => (k.ot q (Nat.lt_of_lt_of_le h1 h.bel.size) h2).trans (h.ot q h1 h2)⟩
theorem Kv.of {base : Nat} {v : Value} {w w' : World} (h : Below w.heap.size w w') (hs : base ≤ w.heap.size) : Kv base v w w' := ⟨h.mono hs, fun q h1 _ => h.block q h1⟩
theorem Kv.dN {base : Nat} {v : Value} {a w : World} (h : Kv base v a w) (m : Nat) : Kv base v a (w.drewN m) := ⟨below_dN h.bel m, h.ot⟩
theorem Kv.drew {base : Nat} {v : Value} {a w : World} (h : Kv base v a w) : Kv base v a w.drew := h.dN 1
theorem Kv.set {base g j n c : Nat} {a w : World} (h : Kv base (.slice (some ⟨g, 0, none⟩) n c) a w) (hg : base ≤ g) (u : Value) : Kv base (.slice (some ⟨g, 0, none⟩) n c) a (w.setCell ⟨g, j, none⟩ u) :=
  ⟨h.bel.setCell (p := ⟨g, j, none⟩) hg u, fun q h1 h2 => (Below.heap_setCell w ⟨g, j, none⟩ u q (fun e => h2 (by rw [e]; rfl))).trans (h.ot q h1 h2)⟩
/-- the side: its net, how many numbers stand ahead of the branches', its numbers -/
structure Sd (w : World) (base s p : Nat) (v : Value) (n nn : Nat) (R : Nat → Cn) : Prop where
  c0 : w.cell? ⟨s, 0, none⟩ = some (.pointer (some ⟨p, 0, none⟩))
  c1 : w.cell? ⟨s, 1, none⟩ = some (.int .i64 nn)
  c2 : w.cell? ⟨s, 2, none⟩ = some v
  row : Nr w base v n R
  ne : v.ownBlock ≠ some s
  lo : base ≤ w.heap.size
theorem Nr.on {w w' : World} {base n : Nat} {v : Value} {R : Nat → Cn} (h : Nr w base v n R) (hb : Below w.heap.size w w') : Nr w' base v n R := by
  obtain ⟨xs, h1, h2⟩ := h
  exact ⟨xs, h1.below hb, h2⟩
theorem Sd.on {w w' : World} {base s p n nn : Nat} {v : Value} {R : Nat → Cn} (h : Sd w base s p v n nn R) (hb : Below w.heap.size w w') : Sd w' base s p v n nn R := by
  have k : ∀ (j : Nat) (u : Value), w.cell? ⟨s, j, none⟩ = some u → w'.cell? ⟨s, j, none⟩ = some u := fun j u hc => (hb.cell (p := ⟨s, j, none⟩) (World.block_lt_of_cell? w ⟨s, 0, none⟩ h.c0)).trans hc
  exact ⟨k _ _ h.c0, k _ _ h.c1, k _ _ h.c2, h.row.on hb, h.ne, Nat.le_trans h.lo hb.size⟩
theorem Sd.dN {w : World} {base s p n nn : Nat} {v : Value} {R : Nat → Cn} (h : Sd w base s p v n nn R) (m : Nat) : Sd (w.drewN m) base s p v n nn R := h.on (below_dN (Below.refl _ _) m)
theorem Sd.drew {w : World} {base s p n nn : Nat} {v : Value} {R : Nat → Cn} (h : Sd w base s p v n nn R) : Sd w.drew base s p v n nn R := h.dN 1
/-- a number that lies there -/
theorem Nr.get {w : World} {base n : Nat} {v : Value} {R : Nat → Cn} (h : Nr w base v n R) {i : Nat} (hi : i < n) : ∃ (g c : Nat) (x : Cw), v = .slice (some ⟨g, 0, none⟩) n c ∧ base ≤ g ∧ w.cell? ⟨g, i, none⟩ = some (cx x) ∧ w.frozen? ⟨g, i, none⟩ = false ∧ repz (R i) x := by
  obtain ⟨xs, h1, h2⟩ := h
  obtain ⟨g, c, rfl, hg, _, _⟩ := own_shape h1.own (by omega)
  have hc := h1.own.cellAt i (by rw [Nat.mul_one]; exact hi)
  rw [List.getElem?_map, zat_lt (by rw [h1.len]; exact hi)] at hc
  exact ⟨g, c, _, rfl, hg, hc, h1.own.frozenAt i, h2 i hi⟩
/-- a number put there -/
theorem Nr.put {w : World} {base n g c : Nat} {R : Nat → Cn} (h : Nr w base (.slice (some ⟨g, 0, none⟩) n c) n R) {op : Cn → Cn → Cn} {i : Nat} (hi : i < n) {Y : Cn} {r : Cw} (hr : repz (op (R i) Y) r) : Nr (w.setCell ⟨g, i, none⟩ (cx r)) base (.slice (some ⟨g, 0, none⟩) n c) n (rput op i Y R) := by
  obtain ⟨xs, h1, h2⟩ := h
  have k := (h1.own.stored i (cx r)).1
  rw [← List.map_set] at k
  refine ⟨xs.set i r, ⟨by rw [List.length_set]; exact h1.len, k⟩, fun j hj => ?_⟩
  unfold rput
  by_cases e : j = i
  · subst e
    rw [if_pos rfl]
    have : zat (xs.set j r) j = r := by simp [zat, List.getD_eq_getElem?_getD, h1.len, hj]
    rw [this]; exact hr
  · rw [if_neg (by omega)]
    have : zat (xs.set i r) j = zat xs j := by simp [zat, List.getD_eq_getElem?_getD, Ne.symm e]
    rw [this]; exact h2 j hj
theorem Sd.put {w : World} {base s p n nn g c : Nat} {R : Nat → Cn} (h : Sd w base s p (.slice (some ⟨g, 0, none⟩) n c) n nn R) {op : Cn → Cn → Cn} {i : Nat} (hi : i < n) {Y : Cn} {r : Cw} (hr : repz (op (R i) Y) r) : Sd (w.setCell ⟨g, i, none⟩ (cx r)) base s p (.slice (some ⟨g, 0, none⟩) n c) n nn (rput op i Y R) := by
  have hne : g ≠ s := fun e => h.ne (by rw [e]; rfl)
  have k : ∀ (j : Nat) (u : Value), w.cell? ⟨s, j, none⟩ = some u → (w.setCell ⟨g, i, none⟩ (cx r)).cell? ⟨s, j, none⟩ = some u := fun j u hc => (World.cell?_setCell_other _ _ _ _ (fun e => hne (by simpa using congrArg Addr.block e))).trans hc
  exact ⟨k _ _ h.c0, k _ _ h.c1, k _ _ h.c2, h.row.put hi hr, h.ne, by rw [World.size_setCell]; exact h.lo⟩
end Go.Proofs.Ytmhplaanpbpndaa
