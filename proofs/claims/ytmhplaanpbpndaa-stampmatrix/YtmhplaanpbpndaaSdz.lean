/-
  The document's sheet beside its net, while it is stamped.
-/
import Derived.Test.YtmhplaanpbpndaaSdy
namespace Go.Proofs.Ytmhplaanpbpndaa
open Fl Go.Maps RowKit Joins Deep
set_option linter.unusedVariables false
theorem Dh.on {w w' : World} {base s : Nat} {v : Value} {m : Nat} {S : Sh} (h : Dh w base s v m S) (hb : Below w.heap.size w w') : Dh w' base s v m S := by
  have k := fun (a : Addr) (u : Value) (hc : w.cell? a = some u) => (hb.cell (World.block_lt_of_cell? w _ hc)).trans hc
  refine ⟨k _ _ h.c0, k _ _ h.c1, k _ _ h.c2, ?_, h.row.on hb, h.ne, h.lo, h.m9⟩
  have hf := h.fz
  have hl := World.block_lt_of_cell? w _ h.c2
  unfold World.frozen? at hf ⊢
  rw [hb.block _ hl]
  exact hf
/-- the sheet beside its net, which was laid in the world w0 -/
structure Dk (w0 w : World) (p : Nat) (l : List Elm) (s : Nat) (v : Value) (m : Nat) (S : Sh) : Prop where
  net : Dn w0 p l
  bel : Below w0.heap.size w0 w
  dh : Dh w w0.heap.size s v m S
theorem Dk.nt {w0 w : World} {p : Nat} {l : List Elm} {s : Nat} {v : Value} {m : Nat} {S : Sh} (h : Dk w0 w p l s v m S) : Dn w p l := h.net.below h.bel
theorem Dk.on {w0 w w' : World} {p : Nat} {l : List Elm} {s : Nat} {v : Value} {m : Nat} {S : Sh} (h : Dk w0 w p l s v m S) (hb : Below w.heap.size w w') : Dk w0 w' p l s v m S := ⟨h.net, h.bel.trans (hb.mono h.bel.size), h.dh.on hb⟩
theorem Dk.add {w0 w : World} {p : Nat} {l : List Elm} {s : Nat} {v : Value} {m : Nat} {S : Sh} (h : Dk w0 w p l s v m S) {i j : Int} (hi : okp m i) (hj : okp m j) {y : Cw} (hy : okz y) :
    Calls Try.prog 62 #[.pointer (some ⟨s, 0, none⟩), .int .i64 i, .int .i64 j, .complex .f64 y.1 y.2] w fun e w' => e = .returned (.tuple #[]) ∧ Dk w0 w' p l s v m (S.chg addZ i j (anz y)) ∧ Kd w0.heap.size s v w w' :=
  (dsh_chg_add h.dh hi hj hy).mono (by rintro e w' ⟨rfl, h1, h2⟩; exact ⟨rfl, ⟨h.net, h.bel.trans h2.bel, h1⟩, h2⟩)
theorem Dk.sub {w0 w : World} {p : Nat} {l : List Elm} {s : Nat} {v : Value} {m : Nat} {S : Sh} (h : Dk w0 w p l s v m S) {i j : Int} (hi : okp m i) (hj : okp m j) {y : Cw} (hy : okz y) :
    Calls Try.prog 63 #[.pointer (some ⟨s, 0, none⟩), .int .i64 i, .int .i64 j, .complex .f64 y.1 y.2] w fun e w' => e = .returned (.tuple #[]) ∧ Dk w0 w' p l s v m (S.chg subZ i j (anz y)) ∧ Kd w0.heap.size s v w w' :=
  (dsh_chg_sub h.dh hi hj hy).mono (by rintro e w' ⟨rfl, h1, h2⟩; exact ⟨rfl, ⟨h.net, h.bel.trans h2.bel, h1⟩, h2⟩)
theorem Dk.place {w0 w : World} {p : Nat} {l : List Elm} {s : Nat} {v : Value} {m : Nat} {S : Sh} (h : Dk w0 w p l s v m S) (t : ByteArray) :
    Calls Try.prog 59 #[.pointer (some ⟨p, 0, none⟩), .string t] w fun e w' => e = .returned (.int .i64 (plD l t)) ∧ Dk w0 w' p l s v m S :=
  (dpl18 h.nt t).mono (by rintro e w' ⟨rfl, hb⟩; exact ⟨rfl, h.on hb⟩)
theorem Dk.fresh {w0 w : World} {p : Nat} {l : List Elm} {s : Nat} {v : Value} {m : Nat} {S : Sh} (h : Dk w0 w p l s v m S) : w.heap.size ≠ s ∧ v.ownBlock ≠ some w.heap.size := by
  refine ⟨fun e => ?_, fun e => ?_⟩
  · have := World.block_lt_of_cell? w _ h.dh.c0
    simp only at this; omega
  · obtain ⟨xs, h1, _⟩ := h.dh.row
    have := (World.ownsRow.lt h1.own _ e).2
    omega
theorem plD_ok {l : List Elm} {m : Nat} (hm : (ndR l).length ≤ m) (t : ByteArray) : okp m (plD l t) := by
  unfold plD okp
  by_cases k : bl t ∈ ndR l
  · rw [if_pos k]
    have := posL_lt k
    omega
  · rw [if_neg k]; omega
end Go.Proofs.Ytmhplaanpbpndaa
