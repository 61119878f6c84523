/-
  The document's right side: what is no net; noughts; Find; the numbers while it goes on.
-/
import Derived.Test.YtmhplaanpbpndaaSrq
import Derived.Test.YtmhplaanpbpndaaSrr
import Derived.Test.YtmhplaanpbpndaaSfd
import Derived.Test.YtmhplaanpbpndaaDne
namespace Go.Proofs.Ytmhplaanpbpndaa
open Fl Go.Maps RowKit Joins Deep
set_option linter.unusedVariables false

theorem op2_radd : Op2 83 addZ := fun W x y hx hy => (radd_any W (rep_ans hx.1) (rep_ans hx.2) (rep_ans hy.1) (rep_ans hy.2)).mono (by rintro e w' ⟨re, im, n, rfl, h1, h2, rfl⟩; exact ⟨(re, im), n, rfl, ⟨h1, h2⟩, rfl⟩)
theorem op2_rsub : Op2 85 subZ := fun W x y hx hy => (rsub_any W (rep_ans hx.1) (rep_ans hx.2) (rep_ans hy.1) (rep_ans hy.2)).mono (by rintro e w' ⟨re, im, n, rfl, h1, h2, rfl⟩; exact ⟨(re, im), n, rfl, ⟨h1, h2⟩, rfl⟩)
/-- while the document's right side goes on -/
structure Dt (wF wr : World) (N : Ns) (lo m g : Nat) (v2 : Value) (R : Nat → Cn) : Prop where
  bel : Below wF.heap.size wF wr
  row : Nr wr wF.heap.size (.slice (some ⟨g, 0, none⟩) m m) m R
  el : wr.ownsRow lo 55 8 v2 N.es.length (elCs N.es)
  vb : g < lo
  gb : wF.heap.size ≤ g
theorem Dt.on {wF w w' : World} {N : Ns} {lo m g : Nat} {v2 : Value} {R : Nat → Cn} (h : Dt wF w N lo m g v2 R) (hb : Below w.heap.size w w') : Dt wF w' N lo m g v2 R := ⟨h.bel.trans (hb.mono h.bel.size), h.row.on hb, own_below h.el hb, h.vb, h.gb⟩
theorem Dt.dN {wF w : World} {N : Ns} {lo m g : Nat} {v2 : Value} {R : Nat → Cn} (h : Dt wF w N lo m g v2 R) (k : Nat) : Dt wF (w.drewN k) N lo m g v2 R := h.on (below_dN (Below.refl _ _) k)
theorem Dt.get {wF w : World} {N : Ns} {lo m g : Nat} {v2 : Value} {R : Nat → Cn} (h : Dt wF w N lo m g v2 R) {i : Nat} (hi : i < m) : ∃ x : Cw, w.cell? ⟨g, i, none⟩ = some (cx x) ∧ w.frozen? ⟨g, i, none⟩ = false ∧ repz (R i) x := by
  obtain ⟨g2, c, x, he, _, h2, h3, h4⟩ := h.row.get hi
  injection he with he1 he2 he3
  injection he1 with he4
  injection he4 with he5
  subst he5
  exact ⟨x, h2, h3, h4⟩
theorem Dt.put {wF w : World} {N : Ns} {lo m g : Nat} {v2 : Value} {R : Nat → Cn} (h : Dt wF w N lo m g v2 R) {op : Cn → Cn → Cn} {i : Nat} (hi : i < m) {Y : Cn} {r : Cw} (hr : repz (op (R i) Y) r) : Dt wF (w.setCell ⟨g, i, none⟩ (cx r)) N lo m g v2 (rput op i Y R) :=
  ⟨h.bel.setCell (p := ⟨g, i, none⟩) h.gb _, h.row.put hi hr, row_block h.el (fun q hq => Below.heap_setCell w ⟨g, i, none⟩ _ q (fun e => by have := (h.el.lt q hq).1; have := h.vb; simp at e; omega)), h.vb, h.gb⟩
theorem Dt.e8 {wF w : World} {N : Ns} {lo m g n ga cA : Nat} {R : Nat → Cn} (h : Dt wF w N lo m g (.slice (some ⟨ga, 0, none⟩) n cA) R) (hn : N.es.length = n) {i : Nat} {x : Elm} (hx : N.es[i]? = some x) : E8 w ga (i * 8) x := by
  have hel := h.el
  rw [hn] at hel
  obtain ⟨g2, c2, he, hE⟩ := de8_row hel hn hx
  injection he with he1 he2 he3
  injection he1 with he4
  injection he4 with he5
  rw [he5]; exact hE
/-- a number put where it is told: a place, or nowhere -/
theorem rput_if (op : Cn → Cn → Cn) (Y : Cn) (R : Nat → Cn) (pl : Nat) : rput op (if true = true then (pl : Int) else -1) Y R = rput op pl Y R := rfl
end Go.Proofs.Ytmhplaanpbpndaa
