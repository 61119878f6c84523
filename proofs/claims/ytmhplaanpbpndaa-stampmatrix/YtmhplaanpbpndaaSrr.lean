/-
  Where an element's number goes: the entries, in memory.
-/
import Derived.Test.YtmhplaanpbpndaaSrd
import Derived.Test.YtmhplaanpbpndaaStb
import Derived.Test.YtmhplaanpbpndaaSrp
import Derived.Deep.RegionHeldLaw
import Derived.Test.YtmhplaanpbpndaaSrm
import Derived.Test.YtmhplaanpbpndaaDnb
import Derived.Deep.Onto
namespace Go.Proofs.Ytmhplaanpbpndaa
open Fl Go.Maps RowKit Joins Deep
set_option linter.unusedVariables false

/-- entries that lie in memory -/
def Ety (lo : Nat) (w : World) (A : Option Addr) (m : Nat) (I : Nat → Int) (F : Nat → FuncId) : Prop := ∀ j, j < m → ∃ q, A = some ⟨q, 0, none⟩ ∧ lo ≤ q ∧ q < w.heap.size ∧ w.cell? ⟨q, j * 2, none⟩ = some (.int .i64 (I j)) ∧ w.cell? ⟨q, j * 2 + 1, none⟩ = some (.func (.func (F j)) #[] #[])
theorem Ety.blk {lo : Nat} {w w' : World} {A : Option Addr} {m : Nat} {I : Nat → Int} {F : Nat → FuncId} (h : Ety lo w A m I F) (hs : w.heap.size ≤ w'.heap.size) (hb : ∀ q, lo ≤ q → q < w.heap.size → w'.heap[q]? = w.heap[q]?) : Ety lo w' A m I F := fun j hj => by
  obtain ⟨q, h1, h0, h2, h3, h4⟩ := h j hj
  have k := hb q h0 h2
  exact ⟨q, h1, h0, Nat.lt_of_lt_of_le h2 hs, (World.cell?_of_block k).trans h3, (World.cell?_of_block k).trans h4⟩
theorem Ety.on {lo : Nat} {w w' : World} {A : Option Addr} {m : Nat} {I : Nat → Int} {F : Nat → FuncId} (h : Ety lo w A m I F) (hb : Below w.heap.size w w') : Ety lo w' A m I F := h.blk hb.size (fun q _ h2 => hb.block q h2)
theorem Ety.drew {lo : Nat} {w : World} {A : Option Addr} {m : Nat} {I : Nat → Int} {F : Nat → FuncId} (h : Ety lo w A m I F) : Ety lo w.drew A m I F := h.on ((Below.refl _ _).drew)
theorem Ety.kv {lo base : Nat} {v : Value} {w w' : World} {A : Option Addr} {m : Nat} {I : Nat → Int} {F : Nat → FuncId} (h : Ety lo w A m I F) (k : Kv base v w w') (hv : ∀ g, v.ownBlock = some g → g < lo) : Ety lo w' A m I F := h.blk k.bel.size (fun q h1 h2 => k.ot q h2 (fun e => by have := hv q e; omega))
end Go.Proofs.Ytmhplaanpbpndaa
namespace Go.Proofs.Ytmhplaanpbpndaa
open Fl Go.Maps RowKit Joins Deep
set_option linter.unusedVariables false

/-- what Right tells of a net that is made -/
def RgP (w : World) (N : Ns) (e : Ending) (w' : World) : Prop :=
  Below w.heap.size w w' ∧ ((rgL N N.es noC 0).1 = (0, 0) ∧ (∃ v, e = .returned (.tuple #[v, .agg #[.int .i64 0, .int .i64 0]]) ∧ Nr w' w.heap.size v (N.nd.length + N.br.length) (rgL N N.es noC 0).2) ∨ ∃ i : Nat, (rgL N N.es noC 0).1 = (6, (i : Int)) ∧ i < N.es.length ∧ e = .returned (.tuple #[.slice none 0 0, .agg #[.int .i64 6, .int .i64 i]]))
/-- while Right goes on -/
structure Rt (wF wr : World) (nb p : Nat) (N : Ns) (b : Nb) (B1 s : Nat) (v v2 : Value) (R : Nat → Cn) : Prop where
  sw : Sw wF wr nb p N b wF.heap.size s v R
  el : wr.ownsRow B1 55 8 v2 N.es.length (elCs N.es)
  vb : ∀ g, v.ownBlock = some g → g < B1
theorem Rt.on {wF w w' : World} {nb p : Nat} {N : Ns} {b : Nb} {B1 s : Nat} {v v2 : Value} {R : Nat → Cn} (h : Rt wF w nb p N b B1 s v v2 R) (hb : Below w.heap.size w w') : Rt wF w' nb p N b B1 s v v2 R := ⟨h.sw.on hb, own_below h.el hb, h.vb⟩
theorem Rt.drew {wF w : World} {nb p : Nat} {N : Ns} {b : Nb} {B1 s : Nat} {v v2 : Value} {R : Nat → Cn} (h : Rt wF w nb p N b B1 s v v2 R) : Rt wF w.drew nb p N b B1 s v v2 R := h.on ((Below.refl _ _).drew)
theorem Rt.put {wF w w' : World} {nb p : Nat} {N : Ns} {b : Nb} {B1 s : Nat} {v v2 : Value} {R R' : Nat → Cn} (h : Rt wF w nb p N b B1 s v v2 R) (h1 : Sd w' wF.heap.size s p v (N.nd.length + N.br.length) N.nd.length R') (k : Kv wF.heap.size v w w') : Rt wF w' nb p N b B1 s v v2 R' :=
  ⟨h.sw.step h1 k, row_block h.el (fun g hg => k.ot g (h.el.lt g hg).2 (fun e => by have h2 := h.vb g e; have h3 := (h.el.lt g hg).1; omega)), h.vb⟩
theorem Nr.but {w w' : World} {base n : Nat} {v : Value} {R : Nat → Cn} (h : Nr w base v n R) (hb : ∀ q, base ≤ q → q < w.heap.size → w'.heap[q]? = w.heap[q]?) : Nr w' base v n R := by
  obtain ⟨xs, h1, h2⟩ := h
  exact ⟨xs, ⟨h1.len, row_block h1.own (fun g hg => hb g (h1.own.lt g hg).1 (h1.own.lt g hg).2)⟩, h2⟩
theorem Nr.lower {w : World} {base base' n : Nat} {v : Value} {R : Nat → Cn} (h : Nr w base v n R) (hb : base' ≤ base) : Nr w base' v n R := by
  obtain ⟨xs, h1, h2⟩ := h
  exact ⟨xs, ⟨h1.len, h1.own.mono hb⟩, h2⟩
end Go.Proofs.Ytmhplaanpbpndaa
