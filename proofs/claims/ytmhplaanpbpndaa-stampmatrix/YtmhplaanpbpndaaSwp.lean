/-
  The walk of SourcePhasors.
-/
import Derived.Test.YtmhplaanpbpndaaSrm
import Derived.Test.YtmhplaanpbpndaaBse
import Derived.Test.YtmhplaanpbpndaaElk
import Derived.Test.YtmhplaanpbpndaaSds
import Derived.Test.YtmhplaanpbpndaaSrr
import Derived.Test.YtmhplaanpbpndaaSfd
namespace Go.Proofs.Ytmhplaanpbpndaa
open Fl RowKit
set_option linter.unusedVariables false

/-- an element handed in, made, and laid -/
theorem ec_fourS (w : World) (x : Elm) (o1 o2 o3 : Obj) : EC w (((((w.alloc o1).alloc o2).alloc o3).alloc (.cells (elA x) 55))) (w.heap.size + 3) x := by
  have h := ec_new (((w.alloc o1).alloc o2).alloc o3) x
  have hs : (((w.alloc o1).alloc o2).alloc o3).heap.size = w.heap.size + 3 := by rw [al_size, al_size, al_size]
  rw [hs] at h
  have hb : Below w.heap.size w (((w.alloc o1).alloc o2).alloc o3) := (below_2 w o1 o2).alloc (by simp; omega) _
  exact ⟨hb.trans ((by rw [← hs]; exact h.bel : Below (w.heap.size + 3) _ _).mono (by omega)), h.e⟩
end Go.Proofs.Ytmhplaanpbpndaa
namespace Go.Proofs.Ytmhplaanpbpndaa
open Fl Go.Maps RowKit Joins Deep
set_option linter.unusedVariables false

set_option maxRecDepth 20000
/-- a place, or the ground's -/
def pI (b : Bool) (p : Nat) : Int := if b = true then (p : Int) else -1
theorem pI_t (p : Nat) : pI true p = (p : Int) := rfl
theorem pI_f (p : Nat) : pI false p = -1 := rfl
end Go.Proofs.Ytmhplaanpbpndaa
namespace Go.Proofs.Ytmhplaanpbpndaa
open Fl Go.Maps RowKit Joins Deep
set_option linter.unusedVariables false

/-- one ampere -/
def o1 : Cn := anz (4607182418800017408, 0)
theorem o1_ok : okz (4607182418800017408, 0) := ⟨by decide, by decide⟩
/-- the numbers of a port -/
def drR (N : Ns) (x : Elm) : Nat → Cn := rput subZ (plI N x.b) o1 (rput addZ (plI N x.a) o1 noC)
end Go.Proofs.Ytmhplaanpbpndaa
namespace Go.Proofs.Ytmhplaanpbpndaa
open Fl Go.Maps RowKit Joins Deep
set_option linter.unusedVariables false
set_option maxRecDepth 20000

theorem fnd_step {l : List Elm} {i : Nat} {x : Elm} (hx : l[i]? = some x) (t : List UInt8) : fnd (l.drop i) t = if bl x.n = t then some x else fnd (l.drop (i + 1)) t := by
  obtain ⟨h1, h2⟩ := List.getElem?_eq_some_iff.1 hx
  rw [List.drop_eq_getElem_cons h1, h2]
  unfold fnd
  rw [List.find?_cons]
  by_cases e : bl x.n = t
  · rw [beq_iff_eq.2 e, if_pos e]
  · rw [beq_eq_false_iff_ne.2 e, if_neg e]
end Go.Proofs.Ytmhplaanpbpndaa
namespace Go.Proofs.Ytmhplaanpbpndaa
open Fl Go.Maps RowKit Joins Deep
set_option linter.unusedVariables false
set_option maxRecDepth 20000

/-- while it goes on -/
structure Dq (wF wr : World) (m g : Nat) (R : Nat → Cn) : Prop where
  bel : Below wF.heap.size wF wr
  row : Nr wr wF.heap.size (.slice (some ⟨g, 0, none⟩) m m) m R
  gb : wF.heap.size ≤ g
theorem Dq.on {wF w w' : World} {m g : Nat} {R : Nat → Cn} (h : Dq wF w m g R) (hb : Below w.heap.size w w') : Dq wF w' m g R := ⟨h.bel.trans (hb.mono h.bel.size), h.row.on hb, h.gb⟩
theorem Dq.dN {wF w : World} {m g : Nat} {R : Nat → Cn} (h : Dq wF w m g R) (k : Nat) : Dq wF (w.drewN k) m g R := h.on (below_dN (Below.refl _ _) k)
theorem Dq.get {wF w : World} {m g : Nat} {R : Nat → Cn} (h : Dq wF w m g R) {i : Nat} (hi : i < m) : ∃ x : Cw, w.cell? ⟨g, i, none⟩ = some (cx x) ∧ w.frozen? ⟨g, i, none⟩ = false ∧ repz (R i) x := by
  obtain ⟨g2, c, x, he, _, h2, h3, h4⟩ := h.row.get hi
  injection he with he1 he2 he3
  injection he1 with he4
  injection he4 with he5
  subst he5
  exact ⟨x, h2, h3, h4⟩
theorem Dq.put {wF w : World} {m g : Nat} {R : Nat → Cn} (h : Dq wF w m g R) {op : Cn → Cn → Cn} {i : Nat} (hi : i < m) {Y : Cn} {r : Cw} (hr : repz (op (R i) Y) r) : Dq wF (w.setCell ⟨g, i, none⟩ (cx r)) m g (rput op i Y R) :=
  ⟨h.bel.setCell (p := ⟨g, i, none⟩) h.gb _, h.row.put hi hr, h.gb⟩
def pQ (b : Bool) (p : Nat) : Int := if b = true then (p : Int) else -1
theorem pQ_t (p : Nat) : pQ true p = (p : Int) := rfl
theorem pQ_f (p : Nat) : pQ false p = -1 := rfl
end Go.Proofs.Ytmhplaanpbpndaa
namespace Go.Proofs.Ytmhplaanpbpndaa
open Fl RowKit
set_option linter.unusedVariables false

/-- an element of two nodes -/
def el2 (k : Nat) (n a b : ByteArray) (v : Nat) (ph : Int) : Elm := ⟨k, n, a, b, ⟨#[]⟩, ⟨#[]⟩, v, ph⟩
def exI : Elm := el2 4 ⟨#[73, 49]⟩ ⟨#[97]⟩ ⟨#[98]⟩ 4611686018427387904 0
def exR1 : Elm := el2 1 ⟨#[82, 49]⟩ ⟨#[97]⟩ ⟨#[48]⟩ 4607182418800017408 0
def exR2 : Elm := el2 1 ⟨#[82, 50]⟩ ⟨#[98]⟩ ⟨#[48]⟩ 4607182418800017408 0
def exV : Elm := el2 5 ⟨#[86, 49]⟩ ⟨#[99]⟩ ⟨#[48]⟩ 4613937818241073152 12
def exR3 : Elm := el2 1 ⟨#[82, 51]⟩ ⟨#[99]⟩ ⟨#[48]⟩ 4607182418800017408 0
def exL : List Elm := [exI, exR1, exR2, exV, exR3]
def exN : Ns := ⟨exL, [[73, 49], [82, 49], [82, 50], [86, 49], [82, 51]], [[97], [98], [99]], [[86, 49]]⟩
theorem ex_of : ofA exL = ((0, 0), exN) := by kernel_rfl
theorem ex_rg : (rgL exN exL noC 0).1 = (0, 0) := by kernel_rfl
theorem ex_r0 : (rgL exN exL noC 0).2 0 = (some 13835058055282163712, some 0) := by kernel_rfl
theorem ex_r1 : (rgL exN exL noC 0).2 1 = (some 4611686018427387904, some 0) := by kernel_rfl
theorem ex_r2 : (rgL exN exL noC 0).2 2 = (some 0, some 0) := by kernel_rfl
theorem ex_r3 : (rgL exN exL noC 0).2 3 = (some 13837309855095848960, some 0) := by kernel_rfl
theorem rep_in {y x : Nat} (h : rep (some y) x) : x = y := by
  have := h.2
  unfold ans at this
  split at this
  · cases this
  · exact Option.some.inj this
theorem repz_in {a b : Nat} {z : Cw} (h : repz (some a, some b) z) : z = (a, b) := by
  rw [← rep_in h.1, ← rep_in h.2]
end Go.Proofs.Ytmhplaanpbpndaa
