/-
  The chapter's example net, as lists: what Of and Right make of it.
-/
import Derived.Test.YtpjpamdocfdibaaSrr
namespace Go.Proofs.Ytpjpamdocfdibaa
open Fl RowKit
set_option linter.unusedVariables false

/-- an element of two nodes -/
def el2 (k : Nat) (n a b : ByteArray) (v : Nat) (ph : Int) : Elm := ⟨k, n, a, b, ⟨#[]⟩, ⟨#[]⟩, v, ph⟩
def exI : Elm := el2 4 ⟨#[73, 49]⟩ ⟨#[97]⟩ ⟨#[98]⟩ 4611686018427387904 0
def exR1 : Elm := el2 1 ⟨#[82, 49]⟩ ⟨#[97]⟩ ⟨#[48]⟩ 4607182418800017408 0
def exR2 : Elm := el2 1 ⟨#[82, 50]⟩ ⟨#[98]⟩ ⟨#[48]⟩ 4607182418800017408 0
def exV : Elm := el2 5 ⟨#[86, 49]⟩ ⟨#[99]⟩ ⟨#[48]⟩ 4613937818241073152 12
def exR3 : Elm := el2 1 ⟨#[82, 51]⟩ ⟨#[99]⟩ ⟨#[48]⟩ 4607182418800017408 0
def exL : List Elm := [exI, exR1, exR2, exV, exR3]
def exN : Ns := ⟨exL, [[73, 49], [82, 49], [82, 50], [86, 49], [82, 51]], [[97], [98], [99]], [[86, 49]]⟩
theorem ex_of : ofA exL = ((0, 0), exN) := by kernel_rfl
theorem ex_rg : (rgL exN exL noC 0).1 = (0, 0) := by kernel_rfl
theorem ex_r0 : (rgL exN exL noC 0).2 0 = (some 13835058055282163712, some 0) := by kernel_rfl
theorem ex_r1 : (rgL exN exL noC 0).2 1 = (some 4611686018427387904, some 0) := by kernel_rfl
theorem ex_r2 : (rgL exN exL noC 0).2 2 = (some 0, some 0) := by kernel_rfl
theorem ex_r3 : (rgL exN exL noC 0).2 3 = (some 13837309855095848960, some 0) := by kernel_rfl
theorem rep_in {y x : Nat} (h : rep (some y) x) : x = y := by
  have := h.2
  unfold ans at this
  split at this
  · cases this
  · exact Option.some.inj this
theorem repz_in {a b : Nat} {z : Cw} (h : repz (some a, some b) z) : z = (a, b) := by
  rw [← rep_in h.1, ← rep_in h.2]
end Go.Proofs.Ytpjpamdocfdibaa
