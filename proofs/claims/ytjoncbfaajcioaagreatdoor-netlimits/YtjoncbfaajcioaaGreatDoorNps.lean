/-
  The chapter's example, read and printed.
-/
import Derived.Test.YtjoncbfaajcioaaGreatDoorNpr
namespace Go.Proofs.YtjoncbfaajcioaaGreatDoor
open Go.Maps Go.RowKit Joins Deep
set_option linter.unusedVariables false
set_option maxRecDepth 100000

/-- the example's text -/
def exS : ByteArray := ⟨#[82, 49, 32, 97, 32, 98, 32, 52, 46, 55, 107, 10, 86, 49, 32, 97, 32, 48, 32, 49, 48, 32, 54, 10, 67, 49, 32, 98, 32, 48, 32, 49, 48, 48, 110, 10]⟩
def tkn (l : List UInt8) (a b : Nat) : Tok := (⟨l.toArray⟩, a, b)
def exT : List (List Tok) := [[tkn [82, 49] 0 0, tkn [97] 0 3, tkn [98] 0 5, tkn [52, 46, 55, 107] 0 7], [tkn [86, 49] 1 0, tkn [97] 1 3, tkn [48] 1 5, tkn [49, 48] 1 7, tkn [54] 1 10], [tkn [67, 49] 2 0, tkn [98] 2 3, tkn [48] 2 5, tkn [49, 48, 48, 110] 2 7]]
def exE : List Elm := [⟨1, ⟨#[82, 49]⟩, ⟨#[97]⟩, ⟨#[98]⟩, ⟨#[]⟩, ⟨#[]⟩, 4661889719351640064, 0⟩, ⟨5, ⟨#[86, 49]⟩, ⟨#[97]⟩, ⟨#[48]⟩, ⟨#[]⟩, ⟨#[]⟩, 4621819117588971520, 6⟩, ⟨3, ⟨#[67, 49]⟩, ⟨#[98]⟩, ⟨#[48]⟩, ⟨#[]⟩, ⟨#[]⟩, 4502148214488346440, 0⟩]
theorem ex_er : erL 0 (liT exS) = (0, 0) := by kernel_rfl
theorem ex_tk : psL exS = exT := by kernel_rfl
theorem ex_x0 : rdE (wdL [tkn [82, 49] 0 0, tkn [97] 0 3, tkn [98] 0 5, tkn [52, 46, 55, 107] 0 7]) = 0 := by decide +kernel
theorem ex_x1 : rdE (wdL [tkn [86, 49] 1 0, tkn [97] 1 3, tkn [48] 1 5, tkn [49, 48] 1 7, tkn [54] 1 10]) = 0 := by decide +kernel
theorem ex_x2 : rdE (wdL [tkn [67, 49] 2 0, tkn [98] 2 3, tkn [48] 2 5, tkn [49, 48, 48, 110] 2 7]) = 0 := by decide +kernel
theorem ex_a : psA exS = exE := by unfold psA; rw [ex_tk]; kernel_rfl
theorem ex_p : prsE 0 (psL exS) = (0, 0) := by rw [ex_tk]; kernel_rfl
/-- the example's net -/
def exN : Ns := ⟨exE, [[82, 49], [86, 49], [67, 49]], [[97], [98]], [[86, 49]]⟩
theorem ex_of : ofA exE = ((0, 0), exN) := by kernel_rfl
theorem ex_e : psE exS = (0, 0) := by
  unfold psE
  rw [ex_er, ex_p]
  show (if (0 : Nat) ≠ 0 then _ else if (0 : Int) ≠ 0 then _ else psF exS (ofA (psA exS)).1) = _
  rw [if_neg (by simp), if_neg (by simp), ex_a, ex_of]; rfl
/-- the texts of the example's numbers -/
def exX (x : Elm) : ByteArray := if x.v = 4661889719351640064 then ⟨#[52, 46, 55, 107]⟩ else if x.v = 4621819117588971520 then ⟨#[49, 48]⟩ else ⟨#[49, 48, 48, 110]⟩
theorem ex_pr : (prnL exX exE).toArray = exS.data := by kernel_rfl
end Go.Proofs.YtjoncbfaajcioaaGreatDoor
