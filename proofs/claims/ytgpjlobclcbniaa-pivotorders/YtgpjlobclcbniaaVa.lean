/-
  What the passes of package vector (paired, each, placed, summed) hand back, by what the function that they are handed says.
-/
import Derived.Test.YtgpjlobclcbniaaVz
namespace Go.Proofs.Ytgpjlobclcbniaa
open Fl RowKit

/-- a function with a body is entered -/
def Ent (F : FuncId) : Prop := ∀ (args : Array Value) (w : World), (callFunc F args).run Try.prog w = .ok (.enter F args) w
/-- what a function value of one number says, in all worlds from w on -/
def Says1 (w : World) (F : FuncId) (caps : Array Value) (f : Cn → Cn) : Prop :=
  ∀ (p : Cw) (W : World), Below w.heap.size w W → okz p → Calls Try.prog F (#[cx p] ++ caps) W fun e W' => ∃ (r : Cw) (m : Nat), e = .returned (cx r) ∧ repz (f (anz p)) r ∧ W' = W.drewN m
def Says2 (w : World) (F : FuncId) (caps : Array Value) (f : Cn → Cn → Cn) : Prop :=
  ∀ (p q : Cw) (W : World), Below w.heap.size w W → okz p → okz q → Calls Try.prog F (#[cx p, cx q] ++ caps) W fun e W' => ∃ (r : Cw) (m : Nat), e = .returned (cx r) ∧ repz (f (anz p) (anz q)) r ∧ W' = W.drewN m

end Go.Proofs.Ytgpjlobclcbniaa
