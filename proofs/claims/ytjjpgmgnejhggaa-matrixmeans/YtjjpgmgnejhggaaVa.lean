/-
  What the passes of package vector (paired, each, placed, summed) hand back, by what the function that they are handed says.
-/
import Derived.Test.YtjjpgmgnejhggaaVz
namespace Go.Proofs.Ytjjpgmgnejhggaa
open Fl RowKit

theorem paired_any (ao bo : Option Addr) (na nb ca cb : Nat) (w : World) (ha : na ≤ 1000000000000000) (hb : nb ≤ 1000000000000000) :
    Calls Try.prog 119 #[.slice ao na ca, .slice bo nb cb] w fun e w' => e = .returned (.int .i64 (errV na nb)) ∧ w' = w := by
  by_cases h1 : 65536 < na
  · have e0 : errV na nb = 3 := by unfold errV; rw [if_pos (Or.inl h1)]
    have h1' : (65536 : Int) < (na : Int) := by omega
    go_enter Try.func119, Try.ntmps119
    go_wp2
    go_ret
    exact ⟨by first | rfl | (rw [e0]; rfl), rfl⟩
  · have h1' : ¬ (65536 : Int) < (na : Int) := by omega
    by_cases h2 : 65536 < nb
    · have e0 : errV na nb = 3 := by unfold errV; rw [if_pos (Or.inr h2)]
      have h2' : (65536 : Int) < (nb : Int) := by omega
      go_enter Try.func119, Try.ntmps119
      go_wp2
      go_ret
      exact ⟨by first | rfl | (rw [e0]; rfl), rfl⟩
    · have h2' : ¬ (65536 : Int) < (nb : Int) := by omega
      by_cases h3 : na = nb
      · have e0 : errV na nb = 0 := by unfold errV; rw [if_neg (by omega), if_neg (by omega)]
        subst h3
        go_enter Try.func119, Try.ntmps119
        go_wp2
        go_ret
        exact ⟨by first | rfl | (rw [e0]; rfl), rfl⟩
      · have e0 : errV na nb = 4 := by unfold errV; rw [if_neg (by omega), if_pos (by omega)]
        have h3' : ¬ (na : Int) = (nb : Int) := by omega
        go_enter Try.func119, Try.ntmps119
        go_wp2
        go_ret
        exact ⟨by first | rfl | (rw [e0]; rfl), rfl⟩

/-- a function with a body is entered -/
def Ent (F : FuncId) : Prop := ∀ (args : Array Value) (w : World), (callFunc F args).run Try.prog w = .ok (.enter F args) w
/-- what a function value of one number says, in all worlds from w on -/
def Says1 (w : World) (F : FuncId) (caps : Array Value) (f : Cn → Cn) : Prop :=
  ∀ (p : Cw) (W : World), Below w.heap.size w W → okz p → Calls Try.prog F (#[cx p] ++ caps) W fun e W' => ∃ (r : Cw) (m : Nat), e = .returned (cx r) ∧ repz (f (anz p)) r ∧ W' = W.drewN m
def Says2 (w : World) (F : FuncId) (caps : Array Value) (f : Cn → Cn → Cn) : Prop :=
  ∀ (p q : Cw) (W : World), Below w.heap.size w W → okz p → okz q → Calls Try.prog F (#[cx p, cx q] ++ caps) W fun e W' => ∃ (r : Cw) (m : Nat), e = .returned (cx r) ∧ repz (f (anz p) (anz q)) r ∧ W' = W.drewN m

end Go.Proofs.Ytjjpgmgnejhggaa
