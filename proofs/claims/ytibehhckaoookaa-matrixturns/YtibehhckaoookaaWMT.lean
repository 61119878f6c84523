/-
  The walk of MatrixTurns: it hands back true and only lays new memory.
-/
import Derived.Test.YtibehhckaoookaaWMT1
import Derived.Test.YtibehhckaoookaaWMT2
import Derived.Test.YtibehhckaoookaaWMT3
import Derived.Test.YtibehhckaoookaaWMT4
import Derived.Test.YtibehhckaoookaaWMT5
import Derived.Deep.Cut
import Derived.Deep.DeepCutAuto
import Derived.Deep.CutBlock
import Derived.Deep.QuietTactic
import Derived.BigQuiet
namespace Go.Proofs.Ytibehhckaoookaa
open Fl RowKit

theorem turns_any (R C R' C' i j : Int) (ao bo : Option Addr) (n cap n' cap' : Nat) (xs ys : List Cw) (w : World) (hn : xs.length = n) (hn' : ys.length = n') (hx : okl xs) (hy : okl ys) (hc : Rz w ao xs) (hc' : Rz w bo ys) (hL : ¬ 4098 < n) (hL' : ¬ 4098 < n') :
    Calls Try.prog 5 #[.agg #[.int .i64 R, .int .i64 C, .slice ao n cap], .agg #[.int .i64 R', .int .i64 C', .slice bo n' cap'], .int .i64 i, .int .i64 j] w fun e w' => e = .returned (.bool true) ∧ Below w.heap.size w w' := by
  cases hm1 : mb R C n
  · exact turns_no R C R' C' i j ao bo n cap n' cap' xs ys w hn hn' hx hy hc hc' hL hL' (.inl hm1)
  cases hm2 : mb R' C' n'
  · exact turns_no R C R' C' i j ao bo n cap n' cap' xs ys w hn hn' hx hy hc hc' hL hL' (.inr hm2)
  by_cases h : (0 ≤ i ∧ i < R) ∧ 0 ≤ j ∧ j < R
  · have hsw : ∃ a b : Nat, i = (a : Int) ∧ j = (b : Int) ∧ (a : Int) < R ∧ (b : Int) < R := ⟨i.toNat, j.toNat, by omega, by omega, by omega, by omega⟩
    cases hmu : muB R C n R' C' n'
    · exact turns_oe R C R' C' i j ao bo n cap n' cap' xs ys w hn hn' hx hy hc hc' hL hL' hm1 hm2 hmu hsw
    · exact turns_oo R C R' C' i j ao bo n cap n' cap' xs ys w hn hn' hx hy hc hc' hL hL' hm1 hm2 hmu hsw
  · cases hmu : muB R C n R' C' n'
    · exact turns_ee R C R' C' i j ao bo n cap n' cap' xs ys w hn hn' hx hy hc hc' hL hL' hm1 hm2 hmu h
    · exact turns_eo R C R' C' i j ao bo n cap n' cap' xs ys w hn hn' hx hy hc hc' hL hL' hm1 hm2 hmu h

end Go.Proofs.Ytibehhckaoookaa
