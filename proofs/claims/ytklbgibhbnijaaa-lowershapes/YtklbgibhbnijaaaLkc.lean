/-
  What ConjNumbers and ConjMatrix of the given package gridworkkit hand back.
-/
import Derived.Test.YtklbgibhbnijaaaLkb
namespace Go.Proofs.Ytklbgibhbnijaaa
open Fl RowKit

theorem neg_ngW {x : Nat} (h : x < 18446744073709551616) : Op.negFloat .f64 x = ngW x := by
  unfold ngW
  split
  · exact neg_of_pos ‹_›
  · exact neg_of_neg (by omega) h
/-- the other part turned -/
def cjw (z : Cw) : Cw := (z.1, ngW z.2)
end Go.Proofs.Ytklbgibhbnijaaa
