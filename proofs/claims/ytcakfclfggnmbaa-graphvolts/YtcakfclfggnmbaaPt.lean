/-
  What the functions of package parts, and the same of gridworkref02, hand back, whatever they are called with: each by one function on answers.
-/
import Derived.Test.YtcakfclfggnmbaaBt
namespace Go.Proofs.Ytcakfclfggnmbaa
open Fl

theorem retc {a b c d : Nat} (h : a = b) (h2 : c = d) : Ending.returned (.complex .f64 a c) = .returned (.complex .f64 b d) := by rw [h, h2]

theorem natCast_beq (a b : Nat) : ((a : Int) == (b : Int)) = (a == b) := by rw [Bool.eq_iff_iff]; simp; omega

section small
variable (a b c d : Nat) (w : World)
end small

end Go.Proofs.Ytcakfclfggnmbaa
