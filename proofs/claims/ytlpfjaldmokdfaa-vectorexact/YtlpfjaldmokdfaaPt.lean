/-
  What the functions of package parts, and the same of gridworkref02, hand back, whatever they are called with: each by one function on answers.
-/
import Derived.Test.YtlpfjaldmokdfaaBt
namespace Go.Proofs.Ytlpfjaldmokdfaa
open Fl

theorem retc {a b c d : Nat} (h : a = b) (h2 : c = d) : Ending.returned (.complex .f64 a c) = .returned (.complex .f64 b d) := by rw [h, h2]

theorem natCast_beq (a b : Nat) : ((a : Int) == (b : Int)) = (a == b) := by rw [Bool.eq_iff_iff]; simp; omega

section small
variable (a b c d : Nat) (w : World)
theorem apart_any : Calls Try.prog 71 #[.complex .f64 a b] w fun e w' => e = .returned (.tuple #[.float .f64 a, .float .f64 b]) ∧ w' = w := by
  go_enter Try.func71, Try.ntmps71
  go_wp2
  go_ret2
  exact ⟨rfl, rfl⟩
theorem of_any : Calls Try.prog 73 #[.float .f64 a, .float .f64 b] w fun e w' => e = .returned (.complex .f64 a b) ∧ w' = w := by
  go_enter Try.func73, Try.ntmps73
  go_wp2
  go_ret
  exact ⟨rfl, rfl⟩
end small

end Go.Proofs.Ytlpfjaldmokdfaa
