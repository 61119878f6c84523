/-
  What TwoSum and TwoProd of package real, and TwoSum of gridworkref01, hand back.
-/
import Derived.Test.YthkhemmpjfilaaaPlaces
import Derived.Test.YthkhemmpjfilaaaOps
namespace Go.Proofs.Ythkhemmpjfilaaa
open Fl

theorem ret2ff {a b c d : Nat} (h : a = b) (h2 : c = d) : Ending.returned (.tuple #[.float .f64 a, .float .f64 c]) = .returned (.tuple #[.float .f64 b, .float .f64 d]) := by rw [h, h2]

theorem twoSum_any (a b : Nat) (w : World) (ha : a < 18446744073709551616) (hb : b < 18446744073709551616) :
    Calls Try.prog 112 #[.float .f64 a, .float .f64 b] w fun e w' => ∃ s r n, e = .returned (.tuple #[.float .f64 s, .float .f64 r]) ∧ rep (tsS (ans a) (ans b)) s ∧ rep (tsE (ans a) (ans b)) r ∧ w' = w.drewN n := by
  go_enter Try.func112, Try.ntmps112
  go_wp2
  go_ret2
  have h1 := rep_ans ha
  have h2 := rep_ans hb
  refine ⟨_, _, _, rfl, rep_add h1 h2 _, ?_, rfl⟩
  exact rep_add (rep_sub h1 (rep_sub (rep_add h1 h2 _) (rep_sub (rep_add h1 h2 _) h1 _) _) _) (rep_sub h2 (rep_sub (rep_add h1 h2 _) h1 _) _) _

end Go.Proofs.Ythkhemmpjfilaaa
