/-
  What TwoSum and TwoProd of package real, and TwoSum of gridworkref01, hand back.
-/
import Derived.Test.YtggnilfphnnpkaaPlaces
import Derived.Test.YtggnilfphnnpkaaOps
namespace Go.Proofs.Ytggnilfphnnpkaa
open Fl

@[go_sem] theorem run_fma (x y z : Nat) (w : World) : (callFunc 44 #[.float .f64 x, .float .f64 y, .float .f64 z]).run Try.prog w = .ok (.value (.float .f64 (fmaV w x y z))) (w.drewN (fN (fmaO x y z))) := by
  rw [run_callFunc_extern Try.func44 (by kernel_rfl) (by kernel_rfl) (by kernel_rfl) (e := Extern.MathFMA.fma) (by kernel_rfl), run_ffma]
  rfl
theorem ret2ff {a b c d : Nat} (h : a = b) (h2 : c = d) : Ending.returned (.tuple #[.float .f64 a, .float .f64 c]) = .returned (.tuple #[.float .f64 b, .float .f64 d]) := by rw [h, h2]

theorem twoSum_any (a b : Nat) (w : World) (ha : a < 18446744073709551616) (hb : b < 18446744073709551616) :
    Calls Try.prog 20 #[.float .f64 a, .float .f64 b] w fun e w' => ∃ s r n, e = .returned (.tuple #[.float .f64 s, .float .f64 r]) ∧ rep (tsS (ans a) (ans b)) s ∧ rep (tsE (ans a) (ans b)) r ∧ w' = w.drewN n := by
  go_enter Try.func20, Try.ntmps20
  go_wp2
  go_ret2
  have h1 := rep_ans ha
  have h2 := rep_ans hb
  refine ⟨_, _, _, rfl, rep_add h1 h2 _, ?_, rfl⟩
  exact rep_add (rep_sub h1 (rep_sub (rep_add h1 h2 _) (rep_sub (rep_add h1 h2 _) h1 _) _) _) (rep_sub h2 (rep_sub (rep_add h1 h2 _) h1 _) _) _

theorem twoProd_any (a b : Nat) (w : World) :
    Calls Try.prog 22 #[.float .f64 a, .float .f64 b] w fun e w' => ∃ p r n, e = .returned (.tuple #[.float .f64 p, .float .f64 r]) ∧ rep (mulO a b) p ∧ rep (fmaO a b (Op.negFloat .f64 p)) r ∧ w' = w.drewN n := by
  go_enter Try.func22, Try.ntmps22
  go_wp2
  go_ret2
  exact ⟨_, _, _, rfl, rep_mulV _ _ _, rep_fmaV _ _ _ _, rfl⟩

end Go.Proofs.Ytggnilfphnnpkaa
