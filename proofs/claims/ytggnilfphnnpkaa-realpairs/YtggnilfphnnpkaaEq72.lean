/-
  Two numbers of 72 limbs that are one compare as equal.
-/
import Derived.Test.YtggnilfphnnpkaaWEx
namespace Go.Proofs.Ytggnilfphnnpkaa
open Fl RowKit

theorem part72 (Z : List Nat) (i : Nat) (hi : i < Z.length) (w : World) : (part 22 (lim Z) (i * 1)).run Try.prog w = .ok (.int .u64 ((Z.getD i 0 : Nat) : Int)) w := by
  have a3 := Try.isAgg22
  have hg := lim_get Z i hi
  rw [Nat.mul_one]
  simp only [part, Sem.run_bind, a3, Result.andThen_ok, Bool.false_eq_true, if_false, hg, Sem.run_pure]
theorem eqInt (d : Nat) (a : Int) (w : World) : (Op.equalIn (d + 1) 22 (.int .u64 a) (.int .u64 a)).run Try.prog w = .ok true w := by
  rw [Op.equalIn]
  simp [run_underlying Try.underlying22]
theorem eqLoop (Z : List Nat) (w : World) : ∀ (n s : Nat), s + n ≤ Z.length →
    (forIn (m := Sem) (List.range' s n) ((none, ()) : Option Bool × Unit) fun i _ => do
      let a ← part 22 (lim Z) (i * 1)
      let b ← part 22 (lim Z) (i * 1)
      let c ← Op.equalIn 9999 22 a b
      if (!c) = true then pure (ForInStep.done (some false, ())) else pure (ForInStep.yield (none, ()))).run Try.prog w = .ok (none, ()) w := by
  intro n
  induction n with
  | zero => intro s _; rfl
  | succ n ih =>
    intro s h
    rw [List.range'_succ, List.forIn_cons]
    simp only [Sem.run_bind, part72 Z s (by omega), Result.andThen_ok, show (9999 : Nat) = 9998 + 1 from rfl, eqInt]
    simp only [Bool.not_true, Bool.false_eq_true, if_false, Sem.run_pure, Result.andThen_ok]
    exact ih (s + 1) (by omega)
theorem eq72 (Z : List Nat) (hZ : Z.length = 72) (w : World) : (Op.equalIn 10000 54 (.agg (lim Z)) (.agg (lim Z))).run Try.prog w = .ok true w := by
  have z3 := Try.sizeOf22
  rw [show (10000 : Nat) = 9999 + 1 from rfl, Op.equalIn]
  simp only [Sem.run_bind, run_underlying Try.underlying54, Result.andThen_ok, z3]
  simp only [Std.Legacy.Range.forIn_eq_forIn_range', Std.Legacy.Range.size, Nat.sub_zero, Nat.add_sub_cancel, Nat.div_one]
  rw [eqLoop Z w 72 0 (by omega)]
  rfl

end Go.Proofs.Ytggnilfphnnpkaa
