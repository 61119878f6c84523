/-
  The bits of a float and the float of bits; the small functions of package parts and of gridworkref02 that look at one real.
-/
import Derived.Test.YtcakfclfggnmbaaChecked
import Derived.Test.YtcakfclfggnmbaaCx
import Derived.WalkKit
import Derived.WalkLawsBesides
namespace Go.Proofs.Ytcakfclfggnmbaa
open Fl

@[go_sem] theorem run_bits (x : Nat) (w : World) : (callFunc 82 #[.float .f64 x]).run Try.prog w = .ok (.value (.int .u64 (x : Int))) w := by
  rw [run_callFunc_extern Try.func82 (by kernel_rfl) (by kernel_rfl) (by kernel_rfl) (e := Extern.MathFloatBits.float64bits) (by kernel_rfl)]
  rfl
@[go_sem] theorem run_frombits (x : Int) (w : World) : (callFunc 71 #[.int .u64 x]).run Try.prog w = .ok (.value (.float .f64 x.toNat)) w := by
  rw [run_callFunc_extern Try.func71 (by kernel_rfl) (by kernel_rfl) (by kernel_rfl) (e := Extern.MathFloatBits.float64frombits) (by kernel_rfl)]
  rfl
@[go_sem] theorem run_negFloat (b : Nat) (w : World) : (Op.unary UnOp.neg (.float .f64 b)).run Try.prog w = .ok (.float .f64 (Op.negFloat .f64 b)) w := rfl
def smB (a b : Nat) : Bool := if nan a || nan b then nan a && nan b else a == b
theorem smB_of {a : Option Nat} {x y : Nat} (hx : rep a x) (hy : rep a y) : smB x y = true := by
  obtain ⟨h1, h2⟩ := same_of hx hy
  unfold smB
  rw [← h1]
  cases hn : nan x
  · rw [h2 hn]; simp
  · simp
theorem smB_self (x : Nat) : smB x x = true := by unfold smB; cases nan x <;> simp
theorem smB_comm (x y : Nat) : smB x y = smB y x := by
  unfold smB
  cases hx : nan x <;> cases hy : nan y <;> simp
  exact Bool.eq_iff_iff.2 ⟨fun h => by simp at *; exact h.symm, fun h => by simp at *; exact h.symm⟩
def eqB (x y : Nat) : Bool := FloatKind.f64.format.order x y == some .eq
def finB (x : Nat) : Bool := decide (mg x < 9218868437227405312)
def infB (x : Nat) : Bool := decide (mg x = 9218868437227405312)
def zeB (x : Nat) : Bool := decide (mg x = 0)
theorem retf {a b : Nat} (h : a = b) : Ending.returned (.float .f64 a) = .returned (.float .f64 b) := by rw [h]
theorem retb {a b : Bool} (h : a = b) : Ending.returned (.bool a) = .returned (.bool b) := by rw [h]

theorem andNot_sign (x : Nat) (hx : x < 18446744073709551616) : bits BinOp.andNot IntKind.u64 (x : Int) 9223372036854775808 = ((mg x : Nat) : Int) := by
  have h := u64_andNot_nat x 9223372036854775808 hx (by omega)
  have h2 := Nat.and_two_pow_sub_one_eq_mod x 63
  rw [show (2 : Nat) ^ 63 - 1 = 18446744073709551615 - 9223372036854775808 from rfl, show (2 : Nat) ^ 63 = 9223372036854775808 from rfl] at h2
  rw [h2] at h; exact h
theorem and_power (x : Nat) (hx : x < 18446744073709551616) : bits BinOp.and IntKind.u64 (x : Int) 9218868437227405312 = ((mg x / 4503599627370496 * 4503599627370496 : Nat) : Int) := by
  have h := u64_and_nat x 9218868437227405312 hx (by omega)
  have e : x &&& 9218868437227405312 = mg x / 4503599627370496 * 4503599627370496 := by
    have h1 : (9218868437227405312 : Nat) = 2047 <<< 52 := by decide
    have h2 : x &&& 9218868437227405312 = ((x >>> 52) &&& 2047) <<< 52 := by
      rw [h1]
      apply Nat.eq_of_testBit_eq
      intro i
      rw [Nat.testBit_and, Nat.testBit_shiftLeft, Nat.testBit_shiftLeft, Nat.testBit_and, Nat.testBit_shiftRight]
      by_cases hi : 52 ≤ i
      · simp only [hi, decide_true, Bool.true_and, show 52 + (i - 52) = i by omega]
      · simp [hi]
    rw [h2, show (2047 : Nat) = 2 ^ 11 - 1 from rfl, Nat.and_two_pow_sub_one_eq_mod, Nat.shiftRight_eq_div_pow, Nat.shiftLeft_eq]
    unfold mg
    omega
  rw [e] at h; exact h

end Go.Proofs.Ytcakfclfggnmbaa
