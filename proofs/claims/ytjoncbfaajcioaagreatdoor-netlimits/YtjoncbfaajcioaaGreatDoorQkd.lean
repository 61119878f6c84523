/-
  Kind of the program's package real, beside the texts of package parts.
-/
import Derived.Test.YtjoncbfaajcioaaGreatDoorBqd
import Derived.WalkKit
import Derived.WalkLawsBesides
namespace Go.Proofs.YtjoncbfaajcioaaGreatDoor
namespace Qk
open Fl

def kdB (x : Nat) : Int := if nan x then 4 else if mg x = 9218868437227405312 then 3 else if 4503599627370496 ≤ mg x then 2 else if 0 < mg x then 1 else 0
theorem and_pow (x : Nat) (hx : x < 18446744073709551616) : bits BinOp.and IntKind.u64 ((x : Int) / 4503599627370496) 2047 = ((mg x / 4503599627370496 : Nat) : Int) := by
  have h := u64_and_nat (x / 4503599627370496) 2047 (by omega) (by omega)
  rw [nat_mask11] at h
  have e : x / 4503599627370496 % 2048 = mg x / 4503599627370496 := by unfold mg; omega
  rw [e] at h; rw [← h]; congr 1
theorem and_frac (x : Nat) (hx : x < 18446744073709551616) : bits BinOp.and IntKind.u64 (x : Int) 4503599627370495 = ((mg x % 4503599627370496 : Nat) : Int) := by
  have h := u64_and_nat x 4503599627370495 hx (by omega)
  have h2 := Nat.and_two_pow_sub_one_eq_mod x 52
  rw [show (2 : Nat) ^ 52 - 1 = 4503599627370495 from rfl, show (2 : Nat) ^ 52 = 4503599627370496 from rfl] at h2
  rw [h2] at h
  have e : x % 4503599627370496 = mg x % 4503599627370496 := by unfold mg; omega
  rw [e] at h; exact h
theorem kd_4 {x : Nat} (h : nan x = true) : kdB x = 4 := by unfold kdB; rw [h]; rfl
theorem kd_3 {x : Nat} (hn : nan x = false) (h : mg x = 9218868437227405312) : kdB x = 3 := by unfold kdB; rw [hn, if_neg (by simp), if_pos h]
theorem kd_2 {x : Nat} (hn : nan x = false) (h : 4503599627370496 ≤ mg x) (h2 : mg x < 9218868437227405312) : kdB x = 2 := by unfold kdB; rw [hn, if_neg (by simp), if_neg (by omega), if_pos h]
theorem kd_1 {x : Nat} (hn : nan x = false) (h : 0 < mg x) (h2 : mg x < 4503599627370496) : kdB x = 1 := by unfold kdB; rw [hn, if_neg (by simp), if_neg (by omega), if_neg (by omega), if_pos h]
theorem kd_0 {x : Nat} (hn : nan x = false) (h : mg x = 0) : kdB x = 0 := by unfold kdB; rw [hn, if_neg (by simp), if_neg (by omega), if_neg (by omega), if_neg (by omega)]
theorem ret1 {a b : Int} (h : a = b) : Ending.returned (.int .i64 a) = .returned (.int .i64 b) := by rw [h]
theorem not_nan {x : Nat} (h : nan x = false) : mg x ≤ 9218868437227405312 := by unfold nan at h; simp at h; exact h
theorem is_nan {x : Nat} (h : nan x = true) : 9218868437227405312 < mg x := by unfold nan at h; simp at h; exact h
theorem kind_any (x : Nat) (w : World) (hx : x < 18446744073709551616) :
    Calls Tryz.prog 55 #[.float .f64 x] w fun e w' => e = .returned (.int .i64 (kdB x)) ∧ w' = w := by
  have hp := and_pow x hx
  have hf := and_frac x hx
  cases hn : nan x
  · have h0 := order_num hn
    have hl := not_nan hn
    rcases Nat.lt_or_ge (mg x) 9218868437227405312 with h1 | h1
    · rcases Nat.lt_or_ge (mg x) 4503599627370496 with h2 | h2
      · rcases Nat.eq_zero_or_pos (mg x) with h3 | h3
        · have t1 : (((mg x / 4503599627370496 : Nat) : Int) == 2047) = false := by simp; omega
          have t2 : (((mg x / 4503599627370496 : Nat) : Int) != 0) = false := by simp; omega
          have t3 : (((mg x % 4503599627370496 : Nat) : Int) != 0) = false := by simp; omega
          have e0 := kd_0 hn h3
          clear h1 h2 h3 hl
          go_enter Tryz.func55, Tryz.ntmps55
          go_wp2
          go_ret
          first | exact ⟨ret1 e0.symm, rfl⟩ | exact ⟨rfl, rfl⟩
        · have t1 : (((mg x / 4503599627370496 : Nat) : Int) == 2047) = false := by simp; omega
          have t2 : (((mg x / 4503599627370496 : Nat) : Int) != 0) = false := by simp; omega
          have t3 : (((mg x % 4503599627370496 : Nat) : Int) != 0) = true := by simp; omega
          have e0 := kd_1 hn h3 h2
          clear h1 h2 h3 hl
          go_enter Tryz.func55, Tryz.ntmps55
          go_wp2
          go_ret
          first | exact ⟨ret1 e0.symm, rfl⟩ | exact ⟨rfl, rfl⟩
      · have t1 : (((mg x / 4503599627370496 : Nat) : Int) == 2047) = false := by simp; omega
        have t2 : (((mg x / 4503599627370496 : Nat) : Int) != 0) = true := by simp; omega
        have e0 := kd_2 hn h2 h1
        clear h1 h2 hl
        go_enter Tryz.func55, Tryz.ntmps55
        go_wp2
        go_ret
        first | exact ⟨ret1 e0.symm, rfl⟩ | exact ⟨rfl, rfl⟩
    · have t1 : (((mg x / 4503599627370496 : Nat) : Int) == 2047) = true := by simp; omega
      have e0 := kd_3 hn (by omega)
      clear h1 hl
      go_enter Tryz.func55, Tryz.ntmps55
      go_wp2
      go_ret
      first | exact ⟨ret1 e0.symm, rfl⟩ | exact ⟨rfl, rfl⟩
  · have h0 := order_nan hn
    have e0 := kd_4 hn
    go_enter Tryz.func55, Tryz.ntmps55
    go_wp2
    go_ret
    first | exact ⟨ret1 e0.symm, rfl⟩ | exact ⟨rfl, rfl⟩
theorem rem_sign (x : Nat) : (x : Int) % 9223372036854775808 = ((mg x : Nat) : Int) := by unfold mg; omega
--{ gridworkref01.Kind

end Qk
end Go.Proofs.YtjoncbfaajcioaaGreatDoor
