/-
  What the functions Same, Kind, Place, At and Next of the program's package real, and the same of the given package gridworkref01, hand back, whatever they are called with.
-/
import Derived.Test.YtcakfclfggnmbaaChecked
import Derived.Test.YtcakfclfggnmbaaLdt
import Derived.Test.YtcakfclfggnmbaaPf
import Derived.WalkKit
import Derived.WalkLawsBesides
namespace Go.Proofs.Ytcakfclfggnmbaa
open Fl

def plB (x : Nat) : Int := if nan x then 0 else plc x
def inR (p : Int) : Bool := decide (-9218868437227405312 ≤ p ∧ p ≤ 9218868437227405312)
def atB (p : Int) : Nat := if inR p then (if p < 0 then 9223372036854775808 + (-p).toNat else p.toNat) else 0

theorem ng_test (x : Nat) (hx : x < 18446744073709551616) : (bits BinOp.and IntKind.u64 (x : Int) 9223372036854775808 != 0) = ng x := by
  rw [and_sign x hx]; unfold ng
  rcases Nat.mod_two_eq_zero_or_one (x / 9223372036854775808) with h | h <;> rw [h] <;> rfl
theorem mg_lt (x : Nat) : mg x < 9223372036854775808 := Nat.mod_lt _ (by omega)

theorem ret2 {a b : Int} {c d : Bool} (h : a = b) (h2 : c = d) : Ending.returned (.tuple #[.int .i64 a, .bool c]) = .returned (.tuple #[.int .i64 b, .bool d]) := by rw [h, h2]

theorem ret2f {a b : Nat} {c d : Bool} (h : a = b) (h2 : c = d) : Ending.returned (.tuple #[.float .f64 a, .bool c]) = .returned (.tuple #[.float .f64 b, .bool d]) := by rw [h, h2]
theorem or_sign (n : Nat) (h : n < 9223372036854775808) : (bits BinOp.or IntKind.u64 (n : Int) 9223372036854775808).toNat = 9223372036854775808 + n := by
  have h1 := u64_or_nat n 9223372036854775808 (by omega) (by omega)
  have h2 := nat_join 63 9223372036854775808 n (by decide) (by omega)
  rw [Nat.or_comm] at h2; rw [h2] at h1
  rw [show bits BinOp.or IntKind.u64 (n : Int) 9223372036854775808 = _ from h1]; rfl
theorem at_out {p : Int} (h : p < -9218868437227405312 ∨ 9218868437227405312 < p) : atB p = 0 ∧ inR p = false := by
  have h1 : inR p = false := by unfold inR; simp; omega
  exact ⟨by unfold atB; rw [h1]; rfl, h1⟩
theorem at_neg {p : Int} (h : -9218868437227405312 ≤ p) (h2 : p < 0) : atB p = 9223372036854775808 + (-p).toNat ∧ inR p = true := by
  have h1 : inR p = true := by unfold inR; simp; omega
  exact ⟨by unfold atB; rw [h1, if_pos rfl, if_pos h2], h1⟩
theorem at_pos {p : Int} (h : 0 ≤ p) (h2 : p ≤ 9218868437227405312) : atB p = p.toNat ∧ inR p = true := by
  have h1 : inR p = true := by unfold inR; simp; omega
  exact ⟨by unfold atB; rw [h1, if_pos rfl, if_neg (by omega)], h1⟩
def kdB (x : Nat) : Int := if nan x then 4 else if mg x = 9218868437227405312 then 3 else if 4503599627370496 ≤ mg x then 2 else if 0 < mg x then 1 else 0
theorem and_pow (x : Nat) (hx : x < 18446744073709551616) : bits BinOp.and IntKind.u64 ((x : Int) / 4503599627370496) 2047 = ((mg x / 4503599627370496 : Nat) : Int) := by
  have h := u64_and_nat (x / 4503599627370496) 2047 (by omega) (by omega)
  rw [nat_mask11] at h
  have e : x / 4503599627370496 % 2048 = mg x / 4503599627370496 := by unfold mg; omega
  rw [e] at h; rw [← h]; congr 1
theorem and_frac (x : Nat) (hx : x < 18446744073709551616) : bits BinOp.and IntKind.u64 (x : Int) 4503599627370495 = ((mg x % 4503599627370496 : Nat) : Int) := by
  have h := u64_and_nat x 4503599627370495 hx (by omega)
  have h2 := Nat.and_two_pow_sub_one_eq_mod x 52
  rw [show (2 : Nat) ^ 52 - 1 = 4503599627370495 from rfl, show (2 : Nat) ^ 52 = 4503599627370496 from rfl] at h2
  rw [h2] at h
  have e : x % 4503599627370496 = mg x % 4503599627370496 := by unfold mg; omega
  rw [e] at h; exact h
theorem kd_4 {x : Nat} (h : nan x = true) : kdB x = 4 := by unfold kdB; rw [h]; rfl
theorem kd_3 {x : Nat} (hn : nan x = false) (h : mg x = 9218868437227405312) : kdB x = 3 := by unfold kdB; rw [hn, if_neg (by simp), if_pos h]
theorem kd_2 {x : Nat} (hn : nan x = false) (h : 4503599627370496 ≤ mg x) (h2 : mg x < 9218868437227405312) : kdB x = 2 := by unfold kdB; rw [hn, if_neg (by simp), if_neg (by omega), if_pos h]
theorem kd_1 {x : Nat} (hn : nan x = false) (h : 0 < mg x) (h2 : mg x < 4503599627370496) : kdB x = 1 := by unfold kdB; rw [hn, if_neg (by simp), if_neg (by omega), if_neg (by omega), if_pos h]
theorem kd_0 {x : Nat} (hn : nan x = false) (h : mg x = 0) : kdB x = 0 := by unfold kdB; rw [hn, if_neg (by simp), if_neg (by omega), if_neg (by omega), if_neg (by omega)]
theorem ret1 {a b : Int} (h : a = b) : Ending.returned (.int .i64 a) = .returned (.int .i64 b) := by rw [h]
theorem not_nan {x : Nat} (h : nan x = false) : mg x ≤ 9218868437227405312 := by unfold nan at h; simp at h; exact h
theorem is_nan {x : Nat} (h : nan x = true) : 9218868437227405312 < mg x := by unfold nan at h; simp at h; exact h
theorem kind_any (x : Nat) (w : World) (hx : x < 18446744073709551616) :
    Calls Try.prog 69 #[.float .f64 x] w fun e w' => e = .returned (.int .i64 (kdB x)) ∧ w' = w := by
  have hp := and_pow x hx
  have hf := and_frac x hx
  cases hn : nan x
  · have h0 := order_num hn
    have hl := not_nan hn
    rcases Nat.lt_or_ge (mg x) 9218868437227405312 with h1 | h1
    · rcases Nat.lt_or_ge (mg x) 4503599627370496 with h2 | h2
      · rcases Nat.eq_zero_or_pos (mg x) with h3 | h3
        · have t1 : (((mg x / 4503599627370496 : Nat) : Int) == 2047) = false := by simp; omega
          have t2 : (((mg x / 4503599627370496 : Nat) : Int) != 0) = false := by simp; omega
          have t3 : (((mg x % 4503599627370496 : Nat) : Int) != 0) = false := by simp; omega
          have e0 := kd_0 hn h3
          clear h1 h2 h3 hl
          go_enter Try.func69, Try.ntmps69
          go_wp2
          go_ret
          first | exact ⟨ret1 e0.symm, rfl⟩ | exact ⟨rfl, rfl⟩
        · have t1 : (((mg x / 4503599627370496 : Nat) : Int) == 2047) = false := by simp; omega
          have t2 : (((mg x / 4503599627370496 : Nat) : Int) != 0) = false := by simp; omega
          have t3 : (((mg x % 4503599627370496 : Nat) : Int) != 0) = true := by simp; omega
          have e0 := kd_1 hn h3 h2
          clear h1 h2 h3 hl
          go_enter Try.func69, Try.ntmps69
          go_wp2
          go_ret
          first | exact ⟨ret1 e0.symm, rfl⟩ | exact ⟨rfl, rfl⟩
      · have t1 : (((mg x / 4503599627370496 : Nat) : Int) == 2047) = false := by simp; omega
        have t2 : (((mg x / 4503599627370496 : Nat) : Int) != 0) = true := by simp; omega
        have e0 := kd_2 hn h2 h1
        clear h1 h2 hl
        go_enter Try.func69, Try.ntmps69
        go_wp2
        go_ret
        first | exact ⟨ret1 e0.symm, rfl⟩ | exact ⟨rfl, rfl⟩
    · have t1 : (((mg x / 4503599627370496 : Nat) : Int) == 2047) = true := by simp; omega
      have e0 := kd_3 hn (by omega)
      clear h1 hl
      go_enter Try.func69, Try.ntmps69
      go_wp2
      go_ret
      first | exact ⟨ret1 e0.symm, rfl⟩ | exact ⟨rfl, rfl⟩
  · have h0 := order_nan hn
    have e0 := kd_4 hn
    go_enter Try.func69, Try.ntmps69
    go_wp2
    go_ret
    first | exact ⟨ret1 e0.symm, rfl⟩ | exact ⟨rfl, rfl⟩
theorem rem_sign (x : Nat) : (x : Int) % 9223372036854775808 = ((mg x : Nat) : Int) := by unfold mg; omega
set_option maxRecDepth 100000 in
theorem rkind_any (x : Nat) (w : World) :
    Calls Try.prog 75 #[.float .f64 x] w fun e w' => e = .returned (.int .i64 (kdB x)) ∧ w' = w := by
  have hr := rem_sign x
  have hl := mg_lt x
  cases hn : nan x
  · have hl := not_nan hn
    rcases Nat.lt_or_ge (mg x) 9218868437227405312 with h1 | h1
    · rcases Nat.lt_or_ge (mg x) 4503599627370496 with h2 | h2
      · rcases Nat.eq_zero_or_pos (mg x) with h3 | h3
        · have e0 := kd_0 hn h3
          have t1 : (((mg x : Nat) : Int) == 0) = true := by simp; omega
          clear h1 h2 h3 hl
          go_enter Try.func75, Try.ntmps75
          go_wp2
          go_ret
          first | exact ⟨ret1 e0.symm, rfl⟩ | exact ⟨rfl, rfl⟩
        · have e0 := kd_1 hn h3 h2
          have t1 : (((mg x : Nat) : Int) == 0) = false := by simp; omega
          have t2 : ((mg x : Nat) : Int) < 4503599627370496 := by omega
          clear h1 h2 h3 hl
          go_enter Try.func75, Try.ntmps75
          go_wp2
          go_ret
          first | exact ⟨ret1 e0.symm, rfl⟩ | exact ⟨rfl, rfl⟩
      · have e0 := kd_2 hn h2 h1
        have t1 : (((mg x : Nat) : Int) == 0) = false := by simp; omega
        have t2 : ¬ ((mg x : Nat) : Int) < 4503599627370496 := by omega
        have t3 : ((mg x : Nat) : Int) < 9218868437227405312 := by omega
        clear h1 h2 hl
        go_enter Try.func75, Try.ntmps75
        go_wp2
        go_ret
        first | exact ⟨ret1 e0.symm, rfl⟩ | exact ⟨rfl, rfl⟩
    · have e0 := kd_3 hn (by omega)
      have t1 : (((mg x : Nat) : Int) == 0) = false := by simp; omega
      have t2 : ¬ ((mg x : Nat) : Int) < 4503599627370496 := by omega
      have t3 : ¬ ((mg x : Nat) : Int) < 9218868437227405312 := by omega
      have t4 : (((mg x : Nat) : Int) == 9218868437227405312) = true := by simp; omega
      clear h1 hl
      go_enter Try.func75, Try.ntmps75
      go_wp2
      go_ret
      first | exact ⟨ret1 e0.symm, rfl⟩ | exact ⟨rfl, rfl⟩
  · have h1 := is_nan hn
    have e0 := kd_4 hn
    have t1 : (((mg x : Nat) : Int) == 0) = false := by simp; omega
    have t2 : ¬ ((mg x : Nat) : Int) < 4503599627370496 := by omega
    have t3 : ¬ ((mg x : Nat) : Int) < 9218868437227405312 := by omega
    have t4 : (((mg x : Nat) : Int) == 9218868437227405312) = false := by simp; omega
    clear h1
    go_enter Try.func75, Try.ntmps75
    go_wp2
    go_ret
    first | exact ⟨ret1 e0.symm, rfl⟩ | exact ⟨rfl, rfl⟩
def nxB (x : Nat) (up : Bool) : Nat := if nan x then x else if inR (if up then plc x + 1 else plc x - 1) then atB (if up then plc x + 1 else plc x - 1) else x
theorem plc_bd {x : Nat} (h : nan x = false) : -9218868437227405312 ≤ plc x ∧ plc x ≤ 9218868437227405312 := by
  have := not_nan h; unfold plc sgn; split <;> omega
theorem nx_nan {x : Nat} (h : nan x = true) (up : Bool) : nxB x up = x := by unfold nxB; rw [h]; rfl
theorem nx_in {x : Nat} (h : nan x = false) (up : Bool) {p : Int} (hp : (if up then plc x + 1 else plc x - 1) = p) (hi : inR p = true) : nxB x up = atB p := by
  unfold nxB; rw [h, hp, hi]; rfl
theorem nx_out {x : Nat} (h : nan x = false) (up : Bool) {p : Int} (hp : (if up then plc x + 1 else plc x - 1) = p) (hi : inR p = false) : nxB x up = x := by
  unfold nxB; rw [h, hp, hi]; rfl
theorem in_yes {p : Int} (h : -9218868437227405312 ≤ p) (h2 : p ≤ 9218868437227405312) : inR p = true := by unfold inR; simp [h, h2]
theorem in_no {p : Int} (h : p < -9218868437227405312 ∨ 9218868437227405312 < p) : inR p = false := by unfold inR; simp; omega
end Go.Proofs.Ytcakfclfggnmbaa
