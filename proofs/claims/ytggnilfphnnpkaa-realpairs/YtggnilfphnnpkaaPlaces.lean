/-
  What the functions Same, Kind, Place, At and Next of the program's package real, and the same of the given package gridworkref01, hand back, whatever they are called with.
-/
import Derived.Test.YtggnilfphnnpkaaChecked
import Derived.Test.YtggnilfphnnpkaaFl
import Derived.WalkKit
import Derived.WalkLawsBesides
namespace Go.Proofs.Ytggnilfphnnpkaa
open Fl

@[go_sem] theorem run_bits (x : Nat) (w : World) : (callFunc 34 #[.float .f64 x]).run Try.prog w = .ok (.value (.int .u64 (x : Int))) w := by
  rw [run_callFunc_extern Try.func34 (by kernel_rfl) (by kernel_rfl) (by kernel_rfl) (e := Extern.MathFloatBits.float64bits) (by kernel_rfl)]
  rfl
@[go_sem] theorem run_frombits (x : Int) (w : World) : (callFunc 43 #[.int .u64 x]).run Try.prog w = .ok (.value (.float .f64 x.toNat)) w := by
  rw [run_callFunc_extern Try.func43 (by kernel_rfl) (by kernel_rfl) (by kernel_rfl) (e := Extern.MathFloatBits.float64frombits) (by kernel_rfl)]
  rfl

@[go_sem] theorem run_negFloat (b : Nat) (w : World) : (Op.unary UnOp.neg (.float .f64 b)).run Try.prog w = .ok (.float .f64 (Op.negFloat .f64 b)) w := rfl

def plB (x : Nat) : Int := if nan x then 0 else plc x
def inR (p : Int) : Bool := decide (-9218868437227405312 ≤ p ∧ p ≤ 9218868437227405312)
def atB (p : Int) : Nat := if inR p then (if p < 0 then 9223372036854775808 + (-p).toNat else p.toNat) else 0
def smB (a b : Nat) : Bool := if nan a || nan b then nan a && nan b else a == b

theorem and_sign (x : Nat) (hx : x < 18446744073709551616) : bits BinOp.and IntKind.u64 (x : Int) 9223372036854775808 = ((x / 9223372036854775808 % 2 * 9223372036854775808 : Nat) : Int) := by
  have h := u64_and_nat x 9223372036854775808 hx (by omega)
  have h2 := nat_bit 63 x
  rw [show (2 : Nat) ^ 63 = 9223372036854775808 from rfl] at h2
  rw [h2] at h; exact h
theorem andNot_sign (x : Nat) (hx : x < 18446744073709551616) : bits BinOp.andNot IntKind.u64 (x : Int) 9223372036854775808 = ((mg x : Nat) : Int) := by
  have h := u64_andNot_nat x 9223372036854775808 hx (by omega)
  have h2 := Nat.and_two_pow_sub_one_eq_mod x 63
  rw [show (2 : Nat) ^ 63 - 1 = 18446744073709551615 - 9223372036854775808 from rfl, show (2 : Nat) ^ 63 = 9223372036854775808 from rfl] at h2
  rw [h2] at h; exact h
theorem ng_test (x : Nat) (hx : x < 18446744073709551616) : (bits BinOp.and IntKind.u64 (x : Int) 9223372036854775808 != 0) = ng x := by
  rw [and_sign x hx]; unfold ng
  rcases Nat.mod_two_eq_zero_or_one (x / 9223372036854775808) with h | h <;> rw [h] <;> rfl
theorem mg_lt (x : Nat) : mg x < 9223372036854775808 := Nat.mod_lt _ (by omega)

theorem ret2 {a b : Int} {c d : Bool} (h : a = b) (h2 : c = d) : Ending.returned (.tuple #[.int .i64 a, .bool c]) = .returned (.tuple #[.int .i64 b, .bool d]) := by rw [h, h2]

theorem place_any (x : Nat) (w : World) (hx : x < 18446744073709551616) :
    Calls Try.prog 10 #[.float .f64 x] w fun e w' => e = .returned (.tuple #[.int .i64 (plB x), .bool (!nan x)]) ∧ w' = w := by
  cases hn : nan x
  · have h0 := order_num hn
    have hs := ng_test x hx
    have ha := andNot_sign x hx
    have hm := mg_lt x
    go_enter Try.func10, Try.ntmps10
    go_wp2
    all_goals go_ret2
    all_goals refine ⟨ret2 ?_ rfl, rfl⟩
    all_goals simp only [plB, plc, sgn, hn, ‹ng x = _›]
    all_goals simp
  · have h0 := order_nan hn
    go_enter Try.func10, Try.ntmps10
    go_wp2
    go_ret2
    exact ⟨ret2 (by simp [plB, hn]) rfl, rfl⟩

theorem plc_zero : plc 0 = 0 := by decide
theorem nan_zero : nan 0 = false := by decide
theorem rplace_any (x : Nat) (w : World) (hx : x < 18446744073709551616) :
    Calls Try.prog 11 #[.float .f64 x] w fun e w' => e = .returned (.tuple #[.int .i64 (plB x), .bool (!nan x)]) ∧ w' = w := by
  cases hn : nan x
  · have h0 := order_num hn
    have hz := order_lt hn nan_zero
    rw [plc_zero] at hz
    go_enter Try.func11, Try.ntmps11
    go_wp2
    all_goals go_ret2
    all_goals refine ⟨ret2 ?_ rfl, rfl⟩
    all_goals (have hp : plB x = plc x := by simp [plB, hn]) <;> rw [hp] <;> have hq : plc x < 0 ∨ ¬ plc x < 0 := Decidable.em _
    all_goals unfold plc sgn at *
    all_goals (have hm : ((mg x : Nat) : Int) = (x : Int) % 9223372036854775808 := by unfold mg; omega)
    all_goals cases hg : ng x <;> simp only [hg, if_true, if_false, Bool.false_eq_true] at * <;> omega
  · have h0 := order_nan hn
    go_enter Try.func11, Try.ntmps11
    go_wp2
    go_ret2
    exact ⟨ret2 (by simp [plB, hn]) rfl, rfl⟩
theorem ret2f {a b : Nat} {c d : Bool} (h : a = b) (h2 : c = d) : Ending.returned (.tuple #[.float .f64 a, .bool c]) = .returned (.tuple #[.float .f64 b, .bool d]) := by rw [h, h2]
theorem or_sign (n : Nat) (h : n < 9223372036854775808) : (bits BinOp.or IntKind.u64 (n : Int) 9223372036854775808).toNat = 9223372036854775808 + n := by
  have h1 := u64_or_nat n 9223372036854775808 (by omega) (by omega)
  have h2 := nat_join 63 9223372036854775808 n (by decide) (by omega)
  rw [Nat.or_comm] at h2; rw [h2] at h1
  rw [show bits BinOp.or IntKind.u64 (n : Int) 9223372036854775808 = _ from h1]; rfl
theorem at_out {p : Int} (h : p < -9218868437227405312 ∨ 9218868437227405312 < p) : atB p = 0 ∧ inR p = false := by
  have h1 : inR p = false := by unfold inR; simp; omega
  exact ⟨by unfold atB; rw [h1]; rfl, h1⟩
theorem at_neg {p : Int} (h : -9218868437227405312 ≤ p) (h2 : p < 0) : atB p = 9223372036854775808 + (-p).toNat ∧ inR p = true := by
  have h1 : inR p = true := by unfold inR; simp; omega
  exact ⟨by unfold atB; rw [h1, if_pos rfl, if_pos h2], h1⟩
theorem at_pos {p : Int} (h : 0 ≤ p) (h2 : p ≤ 9218868437227405312) : atB p = p.toNat ∧ inR p = true := by
  have h1 : inR p = true := by unfold inR; simp; omega
  exact ⟨by unfold atB; rw [h1, if_pos rfl, if_neg (by omega)], h1⟩
theorem at_any (p : Int) (w : World) :
    Calls Try.prog 12 #[.int .i64 p] w fun e w' => e = .returned (.tuple #[.float .f64 (atB p), .bool (inR p)]) ∧ w' = w := by
  by_cases h1 : p < -9218868437227405312
  · go_enter Try.func12, Try.ntmps12
    go_wp2
    go_ret2
    exact ⟨ret2f (at_out (Or.inl h1)).1.symm (at_out (Or.inl h1)).2.symm, rfl⟩
  · by_cases h2 : 9218868437227405312 < p
    · go_enter Try.func12, Try.ntmps12
      go_wp2
      go_ret2
      exact ⟨ret2f (at_out (Or.inr h2)).1.symm (at_out (Or.inr h2)).2.symm, rfl⟩
    · by_cases h3 : p < 0
      · have hor := or_sign (-p).toNat (by omega)
        rw [Int.toNat_of_nonneg (by omega)] at hor
        go_enter Try.func12, Try.ntmps12
        go_wp2
        go_ret2
        exact ⟨ret2f (by rw [(at_neg (by omega) h3).1]) (at_neg (by omega) h3).2.symm, rfl⟩
      · go_enter Try.func12, Try.ntmps12
        go_wp2
        go_ret2
        exact ⟨ret2f (at_pos (by omega) (by omega)).1.symm (at_pos (by omega) (by omega)).2.symm, rfl⟩
theorem rat_any (p : Int) (w : World) :
    Calls Try.prog 13 #[.int .i64 p] w fun e w' => e = .returned (.tuple #[.float .f64 (atB p), .bool (inR p)]) ∧ w' = w := by
  by_cases h1 : p < -9218868437227405312
  · go_enter Try.func13, Try.ntmps13
    go_wp2
    go_ret2
    exact ⟨ret2f (at_out (Or.inl h1)).1.symm (at_out (Or.inl h1)).2.symm, rfl⟩
  · by_cases h2 : 9218868437227405312 < p
    · go_enter Try.func13, Try.ntmps13
      go_wp2
      go_ret2
      exact ⟨ret2f (at_out (Or.inr h2)).1.symm (at_out (Or.inr h2)).2.symm, rfl⟩
    · by_cases h3 : p < 0
      · have hor := neg_of_pos (b := (-p).toNat) (by omega)
        go_enter Try.func13, Try.ntmps13
        go_wp2
        go_ret2
        exact ⟨ret2f (by rw [(at_neg (by omega) h3).1]; exact Nat.add_comm _ _) (at_neg (by omega) h3).2.symm, rfl⟩
      · go_enter Try.func13, Try.ntmps13
        go_wp2
        go_ret2
        exact ⟨ret2f (at_pos (by omega) (by omega)).1.symm (at_pos (by omega) (by omega)).2.symm, rfl⟩
theorem natCast_beq (a b : Nat) : ((a : Int) == (b : Int)) = (a == b) := by rw [Bool.eq_iff_iff]; simp; omega
theorem retb {a b : Bool} (h : a = b) : Ending.returned (.bool a) = .returned (.bool b) := by rw [h]
theorem same_any (a b : Nat) (w : World) :
    Calls Try.prog 17 #[.float .f64 a, .float .f64 b] w fun e w' => e = .returned (.bool (smB a b)) ∧ w' = w := by
  cases ha : nan a <;> cases hb : nan b
  all_goals
    first | (have h1 := order_num ha) | (have h1 := order_nan ha)
    first | (have h2 := order_num hb) | (have h2 := order_nan hb)
    go_enter Try.func17, Try.ntmps17
    go_wp2
    go_ret
    refine ⟨retb ?_, rfl⟩
    simp [smB, ha, hb]
    try exact natCast_beq a b
theorem rsame_any (a b : Nat) (w : World) :
    Calls Try.prog 14 #[.float .f64 a, .float .f64 b] w fun e w' => e = .returned (.bool (smB a b)) ∧ w' = w := by
  cases ha : nan a <;> cases hb : nan b
  all_goals
    first | (have h1 := order_num ha) | (have h1 := order_nan ha)
    first | (have h2 := order_num hb) | (have h2 := order_nan hb)
    go_enter Try.func14, Try.ntmps14
    go_wp2
    go_ret
    refine ⟨retb ?_, rfl⟩
    simp [smB, ha, hb]
    try exact natCast_beq a b
def kdB (x : Nat) : Int := if nan x then 4 else if mg x = 9218868437227405312 then 3 else if 4503599627370496 ≤ mg x then 2 else if 0 < mg x then 1 else 0
theorem and_pow (x : Nat) (hx : x < 18446744073709551616) : bits BinOp.and IntKind.u64 ((x : Int) / 4503599627370496) 2047 = ((mg x / 4503599627370496 : Nat) : Int) := by
  have h := u64_and_nat (x / 4503599627370496) 2047 (by omega) (by omega)
  rw [nat_mask11] at h
  have e : x / 4503599627370496 % 2048 = mg x / 4503599627370496 := by unfold mg; omega
  rw [e] at h; rw [← h]; congr 1
theorem and_frac (x : Nat) (hx : x < 18446744073709551616) : bits BinOp.and IntKind.u64 (x : Int) 4503599627370495 = ((mg x % 4503599627370496 : Nat) : Int) := by
  have h := u64_and_nat x 4503599627370495 hx (by omega)
  have h2 := Nat.and_two_pow_sub_one_eq_mod x 52
  rw [show (2 : Nat) ^ 52 - 1 = 4503599627370495 from rfl, show (2 : Nat) ^ 52 = 4503599627370496 from rfl] at h2
  rw [h2] at h
  have e : x % 4503599627370496 = mg x % 4503599627370496 := by unfold mg; omega
  rw [e] at h; exact h
theorem kd_4 {x : Nat} (h : nan x = true) : kdB x = 4 := by unfold kdB; rw [h]; rfl
theorem kd_3 {x : Nat} (hn : nan x = false) (h : mg x = 9218868437227405312) : kdB x = 3 := by unfold kdB; rw [hn, if_neg (by simp), if_pos h]
theorem kd_2 {x : Nat} (hn : nan x = false) (h : 4503599627370496 ≤ mg x) (h2 : mg x < 9218868437227405312) : kdB x = 2 := by unfold kdB; rw [hn, if_neg (by simp), if_neg (by omega), if_pos h]
theorem kd_1 {x : Nat} (hn : nan x = false) (h : 0 < mg x) (h2 : mg x < 4503599627370496) : kdB x = 1 := by unfold kdB; rw [hn, if_neg (by simp), if_neg (by omega), if_neg (by omega), if_pos h]
theorem kd_0 {x : Nat} (hn : nan x = false) (h : mg x = 0) : kdB x = 0 := by unfold kdB; rw [hn, if_neg (by simp), if_neg (by omega), if_neg (by omega), if_neg (by omega)]
theorem ret1 {a b : Int} (h : a = b) : Ending.returned (.int .i64 a) = .returned (.int .i64 b) := by rw [h]
theorem not_nan {x : Nat} (h : nan x = false) : mg x ≤ 9218868437227405312 := by unfold nan at h; simp at h; exact h
theorem is_nan {x : Nat} (h : nan x = true) : 9218868437227405312 < mg x := by unfold nan at h; simp at h; exact h
theorem kind_any (x : Nat) (w : World) (hx : x < 18446744073709551616) :
    Calls Try.prog 15 #[.float .f64 x] w fun e w' => e = .returned (.int .i64 (kdB x)) ∧ w' = w := by
  have hp := and_pow x hx
  have hf := and_frac x hx
  cases hn : nan x
  · have h0 := order_num hn
    have hl := not_nan hn
    rcases Nat.lt_or_ge (mg x) 9218868437227405312 with h1 | h1
    · rcases Nat.lt_or_ge (mg x) 4503599627370496 with h2 | h2
      · rcases Nat.eq_zero_or_pos (mg x) with h3 | h3
        · have t1 : (((mg x / 4503599627370496 : Nat) : Int) == 2047) = false := by simp; omega
          have t2 : (((mg x / 4503599627370496 : Nat) : Int) != 0) = false := by simp; omega
          have t3 : (((mg x % 4503599627370496 : Nat) : Int) != 0) = false := by simp; omega
          have e0 := kd_0 hn h3
          clear h1 h2 h3 hl
          go_enter Try.func15, Try.ntmps15
          go_wp2
          go_ret
          first | exact ⟨ret1 e0.symm, rfl⟩ | exact ⟨rfl, rfl⟩
        · have t1 : (((mg x / 4503599627370496 : Nat) : Int) == 2047) = false := by simp; omega
          have t2 : (((mg x / 4503599627370496 : Nat) : Int) != 0) = false := by simp; omega
          have t3 : (((mg x % 4503599627370496 : Nat) : Int) != 0) = true := by simp; omega
          have e0 := kd_1 hn h3 h2
          clear h1 h2 h3 hl
          go_enter Try.func15, Try.ntmps15
          go_wp2
          go_ret
          first | exact ⟨ret1 e0.symm, rfl⟩ | exact ⟨rfl, rfl⟩
      · have t1 : (((mg x / 4503599627370496 : Nat) : Int) == 2047) = false := by simp; omega
        have t2 : (((mg x / 4503599627370496 : Nat) : Int) != 0) = true := by simp; omega
        have e0 := kd_2 hn h2 h1
        clear h1 h2 hl
        go_enter Try.func15, Try.ntmps15
        go_wp2
        go_ret
        first | exact ⟨ret1 e0.symm, rfl⟩ | exact ⟨rfl, rfl⟩
    · have t1 : (((mg x / 4503599627370496 : Nat) : Int) == 2047) = true := by simp; omega
      have e0 := kd_3 hn (by omega)
      clear h1 hl
      go_enter Try.func15, Try.ntmps15
      go_wp2
      go_ret
      first | exact ⟨ret1 e0.symm, rfl⟩ | exact ⟨rfl, rfl⟩
  · have h0 := order_nan hn
    have e0 := kd_4 hn
    go_enter Try.func15, Try.ntmps15
    go_wp2
    go_ret
    first | exact ⟨ret1 e0.symm, rfl⟩ | exact ⟨rfl, rfl⟩
theorem rem_sign (x : Nat) : (x : Int) % 9223372036854775808 = ((mg x : Nat) : Int) := by unfold mg; omega
set_option maxRecDepth 100000 in
theorem rkind_any (x : Nat) (w : World) :
    Calls Try.prog 16 #[.float .f64 x] w fun e w' => e = .returned (.int .i64 (kdB x)) ∧ w' = w := by
  have hr := rem_sign x
  have hl := mg_lt x
  cases hn : nan x
  · have hl := not_nan hn
    rcases Nat.lt_or_ge (mg x) 9218868437227405312 with h1 | h1
    · rcases Nat.lt_or_ge (mg x) 4503599627370496 with h2 | h2
      · rcases Nat.eq_zero_or_pos (mg x) with h3 | h3
        · have e0 := kd_0 hn h3
          have t1 : (((mg x : Nat) : Int) == 0) = true := by simp; omega
          clear h1 h2 h3 hl
          go_enter Try.func16, Try.ntmps16
          go_wp2
          go_ret
          first | exact ⟨ret1 e0.symm, rfl⟩ | exact ⟨rfl, rfl⟩
        · have e0 := kd_1 hn h3 h2
          have t1 : (((mg x : Nat) : Int) == 0) = false := by simp; omega
          have t2 : ((mg x : Nat) : Int) < 4503599627370496 := by omega
          clear h1 h2 h3 hl
          go_enter Try.func16, Try.ntmps16
          go_wp2
          go_ret
          first | exact ⟨ret1 e0.symm, rfl⟩ | exact ⟨rfl, rfl⟩
      · have e0 := kd_2 hn h2 h1
        have t1 : (((mg x : Nat) : Int) == 0) = false := by simp; omega
        have t2 : ¬ ((mg x : Nat) : Int) < 4503599627370496 := by omega
        have t3 : ((mg x : Nat) : Int) < 9218868437227405312 := by omega
        clear h1 h2 hl
        go_enter Try.func16, Try.ntmps16
        go_wp2
        go_ret
        first | exact ⟨ret1 e0.symm, rfl⟩ | exact ⟨rfl, rfl⟩
    · have e0 := kd_3 hn (by omega)
      have t1 : (((mg x : Nat) : Int) == 0) = false := by simp; omega
      have t2 : ¬ ((mg x : Nat) : Int) < 4503599627370496 := by omega
      have t3 : ¬ ((mg x : Nat) : Int) < 9218868437227405312 := by omega
      have t4 : (((mg x : Nat) : Int) == 9218868437227405312) = true := by simp; omega
      clear h1 hl
      go_enter Try.func16, Try.ntmps16
      go_wp2
      go_ret
      first | exact ⟨ret1 e0.symm, rfl⟩ | exact ⟨rfl, rfl⟩
  · have h1 := is_nan hn
    have e0 := kd_4 hn
    have t1 : (((mg x : Nat) : Int) == 0) = false := by simp; omega
    have t2 : ¬ ((mg x : Nat) : Int) < 4503599627370496 := by omega
    have t3 : ¬ ((mg x : Nat) : Int) < 9218868437227405312 := by omega
    have t4 : (((mg x : Nat) : Int) == 9218868437227405312) = false := by simp; omega
    clear h1
    go_enter Try.func16, Try.ntmps16
    go_wp2
    go_ret
    first | exact ⟨ret1 e0.symm, rfl⟩ | exact ⟨rfl, rfl⟩
def nxB (x : Nat) (up : Bool) : Nat := if nan x then x else if inR (if up then plc x + 1 else plc x - 1) then atB (if up then plc x + 1 else plc x - 1) else x
theorem retf {a b : Nat} (h : a = b) : Ending.returned (.float .f64 a) = .returned (.float .f64 b) := by rw [h]
theorem plc_bd {x : Nat} (h : nan x = false) : -9218868437227405312 ≤ plc x ∧ plc x ≤ 9218868437227405312 := by
  have := not_nan h; unfold plc sgn; split <;> omega
theorem nx_nan {x : Nat} (h : nan x = true) (up : Bool) : nxB x up = x := by unfold nxB; rw [h]; rfl
theorem nx_in {x : Nat} (h : nan x = false) (up : Bool) {p : Int} (hp : (if up then plc x + 1 else plc x - 1) = p) (hi : inR p = true) : nxB x up = atB p := by
  unfold nxB; rw [h, hp, hi]; rfl
theorem nx_out {x : Nat} (h : nan x = false) (up : Bool) {p : Int} (hp : (if up then plc x + 1 else plc x - 1) = p) (hi : inR p = false) : nxB x up = x := by
  unfold nxB; rw [h, hp, hi]; rfl
theorem next_any (x : Nat) (up : Bool) (w : World) (hx : x < 18446744073709551616) :
    Calls Try.prog 18 #[.float .f64 x, .bool up] w fun e w' => e = .returned (.float .f64 (nxB x up)) ∧ w' = w := by
  cases hn : nan x
  · obtain ⟨b1, b2⟩ := plc_bd hn
    have hpl : plB x = plc x := by simp [plB, hn]
    cases up
    · cases hi : inR (plc x - 1)
      · go_enter Try.func18, Try.ntmps18
        go_wp2_with (first | (go_at_call 10; refine (place_any _ _ hx).mono ?_; rintro e w' ⟨rfl, rfl⟩) | (go_at_call 12; refine (at_any _ _).mono ?_; rintro e w' ⟨rfl, rfl⟩))
        go_ret
        exact ⟨retf (nx_out hn false rfl hi).symm, rfl⟩
      · go_enter Try.func18, Try.ntmps18
        go_wp2_with (first | (go_at_call 10; refine (place_any _ _ hx).mono ?_; rintro e w' ⟨rfl, rfl⟩) | (go_at_call 12; refine (at_any _ _).mono ?_; rintro e w' ⟨rfl, rfl⟩))
        go_ret
        exact ⟨retf (nx_in hn false rfl hi).symm, rfl⟩
    · cases hi : inR (plc x + 1)
      · go_enter Try.func18, Try.ntmps18
        go_wp2_with (first | (go_at_call 10; refine (place_any _ _ hx).mono ?_; rintro e w' ⟨rfl, rfl⟩) | (go_at_call 12; refine (at_any _ _).mono ?_; rintro e w' ⟨rfl, rfl⟩))
        go_ret
        exact ⟨retf (nx_out hn true rfl hi).symm, rfl⟩
      · go_enter Try.func18, Try.ntmps18
        go_wp2_with (first | (go_at_call 10; refine (place_any _ _ hx).mono ?_; rintro e w' ⟨rfl, rfl⟩) | (go_at_call 12; refine (at_any _ _).mono ?_; rintro e w' ⟨rfl, rfl⟩))
        go_ret
        exact ⟨retf (nx_in hn true rfl hi).symm, rfl⟩
  · go_enter Try.func18, Try.ntmps18
    go_wp2_with (first | (go_at_call 10; refine (place_any _ _ hx).mono ?_; rintro e w' ⟨rfl, rfl⟩) | (go_at_call 12; refine (at_any _ _).mono ?_; rintro e w' ⟨rfl, rfl⟩))
    go_ret
    exact ⟨retf (nx_nan hn up).symm, rfl⟩
theorem in_yes {p : Int} (h : -9218868437227405312 ≤ p) (h2 : p ≤ 9218868437227405312) : inR p = true := by unfold inR; simp [h, h2]
theorem in_no {p : Int} (h : p < -9218868437227405312 ∨ 9218868437227405312 < p) : inR p = false := by unfold inR; simp; omega
theorem rnext_any (x : Nat) (up : Bool) (w : World) (hx : x < 18446744073709551616) :
    Calls Try.prog 19 #[.float .f64 x, .bool up] w fun e w' => e = .returned (.float .f64 (nxB x up)) ∧ w' = w := by
  cases hn : nan x
  · obtain ⟨b1, b2⟩ := plc_bd hn
    have hpl : plB x = plc x := by simp [plB, hn]
    cases up
    · by_cases hi : plc x = -9218868437227405312
      · have ht : (plc x == -9218868437227405312) = true := by simp [hi]
        have e0 := nx_out hn false rfl (in_no (by simp [hi]))
        clear hi
        go_enter Try.func19, Try.ntmps19
        go_wp2_with (first | (go_at_call 11; refine (rplace_any _ _ hx).mono ?_; rintro e w' ⟨rfl, rfl⟩) | (go_at_call 13; refine (rat_any _ _).mono ?_; rintro e w' ⟨rfl, rfl⟩))
        go_ret
        exact ⟨retf e0.symm, rfl⟩
      · have ht : (plc x == -9218868437227405312) = false := by simp [hi]
        have e0 := nx_in hn false rfl (in_yes (by simp; omega) (by simp; omega))
        have b3 : -9218868437227405312 < plc x := by omega
        clear hi
        go_enter Try.func19, Try.ntmps19
        go_wp2_with (first | (go_at_call 11; refine (rplace_any _ _ hx).mono ?_; rintro e w' ⟨rfl, rfl⟩) | (go_at_call 13; refine (rat_any _ _).mono ?_; rintro e w' ⟨rfl, rfl⟩))
        go_ret
        exact ⟨retf e0.symm, rfl⟩
    · by_cases hi : plc x = 9218868437227405312
      · have ht : (plc x == 9218868437227405312) = true := by simp [hi]
        have e0 := nx_out hn true rfl (in_no (by simp [hi]))
        clear hi
        go_enter Try.func19, Try.ntmps19
        go_wp2_with (first | (go_at_call 11; refine (rplace_any _ _ hx).mono ?_; rintro e w' ⟨rfl, rfl⟩) | (go_at_call 13; refine (rat_any _ _).mono ?_; rintro e w' ⟨rfl, rfl⟩))
        go_ret
        exact ⟨retf e0.symm, rfl⟩
      · have ht : (plc x == 9218868437227405312) = false := by simp [hi]
        have e0 := nx_in hn true rfl (in_yes (by simp; omega) (by simp; omega))
        have b3 : plc x < 9218868437227405312 := by omega
        clear hi
        go_enter Try.func19, Try.ntmps19
        go_wp2_with (first | (go_at_call 11; refine (rplace_any _ _ hx).mono ?_; rintro e w' ⟨rfl, rfl⟩) | (go_at_call 13; refine (rat_any _ _).mono ?_; rintro e w' ⟨rfl, rfl⟩))
        go_ret
        exact ⟨retf e0.symm, rfl⟩
  · have e0 := nx_nan hn up
    go_enter Try.func19, Try.ntmps19
    go_wp2_with (first | (go_at_call 11; refine (rplace_any _ _ hx).mono ?_; rintro e w' ⟨rfl, rfl⟩) | (go_at_call 13; refine (rat_any _ _).mono ?_; rintro e w' ⟨rfl, rfl⟩))
    go_ret
    exact ⟨retf e0.symm, rfl⟩
end Go.Proofs.Ytggnilfphnnpkaa
