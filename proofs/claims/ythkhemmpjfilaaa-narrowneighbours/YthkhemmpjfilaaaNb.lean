/-
  The bits of a narrow real and the narrow real of bits; the small functions of package narrow, gridworkref03 and gridworkkit that look at bits.
-/
import Derived.Test.YthkhemmpjfilaaaChecked
import Derived.Test.YthkhemmpjfilaaaFs
import Derived.WalkKit
import Derived.WalkLawsBesides
namespace Go.Proofs.Ythkhemmpjfilaaa

@[go_sem] theorem run_bits32 (x : Nat) (w : World) : (callFunc 108 #[.float .f32 x]).run Try.prog w = .ok (.value (.int .u32 (x : Int))) w := by
  rw [run_callFunc_extern Try.func108 (by kernel_rfl) (by kernel_rfl) (by kernel_rfl) (e := Extern.MathFloatBits.float32bits) (by kernel_rfl)]
  rfl
@[go_sem] theorem run_frombits32 (x : Int) (w : World) : (callFunc 53 #[.int .u32 x]).run Try.prog w = .ok (.value (.float .f32 x.toNat)) w := by
  rw [run_callFunc_extern Try.func53 (by kernel_rfl) (by kernel_rfl) (by kernel_rfl) (e := Extern.MathFloatBits.float32frombits) (by kernel_rfl)]
  rfl
theorem ret3 {a b : Nat} (h : a = b) : Ending.returned (.float .f32 a) = .returned (.float .f32 b) := by rw [h]
theorem ret3c {a b c d : Nat} (h : a = b) (h2 : c = d) : Ending.returned (.complex .f32 a c) = .returned (.complex .f32 b d) := by rw [h, h2]
theorem ret3b {a b : Bool} (h : a = b) : Ending.returned (.bool a) = .returned (.bool b) := by rw [h]
theorem ret3i {k : IntKind} {a b : Int} (h : a = b) : Ending.returned (.int k a) = .returned (.int k b) := by rw [h]
theorem cast_beq (a b : Nat) : ((a : Int) == (b : Int)) = (a == b) := by rw [Bool.eq_iff_iff]; simp; omega

/-- Are two narrow reals the same? -/
def sm3 (a b : Nat) : Bool := if Fs.nan a || Fs.nan b then Fs.nan a && Fs.nan b else a == b
theorem sm3_self (x : Nat) : sm3 x x = true := by unfold sm3; cases Fs.nan x <;> simp
theorem short_any (a b : Nat) (w : World) : Calls Try.prog 95 #[.float .f32 a, .float .f32 b] w fun e w' => e = .returned (.bool (sm3 a b)) ∧ w' = w := by
  by_cases hab : a = b
  · subst hab
    rw [sm3_self]
    go_enter Try.func95, Try.ntmps95
    go_wp2
    go_ret
    exact ⟨rfl, rfl⟩
  · have hne : ¬ ((a : Int) = (b : Int)) := by omega
    have hnb : (a == b) = false := beq_false_of_ne hab
    cases ha : Fs.nan a <;> cases hb : Fs.nan b
    all_goals
      first | (have h1 := Fs.order_num ha) | (have h1 := Fs.order_nan ha)
      first | (have h2 := Fs.order_num hb) | (have h2 := Fs.order_nan hb)
      go_enter Try.func95, Try.ntmps95
      go_wp2
      go_ret
      refine ⟨ret3b ?_, rfl⟩
      simp [sm3, ha, hb, hnb]
      try exact hne
theorem snarrow_any (a b c d : Nat) (w : World) : Calls Try.prog 34 #[.complex .f32 a b, .complex .f32 c d] w fun e w' => e = .returned (.bool (sm3 a c && sm3 b d)) ∧ w' = w := by
  cases h1 : sm3 a c <;> cases h2 : sm3 b d
  all_goals
    go_enter Try.func34, Try.ntmps34
    go_wp2_with (first | (go_at_call 95; refine (short_any _ _ _).mono ?_; rintro e w' ⟨rfl, rfl⟩))
    go_ret
    exact ⟨rfl, rfl⟩
theorem napart_any (a b : Nat) (w : World) : Calls Try.prog 96 #[.complex .f32 a b] w fun e w' => e = .returned (.tuple #[.float .f32 a, .float .f32 b]) ∧ w' = w := by
  go_enter Try.func96, Try.ntmps96
  go_wp2
  go_ret2
  exact ⟨rfl, rfl⟩
theorem frombits_any (u : Nat) (hu : u < 18446744073709551616) (w : World) : Calls Try.prog 41 #[.int .u64 (u : Int)] w fun e w' => e = .returned (.complex .f32 (u / 4294967296) (u % 4294967296)) ∧ w' = w := by
  go_enter Try.func41, Try.ntmps41
  go_wp2
  go_ret
  exact ⟨ret3c (by omega) (by omega), rfl⟩
theorem rfrombits_any (u : Nat) (hu : u < 18446744073709551616) (w : World) : Calls Try.prog 40 #[.int .u64 (u : Int)] w fun e w' => e = .returned (.complex .f32 (u / 4294967296) (u % 4294967296)) ∧ w' = w := by
  go_enter Try.func40, Try.ntmps40
  go_wp2
  go_ret
  exact ⟨ret3c (by omega) (by omega), rfl⟩
/-- A narrow real's bits, those of NaN made one. -/
def bt3 (x : Nat) : Nat := if Fs.nan x then 2143289344 else x
theorem bitsOf_any (x : Nat) (w : World) : Calls Try.prog 110 #[.float .f32 x] w fun e w' => e = .returned (.int .u32 (bt3 x : Int)) ∧ w' = w := by
  cases hx : Fs.nan x
  all_goals
    first | (have h1 := Fs.order_num hx) | (have h1 := Fs.order_nan hx)
    go_enter Try.func110, Try.ntmps110
    go_wp2
    go_ret
    exact ⟨ret3i (by simp [bt3, hx]), rfl⟩
theorem half_any (x : Nat) (hx4 : x < 4294967296) (w : World) : Calls Try.prog 111 #[.float .f32 x] w fun e w' => e = .returned (.int .u64 (bt3 x : Int)) ∧ w' = w := by
  cases hx : Fs.nan x
  all_goals
    first | (have h1 := Fs.order_num hx) | (have h1 := Fs.order_nan hx)
    go_enter Try.func111, Try.ntmps111
    go_wp2
    go_ret
    exact ⟨ret3i (by simp [bt3, hx] <;> omega), rfl⟩

end Go.Proofs.Ythkhemmpjfilaaa
