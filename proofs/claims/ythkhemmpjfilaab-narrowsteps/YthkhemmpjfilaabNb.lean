/-
  The bits of a narrow real and the narrow real of bits; the small functions of package narrow, gridworkref03 and gridworkkit that look at bits.
-/
import Derived.Test.YthkhemmpjfilaabChecked
import Derived.Test.YthkhemmpjfilaabFs
import Derived.WalkKit
import Derived.WalkLawsBesides
namespace Go.Proofs.Ythkhemmpjfilaab

@[go_sem] theorem run_bits32 (x : Nat) (w : World) : (callFunc 40 #[.float .f32 x]).run Try.prog w = .ok (.value (.int .u32 (x : Int))) w := by
  rw [run_callFunc_extern Try.func40 (by kernel_rfl) (by kernel_rfl) (by kernel_rfl) (e := Extern.MathFloatBits.float32bits) (by kernel_rfl)]
  rfl
@[go_sem] theorem run_frombits32 (x : Int) (w : World) : (callFunc 27 #[.int .u32 x]).run Try.prog w = .ok (.value (.float .f32 x.toNat)) w := by
  rw [run_callFunc_extern Try.func27 (by kernel_rfl) (by kernel_rfl) (by kernel_rfl) (e := Extern.MathFloatBits.float32frombits) (by kernel_rfl)]
  rfl
theorem ret3 {a b : Nat} (h : a = b) : Ending.returned (.float .f32 a) = .returned (.float .f32 b) := by rw [h]
theorem ret3c {a b c d : Nat} (h : a = b) (h2 : c = d) : Ending.returned (.complex .f32 a c) = .returned (.complex .f32 b d) := by rw [h, h2]
theorem ret3b {a b : Bool} (h : a = b) : Ending.returned (.bool a) = .returned (.bool b) := by rw [h]
theorem ret3i {k : IntKind} {a b : Int} (h : a = b) : Ending.returned (.int k a) = .returned (.int k b) := by rw [h]
theorem cast_beq (a b : Nat) : ((a : Int) == (b : Int)) = (a == b) := by rw [Bool.eq_iff_iff]; simp; omega

/-- Are two narrow reals the same? -/
def sm3 (a b : Nat) : Bool := if Fs.nan a || Fs.nan b then Fs.nan a && Fs.nan b else a == b
theorem sm3_self (x : Nat) : sm3 x x = true := by unfold sm3; cases Fs.nan x <;> simp
theorem napart_any (a b : Nat) (w : World) : Calls Try.prog 36 #[.complex .f32 a b] w fun e w' => e = .returned (.tuple #[.float .f32 a, .float .f32 b]) ∧ w' = w := by
  go_enter Try.func36, Try.ntmps36
  go_wp2
  go_ret2
  exact ⟨rfl, rfl⟩
theorem frombits_any (u : Nat) (hu : u < 18446744073709551616) (w : World) : Calls Try.prog 18 #[.int .u64 (u : Int)] w fun e w' => e = .returned (.complex .f32 (u / 4294967296) (u % 4294967296)) ∧ w' = w := by
  go_enter Try.func18, Try.ntmps18
  go_wp2
  go_ret
  exact ⟨ret3c (by omega) (by omega), rfl⟩
/-- A narrow real's bits, those of NaN made one. -/
def bt3 (x : Nat) : Nat := if Fs.nan x then 2143289344 else x
theorem bitsOf_any (x : Nat) (w : World) : Calls Try.prog 41 #[.float .f32 x] w fun e w' => e = .returned (.int .u32 (bt3 x : Int)) ∧ w' = w := by
  cases hx : Fs.nan x
  all_goals
    first | (have h1 := Fs.order_num hx) | (have h1 := Fs.order_nan hx)
    go_enter Try.func41, Try.ntmps41
    go_wp2
    go_ret
    exact ⟨ret3i (by simp [bt3, hx]), rfl⟩
end Go.Proofs.Ythkhemmpjfilaab
