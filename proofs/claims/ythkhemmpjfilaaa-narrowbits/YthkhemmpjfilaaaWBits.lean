/-
  The walk of NarrowBits: it hands back true and leaves the world as it was.
-/
import Derived.Test.YthkhemmpjfilaaaNb
namespace Go.Proofs.Ythkhemmpjfilaaa

theorem bt3_lt {x : Nat} (h : x < 4294967296) : bt3 x < 4294967296 := by unfold bt3; split <;> omega
theorem or_join (a b : Nat) (ha : a < 4294967296) (hb : b < 4294967296) : bits BinOp.or IntKind.u64 ((a : Int) * 4294967296) (b : Int) = ((a * 4294967296 + b : Nat) : Int) := by
  have h := u64_or_nat (a * 4294967296) b (by omega) (by omega)
  rw [nat_join 32 (a * 4294967296) b (by rw [show (2 : Nat) ^ 32 = 4294967296 from rfl]; omega) hb] at h
  rw [← h]; congr 1
theorem bits_any (a b : Nat) (w : World) (ha : a < 4294967296) (hb : b < 4294967296) : Calls Try.prog 56 #[.complex .f32 a b] w fun e w' => e = .returned (.int .u64 (bt3 a * 4294967296 + bt3 b : Nat)) ∧ w' = w := by
  have la := bt3_lt ha
  have lb := bt3_lt hb
  go_enter Try.func56, Try.ntmps56
  go_wp2_with (first | (go_at_call 96; refine (napart_any _ _ _).mono ?_; rintro e w' ⟨rfl, rfl⟩) | (go_at_call 110; refine (bitsOf_any _ _).mono ?_; rintro e w' ⟨rfl, rfl⟩))
  go_ret
  exact ⟨ret3i (or_join _ _ la lb), rfl⟩
theorem rbits_any (a b : Nat) (w : World) (ha : a < 4294967296) (hb : b < 4294967296) : Calls Try.prog 57 #[.complex .f32 a b] w fun e w' => e = .returned (.int .u64 (bt3 a * 4294967296 + bt3 b : Nat)) ∧ w' = w := by
  have la := bt3_lt ha
  have lb := bt3_lt hb
  go_enter Try.func57, Try.ntmps57
  go_wp2_with (first | (go_at_call 111; refine (half_any _ (by assumption) _).mono ?_; rintro e w' ⟨rfl, rfl⟩))
  go_ret
  exact ⟨ret3i (or_join _ _ la lb), rfl⟩
theorem dm_bd {u : Nat} (hu : u < 18446744073709551616) : u / 4294967296 < 4294967296 ∧ u % 4294967296 < 4294967296 := by omega
theorem bits_walk (u : Nat) (w : World) (hu : u < 18446744073709551616) : Calls Try.prog 8 #[.int .u64 (u : Int)] w fun e w' => e = .returned (.bool true) ∧ RowKit.Below w.heap.size w w' := by
  obtain ⟨h1, h2⟩ := dm_bd hu
  have s1 := sm3_self (u / 4294967296)
  have s2 := sm3_self (u % 4294967296)
  go_enter Try.func8, Try.ntmps8
  go_wp2_with (first
    | (go_at_call 41; refine (frombits_any _ hu _).mono ?_; rintro e w' ⟨rfl, rfl⟩)
    | (go_at_call 40; refine (rfrombits_any _ hu _).mono ?_; rintro e w' ⟨rfl, rfl⟩)
    | (go_at_call 34; refine (snarrow_any _ _ _ _ _).mono ?_; rintro e w' ⟨rfl, rfl⟩)
    | (go_at_call 56; refine (bits_any _ _ _ h1 h2).mono ?_; rintro e w' ⟨rfl, rfl⟩)
    | (go_at_call 57; refine (rbits_any _ _ _ h1 h2).mono ?_; rintro e w' ⟨rfl, rfl⟩))
  go_ret
  exact ⟨rfl, RowKit.Below.refl _ _⟩
end Go.Proofs.Ythkhemmpjfilaaa
