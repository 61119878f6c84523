/-
  Kept of Sra.
-/
import Derived.Test.YtmpkcioeodlbcaaGreatDoorK32
import Derived.Test.YtmpkcioeodlbcaaGreatDoorK23
namespace Go.Proofs.YtmpkcioeodlbcaaGreatDoor
open Fl RowKit
set_option linter.unusedVariables false
/-- what a source's phasor is refused for -/
def phK (x : Elm) : Int := if chkI x = 0 then (if x.k = 4 ∨ x.k = 5 then 0 else 2) else chkI x
/-- a source's phasor -/
def phC (x : Elm) : Option Nat × Option Nat := if phK x = 0 then (mulA (ans x.v) (ans (rtR x.ph)), mulA (ans x.v) (ans (rtI x.ph))) else (some 0, some 0)
structure Elm.phb (x : Elm) : Prop where
  lo : -9223372036854775808 ≤ x.ph
  hi : x.ph < 9223372036854775808
theorem rep0 : rep (some 0) 0 := ⟨by decide, rfl⟩
theorem kinds45 (k : Nat) : k = 4 ∨ k = 5 ∨ (k ≠ 4 ∧ k ≠ 5) := by omega
theorem sphasor_any (x : Elm) (w : World) (h : x.ok) (hp : x.phb) (hv : x.v < 18446744073709551616) :
    Calls Tryz.prog 121 #[elV x] w fun e w' => ∃ re im, e = .returned (.tuple #[.complex .f64 re im, .int .i64 (phK x)]) ∧ rep (phC x).1 re ∧ rep (phC x).2 im ∧ Below w.heap.size w w' := by
  have E0 : Hid (EC w (w.alloc (.cells (elA x) 96)) w.heap.size x) := ec_new w x
  have HP := fun W => phasor_any (X := ans x.v) (x := x.v) x.ph W (rep_ans hv) hp.lo hp.hi
  have HPH : Hid _ := HP
  clear HP
  by_cases hc : chkI x = 0
  · have HC : Hid (∀ W, Calls Tryz.prog 81 #[.agg #[.int .u8 (x.k : Int), .string x.n, .string x.a, .string x.b, .string x.c, .string x.d, .float .f64 x.v, .int .i64 x.ph]] W fun e w' => e = .returned (.int .i64 0) ∧ Below W.heap.size W w') := fun W => by have := chk_wA x W h; rwa [hc] at this
    rcases kinds45 x.k with hk | hk | ⟨k4, k5⟩
    · have hr : phK x = 0 := by unfold phK; rw [if_pos hc, if_pos (.inl hk)]
      unfold phC
      rw [hr, if_pos rfl]
      have b4 : ((x.k : Int) != 4) = false := by rw [hk]; rfl
      clear hr hc hk
      unfold elV
      go_enter Tryz.func121, Tryz.ntmps121
      go_wp2_with (first
        | (go_at_call 81; (with_reducible refine (HC.out _).mono ?_); rintro e w1 ⟨rfl, hb⟩; (have E1 : Hid _ := E0.out.below hb); (obtain ⟨l1, c10, c11, c12, c13, c14, c15, c16, c17⟩ := E1.out.f); clear hb E0)
        | (go_at_call 160; (with_reducible refine (HPH.out _).mono ?_); rintro e w2 ⟨re, im, rfl, h1, h2, hb⟩; (have E2 : Hid _ := E1.out.below hb); clear hb E1))
      go_ret2
      exact ⟨_, _, rfl, h1, h2, E2.out.bel⟩
    · have hr : phK x = 0 := by unfold phK; rw [if_pos hc, if_pos (.inr hk)]
      unfold phC
      rw [hr, if_pos rfl]
      have b4 : ((x.k : Int) != 4) = true := by rw [hk]; rfl
      have b5 : ((x.k : Int) != 5) = false := by rw [hk]; rfl
      clear hr hc hk
      unfold elV
      go_enter Tryz.func121, Tryz.ntmps121
      go_wp2_with (first
        | (go_at_call 81; (with_reducible refine (HC.out _).mono ?_); rintro e w1 ⟨rfl, hb⟩; (have E1 : Hid _ := E0.out.below hb); (obtain ⟨l1, c10, c11, c12, c13, c14, c15, c16, c17⟩ := E1.out.f); clear hb E0)
        | (go_at_call 160; (with_reducible refine (HPH.out _).mono ?_); rintro e w2 ⟨re, im, rfl, h1, h2, hb⟩; (have E2 : Hid _ := E1.out.below hb); clear hb E1))
      go_ret2
      exact ⟨_, _, rfl, h1, h2, E2.out.bel⟩
    · have hr : phK x = 2 := by unfold phK; rw [if_pos hc, if_neg (by omega)]
      unfold phC
      rw [hr, if_neg (by decide)]
      have b4 : ((x.k : Int) != 4) = true := by rw [bne_iff_ne]; omega
      have b5 : ((x.k : Int) != 5) = true := by rw [bne_iff_ne]; omega
      clear hr hc k4 k5
      unfold elV
      go_enter Tryz.func121, Tryz.ntmps121
      go_wp2_with (first
        | (go_at_call 81; (with_reducible refine (HC.out _).mono ?_); rintro e w1 ⟨rfl, hb⟩; (have E1 : Hid _ := E0.out.below hb); (obtain ⟨l1, c10, c11, c12, c13, c14, c15, c16, c17⟩ := E1.out.f); clear hb E0))
      go_ret2
      exact ⟨_, _, rfl, rep0, rep0, E1.out.bel⟩
  · have hr : phK x = chkI x := by unfold phK; rw [if_neg hc]
    unfold phC
    rw [hr, if_neg hc]
    have hq : (chkI x != 0) = true := by simp [hc]
    clear hr hc
    unfold elV
    go_enter Tryz.func121, Tryz.ntmps121
    go_wp2_with (first
      | (go_at_call 81; (with_reducible refine (chk_wA x _ h).mono ?_); rintro e w1 ⟨rfl, hb⟩; (have E1 : Hid _ := E0.out.below hb); (obtain ⟨l1, c10, c11, c12, c13, c14, c15, c16, c17⟩ := E1.out.f); clear hb E0))
    go_ret2
    exact ⟨_, _, rfl, rep0, rep0, E1.out.bel⟩
end Go.Proofs.YtmpkcioeodlbcaaGreatDoor
