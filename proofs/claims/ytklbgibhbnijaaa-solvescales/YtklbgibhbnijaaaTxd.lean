/-
  SolveScales' numbers, in one: at most two rows, a right side and the same times a power of two.
-/
import Derived.Test.YtklbgibhbnijaaaTxc
namespace Go.Proofs.Ytklbgibhbnijaaa
open Fl RowKit

theorem elm_one {M : Nat → Nat → Cw} (h : (elm 1 M 1).1.1 = 0) : (elm 1 M 1).2.M 0 0 = M 0 0 := by
  have h3 := elm_succ (n := 1) (k := 0) (M0 := M) rfl
  rw [h3] at h
  have k0 := stp_o (show (stp 1 0 (elm 1 M 0).2).1 = 0 from h)
  have q0 := pvt_lt k0.1
  have z0 : (pvt 1 M 0).1 = 0 := by
    have : 0 + (pvt 1 M 0).1 < 1 := q0
    omega
  rw [show elm 1 M 1 = _ from h3]
  show (stp 1 0 (elm 1 M 0).2).2.M 0 0 = _
  rw [k0.2.2]
  show redM (swM M 0 (0 + (pvt 1 M 0).1)) 0 0 0 = _
  rw [z0, show 0 + 0 = 0 from rfl, swM_self]
  rfl
/-- every unknown of the shifted side is the unknown, shifted; all is finite -/
theorem sol_sc {n k : Nat} {M : Nat → Nat → Cw} {c c' : Nat → Cw} (hn : n ≤ 2) (hM : ∀ i j, i < n → j < n → FX 1074 1083 (M i j)) (h : (elm n M n).1.1 = 0) (hk : 8 ≤ k) (hk2 : k ≤ 255) (hc : ∀ i, i < n → GZ k 1074 1083 (c i) (c' i)) :
    ∃ x : Nat → Cw, (∀ i, i < n → slS n (mzL (elm n M n).2.M) (mzU (elm n M n).2.M) (fun j => anz (c j)) i = anz (x i) ∧ FX 500 1263 (x i)
        ∧ slS n (mzL (elm n M n).2.M) (mzU (elm n M n).2.M) (fun j => anz (c' j)) i = anz (ldx (x i).1 ((k : Int) - 128), ldx (x i).2 ((k : Int) - 128)))
      ∧ okS n (mzL (elm n M n).2.M) (mzU (elm n M n).2.M) (fun j => anz (c j)) = true ∧ okS n (mzL (elm n M n).2.M) (mzU (elm n M n).2.M) (fun j => anz (c' j)) = true := by
  have key : ∀ {x x' : Cw}, GZ k 500 1263 x x' → x' = (ldx x.1 ((k : Int) - 128), ldx x.2 ((k : Int) - 128)) := by
    intro x x' g
    rw [g.a.ld (by decide) (by decide) hk hk2, g.b.ld (by decide) (by decide) hk hk2]
  have hp := elm_piv n (Nat.le_refl _) h
  rcases (show n = 0 ∨ n = 1 ∨ n = 2 by omega) with rfl | rfl | rfl
  · exact ⟨fun _ => (0, 0), fun i hi => absurd hi (by omega), rfl, rfl⟩
  · obtain ⟨x, x', h1, h2, h3⟩ := sol_one (M := (elm 1 M 1).2.M) (c := c) (c' := c') (by rw [elm_one h]; exact hM 0 0 (by omega) (by omega)) (hp 0 (by omega)) hk2 (hc 0 (by omega))
    refine ⟨x, fun i hi => ?_, h2, h3⟩
    obtain ⟨a, b, g⟩ := h1 i hi
    exact ⟨a, g.fx, by rw [b, key g]⟩
  · obtain ⟨x, x', h1, h2, h3⟩ := sol_two (elm_two_fx hM h) (hp 0 (by omega)) (hp 1 (by omega)) hk2 hc
    refine ⟨x, fun i hi => ?_, h2, h3⟩
    obtain ⟨a, b, g⟩ := h1 i hi
    exact ⟨a, g.fx, by rw [b, key g]⟩
/-- a number that stays, and the same through Ldexp -/
theorem FX.ld {h C : Nat} {z : Cw} (a : FX h C z) (k : Nat) (hh : 180 ≤ h) (hC : C ≤ 1800) (hk : 8 ≤ k) (hk2 : k ≤ 255) : GZ k h C z (ldx z.1 ((k : Int) - 128), ldx z.2 ((k : Int) - 128)) := ⟨(a.a.ld k hh hC hk hk2).1, (a.b.ld k hh hC hk hk2).1⟩

end Go.Proofs.Ytklbgibhbnijaaa
