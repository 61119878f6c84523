/-
  The walk of TurnsCircle: it hands back true and only lays new memory.
-/
import Derived.Test.YtknhmleifofhaaaTa
namespace Go.Proofs.Ytknhmleifofhaaa
open Fl RowKit

def oEq (a b : Nat) : Prop := FloatKind.f64.format.order a b = some .eq
/-- What the circle says of the number at r steps, r from 0 to 23: checked for each. -/
def eqN (a b : Nat) : Bool := FloatKind.f64.format.order a b == some .eq
def circ (r : Int) : Bool :=
  eqN (cw ((r + 12) % 24)) (Op.negFloat .f64 (cw r)) && eqN (cw ((r + 6) % 24)) (Op.negFloat .f64 (cw ((r - 6) % 24))) &&
  eqN (cw (-r % 24)) (cw r) && eqN (cw ((-r - 6) % 24)) (Op.negFloat .f64 (cw ((r - 6) % 24))) &&
  eqN (cw ((6 - r) % 24)) (cw ((r - 6) % 24)) &&
  eqN (cw r) (cw r) && eqN (cw ((r - 6) % 24)) (cw ((r - 6) % 24)) &&
  (cw r == 0 || !eqN (cw r) 0) && (cw ((r - 6) % 24) == 0 || !eqN (cw ((r - 6) % 24)) 0)
theorem circ_all (r : Int) (h0 : 0 ≤ r) (h1 : r < 24) : circ r = true := by
  have hk : r = 0 ∨ r = 1 ∨ r = 2 ∨ r = 3 ∨ r = 4 ∨ r = 5 ∨ r = 6 ∨ r = 7 ∨ r = 8 ∨ r = 9 ∨ r = 10 ∨ r = 11 ∨ r = 12 ∨ r = 13 ∨ r = 14 ∨ r = 15 ∨ r = 16 ∨ r = 17 ∨ r = 18 ∨ r = 19 ∨ r = 20 ∨ r = 21 ∨ r = 22 ∨ r = 23 := by omega
  rcases hk with rfl | rfl | rfl | rfl | rfl | rfl | rfl | rfl | rfl | rfl | rfl | rfl | rfl | rfl | rfl | rfl | rfl | rfl | rfl | rfl | rfl | rfl | rfl | rfl <;> (show _ = _; kernel_rfl)
theorem circle_facts (k : Int) :
    oEq (rtR (k + 12)) (Op.negFloat .f64 (rtR k)) ∧ oEq (rtI (k + 12)) (Op.negFloat .f64 (rtI k)) ∧
    oEq (rtR (-k)) (rtR k) ∧ oEq (rtI (-k)) (Op.negFloat .f64 (rtI k)) ∧
    oEq (rtR (6 - k)) (rtI k) ∧ oEq (rtI (6 - k)) (rtR k) ∧
    oEq (rtR (k + 6)) (Op.negFloat .f64 (rtI k)) ∧ oEq (rtI (k + 6)) (rtR k) ∧
    oEq (rtR k) (rtR k) ∧ oEq (rtI k) (rtI k) ∧ (rtR k = 0 ∨ ¬ oEq (rtR k) 0) ∧ (rtI k = 0 ∨ ¬ oEq (rtI k) 0) ∧
    rtR (k + 24) = rtR k ∧ rtI (k + 24) = rtI k ∧ rtR (k - 24) = rtR k ∧ rtI (k - 24) = rtI k := by
  have hb := Int.emod_nonneg k (show (24 : Int) ≠ 0 by decide)
  have hl := Int.emod_lt_of_pos k (show (0 : Int) < 24 by decide)
  have hc := circ_all (k % 24) hb hl
  unfold circ at hc
  unfold rtR rtI
  rw [show (k % 24 + 12) % 24 = (k + 12) % 24 by omega, show (k % 24 + 6) % 24 = (k + 6) % 24 by omega, show (k % 24 - 6) % 24 = (k - 6) % 24 by omega, show -(k % 24) % 24 = -k % 24 by omega, show (-(k % 24) - 6) % 24 = (-k - 6) % 24 by omega, show (6 - k % 24) % 24 = (6 - k) % 24 by omega] at hc
  rw [show (k + 12 - 6) % 24 = (k + 6) % 24 by omega, show (6 - k - 6) % 24 = -k % 24 by omega, show (k + 6 - 6) % 24 = k % 24 by omega, show (k + 24) % 24 = k % 24 by omega, show (k + 24 - 6) % 24 = (k - 6) % 24 by omega, show (k - 24) % 24 = k % 24 by omega, show (k - 24 - 6) % 24 = (k - 6) % 24 by omega]
  simp only [Bool.and_eq_true, Bool.or_eq_true, beq_iff_eq, Bool.not_eq_true', eqN] at hc
  obtain ⟨⟨⟨⟨⟨⟨⟨⟨a1, a2⟩, a3⟩, a4⟩, a5⟩, a6⟩, a7⟩, a8⟩, a9⟩ := hc
  refine ⟨a1, a2, a3, a4, a5, a3, a2, a6, a6, a7, ?_, ?_, rfl, rfl, rfl, rfl⟩
  · rcases a8 with h | h
    · exact .inl h
    · exact .inr (fun e => by unfold oEq at e; rw [e] at h; exact absurd h (by decide))
  · rcases a9 with h | h
    · exact .inl h
    · exact .inr (fun e => by unfold oEq at e; rw [e] at h; exact absurd h (by decide))

@[go_sem] theorem run_negC (a b : Nat) (w : World) : (Op.unary UnOp.neg (.complex .f64 a b)).run Try.prog w = .ok (.complex .f64 (Op.negFloat .f64 a) (Op.negFloat .f64 b)) w := rfl

set_option maxHeartbeats 4000000 in
theorem circle_walk (k : Int) (w : World) (k0 : -9223372036854775808 ≤ k) (k1 : k < 9223372036854775808) :
    Calls Try.prog 6 #[.int .i64 k] w fun e w' => e = .returned (.bool true) ∧ Below w.heap.size w w' := by
  have p0 := Int.emod_nonneg k (show (1099511627776 : Int) ≠ 0 by decide)
  have p1 := Int.emod_lt_of_pos k (show (0 : Int) < 1099511627776 by decide)
  obtain ⟨p, hp⟩ : ∃ p, p = k % 1099511627776 := ⟨_, rfl⟩
  rw [← hp] at p0 p1
  obtain ⟨K, hK⟩ : ∃ K, K = p - 549755813888 := ⟨_, rfl⟩
  obtain ⟨a1, a2, a3, a4, a5, a6, a7, a8, a9, a10, a11, a12, b1, b2, b3, b4⟩ := circle_facts K
  have HK : Hid (K = p - 549755813888) := hK
  unfold oEq at a1 a2 a3 a4 a5 a6 a7 a8 a9 a10
  unfold oEq at a11 a12
  have hp : Hid (p = k % 1099511627776) := hp
  clear hK
  have z0 := oeq 0 (by decide)
  obtain ⟨R, hR⟩ : ∃ R, rtR K = R := ⟨_, rfl⟩
  obtain ⟨I, hI⟩ : ∃ I, rtI K = I := ⟨_, rfl⟩
  rw [hR] at a1 a3 a6 a8 a9 a11 b1 b3
  rw [hI] at a2 a4 a5 a7 a10 a12 b2 b4
  have HR : Hid (rtR K = R) := hR
  have HI : Hid (rtI K = I) := hI
  clear hR hI
  rcases a11 with rfl | a11 <;> rcases a12 with rfl | a12
  all_goals
    go_enter Try.func6, Try.ntmps6
    go_wp2_with (first
      | (go_at_call 32; refine (awake_any _).mono ?_; rintro e w' ⟨rfl, hbel⟩)
      | (go_at_call 33; refine (pick_any _ _ _ k0 k1 (by decide) (by decide)).mono ?_; rintro e w' ⟨q, rfl, q0, q1, hq, rfl⟩; obtain rfl : q = p := hq.trans hp.out.symm; clear hq)
      | (go_at_call 23; refine (root_eq _ K _ (by have := HK.out; omega) (by omega) (by omega)).mono ?_; rw [HR.out, HI.out]; rintro e w' ⟨rfl, rfl⟩)
      | (go_at_call 23; refine (root_eq _ (K + 24) _ (by have := HK.out; omega) (by omega) (by omega)).mono ?_; rw [b1, b2]; rintro e w' ⟨rfl, rfl⟩)
      | (go_at_call 23; refine (root_eq _ (K - 24) _ (by have := HK.out; omega) (by omega) (by omega)).mono ?_; rw [b3, b4]; rintro e w' ⟨rfl, rfl⟩)
      | (go_at_call 23; refine (root_eq _ (K + 12) _ (by have := HK.out; omega) (by omega) (by omega)).mono ?_; rintro e w' ⟨rfl, rfl⟩)
      | (go_at_call 23; refine (root_eq _ (K + 6) _ (by have := HK.out; omega) (by omega) (by omega)).mono ?_; rintro e w' ⟨rfl, rfl⟩)
      | (go_at_call 23; refine (root_eq _ (-K) _ (by have := HK.out; omega) (by omega) (by omega)).mono ?_; rintro e w' ⟨rfl, rfl⟩)
      | (go_at_call 23; refine (root_eq _ (6 - K) _ (by have := HK.out; omega) (by omega) (by omega)).mono ?_; rintro e w' ⟨rfl, rfl⟩))
    go_ret
    exact ⟨rfl, hbel⟩

end Go.Proofs.Ytknhmleifofhaaa
