/-
  The walk of TurnsRoots: it hands back true and only lays new memory.
-/
import Derived.Test.YtknhmleifofhaaaTw0
import Derived.Test.YtknhmleifofhaaaTk
import Derived.Deep.RegionWith
namespace Go.Proofs.Ytknhmleifofhaaa
open Fl RowKit

theorem cK_lt (k : Int) : cK k < 9223372036854775808 := by unfold cK; repeat' split
                                                           all_goals decide
theorem cw_lt (k : Int) : cw k < 18446744073709551616 := by
  have h := cK_lt
  unfold cw
  have h1 := h k; have h2 := h (24 - k)
  have h3 := ngW_lt (x := cK (12 - k)) (by have := h (12 - k); omega)
  have h4 := ngW_lt (x := cK (k - 12)) (by have := h (k - 12); omega)
  split
  · omega
  · split
    · exact h3
    · split
      · exact h4
      · omega
theorem rep_rtR (k : Int) : rep (ans (rtR k)) (rtR k) := rep_ans (cw_lt _)
theorem rep_rtI (k : Int) : rep (ans (rtI k)) (rtI k) := rep_ans (cw_lt _)

section one
variable {X : Option Nat} {x : Nat} (k : Int) (w : World) (hx : rep X x) (h0 : -9223372036854775808 ≤ k) (h1 : k < 9223372036854775808)
include hx h0 h1
theorem phasor_any : Calls Try.prog 25 #[.float .f64 x, .int .i64 k] w fun e w' => ∃ re im, e = .returned (.complex .f64 re im) ∧ rep (mulA X (ans (rtR k))) re ∧ rep (mulA X (ans (rtI k))) im ∧ Below w.heap.size w w' := by
  go_enter Try.func25, Try.ntmps25
  go_wp2_with (first
    | (go_at_call 23; refine (root_any k _ h0 h1).mono ?_; rintro e w' ⟨rfl, rfl⟩)
    | (go_at_call 63; refine (scale_any _ (rep_rtR k) (rep_rtI k) hx).mono ?_; rintro e w' ⟨re, im, n, rfl, h1, h2, rfl⟩))
  go_ret
  exact ⟨_, _, rfl, by assumption, by assumption, below_drewN (below_self _) _⟩
theorem rphasor_any : Calls Try.prog 26 #[.float .f64 x, .int .i64 k] w fun e w' => ∃ re im, e = .returned (.complex .f64 re im) ∧ rep (mulA X (ans (rtR k))) re ∧ rep (mulA X (ans (rtI k))) im ∧ Below w.heap.size w w' := by
  go_enter Try.func26, Try.ntmps26
  go_wp2_with (first
    | (go_at_call 24; refine (rroot_any k _ h0 h1).mono ?_; rintro e w' ⟨rfl, hbel⟩))
  go_ret
  refine ⟨_, _, rfl, rep_mul hx (rep_rtR k) _, rep_mul hx (rep_rtI k) _, ?_⟩
  repeat first
    | exact hbel
    | refine below_drewN ?_ _
end one

section two
variable {A B : Option Nat} {a b : Nat} (k : Int) (w : World) (ha : rep A a) (hb : rep B b) (h0 : -9223372036854775808 ≤ k) (h1 : k < 9223372036854775808)
include ha hb h0 h1
theorem turned_by : Calls Try.prog 27 #[.complex .f64 a b, .int .i64 k] w fun e w' => ∃ re im, e = .returned (.complex .f64 re im) ∧ rep (mulRe A B (ans (rtR k)) (ans (rtI k))) re ∧ rep (mulIm A B (ans (rtR k)) (ans (rtI k))) im ∧ Below w.heap.size w w' := by
  go_enter Try.func27, Try.ntmps27
  go_wp2_with (first
    | (go_at_call 23; refine (root_any k _ h0 h1).mono ?_; rintro e w' ⟨rfl, rfl⟩)
    | (go_at_call 13; refine (mul_any _ ha hb (rep_rtR k) (rep_rtI k)).mono ?_; rintro e w' ⟨re, im, n, rfl, h1, h2, rfl⟩))
  go_ret
  exact ⟨_, _, rfl, by assumption, by assumption, below_drewN (below_self _) _⟩
theorem rturned_by : Calls Try.prog 28 #[.complex .f64 a b, .int .i64 k] w fun e w' => ∃ re im, e = .returned (.complex .f64 re im) ∧ rep (mulRe A B (ans (rtR k)) (ans (rtI k))) re ∧ rep (mulIm A B (ans (rtR k)) (ans (rtI k))) im ∧ Below w.heap.size w w' := by
  go_enter Try.func28, Try.ntmps28
  go_wp2_with (first
    | (go_at_call 24; refine (rroot_any k _ h0 h1).mono ?_; rintro e w' ⟨rfl, hbel⟩)
    | (go_at_call 64; refine (rmul_any _ ha hb (rep_rtR k) (rep_rtI k)).mono ?_; rintro e w' ⟨re, im, n, rfl, h1, h2, rfl⟩))
  go_ret
  exact ⟨_, _, rfl, by assumption, by assumption, below_drewN hbel _⟩
end two

theorem ksame_true {A B : Option Nat} {a b c d : Nat} (w : World) (h1 : rep A a) (h2 : rep A c) (h3 : rep B b) (h4 : rep B d) :
    Calls Try.prog 22 #[.complex .f64 a b, .complex .f64 c d] w fun e w' => e = .returned (.bool true) ∧ w' = w := by
  have h := ksame_any a b c d w
  rw [smB_of h1 h2, smB_of h3 h4] at h
  exact h

set_option maxHeartbeats 2000000 in
theorem roots_walk (k s x y : Int) (w : World) (k0 : -9223372036854775808 ≤ k) (k1 : k < 9223372036854775808) (s0 : 0 ≤ s) (s1 : s < 18446744073709551616) (x0 : 0 ≤ x) (x1 : x < 18446744073709551616) (y0 : 0 ≤ y) (y1 : y < 18446744073709551616) :
    Calls Try.prog 4 #[.int .i64 k, .int .u64 s, .agg #[.int .u64 x, .int .u64 y]] w fun e w' => e = .returned (.bool true) ∧ Below w.heap.size w w' := by
  obtain ⟨S, rfl⟩ := Int.eq_ofNat_of_zero_le s0
  obtain ⟨X, rfl⟩ := Int.eq_ofNat_of_zero_le x0
  obtain ⟨Y, rfl⟩ := Int.eq_ofNat_of_zero_le y0
  have rs : rep (ans S) S := rep_ans (by omega)
  have rx : rep (ans X) X := rep_ans (by omega)
  have ry : rep (ans Y) Y := rep_ans (by omega)
  have rR := rep_rtR k
  have rI := rep_rtI k
  go_enter Try.func4, Try.ntmps4
  go_wp2_with (first
    | (go_at_call 9; refine (number_any _ _ _).mono ?_; rintro e w' ⟨rfl, rfl⟩)
    | (go_at_call 23; refine (root_any k _ k0 k1).mono ?_; rintro e w' ⟨rfl, rfl⟩)
    | (go_at_call 24; refine (rroot_any k _ k0 k1).mono ?_; rintro e w' ⟨rfl, b1⟩)
    | (go_at_call 25; refine (phasor_any k _ rs k0 k1).mono ?_; rintro e w' ⟨re, im, rfl, p1, p2, b2⟩)
    | (go_at_call 26; refine (rphasor_any k _ rs k0 k1).mono ?_; rintro e w' ⟨re', im', rfl, p1', p2', b3⟩)
    | (go_at_call 27; refine (turned_by k _ rx ry k0 k1).mono ?_; rintro e w' ⟨tr, ti, rfl, t1, t2, b4⟩)
    | (go_at_call 28; refine (rturned_by k _ rx ry k0 k1).mono ?_; rintro e w' ⟨tr', ti', rfl, t1', t2', b5⟩)
    | (go_at_call 22; refine (ksame_true _ (by assumption) (by assumption) (by assumption) (by assumption)).mono ?_; rintro e w' ⟨rfl, rfl⟩))
  go_ret
  refine ⟨rfl, ?_⟩
  refine bt (bt (bt (bt (bt ?_ b1) b2) b3) b4) b5
  repeat first
    | exact below_self _
    | refine below_drewN ?_ _
    | refine Below.drew ?_
    | refine Below.alloc ?_ (by simp <;> omega) _

end Go.Proofs.Ytknhmleifofhaaa
