/-
  The walk of PartsAlone: it hands back true and only lays new memory.
-/
import Derived.Test.YtfdnhofkfodcjaaWReckon
namespace Go.Proofs.Ytfdnhofkfodcjaa
open Fl RowKit

theorem rsameR_true {A : Option Nat} {a b : Nat} (w : World) (h1 : rep A a) (h2 : rep A b) :
    Calls Try.prog 46 #[.float .f64 a, .float .f64 b] w fun e w' => e = .returned (.bool true) ∧ w' = w := by
  have h := rsameR_any a b w
  rw [smB_of h1 h2] at h
  exact h

set_option maxHeartbeats 4000000 in
theorem alone_walk (x1 x2 y1 : Nat) (w : World) (hx1 : x1 < 18446744073709551616) (hx2 : x2 < 18446744073709551616) (hy1 : y1 < 18446744073709551616) :
    Calls Try.prog 5 #[.agg #[.int .u64 (x1 : Int), .int .u64 (x2 : Int)], .int .u64 (y1 : Int)] w fun e w' => e = .returned (.bool true) ∧ Below w.heap.size w w' := by
  have ra := rep_ans hx1
  have rb := rep_ans hx2
  have rc := rep_ans hy1
  go_enter Try.func5, Try.ntmps5
  all_goals
    go_wp2_with (first
      | (go_at_call 18; refine (number_any _ _ _).mono ?_; rintro e w' ⟨rfl, rfl⟩)
      | (go_at_call 27; refine (lsame_true _ (by assumption) (by assumption) (by assumption) (by assumption)).mono ?_; rintro e w' ⟨rfl, rfl⟩)
      | (go_at_call 46; refine (rsameR_true _ (by assumption) (by assumption)).mono ?_; rintro e w' ⟨rfl, rfl⟩)
      | (go_at_call 32; refine (lives_any _).mono ?_; rintro e w' ⟨n, rfl, rfl⟩)
      | (go_at_call 38; refine (neg_any _ ra rb).mono ?_; rintro e w' ⟨re, im, rfl, h1, h2, rfl⟩)
      | (go_at_call 39; refine (rneg_any _ ra rb).mono ?_; rintro e w' ⟨re, im, rfl, h1, h2, rfl⟩)
      | (go_at_call 40; refine (conj_any _ ra rb).mono ?_; rintro e w' ⟨im, rfl, h2, rfl⟩)
      | (go_at_call 41; refine (rconj_any _ ra rb).mono ?_; rintro e w' ⟨im, rfl, h2, rfl⟩)
      | (go_at_call 42; refine (inv_any _ ra rb).mono ?_; rintro e w' ⟨re, im, n, rfl, h1, h2, rfl⟩)
      | (go_at_call 43; refine (rinv_any _ ra rb).mono ?_; rintro e w' ⟨re, im, n, rfl, h1, h2, rfl⟩)
      | (go_at_call 53; refine (sqrt_any _ ra rb).mono ?_; rintro e w' ⟨re, im, n, rfl, h1, h2, rfl⟩)
      | (go_at_call 54; refine (rsqrt_any _ ra rb).mono ?_; rintro e w' ⟨re, im, n, rfl, h1, h2, rfl⟩)
      | (go_at_call 44; refine (scale_any _ ra rb rc).mono ?_; rintro e w' ⟨re, im, n, rfl, h1, h2, rfl⟩)
      | (go_at_call 45; refine (rscale_any _ ra rb rc).mono ?_; rintro e w' ⟨re, im, n, rfl, h1, h2, rfl⟩)
      | (go_at_call 47; refine (size1_any _ ra rb).mono ?_; rintro e w' ⟨re, n, rfl, h1, rfl⟩)
      | (go_at_call 48; refine (rsize1_any _ ra rb).mono ?_; rintro e w' ⟨re, n, rfl, h1, rfl⟩)
      | (go_at_call 49; refine (size2_any _ ra rb).mono ?_; rintro e w' ⟨re, n, rfl, h1, rfl⟩)
      | (go_at_call 50; refine (rsize2_any _ ra rb).mono ?_; rintro e w' ⟨re, n, rfl, h1, rfl⟩)
      | (go_at_call 51; refine (abs_any _ ra rb).mono ?_; rintro e w' ⟨re, n, rfl, h1, rfl⟩)
      | (go_at_call 52; refine (rabs_any _ ra rb).mono ?_; rintro e w' ⟨re, n, rfl, h1, rfl⟩))
    go_ret
    refine ⟨rfl, ?_⟩
    repeat first
      | exact below_self _
      | refine below_drewN ?_ _
      | refine Below.drew ?_
      | refine below_alloc ?_ (by simp <;> omega) _

end Go.Proofs.Ytfdnhofkfodcjaa
