/-
  The walk of PartsReckon: it hands back true and only lays new memory.
-/
import Derived.Test.YtfdnhofkfodcjaaPl
import Derived.Deep.RegionWith
namespace Go.Proofs.Ytfdnhofkfodcjaa
open Fl RowKit

theorem lsame_true {A B : Option Nat} {a b c d : Nat} (w : World) (h1 : rep A a) (h2 : rep A c) (h3 : rep B b) (h4 : rep B d) :
    Calls Try.prog 27 #[.complex .f64 a b, .complex .f64 c d] w fun e w' => e = .returned (.bool true) ∧ w' = w := by
  have h := lsame_any a b c d w
  rw [smB_of h1 h2, smB_of h3 h4] at h
  exact h
theorem same_back (a b c d : Nat) (w : World) : Calls Try.prog 19 #[.complex .f64 c d, .complex .f64 a b] w fun e w' => e = .returned (.bool (smB a c && smB b d)) ∧ w' = w := by
  have h := same_any c d a b w
  rw [smB_comm c a, smB_comm d b] at h
  exact h
theorem same_self (a b : Nat) (w : World) : Calls Try.prog 19 #[.complex .f64 a b, .complex .f64 a b] w fun e w' => e = .returned (.bool true) ∧ w' = w := by
  have h := same_any a b a b w
  rw [smB_self, smB_self] at h
  exact h
theorem below_alloc {n : Nat} {w w' : World} (h : Below n w w') (hn : n ≤ w'.heap.size) (o : Obj) : Below n w (w'.alloc o) := h.alloc hn o

set_option maxHeartbeats 4000000 in
theorem reckon_walk (x1 x2 y1 y2 : Nat) (w : World) (hx1 : x1 < 18446744073709551616) (hx2 : x2 < 18446744073709551616) (hy1 : y1 < 18446744073709551616) (hy2 : y2 < 18446744073709551616) :
    Calls Try.prog 4 #[.agg #[.int .u64 (x1 : Int), .int .u64 (x2 : Int)], .agg #[.int .u64 (y1 : Int), .int .u64 (y2 : Int)]] w fun e w' => e = .returned (.bool true) ∧ Below w.heap.size w w' := by
  have ra := rep_ans hx1
  have rb := rep_ans hx2
  have rc := rep_ans hy1
  have rd := rep_ans hy2
  go_enter Try.func4, Try.ntmps4
  go_wp2_with fail
  go_region_with (go_at_call 18; refine (number_any _ _ _).mono ?_; rintro e w' ⟨rfl, rfl⟩)
  all_goals
    go_wp2_with (first
      | (go_at_call 19; with_reducible refine (same_self _ _ _).mono ?_; rintro e w' ⟨rfl, rfl⟩)
      | (go_at_call 19; with_reducible refine (same_any x1 x2 y1 y2 _).mono ?_; rintro e w' ⟨rfl, rfl⟩)
      | (go_at_call 19; with_reducible refine (same_back x1 x2 y1 y2 _).mono ?_; rintro e w' ⟨rfl, rfl⟩)
      | (go_at_call 20; refine (rsame_any _ _ _ _ _).mono ?_; rintro e w' ⟨rfl, rfl⟩)
      | (go_at_call 21; refine (equal_any _ _ _ _ _).mono ?_; rintro e w' ⟨rfl, rfl⟩)
      | (go_at_call 22; refine (requal_any _ _ _ _ _).mono ?_; rintro e w' ⟨rfl, rfl⟩)
      | (go_at_call 23; refine (fin_any _ _ _ (by assumption) (by assumption)).mono ?_; rintro e w' ⟨rfl, rfl⟩)
      | (go_at_call 24; refine (rfin_any _ _ _).mono ?_; rintro e w' ⟨n, rfl, rfl⟩)
      | (go_at_call 25; refine (zero_any _ _ _).mono ?_; rintro e w' ⟨rfl, rfl⟩)
      | (go_at_call 26; refine (rzero_any _ _ _).mono ?_; rintro e w' ⟨rfl, rfl⟩)
      | (go_at_call 27; refine (lsame_true _ (by assumption) (by assumption) (by assumption) (by assumption)).mono ?_; rintro e w' ⟨rfl, rfl⟩)
      | (go_at_call 32; refine (lives_any _).mono ?_; rintro e w' ⟨n, rfl, rfl⟩)
      | (go_at_call 28; refine (add_any _ ra rb rc rd).mono ?_; rintro e w' ⟨re, im, n, rfl, h1, h2, rfl⟩)
      | (go_at_call 29; refine (radd_any _ ra rb rc rd).mono ?_; rintro e w' ⟨re, im, n, rfl, h1, h2, rfl⟩)
      | (go_at_call 30; refine (sub_any _ ra rb rc rd).mono ?_; rintro e w' ⟨re, im, n, rfl, h1, h2, rfl⟩)
      | (go_at_call 31; refine (rsub_any _ ra rb rc rd).mono ?_; rintro e w' ⟨re, im, n, rfl, h1, h2, rfl⟩)
      | (go_at_call 33; refine (mul_any _ ra rb rc rd).mono ?_; rintro e w' ⟨re, im, n, rfl, h1, h2, rfl⟩)
      | (go_at_call 34; refine (rmul_any _ ra rb rc rd).mono ?_; rintro e w' ⟨re, im, n, rfl, h1, h2, rfl⟩)
      | (go_at_call 35; refine (div_any _ ra rb rc rd).mono ?_; rintro e w' ⟨re, im, n, rfl, h1, h2, rfl⟩)
      | (go_at_call 36; refine (rdiv_any _ ra rb rc rd).mono ?_; rintro e w' ⟨re, im, n, rfl, h1, h2, rfl⟩))
    go_ret
    refine ⟨rfl, ?_⟩
    repeat first
      | exact below_self _
      | refine below_drewN ?_ _
      | refine Below.drew ?_
      | refine below_alloc ?_ (by simp <;> omega) _

end Go.Proofs.Ytfdnhofkfodcjaa
