/-
  Statements over two matrices of which one is large.
-/
import Derived.Test.YtjjpgmgnejhggaaMp
namespace Go.Proofs.Ytjjpgmgnejhggaa
open Fl RowKit

set_option maxRecDepth 20000 in
set_option maxHeartbeats 4000000 in
theorem means_big (R C R' C' i j : Int) (ao bo : Option Addr) (n cap n' cap' : Nat) (w : World) (hnb : n ≤ 1000000000000000) (hnb' : n' ≤ 1000000000000000) (hL : 4098 < n ∨ 4098 < n') :
    Calls Try.prog 5 #[.agg #[.int .i64 R, .int .i64 C, .slice ao n cap], .agg #[.int .i64 R', .int .i64 C', .slice bo n' cap'], .int .i64 i, .int .i64 j] w fun e w' => e = .returned (.bool true) ∧ Below w.heap.size w w' := by
  have B0 : Below w.heap.size w ((w.alloc (.cells #[.int .i64 R, .int .i64 C, .slice ao n cap] 24)).alloc (.cells #[.int .i64 R', .int .i64 C', .slice bo n' cap'] 24)) := ba (bal _ _) _
  by_cases h1 : 4098 < n
  · have e1 : decide (4098 < n) = true := decide_eq_true h1
    go_enter Try.func5, Try.ntmps5
    go_wp2_with (first
    | (go_at_call 51; (refine (mawake_any _).mono ?_); (rintro e w1 ⟨rfl, hb⟩); (have Va : V3 w.heap.size (.int .i64 R) (.int .i64 C) (.slice ao n cap) w1 := V3.below (by repeat first | exact v3_at _ _ _ _ _ (by first | rfl | (simp only [size_al]; first | done | omega)) | refine V3.below ?_ (bal _ _)) hb); (have Vb : V3 (w.heap.size + 1) (.int .i64 R') (.int .i64 C') (.slice bo n' cap') w1 := V3.below (by repeat first | exact v3_at _ _ _ _ _ (by first | rfl | (simp only [size_al]; first | done | omega)) | refine V3.below ?_ (bal _ _)) hb); (have B1 : Below w.heap.size w w1 := b_of B0 hb (by simp only [size_al]; omega)); clear hb B0; (obtain ⟨la, a0, a1, a2, _, _, _⟩ := id Va); (obtain ⟨lb, b0, b1, b2, _, _, _⟩ := id Vb))
    | (go_at_call 8; (with_reducible refine (large_any R C ao n cap _ hnb).mono ?_); (rintro e w' ⟨rfl, hw'⟩); (subst w'); (rw [e1])))
    go_ret
    exact ⟨rfl, by repeat first | with_reducible exact B1 | with_reducible refine ba ?_ _⟩
  · have e1 : decide (4098 < n) = false := decide_eq_false h1
    have e2 : decide (4098 < n') = true := decide_eq_true (by omega)
    go_enter Try.func5, Try.ntmps5
    go_wp2_with (first
    | (go_at_call 51; (refine (mawake_any _).mono ?_); (rintro e w1 ⟨rfl, hb⟩); (have Va : V3 w.heap.size (.int .i64 R) (.int .i64 C) (.slice ao n cap) w1 := V3.below (by repeat first | exact v3_at _ _ _ _ _ (by first | rfl | (simp only [size_al]; first | done | omega)) | refine V3.below ?_ (bal _ _)) hb); (have Vb : V3 (w.heap.size + 1) (.int .i64 R') (.int .i64 C') (.slice bo n' cap') w1 := V3.below (by repeat first | exact v3_at _ _ _ _ _ (by first | rfl | (simp only [size_al]; first | done | omega)) | refine V3.below ?_ (bal _ _)) hb); (have B1 : Below w.heap.size w w1 := b_of B0 hb (by simp only [size_al]; omega)); clear hb B0; (obtain ⟨la, a0, a1, a2, _, _, _⟩ := id Va); (obtain ⟨lb, b0, b1, b2, _, _, _⟩ := id Vb))
    | (go_at_call 8; (with_reducible refine (large_any R C ao n cap _ hnb).mono ?_); (rintro e w' ⟨rfl, hw'⟩); (subst w'); (rw [e1]))
    | (go_at_call 8; (with_reducible refine (large_any R' C' bo n' cap' _ hnb').mono ?_); (rintro e w' ⟨rfl, hw'⟩); (subst w'); (rw [e2])))
    go_ret
    exact ⟨rfl, by repeat first | with_reducible exact B1 | with_reducible refine ba ?_ _⟩
set_option maxRecDepth 20000 in
set_option maxHeartbeats 4000000 in
theorem turns_big (R C R' C' i j : Int) (ao bo : Option Addr) (n cap n' cap' : Nat) (w : World) (hnb : n ≤ 1000000000000000) (hnb' : n' ≤ 1000000000000000) (hL : 4098 < n ∨ 4098 < n') :
    Calls Try.prog 6 #[.agg #[.int .i64 R, .int .i64 C, .slice ao n cap], .agg #[.int .i64 R', .int .i64 C', .slice bo n' cap'], .int .i64 i, .int .i64 j] w fun e w' => e = .returned (.bool true) ∧ Below w.heap.size w w' := by
  have B0 : Below w.heap.size w ((w.alloc (.cells #[.int .i64 R, .int .i64 C, .slice ao n cap] 24)).alloc (.cells #[.int .i64 R', .int .i64 C', .slice bo n' cap'] 24)) := ba (bal _ _) _
  by_cases h1 : 4098 < n
  · have e1 : decide (4098 < n) = true := decide_eq_true h1
    go_enter Try.func6, Try.ntmps6
    go_wp2_with (first
    | (go_at_call 51; (refine (mawake_any _).mono ?_); (rintro e w1 ⟨rfl, hb⟩); (have Va : V3 w.heap.size (.int .i64 R) (.int .i64 C) (.slice ao n cap) w1 := V3.below (by repeat first | exact v3_at _ _ _ _ _ (by first | rfl | (simp only [size_al]; first | done | omega)) | refine V3.below ?_ (bal _ _)) hb); (have Vb : V3 (w.heap.size + 1) (.int .i64 R') (.int .i64 C') (.slice bo n' cap') w1 := V3.below (by repeat first | exact v3_at _ _ _ _ _ (by first | rfl | (simp only [size_al]; first | done | omega)) | refine V3.below ?_ (bal _ _)) hb); (have B1 : Below w.heap.size w w1 := b_of B0 hb (by simp only [size_al]; omega)); clear hb B0; (obtain ⟨la, a0, a1, a2, _, _, _⟩ := id Va); (obtain ⟨lb, b0, b1, b2, _, _, _⟩ := id Vb))
    | (go_at_call 8; (with_reducible refine (large_any R C ao n cap _ hnb).mono ?_); (rintro e w' ⟨rfl, hw'⟩); (subst w'); (rw [e1])))
    go_ret
    exact ⟨rfl, by repeat first | with_reducible exact B1 | with_reducible refine ba ?_ _⟩
  · have e1 : decide (4098 < n) = false := decide_eq_false h1
    have e2 : decide (4098 < n') = true := decide_eq_true (by omega)
    go_enter Try.func6, Try.ntmps6
    go_wp2_with (first
    | (go_at_call 51; (refine (mawake_any _).mono ?_); (rintro e w1 ⟨rfl, hb⟩); (have Va : V3 w.heap.size (.int .i64 R) (.int .i64 C) (.slice ao n cap) w1 := V3.below (by repeat first | exact v3_at _ _ _ _ _ (by first | rfl | (simp only [size_al]; first | done | omega)) | refine V3.below ?_ (bal _ _)) hb); (have Vb : V3 (w.heap.size + 1) (.int .i64 R') (.int .i64 C') (.slice bo n' cap') w1 := V3.below (by repeat first | exact v3_at _ _ _ _ _ (by first | rfl | (simp only [size_al]; first | done | omega)) | refine V3.below ?_ (bal _ _)) hb); (have B1 : Below w.heap.size w w1 := b_of B0 hb (by simp only [size_al]; omega)); clear hb B0; (obtain ⟨la, a0, a1, a2, _, _, _⟩ := id Va); (obtain ⟨lb, b0, b1, b2, _, _, _⟩ := id Vb))
    | (go_at_call 8; (with_reducible refine (large_any R C ao n cap _ hnb).mono ?_); (rintro e w' ⟨rfl, hw'⟩); (subst w'); (rw [e1]))
    | (go_at_call 8; (with_reducible refine (large_any R' C' bo n' cap' _ hnb').mono ?_); (rintro e w' ⟨rfl, hw'⟩); (subst w'); (rw [e2])))
    go_ret
    exact ⟨rfl, by repeat first | with_reducible exact B1 | with_reducible refine ba ?_ _⟩
set_option maxRecDepth 20000 in
set_option maxHeartbeats 4000000 in
theorem pairs_big (R C R' C' i j : Int) (ao bo : Option Addr) (n cap n' cap' : Nat) (w : World) (hnb : n ≤ 1000000000000000) (hnb' : n' ≤ 1000000000000000) (hL : 4098 < n ∨ 4098 < n') :
    Calls Try.prog 3 #[.agg #[.int .i64 R, .int .i64 C, .slice ao n cap], .agg #[.int .i64 R', .int .i64 C', .slice bo n' cap'], .int .i64 i, .int .i64 j] w fun e w' => e = .returned (.bool true) ∧ Below w.heap.size w w' := by
  have B0 : Below w.heap.size w ((w.alloc (.cells #[.int .i64 R, .int .i64 C, .slice ao n cap] 24)).alloc (.cells #[.int .i64 R', .int .i64 C', .slice bo n' cap'] 24)) := ba (bal _ _) _
  by_cases h1 : 4098 < n
  · have e1 : decide (4098 < n) = true := decide_eq_true h1
    go_enter Try.func3, Try.ntmps3
    go_wp2_with (first
    | (go_at_call 8; (with_reducible refine (large_any R C ao n cap _ hnb).mono ?_); (rintro e w' ⟨rfl, hw'⟩); (subst w'); (rw [e1])))
    go_ret
    exact ⟨rfl, by repeat first | with_reducible exact B0 | with_reducible refine ba ?_ _⟩
  · have e1 : decide (4098 < n) = false := decide_eq_false h1
    have e2 : decide (4098 < n') = true := decide_eq_true (by omega)
    go_enter Try.func3, Try.ntmps3
    go_wp2_with (first
    | (go_at_call 8; (with_reducible refine (large_any R C ao n cap _ hnb).mono ?_); (rintro e w' ⟨rfl, hw'⟩); (subst w'); (rw [e1]))
    | (go_at_call 8; (with_reducible refine (large_any R' C' bo n' cap' _ hnb').mono ?_); (rintro e w' ⟨rfl, hw'⟩); (subst w'); (rw [e2])))
    go_ret
    exact ⟨rfl, by repeat first | with_reducible exact B0 | with_reducible refine ba ?_ _⟩

end Go.Proofs.Ytjjpgmgnejhggaa
