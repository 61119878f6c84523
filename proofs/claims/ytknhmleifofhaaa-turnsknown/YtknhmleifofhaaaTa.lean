/-
  gridworklaw04's awake is true; gridworkkit's Pick.
-/
import Derived.Test.YtknhmleifofhaaaWRoots
import Derived.Test.YtknhmleifofhaaaTx
namespace Go.Proofs.Ytknhmleifofhaaa
open Fl RowKit
set_option linter.unusedVariables false

theorem pick_any (i n : Int) (w : World) (hi : -9223372036854775808 ≤ i) (hi2 : i < 9223372036854775808) (hn : 0 < n) (hn2 : n ≤ 1099511627776) : Calls Try.prog 33 #[.int .i64 i, .int .i64 n] w fun e w' => ∃ p, e = .returned (.int .i64 p) ∧ 0 ≤ p ∧ p < n ∧ p = i % n ∧ w' = w := by
  have hb := Int.emod_nonneg i (show n ≠ 0 by omega)
  have hl := Int.emod_lt_of_pos i hn
  have hm := Int.lt_tmod_of_pos i hn
  have hm2 := Int.tmod_lt_of_pos i hn
  have hne : ¬ n = 0 := by omega
  have ht : i % n = if i.tmod n < 0 then i.tmod n + n else i.tmod n := by
    have h := @Int.tmod_eq_emod i n
    have e : (n.natAbs : Int) = n := by omega
    split at h <;> split <;> simp only [e] at * <;> omega
  generalize i % n = p at *
  by_cases hlt : i.tmod n < 0
  · rw [if_pos hlt] at ht
    generalize hq : i.tmod n = q at *
    go_enter Try.func33, Try.ntmps33
    go_wp2
    go_ret
    exact ⟨p, by rw [ht]; rfl, hb, hl, by first | rfl | exact ht, rfl⟩
  · rw [if_neg hlt] at ht
    generalize hq : i.tmod n = q at *
    go_enter Try.func33, Try.ntmps33
    go_wp2
    go_ret
    exact ⟨p, by rw [ht]; rfl, hb, hl, by first | rfl | exact ht, rfl⟩

theorem angle_at {a b c : Nat} {E : Int} (w : World) (la : a < 18446744073709551616) (lb : b < 18446744073709551616) (he : angE a b = E) (hr : angR a b = some c) :
    Calls Try.prog 29 #[.complex .f64 a b] w fun e w' => ∃ n, e = .returned (.tuple #[.float .f64 c, .int .i64 E]) ∧ w' = w.drewN n := by
  refine (angle_any w la lb).mono ?_
  rintro e w' ⟨v, n, rfl, hv, rfl⟩
  obtain rfl := rep_is hv hr
  rw [he]
  exact ⟨n, rfl, rfl⟩
theorem root_eq (x y : Int) (w : World) (h : x = y) (h0 : -9223372036854775808 ≤ x) (h1 : x < 9223372036854775808) : Calls Try.prog 23 #[.int .i64 x] w fun e w' => e = .returned (.complex .f64 (rtR y) (rtI y)) ∧ w' = w := by
  subst h; exact root_any x w h0 h1

theorem e1 : angE 0 13840687554816376832 = 0 := by kernel_rfl
theorem r1 : angR 0 13840687554816376832 = some 13841813454723219456 := by kernel_rfl
theorem e2 : angE 0 0 = 2 := by kernel_rfl
theorem r2 : angR 0 0 = some 0 := by kernel_rfl
theorem root_3 (w : World) : Calls Try.prog 23 #[.int .i64 3] w fun e w' => e = .returned (.complex .f64 4604544271217802189 4604544271217802189) ∧ w' = w := root_any 3 w (by decide) (by decide)
theorem root_18 (w : World) : Calls Try.prog 23 #[.int .i64 18] w fun e w' => e = .returned (.complex .f64 0 13830554455654793216) ∧ w' = w := root_any 18 w (by decide) (by decide)
theorem t1 : mulRe (ans 0) (ans 4611686018427387904) (ans (rtR 6)) (ans (rtI 6)) = some 13835058055282163712 := by kernel_rfl
theorem t2 : mulIm (ans 0) (ans 4611686018427387904) (ans (rtR 6)) (ans (rtI 6)) = some 0 := by kernel_rfl
theorem turned_6 (w : World) : Calls Try.prog 27 #[.complex .f64 0 4611686018427387904, .int .i64 6] w fun e w' => e = .returned (.complex .f64 13835058055282163712 0) ∧ Below w.heap.size w w' := by
  refine (turned_by 6 w (rep_ans (x := 0) (by decide)) (rep_ans (x := 4611686018427387904) (by decide)) (by decide) (by decide)).mono ?_
  rintro e w' ⟨re, im, rfl, h1, h2, hb⟩
  obtain rfl := rep_is h1 t1
  obtain rfl := rep_is h2 t2
  exact ⟨rfl, hb⟩

set_option maxHeartbeats 1000000 in
theorem awake_any (w : World) : Calls Try.prog 32 #[] w fun e w' => e = .returned (.bool true) ∧ Below w.heap.size w w' := by
  have o1 := oeq 4604544271217802189 (by decide)
  have o2 := oeq 0 (by decide)
  have o3 := oeq 13830554455654793216 (by decide)
  have o4 := oeq 13835058055282163712 (by decide)
  have o5 := oeq 13841813454723219456 (by decide)
  go_enter Try.func32, Try.ntmps32
  go_wp2_with (first
    | (go_at_call 29; (with_reducible refine (angle_at _ (by decide) (by decide) e1 r1).mono ?_); rintro e w' ⟨n, rfl, rfl⟩)
    | (go_at_call 29; (with_reducible refine (angle_at _ (by decide) (by decide) e2 r2).mono ?_); rintro e w' ⟨n, rfl, rfl⟩)
    | (go_at_call 23; (with_reducible refine (root_3 _).mono ?_); rintro e w' ⟨rfl, rfl⟩)
    | (go_at_call 23; (with_reducible refine (root_18 _).mono ?_); rintro e w' ⟨rfl, rfl⟩)
    | (go_at_call 27; (with_reducible refine (turned_6 _).mono ?_); rintro e w' ⟨rfl, hbel⟩))
  go_ret
  refine ⟨rfl, bt ?_ hbel⟩
  repeat first
    | exact below_self _
    | refine below_drewN ?_ _

end Go.Proofs.Ytknhmleifofhaaa
