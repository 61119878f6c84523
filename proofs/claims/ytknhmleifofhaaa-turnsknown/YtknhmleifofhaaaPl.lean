/-
  What gridworklaw02's lives and gridworkkit's Number hand back.
-/
import Derived.Test.YtknhmleifofhaaaPg
import Derived.RegionTactic
import Derived.BigRegion
namespace Go.Proofs.Ytknhmleifofhaaa
open Fl RowKit

theorem rep_is {o : Option Nat} {x c : Nat} (h : rep o x) (e : o = some c) : x = c := by
  obtain ⟨_, h⟩ := h
  rw [e] at h
  exact (ans_some h).2
theorem drewN_drewN (w : World) (a b : Nat) : (w.drewN a).drewN b = w.drewN (a + b) := by simp
theorem below_drewN {n : Nat} {w w' : World} (h : Below n w w') (k : Nat) : Below n w (w'.drewN k) := by
  obtain ⟨h1, h2, h3, h4, h5⟩ := h
  exact ⟨h1, h2, h3, h4, h5⟩
theorem bt {a b c : World} (h : Below a.heap.size a b) (k : Below b.heap.size b c) : Below a.heap.size a c := h.trans (k.mono h.size)
theorem below_self (w : World) : Below w.heap.size w w := Below.refl _ _
theorem oeq (x : Nat) (h : nan x = false) : FloatKind.f64.format.order x x = some .eq := order_num h

theorem number_any (x y : Nat) (w : World) : Calls Try.prog 9 #[.agg #[.int .u64 (x : Int), .int .u64 (y : Int)]] w fun e w' => e = .returned (.complex .f64 x y) ∧ w' = (w.alloc (.cells #[.int .u64 (x : Int), .int .u64 (y : Int)] 24)).drew := by
  go_enter Try.func9, Try.ntmps9
  go_wp2
  go_region
  all_goals go_wp2
  all_goals go_ret
  all_goals exact ⟨rfl, rfl⟩

set_option maxHeartbeats 1000000 in
theorem lives_any (w : World) : Calls Try.prog 10 #[] w fun e w' => ∃ n, e = .returned (.bool true) ∧ w' = w.drewN n := by
  have m1 : mulRe (some 4607182418800017408) (some 4611686018427387904) (some 4613937818241073152) (some 13839561654909534208) = some 4622382067542392832 := by kernel_rfl
  have m2 : mulIm (some 4607182418800017408) (some 4611686018427387904) (some 4613937818241073152) (some 13839561654909534208) = some 4611686018427387904 := by kernel_rfl
  have a1 : absA (some 4613937818241073152) (some 13839561654909534208) = some 4617315517961601024 := by kernel_rfl
  have r1 : sqRe (some 4613937818241073152) (some 4616189618054758400) = some 4611686018427387904 := by kernel_rfl
  have r2 : sqIm (some 4613937818241073152) (some 4616189618054758400) = some 4607182418800017408 := by kernel_rfl
  have s1 : addA (sizA (some 4613937818241073152)) (sizA (some 13839561654909534208)) = some 4619567317775286272 := by kernel_rfl
  have o1 := oeq 4622382067542392832 (by decide)
  have o2 := oeq 4611686018427387904 (by decide)
  have o3 := oeq 4617315517961601024 (by decide)
  have o4 := oeq 4607182418800017408 (by decide)
  have o5 := oeq 4619567317775286272 (by decide)
  go_enter Try.func10, Try.ntmps10
  go_wp2_with (first
    | (go_at_call 13; refine (mul_any _ (rep_num (x := 4607182418800017408) (by decide) (by decide)) (rep_num (x := 4611686018427387904) (by decide) (by decide)) (rep_num (x := 4613937818241073152) (by decide) (by decide)) (rep_num (x := 13839561654909534208) (by decide) (by decide))).mono ?_; rintro e w' ⟨re, im, n, rfl, h1, h2, rfl⟩; obtain rfl := rep_is h1 m1; obtain rfl := rep_is h2 m2)
    | (go_at_call 18; refine (abs_any _ (rep_num (x := 4613937818241073152) (by decide) (by decide)) (rep_num (x := 13839561654909534208) (by decide) (by decide))).mono ?_; rintro e w' ⟨re, n, rfl, h1, rfl⟩; obtain rfl := rep_is h1 a1)
    | (go_at_call 20; refine (sqrt_any _ (rep_num (x := 4613937818241073152) (by decide) (by decide)) (rep_num (x := 4616189618054758400) (by decide) (by decide))).mono ?_; rintro e w' ⟨re, im, n, rfl, h1, h2, rfl⟩; obtain rfl := rep_is h1 r1; obtain rfl := rep_is h2 r2)
    | (go_at_call 41; refine (size1_any _ (rep_num (x := 4613937818241073152) (by decide) (by decide)) (rep_num (x := 13839561654909534208) (by decide) (by decide))).mono ?_; rintro e w' ⟨re, n, rfl, h1, rfl⟩; obtain rfl := rep_is h1 s1))
  go_ret
  exact ⟨_, rfl, rfl⟩

end Go.Proofs.Ytknhmleifofhaaa
