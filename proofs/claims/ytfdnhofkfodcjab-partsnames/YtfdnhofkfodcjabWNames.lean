/-
  The walk of PartsNames: it hands back true.
-/
import Derived.Test.YtfdnhofkfodcjabPl
namespace Go.Proofs.Ytfdnhofkfodcjab
open Fl RowKit

theorem rep_mk {A : Option Nat} {c : Nat} (l : c < 18446744073709551616) (h : ans c = A) : rep A c := ⟨l, h⟩
theorem lsame_true {A B : Option Nat} {a b c d : Nat} (w : World) (h1 : rep A a) (h2 : rep A c) (h3 : rep B b) (h4 : rep B d) :
    Calls Try.prog 15 #[.complex .f64 a b, .complex .f64 c d] w fun e w' => e = .returned (.bool true) ∧ w' = w := by
  have h := lsame_any a b c d w
  rw [smB_of h1 h2, smB_of h3 h4] at h
  exact h
theorem lsame_lit (a b : Nat) (w : World) :
    Calls Try.prog 15 #[.complex .f64 a b, .complex .f64 a b] w fun e w' => e = .returned (.bool true) ∧ w' = w := by
  have h := lsame_any a b a b w
  rw [smB_self, smB_self] at h
  exact h
theorem signbit_0 (w : World) : Calls Try.prog 17 #[.float .f64 0] w fun e w' => e = .returned (.bool false) ∧ w' = w := by
  have b1 : bits BinOp.and IntKind.u64 0 9223372036854775808 = 0 := by kernel_rfl
  go_enter Try.func17, Try.ntmps17
  go_wp2
  go_ret
  exact ⟨rfl, rfl⟩
theorem conj_one (w : World) : Calls Try.prog 24 #[.complex .f64 4607182418800017408 0] w fun e w' => e = .returned (.complex .f64 4607182418800017408 9223372036854775808) ∧ w' = w := by
  refine (conj_any w (rep_ans (x := 4607182418800017408) (by decide)) (rep_ans (x := 0) (by decide))).mono ?_
  rintro e w' ⟨im, rfl, h, rfl⟩
  obtain rfl := rep_is h (by kernel_rfl : negA (ans 0) = some 9223372036854775808)
  exact ⟨rfl, rfl⟩

set_option maxRecDepth 100000 in
set_option maxHeartbeats 4000000 in
theorem names_walk (w : World) : Calls Try.prog 4 #[] w fun e w' => e = .returned (.bool true) ∧ Below w.heap.size w w' := by
  have ab0 : absA (ans 9223372036854775808) (ans 0) = some 0 := by kernel_rfl
  have ab1 : absA (ans 9221120237041090561) (ans 18442240474082181120) = some 9218868437227405312 := by kernel_rfl
  have ab2 : absA (ans 9094988921128908188) (ans 9094988921128908188) = some 9097522851029299729 := by kernel_rfl
  have sz2 : addA (mulA (ans 4613937818241073152) (ans 4613937818241073152)) (mulA (ans 13839561654909534208) (ans 13839561654909534208)) = some 4627730092099895296 := by kernel_rfl
  have sz1 : addA (sizA (ans 9217376869322697968)) (sizA (ans 9217376869322697968)) = some 9218868437227405312 := by kernel_rfl
  have cs1 : csW 0 13830554455654793216 = 9223372036854775808 := by kernel_rfl
  have g1 : Op.negFloat .f64 9218868437227405312 = 18442240474082181120 := by kernel_rfl
  have s1 : smB 0 9223372036854775808 = false := by kernel_rfl
  have s2 : smB 9221120237041090561 9221120237041090561 = true := by kernel_rfl
  have s3 : smB 4607182418800017408 4607182418800017408 = true := by kernel_rfl
  have q1 : eqB 0 9223372036854775808 = true := by kernel_rfl
  have q2 : eqB 9221120237041090561 9221120237041090561 = false := by kernel_rfl
  have q3 : eqB 4607182418800017408 4607182418800017408 = true := by kernel_rfl
  have o0 := oeq 0 (by decide)
  have o1 := oeq 9218868437227405312 (by decide)
  have o2 := oeq 9097522851029299729 (by decide)
  have o3 := oeq 4627730092099895296 (by decide)
  go_enter Try.func4, Try.ntmps4
  go_wp2_with (first
    | (go_at_call 12; refine (inf_1 _).mono ?_; rintro e w' ⟨rfl, rfl⟩)
    | (go_at_call 17; refine (signbit_0 _).mono ?_; rintro e w' ⟨rfl, rfl⟩)
    | (go_at_call 13; refine (nan_1 _).mono ?_; rintro e w' ⟨rfl, rfl⟩)
    | (go_at_call 14; refine (copysign_any _ _ _ (by decide) (by decide)).mono ?_; rw [cs1]; rintro e w' ⟨rfl, rfl⟩)
    | (go_at_call 6; refine (lives_any _).mono ?_; rintro e w' ⟨n, rfl, rfl⟩)
    | (go_at_call 11; with_reducible refine (div_any _ (rep_ans (x := 4607182418800017408) (by decide)) (rep_ans (x := 4611686018427387904) (by decide)) (rep_ans (x := 4613937818241073152) (by decide)) (rep_ans (x := 13839561654909534208) (by decide))).mono ?_; rintro e w' ⟨re, im, n, rfl, h1, h2, rfl⟩)
    | (go_at_call 11; with_reducible refine (div_any _ (rep_ans (x := 4607182418800017408) (by decide)) (rep_ans (x := 0) (by decide)) (rep_ans (x := 0) (by decide)) (rep_ans (x := 0) (by decide))).mono ?_; rintro e w' ⟨re, im, n, rfl, h1, h2, rfl⟩)
    | (go_at_call 11; with_reducible refine (div_any _ (rep_ans (x := 4607182418800017408) (by decide)) (rep_ans (x := 4607182418800017408) (by decide)) (rep_ans (x := 9218868437227405312) (by decide)) (rep_ans (x := 0) (by decide))).mono ?_; rintro e w' ⟨re, im, n, rfl, h1, h2, rfl⟩)
    | (go_at_call 11; with_reducible refine (div_any _ (rep_ans (x := 9214871658872686752) (by decide)) (rep_ans (x := 9214871658872686752) (by decide)) (rep_ans (x := 9214871658872686752) (by decide)) (rep_ans (x := 9214871658872686752) (by decide))).mono ?_; rintro e w' ⟨re, im, n, rfl, h1, h2, rfl⟩)
    | (go_at_call 11; with_reducible refine (div_any _ (rep_ans (x := 9210368059245316256) (by decide)) (rep_ans (x := 9210368059245316256) (by decide)) (rep_ans (x := 9210368059245316256) (by decide)) (rep_ans (x := 9210368059245316256) (by decide))).mono ?_; rintro e w' ⟨re, im, n, rfl, h1, h2, rfl⟩)
    | (go_at_call 16; with_reducible refine (abs_any _ (rep_ans (x := 9223372036854775808) (by decide)) (rep_ans (x := 0) (by decide))).mono ?_; rintro e w' ⟨re, n, rfl, h1, rfl⟩; obtain rfl := rep_is h1 ab0; clear h1)
    | (go_at_call 16; with_reducible refine (abs_any _ (rep_ans (x := 9221120237041090561) (by decide)) (rep_ans (x := 18442240474082181120) (by decide))).mono ?_; rintro e w' ⟨re, n, rfl, h1, rfl⟩; obtain rfl := rep_is h1 ab1; clear h1)
    | (go_at_call 16; with_reducible refine (abs_any _ (rep_ans (x := 9094988921128908188) (by decide)) (rep_ans (x := 9094988921128908188) (by decide))).mono ?_; rintro e w' ⟨re, n, rfl, h1, rfl⟩; obtain rfl := rep_is h1 ab2; clear h1)
    | (go_at_call 18; with_reducible refine (size2_any _ (rep_ans (x := 4613937818241073152) (by decide)) (rep_ans (x := 13839561654909534208) (by decide))).mono ?_; rintro e w' ⟨re, n, rfl, h1, rfl⟩; obtain rfl := rep_is h1 sz2; clear h1)
    | (go_at_call 19; with_reducible refine (size1_any _ (rep_ans (x := 9217376869322697968) (by decide)) (rep_ans (x := 9217376869322697968) (by decide))).mono ?_; rintro e w' ⟨re, n, rfl, h1, rfl⟩; obtain rfl := rep_is h1 sz1; clear h1)
    | (go_at_call 20; with_reducible refine (sqrt_any _ (rep_ans (x := 18442240474082181120) (by decide)) (rep_ans (x := 9221120237041090561) (by decide))).mono ?_; rintro e w' ⟨re, im, n, rfl, h1, h2, rfl⟩)
    | (go_at_call 20; with_reducible refine (sqrt_any _ (rep_ans (x := 13839561654909534208) (by decide)) (rep_ans (x := 0) (by decide))).mono ?_; rintro e w' ⟨re, im, n, rfl, h1, h2, rfl⟩)
    | (go_at_call 20; with_reducible refine (sqrt_any _ (rep_ans (x := 13839561654909534208) (by decide)) (rep_ans (x := 9223372036854775808) (by decide))).mono ?_; rintro e w' ⟨re, im, n, rfl, h1, h2, rfl⟩)
    | (go_at_call 20; with_reducible refine (sqrt_any _ (rep_ans (x := 0) (by decide)) (rep_ans (x := 9223372036854775808) (by decide))).mono ?_; rintro e w' ⟨re, im, n, rfl, h1, h2, rfl⟩)
    | (go_at_call 21; refine (same_any _ _ _ _ _).mono ?_; rintro e w' ⟨rfl, rfl⟩)
    | (go_at_call 22; refine (equal_any _ _ _ _ _).mono ?_; rintro e w' ⟨rfl, rfl⟩)
    | (go_at_call 23; with_reducible refine (neg_any _ (rep_ans (x := 0) (by decide)) (rep_ans (x := 4607182418800017408) (by decide))).mono ?_; rintro e w' ⟨re, im, rfl, h1, h2, rfl⟩)
    | (go_at_call 24; with_reducible refine (conj_one _).mono ?_; rintro e w' ⟨rfl, rfl⟩)
    | (go_at_call 8; with_reducible refine (sub_any _ (rep_ans (x := 0) (by decide)) (rep_ans (x := 0) (by decide)) (rep_ans (x := 0) (by decide)) (rep_ans (x := 0) (by decide))).mono ?_; rintro e w' ⟨re, im, n, rfl, h1, h2, rfl⟩)
    | (go_at_call 15; with_reducible refine (lsame_lit 4607182418800017408 9223372036854775808 _).mono ?_; rintro e w' ⟨rfl, rfl⟩)
    | (go_at_call 15; refine (lsame_true _ (by assumption) (rep_mk (by decide) (by kernel_rfl)) (by assumption) (rep_mk (by decide) (by kernel_rfl))).mono ?_; rintro e w' ⟨rfl, rfl⟩))
  go_ret
  refine ⟨rfl, ?_⟩
  repeat first
    | exact below_self _
    | refine below_drewN ?_ _

end Go.Proofs.Ytfdnhofkfodcjab
