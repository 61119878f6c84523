/-
  The walk of TurnsKnown: it hands back true and only lays new memory.
-/
import Derived.Test.YtknhmleifofhaaaWCircle
namespace Go.Proofs.Ytknhmleifofhaaa
open Fl RowKit

theorem inf_m1 (w : World) : Calls Try.prog 40 #[.int .i64 (-1)] w fun e w' => e = .returned (.float .f64 18442240474082181120) ∧ w' = w := by
  go_enter Try.func40, Try.ntmps40
  go_wp2
  go_ret
  exact ⟨rfl, rfl⟩
theorem cs_m0 (w : World) : Calls Try.prog 38 #[.float .f64 0, .float .f64 13830554455654793216] w fun e w' => e = .returned (.float .f64 9223372036854775808) ∧ w' = w := copysign_any 0 13830554455654793216 w (by decide) (by decide)
theorem ksame_lit (a b : Nat) (w : World) : Calls Try.prog 22 #[.complex .f64 a b, .complex .f64 a b] w fun e w' => e = .returned (.bool true) ∧ w' = w := by
  have h := ksame_any a b a b w
  rw [smB_self, smB_self] at h
  exact h
theorem ksameR_lit (a : Nat) (w : World) : Calls Try.prog 31 #[.float .f64 a, .float .f64 a] w fun e w' => e = .returned (.bool true) ∧ w' = w := by
  have h := ksameR_any a a w
  rw [smB_self] at h
  exact h
theorem ph1 : mulA (ans 13830554455654793216) (ans (rtR 6)) = some 9223372036854775808 := by kernel_rfl
theorem ph2 : mulA (ans 13830554455654793216) (ans (rtI 6)) = some 13830554455654793216 := by kernel_rfl
theorem ph3 : mulA (ans 0) (ans (rtR 12)) = some 9223372036854775808 := by kernel_rfl
theorem ph4 : mulA (ans 0) (ans (rtI 12)) = some 0 := by kernel_rfl
theorem phasor_at {x c d : Nat} (k : Int) (w : World) (hx : x < 18446744073709551616) (h0 : -9223372036854775808 ≤ k) (h1 : k < 9223372036854775808) (e1 : mulA (ans x) (ans (rtR k)) = some c) (e2 : mulA (ans x) (ans (rtI k)) = some d) :
    Calls Try.prog 25 #[.float .f64 x, .int .i64 k] w fun e w' => e = .returned (.complex .f64 c d) ∧ Below w.heap.size w w' := by
  refine (phasor_any k w (rep_ans hx) h0 h1).mono ?_
  rintro e w' ⟨re, im, rfl, r1, r2, hb⟩
  obtain rfl := rep_is r1 e1
  obtain rfl := rep_is r2 e2
  exact ⟨rfl, hb⟩
theorem root_at {a b : Nat} (k : Int) (w : World) (h0 : -9223372036854775808 ≤ k) (h1 : k < 9223372036854775808) (e1 : rtR k = a) (e2 : rtI k = b) :
    Calls Try.prog 23 #[.int .i64 k] w fun e w' => e = .returned (.complex .f64 a b) ∧ w' = w := by
  subst e1 e2; exact root_any k w h0 h1

theorem n1 : angE 13830554455654793216 9223372036854775808 = 0 := by kernel_rfl
theorem n2 : angR 13830554455654793216 9223372036854775808 = some 4622945017495814144 := by kernel_rfl
theorem n3 : angE 13830554455654793216 0 = 0 := by kernel_rfl
theorem n4 : angR 13830554455654793216 0 = some 4622945017495814144 := by kernel_rfl
theorem n5 : angE 4607182418800017408 0 = 0 := by kernel_rfl
theorem n6 : angR 4607182418800017408 0 = some 0 := by kernel_rfl
theorem n7 : angE 9221120237041090561 4607182418800017408 = 5 := by kernel_rfl
theorem n8 : angR 9221120237041090561 4607182418800017408 = some 0 := by kernel_rfl
theorem n9 : angE 4607182418800017408 18442240474082181120 = 5 := by kernel_rfl
theorem n10 : angR 4607182418800017408 18442240474082181120 = some 0 := by kernel_rfl
theorem n11 : angE 9094988921128908188 9223372036854775809 = 0 := by kernel_rfl
theorem n12 : angR 9094988921128908188 9223372036854775809 = some 0 := by kernel_rfl

end Go.Proofs.Ytknhmleifofhaaa
