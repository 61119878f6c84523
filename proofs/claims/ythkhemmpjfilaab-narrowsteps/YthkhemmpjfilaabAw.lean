/-
  What the small calls of package narrow hand back: To and Back where nothing is too great; gridworklaw03's awake is true.
-/
import Derived.Test.YthkhemmpjfilaabNw
import Derived.Test.YthkhemmpjfilaabNb
import Derived.Test.YthkhemmpjfilaabWNeigh
import Derived.Test.YthkhemmpjfilaabLdt
namespace Go.Proofs.Ythkhemmpjfilaab
open Fl RowKit

theorem run_wd {x : Nat} (h : Fs.nan x = false) (w : World) : (convert 34 22 (.float .f32 x)).run Try.prog w = .ok (.float .f64 (Nw.wd x)) w :=
  run_convert_float_float w _ _ .f32 .f64 x _ (by kernel_rfl) (by kernel_rfl) (Nw.f2f_wd h)
theorem run_nw {y : Nat} (h : Fl.fin y) (hr : Nw.nwr y < 2139095040) (w : World) : (convert 22 34 (.float .f64 y)).run Try.prog w = .ok (.float .f32 (Nw.nw y)) w :=
  run_convert_float_float w _ _ .f64 .f32 y _ (by kernel_rfl) (by kernel_rfl) (Nw.f2f_nw h hr)

theorem to_any {a b : Nat} (w : World) (ha : Fl.fin a) (hb : Fl.fin b) (ra : Nw.nwr a < 2139095040) (rb : Nw.nwr b < 2139095040) : Calls Try.prog 22 #[.complex .f64 a b] w fun e w' => e = .returned (.complex .f32 (Nw.nw a) (Nw.nw b)) ∧ w' = w := by
  have c1 := fun w => run_nw ha ra w
  have c2 := fun w => run_nw hb rb w
  go_enter Try.func22, Try.ntmps22
  go_wp2
  go_ret
  exact ⟨rfl, rfl⟩
theorem back_any {a b : Nat} (w : World) (ha : Fs.nan a = false) (hb : Fs.nan b = false) : Calls Try.prog 23 #[.complex .f32 a b] w fun e w' => e = .returned (.complex .f64 (Nw.wd a) (Nw.wd b)) ∧ w' = w := by
  have c1 := fun w => run_wd ha w
  have c2 := fun w => run_wd hb w
  go_enter Try.func23, Try.ntmps23
  go_wp2_with (first | (go_at_call 36; refine (napart_any _ _ _).mono ?_; rintro e w' ⟨rfl, rfl⟩))
  go_ret
  exact ⟨rfl, rfl⟩
theorem ksameR_any (a b : Nat) (w : World) : Calls Try.prog 44 #[.float .f64 a, .float .f64 b] w fun e w' => e = .returned (.bool (smB a b)) ∧ w' = w := by
  by_cases hab : a = b
  · subst hab
    rw [smB_self]
    go_enter Try.func44, Try.ntmps44
    go_wp2
    go_ret
    exact ⟨rfl, rfl⟩
  · have hne : ¬ ((a : Int) = (b : Int)) := by omega
    have hnb : (a == b) = false := beq_false_of_ne hab
    cases ha : nan a <;> cases hb : nan b
    all_goals
      first | (have h1 := order_num ha) | (have h1 := order_nan ha)
      first | (have h2 := order_num hb) | (have h2 := order_nan hb)
      go_enter Try.func44, Try.ntmps44
      go_wp2
      go_ret
      refine ⟨retb ?_, rfl⟩
      simp [smB, ha, hb, hnb]
      try exact hne
theorem ksame_any (a b c d : Nat) (w : World) : Calls Try.prog 32 #[.complex .f64 a b, .complex .f64 c d] w fun e w' => e = .returned (.bool (smB a c && smB b d)) ∧ w' = w := by
  cases h1 : smB a c <;> cases h2 : smB b d
  all_goals
    go_enter Try.func32, Try.ntmps32
    go_wp2_with (first | (go_at_call 44; refine (ksameR_any _ _ _).mono ?_; rintro e w' ⟨rfl, rfl⟩))
    go_ret
    exact ⟨rfl, rfl⟩

theorem one_int : floatOfInt .f64 ((1 : Nat) : Int) = 4607182418800017408 := by kernel_rfl
theorem pow_any (e1 R : Nat) (p : Int) (w : World) (hp : p = (e1 : Int) - 1074) (hR : rung (1 * 2 ^ e1) = R) (hR2 : R < 9218868437227405312) : Calls Try.prog 7 #[.int .i64 p] w fun e w' => ∃ n, e = .returned (.float .f64 R) ∧ w' = w.drewN n := by
  have hl := ldexp_any 1 e1 w (by decide) (by decide) (by rw [hR]; exact hR2) ⟨1, e1, rfl, by decide⟩
  rw [one_int, hR, ← hp] at hl
  clear hp hR hR2
  go_enter Try.func7, Try.ntmps7
  go_wp2_with (first | (go_at_call 30; refine hl.mono ?_; rintro e w' ⟨n, rfl, rfl⟩))
  go_ret
  exact ⟨_, rfl, rfl⟩
theorem pow_24 (w : World) : Calls Try.prog 7 #[.int .i64 (-24)] w fun e w' => ∃ n, e = .returned (.float .f64 4499096027743125504) ∧ w' = w.drewN n := pow_any 1050 _ _ w (by decide) (by kernel_rfl) (by decide)
theorem pow_22 (w : World) : Calls Try.prog 7 #[.int .i64 (-22)] w fun e w' => ∃ n, e = .returned (.float .f64 4508103226997866496) ∧ w' = w.drewN n := pow_any 1052 _ _ w (by decide) (by kernel_rfl) (by decide)
theorem pow_150 (w : World) : Calls Try.prog 7 #[.int .i64 (-150)] w fun e w' => ∃ n, e = .returned (.float .f64 3931642474694443008) ∧ w' = w.drewN n := pow_any 924 _ _ w (by decide) (by kernel_rfl) (by decide)

theorem lost_1 (w : World) : Calls Try.prog 10 #[.complex .f64 4607182419068452864 3931642474694443008] w fun e w' => ∃ n, e = .returned (.tuple #[.complex .f64 4499096027743125504 3931642474694443008, .int .i64 0]) ∧ w' = w.drewN n := by
  have t1 : Nw.nw 4607182419068452864 = 1065353216 := by kernel_rfl
  have t2 : Nw.nw 3931642474694443008 = 0 := by kernel_rfl
  have b1 : Nw.wd 1065353216 = 4607182418800017408 := by kernel_rfl
  have b2 : Nw.wd 0 = 0 := by kernel_rfl
  have s1 : subA (ans 4607182419068452864) (ans 4607182418800017408) = some 4499096027743125504 := by kernel_rfl
  have s2 : subA (ans 3931642474694443008) (ans 0) = some 3931642474694443008 := by kernel_rfl
  have f1 : finB 4607182419068452864 = true := by decide
  have f2 : finB 3931642474694443008 = true := by decide
  have f3 : finB 4607182418800017408 = true := by decide
  have f4 : finB 0 = true := by decide
  go_enter Try.func10, Try.ntmps10
  go_wp2_with (first
    | (go_at_call 33; refine (fin_any _ _ _ (by decide) (by decide)).mono ?_; rintro e w' ⟨rfl, rfl⟩)
    | (go_at_call 22; refine (to_any _ (by unfold Fl.fin; decide) (by unfold Fl.fin; decide) (by decide +kernel) (by decide +kernel)).mono ?_; rw [t1, t2]; rintro e w' ⟨rfl, rfl⟩)
    | (go_at_call 23; refine (back_any _ (by decide) (by decide)).mono ?_; rw [b1, b2]; rintro e w' ⟨rfl, rfl⟩)
    | (go_at_call 34; with_reducible refine (sub_any _ (rep_ans (x := 4607182419068452864) (by decide)) (rep_ans (x := 3931642474694443008) (by decide)) (rep_ans (x := 4607182418800017408) (by decide)) (rep_ans (x := 0) (by decide))).mono ?_; rintro e w' ⟨re, im, n, rfl, h1, h2, rfl⟩; obtain rfl := rep_is h1 s1; obtain rfl := rep_is h2 s2))
  go_ret2
  exact ⟨_, rfl, rfl⟩

theorem nmul_1 (w : World) : Calls Try.prog 14 #[.complex .f32 1065353216 1073741824, .complex .f32 1077936128 1082130432] w fun e w' => e = .returned (.complex .f32 3231711232 1092616192) ∧ w' = w := by
  have m1 : ∀ t w, (binOp .mul t (.float .f32 1065353216) (.float .f32 1077936128)).run Try.prog w = .ok (.float .f32 1077936128) w := fun t w => run_float_arith w .mul t .f32 _ _ _ (by kernel_rfl)
  have m2 : ∀ t w, (binOp .mul t (.float .f32 1073741824) (.float .f32 1082130432)).run Try.prog w = .ok (.float .f32 1090519040) w := fun t w => run_float_arith w .mul t .f32 _ _ _ (by kernel_rfl)
  have m3 : ∀ t w, (binOp .sub t (.float .f32 1077936128) (.float .f32 1090519040)).run Try.prog w = .ok (.float .f32 3231711232) w := fun t w => run_float_arith w .sub t .f32 _ _ _ (by kernel_rfl)
  have m4 : ∀ t w, (binOp .mul t (.float .f32 1065353216) (.float .f32 1082130432)).run Try.prog w = .ok (.float .f32 1082130432) w := fun t w => run_float_arith w .mul t .f32 _ _ _ (by kernel_rfl)
  have m5 : ∀ t w, (binOp .mul t (.float .f32 1073741824) (.float .f32 1077936128)).run Try.prog w = .ok (.float .f32 1086324736) w := fun t w => run_float_arith w .mul t .f32 _ _ _ (by kernel_rfl)
  have m6 : ∀ t w, (binOp .add t (.float .f32 1082130432) (.float .f32 1086324736)).run Try.prog w = .ok (.float .f32 1092616192) w := fun t w => run_float_arith w .add t .f32 _ _ _ (by kernel_rfl)
  go_enter Try.func14, Try.ntmps14
  go_wp2_with (first | (go_at_call 36; refine (napart_any _ _ _).mono ?_; rintro e w' ⟨rfl, rfl⟩))
  go_ret
  exact ⟨rfl, rfl⟩
theorem nsize_any (x : Nat) (w : World) (hx : x < 4294967296) : Calls Try.prog 37 #[.float .f32 x] w fun e w' => e = .returned (.float .f32 (Fs.mg x)) ∧ w' = w := by
  have ha := andNot3 x hx
  go_enter Try.func37, Try.ntmps37
  go_wp2
  go_ret
  exact ⟨ret3 (by simp), rfl⟩
theorem sqrt_1 (w : World) : Calls Try.prog 48 #[.float .f64 4609715693590413312] w fun e w' => e = .returned (.float .f64 4608308318706860032) ∧ w' = w := by
  have q0 : sqrtO 4609715693590413312 = some 4608308318706860032 := by kernel_rfl
  refine (sqrtf_any 4609715693590413312 w).mono ?_
  rintro e w' ⟨rfl, rfl⟩
  refine ⟨?_, ?_⟩
  · unfold sqrtV fV; rw [q0]
  · rw [q0]; exact World.drewN_zero w
theorem root_1 (w : World) : Calls Try.prog 39 #[.float .f32 1070071808] w fun e w' => e = .returned (.float .f32 1067450368) ∧ w' = w := by
  have b1 : Nw.wd 1070071808 = 4609715693590413312 := by kernel_rfl
  have t1 : Nw.nw 4608308318706860032 = 1067450368 := by kernel_rfl
  have c1 := fun w => run_wd (x := 1070071808) (by decide) w
  have c2 := fun w => run_nw (y := 4608308318706860032) (by unfold Fl.fin; decide) (by decide +kernel) w
  rw [b1] at c1
  rw [t1] at c2
  go_enter Try.func39, Try.ntmps39
  go_wp2_with (first | (go_at_call 48; refine (sqrt_1 _).mono ?_; rintro e w' ⟨rfl, rfl⟩))
  go_ret
  exact ⟨rfl, rfl⟩
theorem nabs_1 (w : World) : Calls Try.prog 16 #[.complex .f32 1077936128 3229614080] w fun e w' => e = .returned (.float .f32 1084227584) ∧ w' = w := by
  have g1 : Fs.mg 1077936128 = 1077936128 := by decide
  have g2 : Fs.mg 3229614080 = 1082130432 := by decide
  have i1 : decide (Fs.mg 1077936128 = 2139095040) = false := by decide
  have i2 : decide (Fs.mg 3229614080 = 2139095040) = false := by decide
  have o1 : FloatKind.f32.format.order 1077936128 1077936128 = some .eq := by kernel_rfl
  have o2 : FloatKind.f32.format.order 3229614080 3229614080 = some .eq := by kernel_rfl
  have o3 : FloatKind.f32.format.order 1077936128 1082130432 = some .lt := by kernel_rfl
  have o4 : FloatKind.f32.format.order 1082130432 0 = some .gt := by kernel_rfl
  have m1 : ∀ t w, (binOp .quo t (.float .f32 1077936128) (.float .f32 1082130432)).run Try.prog w = .ok (.float .f32 1061158912) w := fun t w => run_float_arith w .quo t .f32 _ _ _ (by kernel_rfl)
  have m2 : ∀ t w, (binOp .mul t (.float .f32 1061158912) (.float .f32 1061158912)).run Try.prog w = .ok (.float .f32 1058013184) w := fun t w => run_float_arith w .mul t .f32 _ _ _ (by kernel_rfl)
  have m3 : ∀ t w, (binOp .add t (.float .f32 1065353216) (.float .f32 1058013184)).run Try.prog w = .ok (.float .f32 1070071808) w := fun t w => run_float_arith w .add t .f32 _ _ _ (by kernel_rfl)
  have m4 : ∀ t w, (binOp .mul t (.float .f32 1082130432) (.float .f32 1067450368)).run Try.prog w = .ok (.float .f32 1084227584) w := fun t w => run_float_arith w .mul t .f32 _ _ _ (by kernel_rfl)
  go_enter Try.func16, Try.ntmps16
  go_wp2_with (first
    | (go_at_call 36; refine (napart_any _ _ _).mono ?_; rintro e w' ⟨rfl, rfl⟩)
    | (go_at_call 38; refine (ninf_any _ _ (by decide)).mono ?_; rintro e w' ⟨rfl, rfl⟩)
    | (go_at_call 37; refine (nsize_any _ _ (by decide)).mono ?_; rintro e w' ⟨rfl, rfl⟩)
    | (go_at_call 39; refine (root_1 _).mono ?_; rintro e w' ⟨rfl, rfl⟩))
  go_ret
  exact ⟨rfl, rfl⟩
theorem narrowed_1 (w : World) : Calls Try.prog 9 #[.complex .f64 4607182419068452864 4607182419605323776, .float .f64 4607182418800017408, .float .f64 4607182419873759232] w fun e w' => e = .returned (.bool true) ∧ w' = w := by
  have t1 : Nw.nw 4607182419068452864 = 1065353216 := by kernel_rfl
  have t2 : Nw.nw 4607182419605323776 = 1065353218 := by kernel_rfl
  have b1 : Nw.wd 1065353216 = 4607182418800017408 := by kernel_rfl
  have b2 : Nw.wd 1065353218 = 4607182419873759232 := by kernel_rfl
  have s1 := smB_self 4607182418800017408
  have s2 := smB_self 4607182419873759232
  go_enter Try.func9, Try.ntmps9
  go_wp2_with (first
    | (go_at_call 22; refine (to_any _ (by unfold Fl.fin; decide) (by unfold Fl.fin; decide) (by decide +kernel) (by decide +kernel)).mono ?_; rw [t1, t2]; rintro e w' ⟨rfl, rfl⟩)
    | (go_at_call 23; refine (back_any _ (by decide) (by decide)).mono ?_; rw [b1, b2]; rintro e w' ⟨rfl, rfl⟩)
    | (go_at_call 32; refine (ksame_any _ _ _ _ _).mono ?_; rintro e w' ⟨rfl, rfl⟩))
  go_ret
  exact ⟨rfl, rfl⟩
theorem addV_of {x y s : Nat} (h : addO x y = some s) (W : World) : addV W x y = s := by unfold addV fV; rw [h]
set_option maxHeartbeats 1000000 in
theorem awake_any (w : World) : Calls Try.prog 19 #[] w fun e w' => ∃ n, e = .returned (.bool true) ∧ w' = w.drewN n := by
  have a1 := fun W => addV_of (x := 4607182418800017408) (y := 4499096027743125504) (s := 4607182419068452864) (by kernel_rfl) W
  have a2 := fun W => addV_of (x := 4607182418800017408) (y := 4505851427184181248) (s := 4607182419605323776) (by kernel_rfl) W
  have a3 := fun W => addV_of (x := 4607182418800017408) (y := 4508103226997866496) (s := 4607182419873759232) (by kernel_rfl) W
  have a4 := fun W => mulV_of (x := 4613937818241073152) (y := 4499096027743125504) (s := 4505851427184181248) (by kernel_rfl) W
  have s1 := smB_self 4499096027743125504
  have s2 := smB_self 3931642474694443008
  have o1 : FloatKind.f32.format.order 3231711232 3231711232 = some .eq := by kernel_rfl
  have o2 : FloatKind.f32.format.order 1092616192 1092616192 = some .eq := by kernel_rfl
  have o3 : FloatKind.f32.format.order 1084227584 1084227584 = some .eq := by kernel_rfl
  go_enter Try.func19, Try.ntmps19
  go_wp2_with (first
    | (go_at_call 7; with_reducible refine (pow_24 _).mono ?_; rintro e w' ⟨n, rfl, rfl⟩)
    | (go_at_call 7; with_reducible refine (pow_22 _).mono ?_; rintro e w' ⟨n, rfl, rfl⟩)
    | (go_at_call 7; with_reducible refine (pow_150 _).mono ?_; rintro e w' ⟨n, rfl, rfl⟩)
    | (go_at_call 10; refine (lost_1 _).mono ?_; rintro e w' ⟨n, rfl, rfl⟩)
    | (go_at_call 9; refine (narrowed_1 _).mono ?_; rintro e w' ⟨rfl, rfl⟩)
    | (go_at_call 32; refine (ksame_any _ _ _ _ _).mono ?_; rintro e w' ⟨rfl, rfl⟩)
    | (go_at_call 14; refine (nmul_1 _).mono ?_; rintro e w' ⟨rfl, rfl⟩)
    | (go_at_call 16; refine (nabs_1 _).mono ?_; rintro e w' ⟨rfl, rfl⟩))
  go_ret
  exact ⟨_, rfl, rfl⟩
end Go.Proofs.Ythkhemmpjfilaab
