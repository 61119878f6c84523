/-
  The walk of NarrowSteps: it hands back true and only draws.
-/
import Derived.Test.YthkhemmpjfilaabMid
import Derived.Test.YthkhemmpjfilaabAw
namespace Go.Proofs.Ythkhemmpjfilaab
open Fl RowKit Nw

theorem sub_self_ord (x : Nat) (W : World) : FloatKind.f64.format.order (subV W x x) 0 = if finB x then some .eq else none := by
  have hr := rep_subV x x W
  rcases kinds x with hf | hi | hn
  · have hz : val x - val x = 0 := by omega
    have h0 : rn (val x - val x).natAbs < szI := by rw [hz]; decide +kernel
    obtain ⟨r, h1, h2, h3⟩ := sub_fin hf hf h0
    rw [hz] at h3
    have e : subV W x x = r := by unfold subV fV; rw [h1]
    have hv : val r = 0 := by rw [h3]; decide +kernel
    have hm : mg r = 0 := by
      have : (val r).natAbs = sz (mg r) := sgn_abs _ _
      rw [hv] at this
      rcases Nat.eq_zero_or_pos (mg r) with h | h
      · exact h
      · have := sz_pos h; omega
    have hb : finB x = true := by unfold finB; exact decide_eq_true hf
    rw [e, hb, if_pos rfl, f64_double, order_eq, fin_not_nan h2, nan_zero, plc_of_zero hm, plc_zero]; rfl
  · have hb : finB x = false := by unfold finB; exact decide_eq_false (by omega)
    have e : subO x x = none := by
      unfold subO Ieee.Format.sub; rw [read_inf x hi]
      cases ng x <;> rfl
    rw [e] at hr
    rw [hb, f64_double, order_eq, ans_none hr.2]; rfl
  · have hb : finB x = false := by unfold nan at hn; unfold finB; simp at hn; exact decide_eq_false (by omega)
    rw [sub_nan (Or.inl hn)] at hr
    rw [hb, f64_double, order_eq, ans_none hr.2]; rfl
theorem kfin_any (x : Nat) (w : World) : Calls Try.prog 28 #[.float .f64 x] w fun e w' => ∃ n, e = .returned (.bool (finB x)) ∧ w' = w.drewN n := by
  have h0 := fun W => sub_self_ord x W
  cases hb : finB x
  all_goals
    rw [hb] at h0
    first | rw [if_pos rfl] at h0 | rw [if_neg (by decide)] at h0
    go_enter Try.func28, Try.ntmps28
    go_wp2
    go_ret
    exact ⟨_, rfl, rfl⟩
theorem cut_conv (x n : Nat) : nan ((Question.nanConv .f64 x).cut n) = true := by
  have e : (Question.nanConv .f64 x).cut n = (n % 2) * 9223372036854775808 + 9218868437227405312 + 1 + (n / 2) % 4503599627370495 := rfl
  have h1 : n / 2 % 4503599627370495 < 4503599627370495 := Nat.mod_lt _ (by omega)
  have h2 : n % 2 < 2 := Nat.mod_lt _ (by omega)
  rw [e]; unfold nan mg; simp only [decide_eq_true_eq]
  generalize n / 2 % 4503599627370495 = k at *
  generalize n % 2 = j at *
  omega
theorem run_wd_nan {x : Nat} (h : Fs.nan x = true) (w : World) : (convert 34 22 (.float .f32 x)).run Try.prog w = .ok (.float .f64 ((Question.nanConv .f64 x).cut (w.tape w.drawn (.nanConv .f64 x)))) (w.drewN 1) := by
  have hs : Try.prog.underlying 34 = some (.float .f32) := by kernel_rfl
  have hd : Try.prog.underlying 22 = some (.float .f64) := by kernel_rfl
  have he : FloatKind.f32.decode x = .nan (Fs.ng x) (Fs.mg x - 2139095040) := Fs.read_nan x h
  simp [convert, run_underlying hs, run_underlying hd, Conv.floatToFloat, he, Question.forced]
  rfl
theorem fin_wd {x : Nat} (hn : Fs.nan x = false) (h : finB (wd x) = true) : Fs.fin x := by
  rcases Fs.kinds x with hf | hi | hq
  · exact hf
  · exfalso
    have := wd_inf hi
    unfold finB at h
    rw [this] at h
    cases h
  · rw [hq] at hn; cases hn
theorem ord3_eq {x y : Nat} (hx : Fs.nan x = false) (hy : Fs.nan y = false) (h : Fs.plc x = Fs.plc y) : FloatKind.f32.format.order x y = some .eq := by
  rw [ord3 hx hy, h]; simp
theorem ord3_lt {x y : Nat} (hx : Fs.nan x = false) (hy : Fs.nan y = false) (h : Fs.plc x < Fs.plc y) : FloatKind.f32.format.order x y = some .lt := by
  rw [ord3 hx hy, Fs.cmp_lt h]
theorem ord3_gt {x y : Nat} (hx : Fs.nan x = false) (hy : Fs.nan y = false) (h : Fs.plc y < Fs.plc x) : FloatKind.f32.format.order x y = some .gt := by
  rw [ord3 hx hy, Fs.cmp_gt h]
theorem divV_of {x y s : Nat} (h : divO x y = some s) (W : World) : divV W x y = s := by unfold divV fV; rw [h]
theorem not_inf3 {x : Nat} (h : Fs.fin x) (b : Bool) : ¬ (Fs.ng x = b ∧ Fs.mg x = 2139095040) := fun k => by unfold Fs.fin at h; omega
set_option maxHeartbeats 2000000 in
theorem steps_walk (u : Nat) (w : World) (hu : u < 4294967296) : Calls Try.prog 5 #[.int .u32 (u : Int)] w fun e w' => e = .returned (.bool true) ∧ Below w.heap.size w w' := by
  cases hn : Fs.nan u
  · have lu := nx3_lt hu hn true
    have ld := nx3_lt hu hn false
    have nu := nx3_nan hu hn true
    have nd := nx3_nan hu hn false
    have c1 := fun w => run_wd hn w
    have c2 := fun w => run_wd nu w
    have c3 := fun w => run_wd nd w
    cases f1 : finB (wd u)
    · go_enter Try.func5, Try.ntmps5
      go_wp2_with (first
        | (go_at_call 17; refine (nnext_any _ _ _ (by first | assumption | simpa using hu)).mono ?_; rintro e w' ⟨rfl, rfl⟩)
        | (go_at_call 28; refine (kfin_any _ _).mono ?_; rintro e w' ⟨n, rfl, rfl⟩)
        | (go_at_call 19; refine (awake_any _).mono ?_; rintro e w' ⟨n, rfl, rfl⟩))
      go_ret
      refine ⟨rfl, ?_⟩
      repeat first
        | exact below_self _
        | refine below_drewN ?_ _
    · cases f2 : finB (wd (nx3 u true))
      · go_enter Try.func5, Try.ntmps5
        go_wp2_with (first
          | (go_at_call 17; refine (nnext_any _ _ _ (by first | assumption | simpa using hu)).mono ?_; rintro e w' ⟨rfl, rfl⟩)
          | (go_at_call 28; refine (kfin_any _ _).mono ?_; rintro e w' ⟨n, rfl, rfl⟩)
          | (go_at_call 19; refine (awake_any _).mono ?_; rintro e w' ⟨n, rfl, rfl⟩))
        go_ret
        refine ⟨rfl, ?_⟩
        repeat first
          | exact below_self _
          | refine below_drewN ?_ _
      · cases f3 : finB (wd (nx3 u false))
        · go_enter Try.func5, Try.ntmps5
          go_wp2_with (first
            | (go_at_call 17; refine (nnext_any _ _ _ (by first | assumption | simpa using hu)).mono ?_; rintro e w' ⟨rfl, rfl⟩)
            | (go_at_call 28; refine (kfin_any _ _).mono ?_; rintro e w' ⟨n, rfl, rfl⟩)
            | (go_at_call 19; refine (awake_any _).mono ?_; rintro e w' ⟨n, rfl, rfl⟩))
          go_ret
          refine ⟨rfl, ?_⟩
          repeat first
            | exact below_self _
            | refine below_drewN ?_ _
        · have hf := fin_wd hn f1
          have hfu := fin_wd nu f2
          have hfd := fin_wd nd f3
          have pu := plc3_up hu hn (not_inf3 hf _)
          have pd := plc3_down hu hn (not_inf3 hf _)
          have nb := nx3_nan lu nu false
          have nc := nx3_nan ld nd true
          have ou := ord3_gt nu hn (by omega)
          have od := ord3_lt nd hn (by omega)
          have ob := ord3_eq nb hn (by rw [plc3_down lu nu (not_inf3 hfu _)]; omega)
          have oc := ord3_eq nc hn (by rw [plc3_up ld nd (not_inf3 hfd _)]; omega)
          obtain ⟨S, z, hS, hz, gz, gr, gp⟩ := mid_core hu hf hfu
          have nz : Fs.nan (nw z) = false := nan3_of (by rw [nw_mg]; omega)
          have a1 := fun W => addV_of hS W
          have d1 := fun W => divV_of hz W
          have z0 : nw 0 = 0 := by kernel_rfl
          rcases gp with gp | gp
          · have om := ord3_eq nz hn gp
            clear pu pd gp hS hz
            go_enter Try.func5, Try.ntmps5
            go_wp2_with (first
              | (go_at_call 17; refine (nnext_any _ _ _ (by first | assumption | simpa using hu)).mono ?_; rintro e w' ⟨rfl, rfl⟩)
              | (go_at_call 28; refine (kfin_any _ _).mono ?_; rintro e w' ⟨n, rfl, rfl⟩)
              | (go_at_call 22; refine (to_any _ gz (by unfold Fl.fin; decide) gr (by decide +kernel)).mono ?_; rintro e w' ⟨rfl, rfl⟩)
              | (go_at_call 19; refine (awake_any _).mono ?_; rintro e w' ⟨n, rfl, rfl⟩))
            go_ret
            refine ⟨rfl, ?_⟩
            repeat first
              | exact below_self _
              | refine below_drewN ?_ _
          · have om := ord3_gt nz hn (by omega)
            have on := ord3_eq nz nu gp
            clear pu pd gp hS hz
            go_enter Try.func5, Try.ntmps5
            go_wp2_with (first
              | (go_at_call 17; refine (nnext_any _ _ _ (by first | assumption | simpa using hu)).mono ?_; rintro e w' ⟨rfl, rfl⟩)
              | (go_at_call 28; refine (kfin_any _ _).mono ?_; rintro e w' ⟨n, rfl, rfl⟩)
              | (go_at_call 22; refine (to_any _ gz (by unfold Fl.fin; decide) gr (by decide +kernel)).mono ?_; rintro e w' ⟨rfl, rfl⟩)
              | (go_at_call 19; refine (awake_any _).mono ?_; rintro e w' ⟨n, rfl, rfl⟩))
            go_ret
            refine ⟨rfl, ?_⟩
            repeat first
              | exact below_self _
              | refine below_drewN ?_ _
  · have e1 : nx3 u true = u := by unfold nx3; rw [hn]; rfl
    have e2 : nx3 u false = u := by unfold nx3; rw [hn]; rfl
    have c1 := fun w => run_wd_nan hn w
    have fq : ∀ n, finB ((Question.nanConv .f64 u).cut n) = false := fun n => by
      have := cut_conv u n
      unfold nan at this; unfold finB; simp at this ⊢; omega
    go_enter Try.func5, Try.ntmps5
    go_wp2_with (first
      | (go_at_call 17; refine (nnext_any _ _ _ (by simpa using hu)).mono ?_; rintro e w' ⟨rfl, rfl⟩)
      | (go_at_call 28; refine (kfin_any _ _).mono ?_; rintro e w' ⟨n, rfl, rfl⟩)
      | (go_at_call 19; refine (awake_any _).mono ?_; rintro e w' ⟨n, rfl, rfl⟩))
    go_ret
    refine ⟨rfl, ?_⟩
    repeat first
      | exact below_self _
      | refine below_drewN ?_ _
end Go.Proofs.Ythkhemmpjfilaab
