/-
  Angles: what Angle of gridworkref04 hands back.
-/
import Derived.Test.YtknhmleifofhaaaTx
namespace Go.Proofs.Ytknhmleifofhaaa
open Fl RowKit

theorem foi {k : Nat} (hk : k < 7) : floatOfInt .f64 (13 - 2 * (k : Int)) = dW k := by
  have hk : k = 0 ∨ k = 1 ∨ k = 2 ∨ k = 3 ∨ k = 4 ∨ k = 5 ∨ k = 6 := by omega
  rcases hk with rfl | rfl | rfl | rfl | rfl | rfl | rfl <;> (show _ = _; kernel_rfl)

set_option maxHeartbeats 8000000 in
theorem rangle_main {a b : Nat} (w : World) (la : a < 18446744073709551616) (lb : b < 18446744073709551616) (ha : finB a = true) (hb : finB b = true) (hz : (eqB a 0 && eqB b 0) = false) :
    Calls Try.prog 30 #[.complex .f64 a b] w fun e w' => ∃ v n, e = .returned (.tuple #[.float .f64 v, .int .i64 0]) ∧ rep (angV a b) v ∧ w' = w.drewN n := by
  have ra : rep (some (mg a)) (mg a) := repc (by have := mg_bd a; omega) (fin_not_nan (fin_fin (finB_mg ha)))
  have rb : rep (some (mg b)) (mg b) := repc (by have := mg_bd b; omega) (fin_not_nan (fin_fin (finB_mg hb)))
  obtain ⟨V, hV⟩ : ∃ V, V = angV a b := ⟨_, rfl⟩
  rw [← hV]
  rcases ord_cases ha (show finB 0 = true by decide) with ⟨o1, p1⟩ | ⟨o1, p1⟩ | ⟨o1, p1⟩ <;> rcases ord_cases hb (show finB 0 = true by decide) with ⟨o2, p2⟩ | ⟨o2, p2⟩ | ⟨o2, p2⟩ <;> rcases ord_cases (finB_mg ha) (finB_mg hb) with ⟨o3, o4⟩ | ⟨o3, o4⟩ | ⟨o3, o4⟩
  all_goals try (exfalso; unfold eqB at hz; rw [o1, o2] at hz; revert hz; decide)
  all_goals
    clear p1 p2
    have q1 : ordZ a = _ := o1
    have q2 : ordZ b = _ := o2
    have q3 : ordM a b = _ := o3
    obtain ⟨T, hT⟩ : ∃ T, T = angT a b := ⟨_, rfl⟩
    unfold angV ang2 ang1 at hV
    rw [q1, q2, q3, ← hT] at hV
    unfold angT at hT
    rw [q3] at hT
    simp only [reduceCtorEq, if_true, if_false, Option.some.injEq] at hV hT
    first
      | (have hq : ∀ W, rep T (divV W (mg a) (mg b)) := fun W => by rw [hT]; exact rep_div ra rb W)
      | (have hq : ∀ W, rep T (divV W (mg b) (mg a)) := fun W => by rw [hT]; exact rep_div rb ra W)
    have HV : Hid (V = _) := hV
    clear q1 q2 q3 hV hT ra rb
    go_enter Try.func30, Try.ntmps30
    go_wp2_with (first
      | (go_at_call 68; refine (rfin_any _ _ _).mono ?_; rintro e w' ⟨n, rfl, rfl⟩; rw [ha, hb])
      | (go_at_call 66; refine (tabs_any _ _ (by assumption)).mono ?_; rintro e w' ⟨rfl, rfl⟩))
    go_loopw [10, 11] (fun tv kv wr => ∃ (k x n : Nat), k ≤ 3 ∧ kv = .int .i64 k ∧ tv = .float .f64 x ∧ rep (itT k T) x ∧ wr = w.drewN n) (fun _ kv _ => 3 - (intOf kv).toNat)
    case atStart => exact ⟨0, _, _, by omega, rfl, rfl, hq _, rfl⟩
    case round =>
      obtain ⟨k, x, n, hk, rfl, rfl, hx, rfl⟩ := hrel
      by_cases hlt : k < 3
      · go_wp2_with (first | (go_at_call 56; refine (sqrtf_any _ _).mono ?_; rintro e w' ⟨rfl, rfl⟩))
        case roundEnd =>
          refine ⟨⟨k + 1, _, _, by omega, rfl, rfl, ?_, rfl⟩, by simp [intOf] <;> omega⟩
          exact rep_div hx (rep_add (repc (by decide) (by decide)) (rep_sqrt (rep_add (repc (by decide) (by decide)) (rep_mul hx hx _) _) _) _) _
      · obtain rfl : k = 3 := by omega
        go_wp2
        have hu := rep_mul hx hx (w.drewN n)
        go_loopw [14, 15] (fun sv dv wr => ∃ (j s m : Nat) (D : Int), D = 13 - 2 * (j : Int) ∧ j ≤ 7 ∧ dv = .int .i64 D ∧ sv = .float .f64 s ∧ rep (itS j (mulA (itT 3 T) (itT 3 T))) s ∧ wr = w.drewN m) (fun _ dv _ => (intOf dv + 1).toNat)
        case atStart => exact ⟨0, _, _, 13, rfl, by omega, rfl, rfl, repc (by decide) (by decide), rfl⟩
        case round =>
          obtain ⟨j, s, m, D, hD, hj, rfl, rfl, hs, rfl⟩ := hrel
          by_cases hlt : j < 7
          · have hD1 : 1 ≤ D := by omega
            have hD2 : D ≤ 13 := by omega
            have HD : Hid (D = 13 - 2 * (j : Int)) := hD
            clear hD
            go_wp2
            case roundEnd =>
              have hd := HD.out
              refine ⟨⟨j + 1, _, _, D - 2, by omega, by omega, rfl, rfl, ?_, rfl⟩, by simp [intOf] <;> omega⟩
              have hf : floatOfInt .f64 D = dW j := by rw [hd]; exact foi hlt
              rw [hf]
              exact rep_sub (rep_div (repc (c := 4607182418800017408) (by decide) (by decide)) (repc (dW_lt j) (dW_num j)) _) (rep_mul hu hs _) _
          · obtain rfl : j = 7 := by omega
            obtain rfl : D = -1 := by omega
            go_wp2
            go_ret2
            refine ⟨_, _, rfl, ?_, rfl⟩
            rw [HV.out]
            have c6 : rep (some 4618441417868443648) 4618441417868443648 := repc (by decide) (by decide)
            have c12 : rep (some 4622945017495814144) 4622945017495814144 := repc (by decide) (by decide)
            have c0 : rep (some 0) 0 := repc (by decide) (by decide)
            repeat (with_reducible refine rep_sub (by assumption) ?_ _)
            exact rep_mul (rep_mul (rep_mul (repc (c := 4620693217682128896) (by decide) (by decide)) hx _) hs _) (repc (c := 4615783660508851396) (by decide) (by decide)) _

set_option maxHeartbeats 1000000 in
theorem rangle_any {a b : Nat} (w : World) (la : a < 18446744073709551616) (lb : b < 18446744073709551616) :
    Calls Try.prog 30 #[.complex .f64 a b] w fun e w' => ∃ v n, e = .returned (.tuple #[.float .f64 v, .int .i64 (angE a b)]) ∧ rep (angR a b) v ∧ w' = w.drewN n := by
  cases hf : finB a && finB b
  · have he : angE a b = 5 := by unfold angE; rw [hf]; rfl
    have hr : angR a b = some 0 := by unfold angR; rw [he]; rfl
    rw [he, hr]
    go_enter Try.func30, Try.ntmps30
    go_wp2_with (first
      | (go_at_call 68; refine (rfin_any _ _ _).mono ?_; rintro e w' ⟨n, rfl, rfl⟩; rw [hf]))
    go_ret2
    exact ⟨_, _, rfl, repc (by decide) (by decide), rfl⟩
  · cases hz : eqB a 0 && eqB b 0
    · have he : angE a b = 0 := by unfold angE; rw [hf, hz]; rfl
      have hr : angR a b = angV a b := by unfold angR; rw [he]; rfl
      rw [he, hr]
      rw [Bool.and_eq_true] at hf
      exact rangle_main w la lb hf.1 hf.2 hz
    · have he : angE a b = 2 := by unfold angE; rw [hf, hz]; rfl
      have hr : angR a b = some 0 := by unfold angR; rw [he]; rfl
      rw [he, hr]
      have o1 : FloatKind.f64.format.order a 0 = some .eq := by rw [Bool.and_eq_true] at hz; exact eq_of_beq hz.1
      have o2 : FloatKind.f64.format.order b 0 = some .eq := by rw [Bool.and_eq_true] at hz; exact eq_of_beq hz.2
      go_enter Try.func30, Try.ntmps30
      go_wp2_with (first
        | (go_at_call 68; refine (rfin_any _ _ _).mono ?_; rintro e w' ⟨n, rfl, rfl⟩; rw [hf]))
      go_ret2
      exact ⟨_, _, rfl, repc (by decide) (by decide), rfl⟩

end Go.Proofs.Ytknhmleifofhaaa
