/-
  Angles: what Angle of package turns hands back.
-/
import Derived.Test.YtknhmleifofhaaaTv
namespace Go.Proofs.Ytknhmleifofhaaa
open Fl RowKit

theorem tabs_any (x : Nat) (w : World) (hx : x < 18446744073709551616) : Calls Try.prog 66 #[.float .f64 x] w fun e w' => e = .returned (.float .f64 (mg x)) ∧ w' = w := by
  have ha := andNot_sign x hx
  go_enter Try.func66, Try.ntmps66
  go_wp2
  go_ret
  exact ⟨retf (by simp), rfl⟩

/-- The angle of a number by the words of its parts: its answer, and its error. -/
def ordZ (x : Nat) : Option Ordering := FloatKind.f64.format.order x 0
def ordM (a b : Nat) : Option Ordering := FloatKind.f64.format.order (mg a) (mg b)
def angT (a b : Nat) : Option Nat := if ordM a b = some .gt then divA (some (mg b)) (some (mg a)) else divA (some (mg a)) (some (mg b))
def ang1 (a b : Nat) : Option Nat := if ordM a b = some .lt then subA (some 4618441417868443648) (arcA (angT a b)) else arcA (angT a b)
def ang2 (a b : Nat) : Option Nat := if ordZ a = some .lt then subA (some 4622945017495814144) (ang1 a b) else ang1 a b
def angV (a b : Nat) : Option Nat := if ordZ b = some .lt then subA (some 0) (ang2 a b) else ang2 a b
def angE (a b : Nat) : Int := if finB a && finB b then (if eqB a 0 && eqB b 0 then 2 else 0) else 5
def angR (a b : Nat) : Option Nat := if angE a b = 0 then angV a b else some 0

theorem fin_fin {x : Nat} (h : finB x = true) : fin x := of_decide_eq_true (p := mg x < 9218868437227405312) h
theorem ord_cases {x y : Nat} (hx : finB x = true) (hy : finB y = true) : (FloatKind.f64.format.order x y = some .lt ∧ FloatKind.f64.format.order y x = some .gt) ∨ (FloatKind.f64.format.order x y = some .eq ∧ FloatKind.f64.format.order y x = some .eq) ∨ (FloatKind.f64.format.order x y = some .gt ∧ FloatKind.f64.format.order y x = some .lt) := by
  have nx : nan x = false := fin_not_nan (fin_fin hx)
  have ny : nan y = false := fin_not_nan (fin_fin hy)
  rw [f64_double, order_eq, order_eq, nx, ny]
  simp only [Bool.or_false, Bool.false_eq_true, if_false, compare, compareOfLessAndEq]
  rcases Int.lt_trichotomy (plc x) (plc y) with h | h | h
  · left; simp [h, show ¬ plc y < plc x by omega, show ¬ plc y = plc x by omega]
  · right; left; simp [h]
  · right; right; simp [h, show ¬ plc x < plc y by omega, show ¬ plc x = plc y by omega]
theorem finB_mg {x : Nat} (hx : finB x = true) : finB (mg x) = true := by unfold finB at *; rw [mg_mg]; exact hx

set_option maxHeartbeats 4000000 in
theorem angle_main {a b : Nat} (w : World) (la : a < 18446744073709551616) (lb : b < 18446744073709551616) (ha : finB a = true) (hb : finB b = true) (hz : (eqB a 0 && eqB b 0) = false) :
    Calls Try.prog 29 #[.complex .f64 a b] w fun e w' => ∃ v n, e = .returned (.tuple #[.float .f64 v, .int .i64 0]) ∧ rep (angV a b) v ∧ w' = w.drewN n := by
  have ra : rep (some (mg a)) (mg a) := repc (by have := mg_bd a; omega) (fin_not_nan (fin_fin (finB_mg ha)))
  have rb : rep (some (mg b)) (mg b) := repc (by have := mg_bd b; omega) (fin_not_nan (fin_fin (finB_mg hb)))
  obtain ⟨V, hV⟩ : ∃ V, V = angV a b := ⟨_, rfl⟩
  rw [← hV]
  rcases ord_cases ha (show finB 0 = true by decide) with ⟨o1, p1⟩ | ⟨o1, p1⟩ | ⟨o1, p1⟩ <;> rcases ord_cases hb (show finB 0 = true by decide) with ⟨o2, p2⟩ | ⟨o2, p2⟩ | ⟨o2, p2⟩ <;> rcases ord_cases (finB_mg ha) (finB_mg hb) with ⟨o3, o4⟩ | ⟨o3, o4⟩ | ⟨o3, o4⟩
  all_goals
    clear p1 p2
    have q1 : ordZ a = _ := o1
    have q2 : ordZ b = _ := o2
    have q3 : ordM a b = _ := o3
    unfold angV ang2 ang1 angT at hV
    rw [q1, q2, q3] at hV
    simp only [reduceCtorEq, if_true, if_false, Option.some.injEq] at hV
    have HV : Hid (V = _) := hV
    clear q1 q2 q3 hV
    go_enter Try.func29, Try.ntmps29
    go_wp2_with (first
      | (go_at_call 65; refine (fin_any _ _ _ la lb).mono ?_; rintro e w' ⟨rfl, rfl⟩; rw [ha, hb])
      | (go_at_call 55; refine (zero_any _ _ _).mono ?_; rintro e w' ⟨rfl, rfl⟩; rw [hz])
      | (go_at_call 66; refine (tabs_any _ _ (by assumption)).mono ?_; rintro e w' ⟨rfl, rfl⟩)
      | (go_at_call 67; (first | (with_reducible refine (arc_any _ (rep_div ra rb _)).mono ?_) | (with_reducible refine (arc_any _ (rep_div rb ra _)).mono ?_)); rintro e w' ⟨v, n, rfl, hv, rfl⟩))
    go_ret2
    refine ⟨_, _, rfl, ?_, rfl⟩
    rw [HV.out]
    first
      | exact hv
      | exact rep_sub (repc (by decide) (by decide)) hv _
      | exact rep_sub (repc (by decide) (by decide)) (rep_sub (repc (by decide) (by decide)) hv _) _
      | exact rep_sub (repc (by decide) (by decide)) (rep_sub (repc (by decide) (by decide)) (rep_sub (repc (by decide) (by decide)) hv _) _) _

set_option maxHeartbeats 1000000 in
theorem angle_any {a b : Nat} (w : World) (la : a < 18446744073709551616) (lb : b < 18446744073709551616) :
    Calls Try.prog 29 #[.complex .f64 a b] w fun e w' => ∃ v n, e = .returned (.tuple #[.float .f64 v, .int .i64 (angE a b)]) ∧ rep (angR a b) v ∧ w' = w.drewN n := by
  cases hf : finB a && finB b
  · have he : angE a b = 5 := by unfold angE; rw [hf]; rfl
    have hr : angR a b = some 0 := by unfold angR; rw [he]; rfl
    rw [he, hr]
    go_enter Try.func29, Try.ntmps29
    go_wp2_with (first
      | (go_at_call 65; refine (fin_any _ _ _ la lb).mono ?_; rintro e w' ⟨rfl, rfl⟩; rw [hf]))
    go_ret2
    exact ⟨_, 0, rfl, repc (by decide) (by decide), rfl⟩
  · cases hz : eqB a 0 && eqB b 0
    · have he : angE a b = 0 := by unfold angE; rw [hf, hz]; rfl
      have hr : angR a b = angV a b := by unfold angR; rw [he]; rfl
      rw [he, hr]
      rw [Bool.and_eq_true] at hf
      exact angle_main w la lb hf.1 hf.2 hz
    · have he : angE a b = 2 := by unfold angE; rw [hf, hz]; rfl
      have hr : angR a b = some 0 := by unfold angR; rw [he]; rfl
      rw [he, hr]
      go_enter Try.func29, Try.ntmps29
      go_wp2_with (first
        | (go_at_call 65; refine (fin_any _ _ _ la lb).mono ?_; rintro e w' ⟨rfl, rfl⟩; rw [hf])
        | (go_at_call 55; refine (zero_any _ _ _).mono ?_; rintro e w' ⟨rfl, rfl⟩; rw [hz]))
      go_ret2
      exact ⟨_, 0, rfl, repc (by decide) (by decide), rfl⟩

end Go.Proofs.Ytknhmleifofhaaa
