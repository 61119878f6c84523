/-
  The walk of RealOrder: whatever two words and whatever place it is called with, it hands back true and only lays new memory.
-/
import Derived.Test.YtggnilfphnnpkaaOrder
import Derived.Test.YtggnilfphnnpkaaAwake
namespace Go.Proofs.Ytggnilfphnnpkaa
open Fl RowKit

theorem at_bd (p : Int) : atB p < 18446744073709551616 := by
  cases hi : inR p
  · unfold atB; rw [hi]; simp
  · exact (plc_at hi).2.2
theorem pl_at {p : Int} (hi : inR p = true) : plB (atB p) = p ∧ nan (atB p) = false := by
  have h := plc_at hi; exact ⟨by unfold plB; rw [h.2.1]; exact h.1, h.2.1⟩
theorem in_plc {x : Nat} (hn : nan x = false) : inR (plc x) = true := in_yes (plc_bd hn).1 (plc_bd hn).2
theorem cases_p (p : Int) : (inR p = true ∧ -9218868437227405312 ≤ p ∧ p ≤ 9218868437227405312) ∨ (inR p = false ∧ p < -9218868437227405312) ∨ (inR p = false ∧ 9218868437227405312 < p) := by
  by_cases h1 : p < -9218868437227405312
  · exact Or.inr (Or.inl ⟨in_no (Or.inl h1), h1⟩)
  · by_cases h2 : 9218868437227405312 < p
    · exact Or.inr (Or.inr ⟨in_no (Or.inr h2), h2⟩)
    · exact Or.inl ⟨in_yes (by omega) (by omega), by omega, by omega⟩

theorem order_eqi {x y : Nat} (hx : nan x = false) (hy : nan y = false) : (FloatKind.f64.format.order x y == some .eq) = (plc x == plc y) := by
  rw [order_eqb hx hy]; rw [Bool.eq_iff_iff]; simp

set_option maxRecDepth 100000 in
set_option maxHeartbeats 20000000 in
theorem order_walk (x y : Nat) (p : Int) (hx : x < 18446744073709551616) (hy : y < 18446744073709551616) (w : World) :
    Calls Try.prog 6 #[.int .u64 (x : Int), .int .u64 (y : Int), .int .i64 p] w fun e w' => e = .returned (.bool true) ∧ Below w.heap.size w w' := by
  have ht := at_bd p
  cases hn : nan x
  · have o1 := order_num hn
    have e1 : plB x = plc x := by simp [plB, hn]
    have i1 := in_plc hn
    have o5 := order_same (pl_at i1).2 hn (plc_at i1).1
    have hbu := nx_bd hx true
    have hbd := nx_bd hx false
    by_cases hf : -9218868437227405312 < plc x ∧ plc x < 9218868437227405312
    · have e3 : infB x = false := by rw [inf_plc]; simp; omega
      obtain ⟨u1, u2, u3⟩ := nx_up hn hf.2
      obtain ⟨d1, d2, d3⟩ := nx_dn hn hf.1
      have ud := nx_dn u2 (by omega)
      have du := nx_up d2 (by omega)
      have o6 := order_same ud.2.1 hn (by rw [ud.1, u1]; omega)
      have o7 := order_same du.2.1 hn (by rw [du.1, d1]; omega)
      have o8 := order_less d2 hn (by omega)
      have o9 := order_less hn u2 (by omega)
      clear u1 u2 u3 d1 d2 d3 ud du hf
      by_cases h0 : plc x = 0
      · have e4 : atB (plc x) = 0 := by rw [h0]; exact at_0
        have o10 := order_same hn nan_zero (by rw [h0, plc_zero])
        have o11 := order_same nan_zero hn (by rw [h0, plc_zero])
        clear h0 o5
        by_cases hx0 : x = 0
        · have f1 : ((0 : Int) != (x : Int)) = false := by simp; omega
          have f2 : ((0 : Int) == (x : Int)) = true := by simp; omega
          clear hx0
          cases hm : nan y
          · have o2 := order_num hm
            have o3 := order_lt hn hm
            have o4 := order_eqi hn hm
            have e2 : plB y = plc y := by simp [plB, hm]
            rcases cases_p p with ⟨hi, h1, h2⟩ | ⟨hi, h1⟩ | ⟨hi, h1⟩
            · obtain ⟨z1, z2⟩ := pl_at hi
              go_enter Try.func6, Try.ntmps6
              go_wp2_with (first | (go_at_call 33; refine (awake_yes _).mono ?_; rintro e w1 ⟨rfl, hb1⟩) | (go_at_call 9; go_in) | (go_at_call 10; refine (place_any _ _ (by with_reducible assumption)).mono ?_; rintro e w' ⟨rfl, rfl⟩) | (go_at_call 12; refine (at_any _ _).mono ?_; rintro e w' ⟨rfl, rfl⟩) | (go_at_call 35; refine (isInf_any _ _ (by with_reducible assumption)).mono ?_; rintro e w' ⟨rfl, rfl⟩) | (go_at_call 18; refine (next_any _ _ _ (by with_reducible assumption)).mono ?_; rintro e w' ⟨rfl, rfl⟩))
              all_goals go_ret
              all_goals first | exact ⟨rfl, by assumption⟩ | exact ⟨retb (by simp; omega), by assumption⟩
            · go_enter Try.func6, Try.ntmps6
              go_wp2_with (first | (go_at_call 33; refine (awake_yes _).mono ?_; rintro e w1 ⟨rfl, hb1⟩) | (go_at_call 9; go_in) | (go_at_call 10; refine (place_any _ _ (by with_reducible assumption)).mono ?_; rintro e w' ⟨rfl, rfl⟩) | (go_at_call 12; refine (at_any _ _).mono ?_; rintro e w' ⟨rfl, rfl⟩) | (go_at_call 35; refine (isInf_any _ _ (by with_reducible assumption)).mono ?_; rintro e w' ⟨rfl, rfl⟩) | (go_at_call 18; refine (next_any _ _ _ (by with_reducible assumption)).mono ?_; rintro e w' ⟨rfl, rfl⟩))
              all_goals go_ret
              all_goals first | exact ⟨rfl, by assumption⟩ | exact ⟨retb (by simp; omega), by assumption⟩
            · go_enter Try.func6, Try.ntmps6
              go_wp2_with (first | (go_at_call 33; refine (awake_yes _).mono ?_; rintro e w1 ⟨rfl, hb1⟩) | (go_at_call 9; go_in) | (go_at_call 10; refine (place_any _ _ (by with_reducible assumption)).mono ?_; rintro e w' ⟨rfl, rfl⟩) | (go_at_call 12; refine (at_any _ _).mono ?_; rintro e w' ⟨rfl, rfl⟩) | (go_at_call 35; refine (isInf_any _ _ (by with_reducible assumption)).mono ?_; rintro e w' ⟨rfl, rfl⟩) | (go_at_call 18; refine (next_any _ _ _ (by with_reducible assumption)).mono ?_; rintro e w' ⟨rfl, rfl⟩))
              all_goals go_ret
              all_goals first | exact ⟨rfl, by assumption⟩ | exact ⟨retb (by simp; omega), by assumption⟩
          · have o2 := order_nan hm
            rcases cases_p p with ⟨hi, h1, h2⟩ | ⟨hi, h1⟩ | ⟨hi, h1⟩
            · obtain ⟨z1, z2⟩ := pl_at hi
              go_enter Try.func6, Try.ntmps6
              go_wp2_with (first | (go_at_call 33; refine (awake_yes _).mono ?_; rintro e w1 ⟨rfl, hb1⟩) | (go_at_call 9; go_in) | (go_at_call 10; refine (place_any _ _ (by with_reducible assumption)).mono ?_; rintro e w' ⟨rfl, rfl⟩) | (go_at_call 12; refine (at_any _ _).mono ?_; rintro e w' ⟨rfl, rfl⟩) | (go_at_call 35; refine (isInf_any _ _ (by with_reducible assumption)).mono ?_; rintro e w' ⟨rfl, rfl⟩) | (go_at_call 18; refine (next_any _ _ _ (by with_reducible assumption)).mono ?_; rintro e w' ⟨rfl, rfl⟩))
              all_goals go_ret
              all_goals first | exact ⟨rfl, by assumption⟩ | exact ⟨retb (by simp; omega), by assumption⟩
            · go_enter Try.func6, Try.ntmps6
              go_wp2_with (first | (go_at_call 33; refine (awake_yes _).mono ?_; rintro e w1 ⟨rfl, hb1⟩) | (go_at_call 9; go_in) | (go_at_call 10; refine (place_any _ _ (by with_reducible assumption)).mono ?_; rintro e w' ⟨rfl, rfl⟩) | (go_at_call 12; refine (at_any _ _).mono ?_; rintro e w' ⟨rfl, rfl⟩) | (go_at_call 35; refine (isInf_any _ _ (by with_reducible assumption)).mono ?_; rintro e w' ⟨rfl, rfl⟩) | (go_at_call 18; refine (next_any _ _ _ (by with_reducible assumption)).mono ?_; rintro e w' ⟨rfl, rfl⟩))
              all_goals go_ret
              all_goals first | exact ⟨rfl, by assumption⟩ | exact ⟨retb (by simp; omega), by assumption⟩
            · go_enter Try.func6, Try.ntmps6
              go_wp2_with (first | (go_at_call 33; refine (awake_yes _).mono ?_; rintro e w1 ⟨rfl, hb1⟩) | (go_at_call 9; go_in) | (go_at_call 10; refine (place_any _ _ (by with_reducible assumption)).mono ?_; rintro e w' ⟨rfl, rfl⟩) | (go_at_call 12; refine (at_any _ _).mono ?_; rintro e w' ⟨rfl, rfl⟩) | (go_at_call 35; refine (isInf_any _ _ (by with_reducible assumption)).mono ?_; rintro e w' ⟨rfl, rfl⟩) | (go_at_call 18; refine (next_any _ _ _ (by with_reducible assumption)).mono ?_; rintro e w' ⟨rfl, rfl⟩))
              all_goals go_ret
              all_goals first | exact ⟨rfl, by assumption⟩ | exact ⟨retb (by simp; omega), by assumption⟩
        · have f1 : ((0 : Int) != (x : Int)) = true := by simp; omega
          have f2 : ((0 : Int) == (x : Int)) = false := by simp; omega
          clear hx0
          cases hm : nan y
          · have o2 := order_num hm
            have o3 := order_lt hn hm
            have o4 := order_eqi hn hm
            have e2 : plB y = plc y := by simp [plB, hm]
            rcases cases_p p with ⟨hi, h1, h2⟩ | ⟨hi, h1⟩ | ⟨hi, h1⟩
            · obtain ⟨z1, z2⟩ := pl_at hi
              go_enter Try.func6, Try.ntmps6
              go_wp2_with (first | (go_at_call 33; refine (awake_yes _).mono ?_; rintro e w1 ⟨rfl, hb1⟩) | (go_at_call 9; go_in) | (go_at_call 10; refine (place_any _ _ (by with_reducible assumption)).mono ?_; rintro e w' ⟨rfl, rfl⟩) | (go_at_call 12; refine (at_any _ _).mono ?_; rintro e w' ⟨rfl, rfl⟩) | (go_at_call 35; refine (isInf_any _ _ (by with_reducible assumption)).mono ?_; rintro e w' ⟨rfl, rfl⟩) | (go_at_call 18; refine (next_any _ _ _ (by with_reducible assumption)).mono ?_; rintro e w' ⟨rfl, rfl⟩))
              all_goals go_ret
              all_goals first | exact ⟨rfl, by assumption⟩ | exact ⟨retb (by simp; omega), by assumption⟩
            · go_enter Try.func6, Try.ntmps6
              go_wp2_with (first | (go_at_call 33; refine (awake_yes _).mono ?_; rintro e w1 ⟨rfl, hb1⟩) | (go_at_call 9; go_in) | (go_at_call 10; refine (place_any _ _ (by with_reducible assumption)).mono ?_; rintro e w' ⟨rfl, rfl⟩) | (go_at_call 12; refine (at_any _ _).mono ?_; rintro e w' ⟨rfl, rfl⟩) | (go_at_call 35; refine (isInf_any _ _ (by with_reducible assumption)).mono ?_; rintro e w' ⟨rfl, rfl⟩) | (go_at_call 18; refine (next_any _ _ _ (by with_reducible assumption)).mono ?_; rintro e w' ⟨rfl, rfl⟩))
              all_goals go_ret
              all_goals first | exact ⟨rfl, by assumption⟩ | exact ⟨retb (by simp; omega), by assumption⟩
            · go_enter Try.func6, Try.ntmps6
              go_wp2_with (first | (go_at_call 33; refine (awake_yes _).mono ?_; rintro e w1 ⟨rfl, hb1⟩) | (go_at_call 9; go_in) | (go_at_call 10; refine (place_any _ _ (by with_reducible assumption)).mono ?_; rintro e w' ⟨rfl, rfl⟩) | (go_at_call 12; refine (at_any _ _).mono ?_; rintro e w' ⟨rfl, rfl⟩) | (go_at_call 35; refine (isInf_any _ _ (by with_reducible assumption)).mono ?_; rintro e w' ⟨rfl, rfl⟩) | (go_at_call 18; refine (next_any _ _ _ (by with_reducible assumption)).mono ?_; rintro e w' ⟨rfl, rfl⟩))
              all_goals go_ret
              all_goals first | exact ⟨rfl, by assumption⟩ | exact ⟨retb (by simp; omega), by assumption⟩
          · have o2 := order_nan hm
            rcases cases_p p with ⟨hi, h1, h2⟩ | ⟨hi, h1⟩ | ⟨hi, h1⟩
            · obtain ⟨z1, z2⟩ := pl_at hi
              go_enter Try.func6, Try.ntmps6
              go_wp2_with (first | (go_at_call 33; refine (awake_yes _).mono ?_; rintro e w1 ⟨rfl, hb1⟩) | (go_at_call 9; go_in) | (go_at_call 10; refine (place_any _ _ (by with_reducible assumption)).mono ?_; rintro e w' ⟨rfl, rfl⟩) | (go_at_call 12; refine (at_any _ _).mono ?_; rintro e w' ⟨rfl, rfl⟩) | (go_at_call 35; refine (isInf_any _ _ (by with_reducible assumption)).mono ?_; rintro e w' ⟨rfl, rfl⟩) | (go_at_call 18; refine (next_any _ _ _ (by with_reducible assumption)).mono ?_; rintro e w' ⟨rfl, rfl⟩))
              all_goals go_ret
              all_goals first | exact ⟨rfl, by assumption⟩ | exact ⟨retb (by simp; omega), by assumption⟩
            · go_enter Try.func6, Try.ntmps6
              go_wp2_with (first | (go_at_call 33; refine (awake_yes _).mono ?_; rintro e w1 ⟨rfl, hb1⟩) | (go_at_call 9; go_in) | (go_at_call 10; refine (place_any _ _ (by with_reducible assumption)).mono ?_; rintro e w' ⟨rfl, rfl⟩) | (go_at_call 12; refine (at_any _ _).mono ?_; rintro e w' ⟨rfl, rfl⟩) | (go_at_call 35; refine (isInf_any _ _ (by with_reducible assumption)).mono ?_; rintro e w' ⟨rfl, rfl⟩) | (go_at_call 18; refine (next_any _ _ _ (by with_reducible assumption)).mono ?_; rintro e w' ⟨rfl, rfl⟩))
              all_goals go_ret
              all_goals first | exact ⟨rfl, by assumption⟩ | exact ⟨retb (by simp; omega), by assumption⟩
            · go_enter Try.func6, Try.ntmps6
              go_wp2_with (first | (go_at_call 33; refine (awake_yes _).mono ?_; rintro e w1 ⟨rfl, hb1⟩) | (go_at_call 9; go_in) | (go_at_call 10; refine (place_any _ _ (by with_reducible assumption)).mono ?_; rintro e w' ⟨rfl, rfl⟩) | (go_at_call 12; refine (at_any _ _).mono ?_; rintro e w' ⟨rfl, rfl⟩) | (go_at_call 35; refine (isInf_any _ _ (by with_reducible assumption)).mono ?_; rintro e w' ⟨rfl, rfl⟩) | (go_at_call 18; refine (next_any _ _ _ (by with_reducible assumption)).mono ?_; rintro e w' ⟨rfl, rfl⟩))
              all_goals go_ret
              all_goals first | exact ⟨rfl, by assumption⟩ | exact ⟨retb (by simp; omega), by assumption⟩
      · have e4 := at_plc hn hx h0
        have o10 : (FloatKind.f64.format.order x 0 == some .eq) = false := by rw [order_eqb hn nan_zero, plc_zero]; simp [h0]
        clear h0
        cases hm : nan y
        · have o2 := order_num hm
          have o3 := order_lt hn hm
          have o4 := order_eqi hn hm
          have e2 : plB y = plc y := by simp [plB, hm]
          rcases cases_p p with ⟨hi, h1, h2⟩ | ⟨hi, h1⟩ | ⟨hi, h1⟩
          · obtain ⟨z1, z2⟩ := pl_at hi
            go_enter Try.func6, Try.ntmps6
            go_wp2_with (first | (go_at_call 33; refine (awake_yes _).mono ?_; rintro e w1 ⟨rfl, hb1⟩) | (go_at_call 9; go_in) | (go_at_call 10; refine (place_any _ _ (by with_reducible assumption)).mono ?_; rintro e w' ⟨rfl, rfl⟩) | (go_at_call 12; refine (at_any _ _).mono ?_; rintro e w' ⟨rfl, rfl⟩) | (go_at_call 35; refine (isInf_any _ _ (by with_reducible assumption)).mono ?_; rintro e w' ⟨rfl, rfl⟩) | (go_at_call 18; refine (next_any _ _ _ (by with_reducible assumption)).mono ?_; rintro e w' ⟨rfl, rfl⟩))
            all_goals go_ret
            all_goals first | exact ⟨rfl, by assumption⟩ | exact ⟨retb (by simp; omega), by assumption⟩
          · go_enter Try.func6, Try.ntmps6
            go_wp2_with (first | (go_at_call 33; refine (awake_yes _).mono ?_; rintro e w1 ⟨rfl, hb1⟩) | (go_at_call 9; go_in) | (go_at_call 10; refine (place_any _ _ (by with_reducible assumption)).mono ?_; rintro e w' ⟨rfl, rfl⟩) | (go_at_call 12; refine (at_any _ _).mono ?_; rintro e w' ⟨rfl, rfl⟩) | (go_at_call 35; refine (isInf_any _ _ (by with_reducible assumption)).mono ?_; rintro e w' ⟨rfl, rfl⟩) | (go_at_call 18; refine (next_any _ _ _ (by with_reducible assumption)).mono ?_; rintro e w' ⟨rfl, rfl⟩))
            all_goals go_ret
            all_goals first | exact ⟨rfl, by assumption⟩ | exact ⟨retb (by simp; omega), by assumption⟩
          · go_enter Try.func6, Try.ntmps6
            go_wp2_with (first | (go_at_call 33; refine (awake_yes _).mono ?_; rintro e w1 ⟨rfl, hb1⟩) | (go_at_call 9; go_in) | (go_at_call 10; refine (place_any _ _ (by with_reducible assumption)).mono ?_; rintro e w' ⟨rfl, rfl⟩) | (go_at_call 12; refine (at_any _ _).mono ?_; rintro e w' ⟨rfl, rfl⟩) | (go_at_call 35; refine (isInf_any _ _ (by with_reducible assumption)).mono ?_; rintro e w' ⟨rfl, rfl⟩) | (go_at_call 18; refine (next_any _ _ _ (by with_reducible assumption)).mono ?_; rintro e w' ⟨rfl, rfl⟩))
            all_goals go_ret
            all_goals first | exact ⟨rfl, by assumption⟩ | exact ⟨retb (by simp; omega), by assumption⟩
        · have o2 := order_nan hm
          rcases cases_p p with ⟨hi, h1, h2⟩ | ⟨hi, h1⟩ | ⟨hi, h1⟩
          · obtain ⟨z1, z2⟩ := pl_at hi
            go_enter Try.func6, Try.ntmps6
            go_wp2_with (first | (go_at_call 33; refine (awake_yes _).mono ?_; rintro e w1 ⟨rfl, hb1⟩) | (go_at_call 9; go_in) | (go_at_call 10; refine (place_any _ _ (by with_reducible assumption)).mono ?_; rintro e w' ⟨rfl, rfl⟩) | (go_at_call 12; refine (at_any _ _).mono ?_; rintro e w' ⟨rfl, rfl⟩) | (go_at_call 35; refine (isInf_any _ _ (by with_reducible assumption)).mono ?_; rintro e w' ⟨rfl, rfl⟩) | (go_at_call 18; refine (next_any _ _ _ (by with_reducible assumption)).mono ?_; rintro e w' ⟨rfl, rfl⟩))
            all_goals go_ret
            all_goals first | exact ⟨rfl, by assumption⟩ | exact ⟨retb (by simp; omega), by assumption⟩
          · go_enter Try.func6, Try.ntmps6
            go_wp2_with (first | (go_at_call 33; refine (awake_yes _).mono ?_; rintro e w1 ⟨rfl, hb1⟩) | (go_at_call 9; go_in) | (go_at_call 10; refine (place_any _ _ (by with_reducible assumption)).mono ?_; rintro e w' ⟨rfl, rfl⟩) | (go_at_call 12; refine (at_any _ _).mono ?_; rintro e w' ⟨rfl, rfl⟩) | (go_at_call 35; refine (isInf_any _ _ (by with_reducible assumption)).mono ?_; rintro e w' ⟨rfl, rfl⟩) | (go_at_call 18; refine (next_any _ _ _ (by with_reducible assumption)).mono ?_; rintro e w' ⟨rfl, rfl⟩))
            all_goals go_ret
            all_goals first | exact ⟨rfl, by assumption⟩ | exact ⟨retb (by simp; omega), by assumption⟩
          · go_enter Try.func6, Try.ntmps6
            go_wp2_with (first | (go_at_call 33; refine (awake_yes _).mono ?_; rintro e w1 ⟨rfl, hb1⟩) | (go_at_call 9; go_in) | (go_at_call 10; refine (place_any _ _ (by with_reducible assumption)).mono ?_; rintro e w' ⟨rfl, rfl⟩) | (go_at_call 12; refine (at_any _ _).mono ?_; rintro e w' ⟨rfl, rfl⟩) | (go_at_call 35; refine (isInf_any _ _ (by with_reducible assumption)).mono ?_; rintro e w' ⟨rfl, rfl⟩) | (go_at_call 18; refine (next_any _ _ _ (by with_reducible assumption)).mono ?_; rintro e w' ⟨rfl, rfl⟩))
            all_goals go_ret
            all_goals first | exact ⟨rfl, by assumption⟩ | exact ⟨retb (by simp; omega), by assumption⟩
    · have h0 : plc x ≠ 0 := by omega
      have e3 : infB x = true := by rw [inf_plc]; have := plc_bd hn; simp; omega
      have e4 := at_plc hn hx h0
      have o10 : (FloatKind.f64.format.order x 0 == some .eq) = false := by rw [order_eqb hn nan_zero, plc_zero]; simp [h0]
      clear h0 hf
      cases hm : nan y
      · have o2 := order_num hm
        have o3 := order_lt hn hm
        have o4 := order_eqi hn hm
        have e2 : plB y = plc y := by simp [plB, hm]
        rcases cases_p p with ⟨hi, h1, h2⟩ | ⟨hi, h1⟩ | ⟨hi, h1⟩
        · obtain ⟨z1, z2⟩ := pl_at hi
          go_enter Try.func6, Try.ntmps6
          go_wp2_with (first | (go_at_call 33; refine (awake_yes _).mono ?_; rintro e w1 ⟨rfl, hb1⟩) | (go_at_call 9; go_in) | (go_at_call 10; refine (place_any _ _ (by with_reducible assumption)).mono ?_; rintro e w' ⟨rfl, rfl⟩) | (go_at_call 12; refine (at_any _ _).mono ?_; rintro e w' ⟨rfl, rfl⟩) | (go_at_call 35; refine (isInf_any _ _ (by with_reducible assumption)).mono ?_; rintro e w' ⟨rfl, rfl⟩) | (go_at_call 18; refine (next_any _ _ _ (by with_reducible assumption)).mono ?_; rintro e w' ⟨rfl, rfl⟩))
          all_goals go_ret
          all_goals first | exact ⟨rfl, by assumption⟩ | exact ⟨retb (by simp; omega), by assumption⟩
        · go_enter Try.func6, Try.ntmps6
          go_wp2_with (first | (go_at_call 33; refine (awake_yes _).mono ?_; rintro e w1 ⟨rfl, hb1⟩) | (go_at_call 9; go_in) | (go_at_call 10; refine (place_any _ _ (by with_reducible assumption)).mono ?_; rintro e w' ⟨rfl, rfl⟩) | (go_at_call 12; refine (at_any _ _).mono ?_; rintro e w' ⟨rfl, rfl⟩) | (go_at_call 35; refine (isInf_any _ _ (by with_reducible assumption)).mono ?_; rintro e w' ⟨rfl, rfl⟩) | (go_at_call 18; refine (next_any _ _ _ (by with_reducible assumption)).mono ?_; rintro e w' ⟨rfl, rfl⟩))
          all_goals go_ret
          all_goals first | exact ⟨rfl, by assumption⟩ | exact ⟨retb (by simp; omega), by assumption⟩
        · go_enter Try.func6, Try.ntmps6
          go_wp2_with (first | (go_at_call 33; refine (awake_yes _).mono ?_; rintro e w1 ⟨rfl, hb1⟩) | (go_at_call 9; go_in) | (go_at_call 10; refine (place_any _ _ (by with_reducible assumption)).mono ?_; rintro e w' ⟨rfl, rfl⟩) | (go_at_call 12; refine (at_any _ _).mono ?_; rintro e w' ⟨rfl, rfl⟩) | (go_at_call 35; refine (isInf_any _ _ (by with_reducible assumption)).mono ?_; rintro e w' ⟨rfl, rfl⟩) | (go_at_call 18; refine (next_any _ _ _ (by with_reducible assumption)).mono ?_; rintro e w' ⟨rfl, rfl⟩))
          all_goals go_ret
          all_goals first | exact ⟨rfl, by assumption⟩ | exact ⟨retb (by simp; omega), by assumption⟩
      · have o2 := order_nan hm
        rcases cases_p p with ⟨hi, h1, h2⟩ | ⟨hi, h1⟩ | ⟨hi, h1⟩
        · obtain ⟨z1, z2⟩ := pl_at hi
          go_enter Try.func6, Try.ntmps6
          go_wp2_with (first | (go_at_call 33; refine (awake_yes _).mono ?_; rintro e w1 ⟨rfl, hb1⟩) | (go_at_call 9; go_in) | (go_at_call 10; refine (place_any _ _ (by with_reducible assumption)).mono ?_; rintro e w' ⟨rfl, rfl⟩) | (go_at_call 12; refine (at_any _ _).mono ?_; rintro e w' ⟨rfl, rfl⟩) | (go_at_call 35; refine (isInf_any _ _ (by with_reducible assumption)).mono ?_; rintro e w' ⟨rfl, rfl⟩) | (go_at_call 18; refine (next_any _ _ _ (by with_reducible assumption)).mono ?_; rintro e w' ⟨rfl, rfl⟩))
          all_goals go_ret
          all_goals first | exact ⟨rfl, by assumption⟩ | exact ⟨retb (by simp; omega), by assumption⟩
        · go_enter Try.func6, Try.ntmps6
          go_wp2_with (first | (go_at_call 33; refine (awake_yes _).mono ?_; rintro e w1 ⟨rfl, hb1⟩) | (go_at_call 9; go_in) | (go_at_call 10; refine (place_any _ _ (by with_reducible assumption)).mono ?_; rintro e w' ⟨rfl, rfl⟩) | (go_at_call 12; refine (at_any _ _).mono ?_; rintro e w' ⟨rfl, rfl⟩) | (go_at_call 35; refine (isInf_any _ _ (by with_reducible assumption)).mono ?_; rintro e w' ⟨rfl, rfl⟩) | (go_at_call 18; refine (next_any _ _ _ (by with_reducible assumption)).mono ?_; rintro e w' ⟨rfl, rfl⟩))
          all_goals go_ret
          all_goals first | exact ⟨rfl, by assumption⟩ | exact ⟨retb (by simp; omega), by assumption⟩
        · go_enter Try.func6, Try.ntmps6
          go_wp2_with (first | (go_at_call 33; refine (awake_yes _).mono ?_; rintro e w1 ⟨rfl, hb1⟩) | (go_at_call 9; go_in) | (go_at_call 10; refine (place_any _ _ (by with_reducible assumption)).mono ?_; rintro e w' ⟨rfl, rfl⟩) | (go_at_call 12; refine (at_any _ _).mono ?_; rintro e w' ⟨rfl, rfl⟩) | (go_at_call 35; refine (isInf_any _ _ (by with_reducible assumption)).mono ?_; rintro e w' ⟨rfl, rfl⟩) | (go_at_call 18; refine (next_any _ _ _ (by with_reducible assumption)).mono ?_; rintro e w' ⟨rfl, rfl⟩))
          all_goals go_ret
          all_goals first | exact ⟨rfl, by assumption⟩ | exact ⟨retb (by simp; omega), by assumption⟩
  · have o1 := order_nan hn
    cases hm : nan y
    · have o2 := order_num hm
      rcases cases_p p with ⟨hi, h1, h2⟩ | ⟨hi, h1⟩ | ⟨hi, h1⟩
      · obtain ⟨z1, z2⟩ := pl_at hi
        go_enter Try.func6, Try.ntmps6
        go_wp2_with (first | (go_at_call 33; refine (awake_yes _).mono ?_; rintro e w1 ⟨rfl, hb1⟩) | (go_at_call 9; go_in) | (go_at_call 10; refine (place_any _ _ (by with_reducible assumption)).mono ?_; rintro e w' ⟨rfl, rfl⟩) | (go_at_call 12; refine (at_any _ _).mono ?_; rintro e w' ⟨rfl, rfl⟩) | (go_at_call 35; refine (isInf_any _ _ (by with_reducible assumption)).mono ?_; rintro e w' ⟨rfl, rfl⟩) | (go_at_call 18; refine (next_any _ _ _ (by with_reducible assumption)).mono ?_; rintro e w' ⟨rfl, rfl⟩))
        all_goals go_ret
        all_goals first | exact ⟨rfl, by assumption⟩ | exact ⟨retb (by simp; omega), by assumption⟩
      · go_enter Try.func6, Try.ntmps6
        go_wp2_with (first | (go_at_call 33; refine (awake_yes _).mono ?_; rintro e w1 ⟨rfl, hb1⟩) | (go_at_call 9; go_in) | (go_at_call 10; refine (place_any _ _ (by with_reducible assumption)).mono ?_; rintro e w' ⟨rfl, rfl⟩) | (go_at_call 12; refine (at_any _ _).mono ?_; rintro e w' ⟨rfl, rfl⟩) | (go_at_call 35; refine (isInf_any _ _ (by with_reducible assumption)).mono ?_; rintro e w' ⟨rfl, rfl⟩) | (go_at_call 18; refine (next_any _ _ _ (by with_reducible assumption)).mono ?_; rintro e w' ⟨rfl, rfl⟩))
        all_goals go_ret
        all_goals first | exact ⟨rfl, by assumption⟩ | exact ⟨retb (by simp; omega), by assumption⟩
      · go_enter Try.func6, Try.ntmps6
        go_wp2_with (first | (go_at_call 33; refine (awake_yes _).mono ?_; rintro e w1 ⟨rfl, hb1⟩) | (go_at_call 9; go_in) | (go_at_call 10; refine (place_any _ _ (by with_reducible assumption)).mono ?_; rintro e w' ⟨rfl, rfl⟩) | (go_at_call 12; refine (at_any _ _).mono ?_; rintro e w' ⟨rfl, rfl⟩) | (go_at_call 35; refine (isInf_any _ _ (by with_reducible assumption)).mono ?_; rintro e w' ⟨rfl, rfl⟩) | (go_at_call 18; refine (next_any _ _ _ (by with_reducible assumption)).mono ?_; rintro e w' ⟨rfl, rfl⟩))
        all_goals go_ret
        all_goals first | exact ⟨rfl, by assumption⟩ | exact ⟨retb (by simp; omega), by assumption⟩
    · have o2 := order_nan hm
      rcases cases_p p with ⟨hi, h1, h2⟩ | ⟨hi, h1⟩ | ⟨hi, h1⟩
      · obtain ⟨z1, z2⟩ := pl_at hi
        go_enter Try.func6, Try.ntmps6
        go_wp2_with (first | (go_at_call 33; refine (awake_yes _).mono ?_; rintro e w1 ⟨rfl, hb1⟩) | (go_at_call 9; go_in) | (go_at_call 10; refine (place_any _ _ (by with_reducible assumption)).mono ?_; rintro e w' ⟨rfl, rfl⟩) | (go_at_call 12; refine (at_any _ _).mono ?_; rintro e w' ⟨rfl, rfl⟩) | (go_at_call 35; refine (isInf_any _ _ (by with_reducible assumption)).mono ?_; rintro e w' ⟨rfl, rfl⟩) | (go_at_call 18; refine (next_any _ _ _ (by with_reducible assumption)).mono ?_; rintro e w' ⟨rfl, rfl⟩))
        all_goals go_ret
        all_goals first | exact ⟨rfl, by assumption⟩ | exact ⟨retb (by simp; omega), by assumption⟩
      · go_enter Try.func6, Try.ntmps6
        go_wp2_with (first | (go_at_call 33; refine (awake_yes _).mono ?_; rintro e w1 ⟨rfl, hb1⟩) | (go_at_call 9; go_in) | (go_at_call 10; refine (place_any _ _ (by with_reducible assumption)).mono ?_; rintro e w' ⟨rfl, rfl⟩) | (go_at_call 12; refine (at_any _ _).mono ?_; rintro e w' ⟨rfl, rfl⟩) | (go_at_call 35; refine (isInf_any _ _ (by with_reducible assumption)).mono ?_; rintro e w' ⟨rfl, rfl⟩) | (go_at_call 18; refine (next_any _ _ _ (by with_reducible assumption)).mono ?_; rintro e w' ⟨rfl, rfl⟩))
        all_goals go_ret
        all_goals first | exact ⟨rfl, by assumption⟩ | exact ⟨retb (by simp; omega), by assumption⟩
      · go_enter Try.func6, Try.ntmps6
        go_wp2_with (first | (go_at_call 33; refine (awake_yes _).mono ?_; rintro e w1 ⟨rfl, hb1⟩) | (go_at_call 9; go_in) | (go_at_call 10; refine (place_any _ _ (by with_reducible assumption)).mono ?_; rintro e w' ⟨rfl, rfl⟩) | (go_at_call 12; refine (at_any _ _).mono ?_; rintro e w' ⟨rfl, rfl⟩) | (go_at_call 35; refine (isInf_any _ _ (by with_reducible assumption)).mono ?_; rintro e w' ⟨rfl, rfl⟩) | (go_at_call 18; refine (next_any _ _ _ (by with_reducible assumption)).mono ?_; rintro e w' ⟨rfl, rfl⟩))
        all_goals go_ret
        all_goals first | exact ⟨rfl, by assumption⟩ | exact ⟨retb (by simp; omega), by assumption⟩

end Go.Proofs.Ytggnilfphnnpkaa
