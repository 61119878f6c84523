/-
  What Next of package narrow and of gridworkref03 hand back; the walk of NarrowNeighbours.
-/
import Derived.Test.YthkhemmpjfilaaaNb
namespace Go.Proofs.Ythkhemmpjfilaaa

/-- The narrow real next above (up) or below. -/
def nx3 (x : Nat) (up : Bool) : Nat :=
  if Fs.nan x then x
  else if Fs.mg x = 0 then (if up then 1 else 2147483649)
  else if Fs.ng x = up then x - 1
  else if Fs.mg x = 2139095040 then x else x + 1
theorem andNot3 (x : Nat) (hx : x < 4294967296) : bits BinOp.andNot IntKind.u32 (x : Int) 2147483648 = ((Fs.mg x : Nat) : Int) := by
  have h := u32_andNot_nat x 2147483648 hx (by omega)
  have h2 := Nat.and_two_pow_sub_one_eq_mod x 31
  rw [show (2 : Nat) ^ 31 - 1 = 4294967295 - 2147483648 from rfl, show (2 : Nat) ^ 31 = 2147483648 from rfl] at h2
  rw [h2] at h; exact h
theorem ninf_any (x : Nat) (w : World) (hx : x < 4294967296) : Calls Try.prog 102 #[.float .f32 x] w fun e w' => e = .returned (.bool (decide (Fs.mg x = 2139095040))) ∧ w' = w := by
  have ha := andNot3 x hx
  have hk : (((Fs.mg x : Nat) : Int) == 2139095040) = decide (Fs.mg x = 2139095040) := by
    by_cases h : Fs.mg x = 2139095040
    · rw [decide_eq_true h]; exact beq_iff_eq.2 (by omega)
    · rw [decide_eq_false h]; simp; omega
  go_enter Try.func102, Try.ntmps102
  go_wp2
  go_ret
  exact ⟨rfl, rfl⟩
theorem plc0 : Fs.plc 0 = 0 := by decide
theorem nan0 : Fs.nan 0 = false := by decide
theorem cmp0 {x : Nat} (h : Fs.nan x = false) : FloatKind.f32.format.order x 0 = some (if Fs.mg x = 0 then .eq else if Fs.ng x then .lt else .gt) := by
  rw [Fs.f32_single, Fs.order_eq, h, nan0]
  simp only [Bool.or_false, Bool.false_eq_true, if_false]
  congr 1
  rw [plc0]
  unfold Fs.plc Fs.sgn
  by_cases h0 : Fs.mg x = 0
  · rw [if_pos h0, h0]; cases Fs.ng x <;> rfl
  · rw [if_neg h0]
    cases Fs.ng x
    · rw [if_neg (by decide), if_neg (by decide)]; exact Fs.cmp_gt (by omega)
    · rw [if_pos rfl, if_pos rfl]; exact Fs.cmp_lt (by omega)
theorem ng_pos {x : Nat} (hx : x < 4294967296) (h : Fs.ng x = false) : x = Fs.mg x := by
  unfold Fs.ng at h; unfold Fs.mg
  have : ¬ (x / 2147483648 % 2 = 1) := by simpa using h
  omega
theorem ng_neg {x : Nat} (hx : x < 4294967296) (h : Fs.ng x = true) : x = 2147483648 + Fs.mg x := by
  unfold Fs.ng at h; unfold Fs.mg
  have : x / 2147483648 % 2 = 1 := by simpa using h
  omega
theorem not_nan3 {x : Nat} (h : Fs.nan x = false) : Fs.mg x ≤ 2139095040 := by unfold Fs.nan at h; simp at h; exact h
theorem nnext_any (x : Nat) (up : Bool) (w : World) (hx : x < 4294967296) :
    Calls Try.prog 54 #[.float .f32 x, .bool up] w fun e w' => e = .returned (.float .f32 (nx3 x up)) ∧ w' = w := by
  cases hn : Fs.nan x
  · have o1 := Fs.order_num hn
    have o2 := cmp0 hn
    by_cases h0 : Fs.mg x = 0
    · rw [if_pos h0] at o2
      cases up
      all_goals
        go_enter Try.func54, Try.ntmps54
        go_wp2
        go_ret
        exact ⟨ret3 (by simp [nx3, hn, h0]), rfl⟩
    · rw [if_neg h0] at o2
      have hm : 0 < Fs.mg x := by omega
      have hml : Fs.mg x < 2147483648 := Nat.mod_lt _ (by omega)
      cases hs : Fs.ng x
      all_goals
        rw [hs] at o2
        first | rw [if_neg (by decide)] at o2 | rw [if_pos rfl] at o2
        have hp1 : 0 < x := by first | (have := ng_pos hx hs; omega) | (have := ng_neg hx hs; omega)
        have hp2 : x < 4294967295 := by have := Fs.kinds x; unfold Fs.fin at this; first | (have := ng_pos hx hs; omega) | (have := ng_neg hx hs; have := not_nan3 hn; omega)
        cases up
        all_goals
          by_cases hi : Fs.mg x = 2139095040
          all_goals
            first | have hd := decide_eq_true hi | have hd := decide_eq_false hi
            go_enter Try.func54, Try.ntmps54
            go_wp2_with (first | (go_at_call 102; refine (ninf_any _ _ hx).mono ?_; rintro e w' ⟨rfl, rfl⟩))
            go_ret
            refine ⟨ret3 ?_, rfl⟩
            simp [nx3, hn, h0, hs, hi]
            try omega
  · have o1 := Fs.order_nan hn
    go_enter Try.func54, Try.ntmps54
    go_wp2
    go_ret
    exact ⟨ret3 (by simp [nx3, hn]), rfl⟩
theorem place3_pos (x : Nat) (w : World) (h1 : x < 2147483648) : Calls Try.prog 109 #[.float .f32 x] w fun e w' => e = .returned (.int .i64 (x : Int)) ∧ w' = w := by
  have ht : ¬ ((2147483648 : Int) ≤ (x : Int)) := by omega
  clear h1
  go_enter Try.func109, Try.ntmps109
  go_wp2
  go_ret
  exact ⟨ret3i rfl, rfl⟩
theorem place3_neg (x : Nat) (w : World) (h0 : 2147483648 ≤ x) (h1 : x < 4294967296) : Calls Try.prog 109 #[.float .f32 x] w fun e w' => e = .returned (.int .i64 (-((x : Int) - 2147483648))) ∧ w' = w := by
  have ht : (2147483648 : Int) ≤ (x : Int) := by omega
  have hl : ¬ ((4294967296 : Int) ≤ (x : Int)) := by omega
  clear h0 h1
  go_enter Try.func109, Try.ntmps109
  go_wp2
  go_ret
  exact ⟨ret3i (by omega), rfl⟩
theorem place3_any (x : Nat) (w : World) (hx : x < 4294967296) : Calls Try.prog 109 #[.float .f32 x] w fun e w' => e = .returned (.int .i64 (Fs.plc x)) ∧ w' = w := by
  cases hs : Fs.ng x
  · have hp := ng_pos hx hs
    have hml : Fs.mg x < 2147483648 := Nat.mod_lt _ (by omega)
    have h2 : Fs.plc x = (x : Int) := by unfold Fs.plc Fs.sgn; rw [hs, ← hp]; rfl
    rw [h2]
    exact place3_pos x w (by omega)
  · have hp := ng_neg hx hs
    have h2 : Fs.plc x = -((x : Int) - 2147483648) := by unfold Fs.plc Fs.sgn; rw [hs, if_pos rfl]; omega
    rw [h2]
    exact place3_neg x w (by omega) hx
theorem rnext3_any (x : Nat) (up : Bool) (w : World) (hx : x < 4294967296) :
    Calls Try.prog 55 #[.float .f32 x, .bool up] w fun e w' => e = .returned (.float .f32 (nx3 x up)) ∧ w' = w := by
  cases hn : Fs.nan x
  · have o1 := Fs.order_num hn
    have hm := not_nan3 hn
    obtain ⟨p, hp⟩ : ∃ p : Int, p = Fs.plc x := ⟨_, rfl⟩
    cases hs : Fs.ng x
    · have hxp : (x : Int) = p := by have := ng_pos hx hs; rw [hp]; unfold Fs.plc Fs.sgn; rw [hs]; simp; omega
      have hmx : Fs.mg x = x := (ng_pos hx hs).symm
      have hp0 : 0 ≤ p := by omega
      have hp1 : p ≤ 2139095040 := by omega
      have hc := fun w => place3_any x w hx
      rw [← hp] at hc
      clear hp
      cases up
      · rcases Int.lt_or_le 0 p with h0 | h0
        · have hr : nx3 x false = (p - 1).toNat := by unfold nx3; rw [hn, if_neg (by decide), if_neg (by omega), if_pos hs]; omega
          have hl : -2139095040 ≤ p - 1 := by omega
          rw [hr]
          clear hm hmx hxp hr
          go_enter Try.func55, Try.ntmps55
          go_wp2_with (first | (go_at_call 109; refine (hc _).mono ?_; rintro e w' ⟨rfl, rfl⟩))
          all_goals go_ret
          all_goals exact ⟨ret3 (by omega), rfl⟩
        · have hr : nx3 x false = 2147483649 := by simp [nx3, hn]; omega
          obtain rfl : p = 0 := by omega
          rw [hr]
          clear hm hmx hxp hp0 hp1 h0 hr
          go_enter Try.func55, Try.ntmps55
          go_wp2_with (first | (go_at_call 109; refine (hc _).mono ?_; rintro e w' ⟨rfl, rfl⟩))
          all_goals go_ret
          all_goals exact ⟨ret3 (by omega), rfl⟩
      · rcases Int.lt_or_le p 2139095040 with h0 | h0
        · have hr : nx3 x true = (p + 1).toNat := by
            unfold nx3; rw [hn, if_neg (by decide)]
            by_cases hz : Fs.mg x = 0
            · rw [if_pos hz]; simp; omega
            · rw [if_neg hz, hs, if_neg (by decide), if_neg (by omega)]; omega
          rw [hr]
          clear hm hmx hxp hr
          go_enter Try.func55, Try.ntmps55
          go_wp2_with (first | (go_at_call 109; refine (hc _).mono ?_; rintro e w' ⟨rfl, rfl⟩))
          all_goals go_ret
          all_goals exact ⟨ret3 (by omega), rfl⟩
        · have hr : nx3 x true = 2139095040 := by
            unfold nx3; rw [hn, if_neg (by decide), if_neg (by omega), hs, if_neg (by decide), if_pos (by omega)]; omega
          obtain rfl : p = 2139095040 := by omega
          rw [hr]
          clear hm hmx hxp hp0 hp1 h0 hr
          go_enter Try.func55, Try.ntmps55
          go_wp2_with (first | (go_at_call 109; refine (hc _).mono ?_; rintro e w' ⟨rfl, rfl⟩))
          all_goals go_ret
          all_goals exact ⟨ret3 (by omega), rfl⟩
    · have hxp : (x : Int) = 2147483648 - p := by have := ng_neg hx hs; rw [hp]; unfold Fs.plc Fs.sgn; rw [hs]; simp; omega
      have hmx : (Fs.mg x : Int) = - p := by have := ng_neg hx hs; omega
      have hp0 : p ≤ 0 := by omega
      have hp1 : -2139095040 ≤ p := by omega
      have hc := fun w => place3_any x w hx
      rw [← hp] at hc
      clear hp
      cases up
      · rcases Int.lt_or_le (-2139095040) p with h0 | h0
        · have hr : nx3 x false = (2147483648 - (p - 1)).toNat := by
            unfold nx3; rw [hn, if_neg (by decide)]
            by_cases hz : Fs.mg x = 0
            · rw [if_pos hz]; simp; omega
            · rw [if_neg hz, hs, if_neg (by decide), if_neg (by omega)]; omega
          rw [hr]
          clear hm hmx hxp hr
          go_enter Try.func55, Try.ntmps55
          go_wp2_with (first | (go_at_call 109; refine (hc _).mono ?_; rintro e w' ⟨rfl, rfl⟩))
          all_goals go_ret
          all_goals exact ⟨ret3 (by omega), rfl⟩
        · have hr : nx3 x false = 4286578688 := by
            unfold nx3; rw [hn, if_neg (by decide), if_neg (by omega), hs, if_neg (by decide), if_pos (by omega)]; omega
          obtain rfl : p = -2139095040 := by omega
          rw [hr]
          clear hm hmx hxp hp0 hp1 h0 hr
          go_enter Try.func55, Try.ntmps55
          go_wp2_with (first | (go_at_call 109; refine (hc _).mono ?_; rintro e w' ⟨rfl, rfl⟩))
          all_goals go_ret
          all_goals exact ⟨ret3 (by omega), rfl⟩
      · rcases Int.lt_or_le p (-1) with h0 | h0
        · have hr : nx3 x true = (2147483648 - (p + 1)).toNat := by
            unfold nx3; rw [hn, if_neg (by decide), if_neg (by omega), if_pos hs]; omega
          rw [hr]
          clear hm hmx hxp hr
          go_enter Try.func55, Try.ntmps55
          go_wp2_with (first | (go_at_call 109; refine (hc _).mono ?_; rintro e w' ⟨rfl, rfl⟩))
          all_goals go_ret
          all_goals exact ⟨ret3 (by omega), rfl⟩
        · rcases Int.lt_or_le p 0 with h1 | h1
          · have hr : nx3 x true = 2147483648 := by
              unfold nx3; rw [hn, if_neg (by decide), if_neg (by omega), if_pos hs]; omega
            obtain rfl : p = -1 := by omega
            rw [hr]
            clear hm hmx hxp hp0 hp1 h0 hr h1
            go_enter Try.func55, Try.ntmps55
            go_wp2_with (first | (go_at_call 109; refine (hc _).mono ?_; rintro e w' ⟨rfl, rfl⟩))
            all_goals go_ret
            all_goals exact ⟨ret3 (by omega), rfl⟩
          · have hr : nx3 x true = 1 := by simp [nx3, hn]; omega
            obtain rfl : p = 0 := by omega
            rw [hr]
            clear hm hmx hxp hp0 hp1 h0 hr h1
            go_enter Try.func55, Try.ntmps55
            go_wp2_with (first | (go_at_call 109; refine (hc _).mono ?_; rintro e w' ⟨rfl, rfl⟩))
            all_goals go_ret
            all_goals exact ⟨ret3 (by omega), rfl⟩
  · have o1 := Fs.order_nan hn
    go_enter Try.func55, Try.ntmps55
    go_wp2
    go_ret
    exact ⟨ret3 (by simp [nx3, hn]), rfl⟩

theorem neigh_walk (u : Nat) (w : World) (hu : u < 4294967296) : Calls Try.prog 7 #[.int .u32 (u : Int)] w fun e w' => e = .returned (.bool true) ∧ RowKit.Below w.heap.size w w' := by
  have s1 := sm3_self (nx3 u true)
  have s2 := sm3_self (nx3 u false)
  go_enter Try.func7, Try.ntmps7
  go_wp2_with (first
    | (go_at_call 54; refine (nnext_any _ _ _ (by simpa using hu)).mono ?_; rintro e w' ⟨rfl, rfl⟩)
    | (go_at_call 55; refine (rnext3_any _ _ _ (by simpa using hu)).mono ?_; rintro e w' ⟨rfl, rfl⟩)
    | (go_at_call 34; refine (snarrow_any _ _ _ _ _).mono ?_; rintro e w' ⟨rfl, rfl⟩))
  go_ret
  exact ⟨rfl, RowKit.Below.refl _ _⟩
end Go.Proofs.Ythkhemmpjfilaaa
