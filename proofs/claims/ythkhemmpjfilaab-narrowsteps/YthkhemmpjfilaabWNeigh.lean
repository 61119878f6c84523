/-
  What Next of package narrow and of gridworkref03 hand back; the walk of NarrowNeighbours.
-/
import Derived.Test.YthkhemmpjfilaabNb
namespace Go.Proofs.Ythkhemmpjfilaab

/-- The narrow real next above (up) or below. -/
def nx3 (x : Nat) (up : Bool) : Nat :=
  if Fs.nan x then x
  else if Fs.mg x = 0 then (if up then 1 else 2147483649)
  else if Fs.ng x = up then x - 1
  else if Fs.mg x = 2139095040 then x else x + 1
theorem andNot3 (x : Nat) (hx : x < 4294967296) : bits BinOp.andNot IntKind.u32 (x : Int) 2147483648 = ((Fs.mg x : Nat) : Int) := by
  have h := u32_andNot_nat x 2147483648 hx (by omega)
  have h2 := Nat.and_two_pow_sub_one_eq_mod x 31
  rw [show (2 : Nat) ^ 31 - 1 = 4294967295 - 2147483648 from rfl, show (2 : Nat) ^ 31 = 2147483648 from rfl] at h2
  rw [h2] at h; exact h
theorem ninf_any (x : Nat) (w : World) (hx : x < 4294967296) : Calls Try.prog 38 #[.float .f32 x] w fun e w' => e = .returned (.bool (decide (Fs.mg x = 2139095040))) ∧ w' = w := by
  have ha := andNot3 x hx
  have hk : (((Fs.mg x : Nat) : Int) == 2139095040) = decide (Fs.mg x = 2139095040) := by
    by_cases h : Fs.mg x = 2139095040
    · rw [decide_eq_true h]; exact beq_iff_eq.2 (by omega)
    · rw [decide_eq_false h]; simp; omega
  go_enter Try.func38, Try.ntmps38
  go_wp2
  go_ret
  exact ⟨rfl, rfl⟩
theorem plc0 : Fs.plc 0 = 0 := by decide
theorem nan0 : Fs.nan 0 = false := by decide
theorem cmp0 {x : Nat} (h : Fs.nan x = false) : FloatKind.f32.format.order x 0 = some (if Fs.mg x = 0 then .eq else if Fs.ng x then .lt else .gt) := by
  rw [Fs.f32_single, Fs.order_eq, h, nan0]
  simp only [Bool.or_false, Bool.false_eq_true, if_false]
  congr 1
  rw [plc0]
  unfold Fs.plc Fs.sgn
  by_cases h0 : Fs.mg x = 0
  · rw [if_pos h0, h0]; cases Fs.ng x <;> rfl
  · rw [if_neg h0]
    cases Fs.ng x
    · rw [if_neg (by decide), if_neg (by decide)]; exact Fs.cmp_gt (by omega)
    · rw [if_pos rfl, if_pos rfl]; exact Fs.cmp_lt (by omega)
theorem ng_pos {x : Nat} (hx : x < 4294967296) (h : Fs.ng x = false) : x = Fs.mg x := by
  unfold Fs.ng at h; unfold Fs.mg
  have : ¬ (x / 2147483648 % 2 = 1) := by simpa using h
  omega
theorem ng_neg {x : Nat} (hx : x < 4294967296) (h : Fs.ng x = true) : x = 2147483648 + Fs.mg x := by
  unfold Fs.ng at h; unfold Fs.mg
  have : x / 2147483648 % 2 = 1 := by simpa using h
  omega
theorem not_nan3 {x : Nat} (h : Fs.nan x = false) : Fs.mg x ≤ 2139095040 := by unfold Fs.nan at h; simp at h; exact h
theorem nnext_any (x : Nat) (up : Bool) (w : World) (hx : x < 4294967296) :
    Calls Try.prog 17 #[.float .f32 x, .bool up] w fun e w' => e = .returned (.float .f32 (nx3 x up)) ∧ w' = w := by
  cases hn : Fs.nan x
  · have o1 := Fs.order_num hn
    have o2 := cmp0 hn
    by_cases h0 : Fs.mg x = 0
    · rw [if_pos h0] at o2
      cases up
      all_goals
        go_enter Try.func17, Try.ntmps17
        go_wp2
        go_ret
        exact ⟨ret3 (by simp [nx3, hn, h0]), rfl⟩
    · rw [if_neg h0] at o2
      have hm : 0 < Fs.mg x := by omega
      have hml : Fs.mg x < 2147483648 := Nat.mod_lt _ (by omega)
      cases hs : Fs.ng x
      all_goals
        rw [hs] at o2
        first | rw [if_neg (by decide)] at o2 | rw [if_pos rfl] at o2
        have hp1 : 0 < x := by first | (have := ng_pos hx hs; omega) | (have := ng_neg hx hs; omega)
        have hp2 : x < 4294967295 := by have := Fs.kinds x; unfold Fs.fin at this; first | (have := ng_pos hx hs; omega) | (have := ng_neg hx hs; have := not_nan3 hn; omega)
        cases up
        all_goals
          by_cases hi : Fs.mg x = 2139095040
          all_goals
            first | have hd := decide_eq_true hi | have hd := decide_eq_false hi
            go_enter Try.func17, Try.ntmps17
            go_wp2_with (first | (go_at_call 38; refine (ninf_any _ _ hx).mono ?_; rintro e w' ⟨rfl, rfl⟩))
            go_ret
            refine ⟨ret3 ?_, rfl⟩
            simp [nx3, hn, h0, hs, hi]
            try omega
  · have o1 := Fs.order_nan hn
    go_enter Try.func17, Try.ntmps17
    go_wp2
    go_ret
    exact ⟨ret3 (by simp [nx3, hn]), rfl⟩
end Go.Proofs.Ythkhemmpjfilaab
