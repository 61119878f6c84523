/-
  Places and reals, there and back, as facts on whole numbers; what math.Abs and math.IsInf hand back.
-/
import Derived.Test.YthkhemmpjfilaaaPlaces
namespace Go.Proofs.Ythkhemmpjfilaaa
open Fl

theorem abs_any (x : Nat) (w : World) (hx : x < 18446744073709551616) :
    Calls Try.prog 124 #[.float .f64 x] w fun e w' => e = .returned (.float .f64 (mg x)) ∧ w' = w := by
  have ha := andNot_sign x hx
  go_enter Try.func124, Try.ntmps124
  go_wp2
  go_ret
  exact ⟨retf (by first | exact Int.toNat_natCast _ | rfl), rfl⟩
def infB (x : Nat) : Bool := mg x == 9218868437227405312
theorem mg_mg (x : Nat) : mg (mg x) = mg x := by unfold mg; omega
theorem ng_mg (x : Nat) : ng (mg x) = false := by
  have : mg x / 9223372036854775808 = 0 := Nat.div_eq_of_lt (mg_lt x)
  unfold ng; rw [this]; rfl
theorem nan_mg (x : Nat) : nan (mg x) = nan x := by unfold nan; rw [mg_mg]
theorem plc_mg (x : Nat) : plc (mg x) = mg x := by unfold plc; rw [mg_mg, ng_mg]; rfl
theorem plc_max : plc 9218868437227405311 = 9218868437227405311 := by decide
theorem gt_max (x : Nat) : (FloatKind.f64.format.order (mg x) 9218868437227405311 == some .gt) = infB x := by
  cases hn : nan x
  · rw [order_gt (by rw [nan_mg]; exact hn) (by decide), plc_mg, plc_max]
    have := not_nan hn
    unfold infB; rw [Bool.eq_iff_iff]; simp; omega
  · rw [f64_double, order_eq, nan_mg, hn]
    have := is_nan hn
    unfold infB; rw [Bool.eq_iff_iff]; simp; omega
theorem isInf_any (x : Nat) (w : World) (hx : x < 18446744073709551616) :
    Calls Try.prog 143 #[.float .f64 x, .int .i64 0] w fun e w' => e = .returned (.bool (infB x)) ∧ w' = w := by
  have hg := gt_max x
  go_enter Try.func143, Try.ntmps143
  go_wp2_with (go_at_call 124; refine (abs_any _ _ hx).mono ?_; rintro e w' ⟨rfl, rfl⟩)
  go_ret
  exact ⟨rfl, rfl⟩

theorem order_same {x y : Nat} (hx : nan x = false) (hy : nan y = false) (h : plc x = plc y) : FloatKind.f64.format.order x y = some .eq := by
  rw [f64_double, order_eq, hx, hy, h]; simp [compare, compareOfLessAndEq]
theorem order_less {x y : Nat} (hx : nan x = false) (hy : nan y = false) (h : plc x < plc y) : FloatKind.f64.format.order x y = some .lt := by
  rw [f64_double, order_eq, hx, hy]; simp only [Bool.or_false, Bool.false_eq_true, if_false, cmp_lt h]
theorem order_more {x y : Nat} (hx : nan x = false) (hy : nan y = false) (h : plc y < plc x) : FloatKind.f64.format.order x y = some .gt := by
  rw [f64_double, order_eq, hx, hy]; simp only [Bool.or_false, Bool.false_eq_true, if_false, cmp_gt h]

theorem plc_at {p : Int} (h : inR p = true) : plc (atB p) = p ∧ nan (atB p) = false ∧ atB p < 18446744073709551616 := by
  unfold inR at h; simp only [decide_eq_true_eq] at h
  by_cases h2 : p < 0
  · rw [(at_neg h.1 h2).1]
    have e1 : mg (9223372036854775808 + (-p).toNat) = (-p).toNat := by unfold mg; omega
    have e2 : ng (9223372036854775808 + (-p).toNat) = true := by
      have : (9223372036854775808 + (-p).toNat) / 9223372036854775808 = 1 := by omega
      unfold ng; rw [this]; rfl
    refine ⟨by unfold plc; rw [e1, e2]; unfold sgn; simp; omega, by unfold nan; rw [e1]; simp; omega, by omega⟩
  · rw [(at_pos (by omega) h.2).1]
    have e1 : mg p.toNat = p.toNat := by unfold mg; omega
    have e2 : ng p.toNat = false := by
      have : p.toNat / 9223372036854775808 = 0 := by omega
      unfold ng; rw [this]; rfl
    refine ⟨by unfold plc; rw [e1, e2]; unfold sgn; simp; omega, by unfold nan; rw [e1]; simp; omega, by omega⟩
theorem at_plc {x : Nat} (hn : nan x = false) (hx : x < 18446744073709551616) (h : plc x ≠ 0) : atB (plc x) = x := by
  have hb := not_nan hn
  have hx2 : x = (if ng x then 9223372036854775808 else 0) + mg x := by
    unfold ng mg
    by_cases h : x < 9223372036854775808
    · have : x / 9223372036854775808 = 0 := by omega
      rw [this]; simp; omega
    · have : x / 9223372036854775808 = 1 := by omega
      rw [this]; simp; omega
  unfold plc at *
  cases hg : ng x <;> rw [hg] at h hx2 <;> unfold sgn at * <;> simp at *
  · rw [(at_pos (p := (mg x : Int)) (by omega) (by omega)).1]; omega
  · rw [(at_neg (p := -(mg x : Int)) (by omega) (by omega)).1]; omega
theorem at_0 : atB 0 = 0 := by decide
theorem nx_up {x : Nat} (hn : nan x = false) (h : plc x < 9218868437227405312) : plc (nxB x true) = plc x + 1 ∧ nan (nxB x true) = false ∧ nxB x true < 18446744073709551616 := by
  have hi : inR (plc x + 1) = true := in_yes (by have := plc_bd hn; omega) (by omega)
  rw [nx_in hn true rfl hi]; exact plc_at hi
theorem nx_dn {x : Nat} (hn : nan x = false) (h : -9218868437227405312 < plc x) : plc (nxB x false) = plc x - 1 ∧ nan (nxB x false) = false ∧ nxB x false < 18446744073709551616 := by
  have hi : inR (plc x - 1) = true := in_yes (by omega) (by have := plc_bd hn; omega)
  rw [nx_in hn false rfl hi]; exact plc_at hi
theorem nx_bd {x : Nat} (hx : x < 18446744073709551616) (up : Bool) : nxB x up < 18446744073709551616 := by
  cases hn : nan x
  · cases hi : inR (if up then plc x + 1 else plc x - 1)
    · rw [nx_out hn up rfl hi]; exact hx
    · rw [nx_in hn up rfl hi]; exact (plc_at hi).2.2
  · rw [nx_nan hn up]; exact hx
theorem inf_plc (x : Nat) : infB x = decide (plc x = 9218868437227405312 ∨ plc x = -9218868437227405312) := by
  unfold infB plc sgn; rw [Bool.eq_iff_iff]; cases ng x <;> simp <;> omega

end Go.Proofs.Ythkhemmpjfilaaa
