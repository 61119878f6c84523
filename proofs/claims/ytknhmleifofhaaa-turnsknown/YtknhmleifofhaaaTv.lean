/-
  Angles: what arc and Angle of package turns hand back, and Angle of gridworkref04.
-/
import Derived.Test.YtknhmleifofhaaaPl
namespace Go.Proofs.Ytknhmleifofhaaa
open Fl RowKit

def oneA : Option Nat := some 4607182418800017408
/-- An angle's tangent, of half the angle. -/
def halfT (T : Option Nat) : Option Nat := divA T (addA oneA (sqrtA (addA oneA (mulA T T))))
def itT : Nat → Option Nat → Option Nat | 0, T => T | k + 1, T => halfT (itT k T)
/-- 13, 11, .. 1, -1. -/
def dW : Nat → Nat | 0 => 4623507967449235456 | 1 => 4622382067542392832 | 2 => 4621256167635550208 | 3 => 4619567317775286272 | 4 => 4617315517961601024 | 5 => 4613937818241073152 | 6 => 4607182418800017408 | _ => 13830554455654793216
def itS : Nat → Option Nat → Option Nat | 0, _ => some 4589468260265693457 | k + 1, U => subA (divA oneA (some (dW k))) (mulA U (itS k U))
def arcA (T : Option Nat) : Option Nat := mulA (mulA (mulA (some 4620693217682128896) (itT 3 T)) (itS 7 (mulA (itT 3 T) (itT 3 T)))) (some 4615783660508851396)

theorem repc {c : Nat} (h : c < 18446744073709551616) (n : nan c = false) : rep (some c) c := ⟨h, ans_num n⟩

/-- how many are left -/
def dV (d : Nat) : Nat := if d = 4623507967449235456 then 7 else if d = 4622382067542392832 then 6 else if d = 4621256167635550208 then 5 else if d = 4619567317775286272 then 4 else if d = 4617315517961601024 then 3 else if d = 4613937818241073152 then 2 else if d = 4607182418800017408 then 1 else 0
theorem dV_d {k : Nat} (hk : k ≤ 7) : dV (dW k) = 7 - k := by
  have hk : k = 0 ∨ k = 1 ∨ k = 2 ∨ k = 3 ∨ k = 4 ∨ k = 5 ∨ k = 6 ∨ k = 7 := by omega
  rcases hk with rfl | rfl | rfl | rfl | rfl | rfl | rfl | rfl <;> rfl
theorem dW_lt (k : Nat) : dW k < 18446744073709551616 := by unfold dW; split <;> decide
theorem dW_num (k : Nat) : nan (dW k) = false := by unfold dW; split <;> decide
theorem dsub {k : Nat} (hk : k < 7) (w : World) : subV w (dW k) 4611686018427387904 = dW (k + 1) ∧ fN (subO (dW k) 4611686018427387904) = 0 := by
  have h : subO (dW k) 4611686018427387904 = some (dW (k + 1)) := by
    have hk : k = 0 ∨ k = 1 ∨ k = 2 ∨ k = 3 ∨ k = 4 ∨ k = 5 ∨ k = 6 := by omega
    rcases hk with rfl | rfl | rfl | rfl | rfl | rfl | rfl <;> (show _ = _; kernel_rfl)
  unfold subV fV
  rw [h]
  exact ⟨rfl, rfl⟩
theorem dord {k : Nat} (hk : k < 7) : FloatKind.f64.format.order (dW k) 4607182418800017408 = if k = 6 then some .eq else some .gt := by
  have hk : k = 0 ∨ k = 1 ∨ k = 2 ∨ k = 3 ∨ k = 4 ∨ k = 5 ∨ k = 6 := by omega
  rcases hk with rfl | rfl | rfl | rfl | rfl | rfl | rfl <;> (show _ = _; kernel_rfl)
theorem dend : FloatKind.f64.format.order (dW 7) 4607182418800017408 = some .lt := by kernel_rfl

set_option maxHeartbeats 2000000 in
theorem arc_any {T : Option Nat} {t : Nat} (w : World) (ht : rep T t) : Calls Try.prog 67 #[.float .f64 t] w fun e w' => ∃ v n, e = .returned (.float .f64 v) ∧ rep (arcA T) v ∧ w' = w.drewN n := by
  go_enter Try.func67, Try.ntmps67
  go_wp2
  go_loopw [0, 7] (fun tv kv wr => ∃ (k x n : Nat), k ≤ 3 ∧ kv = .int .i64 k ∧ tv = .float .f64 x ∧ rep (itT k T) x ∧ wr = w.drewN n) (fun _ kv _ => 3 - (intOf kv).toNat)
  case atStart => exact ⟨0, t, 0, by omega, rfl, rfl, ht, rfl⟩
  case round =>
    obtain ⟨k, x, n, hk, rfl, rfl, hx, rfl⟩ := hrel
    by_cases hlt : k < 3
    · go_wp2_with (first | (go_at_call 56; refine (sqrtf_any _ _).mono ?_; rintro e w' ⟨rfl, rfl⟩))
      case roundEnd =>
        refine ⟨⟨k + 1, _, _, by omega, rfl, rfl, ?_, rfl⟩, by simp [intOf] <;> omega⟩
        exact rep_div hx (rep_add (repc (by decide) (by decide)) (rep_sqrt (rep_add (repc (by decide) (by decide)) (rep_mul hx hx _) _) _) _) _
    · obtain rfl : k = 3 := by omega
      go_wp2
      go_loopw [4, 5] (fun sv dv wr => ∃ (j s m : Nat), j ≤ 7 ∧ dv = .float .f64 (dW j) ∧ sv = .float .f64 s ∧ rep (itS j (mulA (itT 3 T) (itT 3 T))) s ∧ wr = w.drewN m) (fun _ dv _ => match dv with | .float .f64 d => (dV d) | _ => 0)
      case atStart => exact ⟨0, _, _, by omega, rfl, rfl, repc (by decide) (by decide), rfl⟩
      case round =>
        obtain ⟨j, s, m, hj, rfl, rfl, hs, rfl⟩ := hrel
        have hu := rep_mul hx hx (w.drewN n)
        by_cases hlt : j < 7
        · have ho := dord hlt
          by_cases h6 : j = 6
          all_goals
            first | rw [if_pos h6] at ho | rw [if_neg h6] at ho
            clear h6
            go_wp2
            case roundEnd =>
              refine ⟨⟨j + 1, _, _, by omega, ?_, rfl, ?_, rfl⟩, ?_⟩
              · rw [(dsub hlt _).1]
              · exact rep_sub (rep_div (repc (c := 4607182418800017408) (by decide) (by decide)) (repc (dW_lt j) (dW_num j)) _) (rep_mul hu hs _) _
              · show dV _ < dV _
                rw [(dsub hlt _).1, dV_d (by omega), dV_d (by omega)]
                omega
        · obtain rfl : j = 7 := by omega
          have ho := dend
          go_wp2
          go_ret
          refine ⟨_, _, rfl, ?_, rfl⟩
          exact rep_mul (rep_mul (rep_mul (repc (by decide) (by decide)) hx _) hs _) (repc (by decide) (by decide)) _

end Go.Proofs.Ytknhmleifofhaaa
