/-
  Elements: Check of package value.
-/
import Derived.Test.YtcakfclfggnmbaaElf
namespace Go.Proofs.Ytcakfclfggnmbaa
open Fl RowKit
set_option linter.unusedVariables false

/-- is a real above nought? -/
def posV (v : Nat) : Bool := decide (0 < plc v)
/-- what is wrong with an element -/
def chkI (x : Elm) : Int := if ltr x.k = 0 then 2 else if naF x = false then 8 else if (x.a.toList == x.b.toList) = true ∨ spF x = false then 2 else if 2 < kdB x.v then 5 else if abv x.k = true ∧ posV x.v = false then 2 else 0
theorem kd_fin {v : Nat} (h : ¬ 2 < kdB v) : nan v = false := by
  cases hn : nan v
  · rfl
  · rw [kd_4 hn] at h; omega
theorem leq_zero {v : Nat} (h : nan v = false) : (FloatKind.f64.format.order v 0 == some .lt || FloatKind.f64.format.order v 0 == some .eq) = !posV v := by
  rw [order_lt h nan_zero, order_eqb h nan_zero, plc_zero]
  unfold posV
  rw [Bool.eq_iff_iff]; simp; omega
theorem leq_iff {v : Nat} (h : nan v = false) : posV v = false ↔ FloatKind.f64.format.order v 0 = some .lt ∨ FloatKind.f64.format.order v 0 = some .eq := by
  have := leq_zero h
  cases hp : posV v
  · rw [hp] at this; simpa using this
  · rw [hp] at this; simpa using this
theorem gt_zero {v : Nat} (h : nan v = false) : (FloatKind.f64.format.order v 0 == some .gt) = posV v := by
  rw [order_gt h nan_zero, plc_zero]; rfl
theorem named_w (x : Elm) (w : World) (h : x.ok) :
    Calls Try.prog 67 #[.agg #[.int .u8 (x.k : Int), .string x.n, .string x.a, .string x.b, .string x.c, .string x.d, .float .f64 x.v, .int .i64 x.ph], .agg #[.int .u8 (ltr x.k : Nat), .string (unS x.k), .bool (abv x.k), .bool (phs x.k), .bool (fou x.k)]] w fun e w' => e = .returned (.bool (naF x)) ∧ Below w.heap.size w w' := named_any x w h
theorem spare_w (x : Elm) (w : World) (h : x.ok) :
    Calls Try.prog 68 #[.agg #[.int .u8 (x.k : Int), .string x.n, .string x.a, .string x.b, .string x.c, .string x.d, .float .f64 x.v, .int .i64 x.ph], .agg #[.int .u8 (ltr x.k : Nat), .string (unS x.k), .bool (abv x.k), .bool (phs x.k), .bool (fou x.k)]] w fun e w' => e = .returned (.bool (spF x)) ∧ Below w.heap.size w w' := spare_any x w h
set_option maxRecDepth 100000 in
set_option maxHeartbeats 2000000 in
theorem check_any (x : Elm) (w : World) (h : x.ok) :
    Calls Try.prog 48 #[elV x] w fun e w' => e = .returned (.int .i64 (chkI x)) ∧ Below w.heap.size w w' := by
  have E0 : Hid (EC w (w.alloc (.cells (elA x) 56)) w.heap.size x) := ec_new w x
  by_cases hl : ltr x.k = 0
  · have hk0 : x.k = 0 ∨ 8 < x.k := by
      rcases (show x.k = 1 ∨ x.k = 2 ∨ x.k = 3 ∨ x.k = 4 ∨ x.k = 5 ∨ x.k = 6 ∨ x.k = 7 ∨ x.k = 8 ∨ (x.k = 0 ∨ 8 < x.k) from by omega) with q | q | q | q | q | q | q | q | q
      all_goals first | exact q | (rw [q] at hl; exact absurd hl (by decide))
    obtain ⟨e1, e2, e3, e4, e5⟩ := nat_none hk0
    have hn : natV x.k = .agg #[.int .u8 0, .string ⟨#[]⟩, .bool false, .bool false, .bool false] := by unfold natV; rw [e1, e2, e3, e4, e5]; rfl
    have hc : chkI x = 2 := by unfold chkI; rw [if_pos hl]
    rw [hc]
    have HN : Hid _ := hn
    clear e1 e2 e3 e4 e5 hk0 hn hc hl
    unfold elV
    go_enter Try.func48, Try.ntmps48
    go_wp2_with (first
      | (go_at_call 66; (with_reducible refine (nature_any x.k _).mono ?_); rintro e w1 ⟨rfl, hb⟩; (have E1 : Hid _ := E0.out.below hb); (rw [HN.out]); clear hb E0))
    go_ret
    exact ⟨rfl, (E1.out.al _).bel⟩
  · have hl2 : (((ltr x.k : Nat) : Int) == 0) = false := by rw [beq_eq_false_iff_ne]; omega
    have HL : Hid (¬ ltr x.k = 0) := hl
    clear hl
    have hkd : ∀ W, Calls Try.prog 69 #[.float .f64 x.v] W fun e w' => e = .returned (.int .i64 (kdB x.v)) ∧ w' = W := fun W => kind_any x.v W h.v
    have HK : Hid (∀ W, Calls Try.prog 69 #[.float .f64 x.v] W fun e w' => e = .returned (.int .i64 (kdB x.v)) ∧ w' = W) := hkd
    clear hkd
    have hz : ¬ 2 < kdB x.v → (posV x.v = false ↔ FloatKind.f64.format.order x.v 0 = some .lt ∨ FloatKind.f64.format.order x.v 0 = some .eq) := fun q => leq_iff (kd_fin q)
    have HZ : Hid _ := hz
    clear hz
    unfold elV
    go_enter Try.func48, Try.ntmps48
    go_wp2_with (first
      | (go_at_call 66; (with_reducible refine (nature_any x.k _).mono ?_); rintro e w1 ⟨rfl, hb⟩; (have E1 : Hid _ := (E0.out.below hb).al (.cells (ntA x.k) 113)); (have N1 : Hid _ := nc_new w1 x.k); (obtain ⟨l1, c10, c11, c12, c13, c14, c15, c16, c17⟩ := (E0.out.below hb).f); unfold natV; clear hb E0)
      | (go_at_call 67; (with_reducible refine (named_w x _ h).mono ?_); rintro e w2 ⟨rfl, hb⟩; (have E2 : Hid _ := E1.out.below hb); (have N2 : Hid _ := N1.out.below hb); (obtain ⟨l2, c20, c21, c22, c23, c24, c25, c26, c27⟩ := E2.out.f); (obtain ⟨m2, n20, n21, n22, n23, n24⟩ := N2.out.f); clear hb E1 N1 c10 c11 c12 c13 c14 c15 c16 c17)
      | (go_at_call 68; (with_reducible refine (spare_w x _ h).mono ?_); rintro e w3 ⟨rfl, hb⟩; (have E3 : Hid _ := E2.out.below hb); (have N3 : Hid _ := N2.out.below hb); (obtain ⟨l3, c30, c31, c32, c33, c34, c35, c36, c37⟩ := E3.out.f); (obtain ⟨m3, n30, n31, n32, n33, n34⟩ := N3.out.f); clear hb E2 N2 c20 c21 c22 c23 c24 c25 c26 c27 n20 n21 n22 n23 n24)
      | (go_at_call 69; (with_reducible refine (HK.out _).mono ?_); rintro e w4 ⟨rfl, rfl⟩))
    all_goals go_ret
    all_goals refine ⟨ret1 ?_, ?_⟩
    all_goals (have hl := HL.out)
    all_goals first | exact E2.out.bel | exact E3.out.bel | (unfold chkI; have hz := HZ.out; clear HL HZ HK; simp_all; done) | (unfold chkI; have hz := HZ.out; clear HL HZ HK; (repeat' split) <;> simp_all <;> omega)
end Go.Proofs.Ytcakfclfggnmbaa
