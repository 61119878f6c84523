/-
  Admittances: the calls of package admit.
-/
import Derived.Test.YtnmibhgfcepddaaAda
import Derived.Test.YtnmibhgfcepddaaPa
namespace Go.Proofs.Ytnmibhgfcepddaa
open Fl RowKit
set_option linter.unusedVariables false

theorem afin_any (x : Nat) (w : World) (hx : x < 18446744073709551616) :
    Calls Try.prog 40 #[.float .f64 x] w fun e w' => e = .returned (.bool (finB x)) ∧ w' = w := by
  have hk : (finB x && finB 0) = finB x := by rw [show finB 0 = true from by decide, Bool.and_true]
  have HK : Hid ((finB x && finB 0) = finB x) := hk
  clear hk
  go_enter Try.func40, Try.ntmps40
  go_wp2_with (first | (go_at_call 51; refine (fin_any x 0 _ hx (by decide)).mono ?_; rintro e w' ⟨rfl, rfl⟩))
  go_ret
  exact ⟨retb HK.out, rfl⟩
theorem fin_nan {x : Nat} (h : finB x = true) : nan x = false := fin_not_nan (finB_iff.1 h)
theorem leq_true {v : Nat} (h : nan v = false) (hp : posV v = false) : (FloatKind.f64.format.order v 0 == some .lt || FloatKind.f64.format.order v 0 == some .eq) = true := by rw [leq_zero h, hp]; rfl
theorem leq_false {v : Nat} (h : nan v = false) (hp : posV v = true) : (FloatKind.f64.format.order v 0 == some .lt || FloatKind.f64.format.order v 0 == some .eq) = false := by rw [leq_zero h, hp]; rfl
theorem freq_any (x : Nat) (w : World) (hx : x < 18446744073709551616) :
    Calls Try.prog 38 #[.float .f64 x] w fun e w' => e = .returned (.int .i64 (frI x)) ∧ w' = w := by
  cases hf : finB x
  · have hr : frI x = 5 := by unfold frI; rw [if_pos hf]
    rw [hr]
    have HF : Hid _ := hf
    clear hr hf
    go_enter Try.func38, Try.ntmps38
    go_wp2_with (first | (go_at_call 40; refine (afin_any x _ hx).mono ?_; rintro e w' ⟨rfl, rfl⟩; rw [HF.out]))
    go_ret
    exact ⟨rfl, rfl⟩
  · have hn := fin_nan hf
    cases hp : posV x
    · have hr : frI x = 2 := by unfold frI; rw [hf, hp]; rfl
      rw [hr]
      have HF : Hid _ := hf
      have h1 := (leq_iff hn).1 hp
      clear hr hf hp hn
      go_enter Try.func38, Try.ntmps38
      go_wp2_with (first | (go_at_call 40; refine (afin_any x _ hx).mono ?_; rintro e w' ⟨rfl, rfl⟩; rw [HF.out]))
      all_goals go_ret
      all_goals first | exact ⟨rfl, rfl⟩ | simp_all
    · have hr : frI x = 0 := by unfold frI; rw [hf, hp]; rfl
      rw [hr]
      have HF : Hid _ := hf
      have h1 : ¬ (FloatKind.f64.format.order x 0 = some .lt ∨ FloatKind.f64.format.order x 0 = some .eq) := fun q => by rw [(leq_iff hn).2 q] at hp; cases hp
      clear hr hf hp hn
      go_enter Try.func38, Try.ntmps38
      go_wp2_with (first | (go_at_call 40; refine (afin_any x _ hx).mono ?_; rintro e w' ⟨rfl, rfl⟩; rw [HF.out]))
      all_goals go_ret
      all_goals first | exact ⟨rfl, rfl⟩ | simp_all
theorem check_w (x : Elm) (w : World) (h : x.ok) : Calls Try.prog 26 #[.agg #[.int .u8 (x.k : Int), .string x.n, .string x.a, .string x.b, .string x.c, .string x.d, .float .f64 x.v, .int .i64 x.ph]] w fun e w' => e = .returned (.int .i64 (chkI x)) ∧ Below w.heap.size w w' := check_any x w h
theorem acheck_any (x : Elm) (o : Nat) (w : World) (h : x.ok) (ho : o < 18446744073709551616) :
    Calls Try.prog 31 #[elV x, .float .f64 o] w fun e w' => e = .returned (.int .i64 (ckA x o)) ∧ Below w.heap.size w w' := by
  have E0 : Hid (EC w (w.alloc (.cells (elA x) 28)) w.heap.size x) := ec_new w x
  by_cases hf : frI o = 0
  · have hr : ckA x o = chkI x := by unfold ckA; rw [if_pos hf]
    rw [hr]
    have HF : Hid _ := hf
    clear hr hf
    unfold elV
    go_enter Try.func31, Try.ntmps31
    go_wp2_with (first
      | (go_at_call 38; (with_reducible refine (freq_any o _ ho).mono ?_); rintro e w' ⟨rfl, rfl⟩; rw [HF.out]; (obtain ⟨l1, c10, c11, c12, c13, c14, c15, c16, c17⟩ := E0.out.f))
      | (go_at_call 26; (with_reducible refine (check_w x _ h).mono ?_); rintro e w1 ⟨rfl, hb⟩; (have E1 : Hid _ := E0.out.below hb); clear hb E0))
    go_ret
    exact ⟨rfl, E1.out.bel⟩
  · have hr : ckA x o = frI o := by unfold ckA; rw [if_neg hf]
    rw [hr]
    have hq : (frI o != 0) = true := by simp [hf]
    clear hr hf
    unfold elV
    go_enter Try.func31, Try.ntmps31
    go_wp2_with (first
      | (go_at_call 38; (with_reducible refine (freq_any o _ ho).mono ?_); rintro e w' ⟨rfl, rfl⟩))
    go_ret
    exact ⟨rfl, E0.out.bel⟩
theorem atold_any (a b : Nat) (w : World) (ha : a < 18446744073709551616) (hb : b < 18446744073709551616) :
    Calls Try.prog 32 #[.complex .f64 a b] w fun e w' => e = .returned (tV (toA a b)) ∧ w' = w := by
  unfold tV toA
  cases hf : (finB a && finB b)
  all_goals
    have HF : Hid _ := hf
    clear hf
    go_enter Try.func32, Try.ntmps32
    go_wp2_with (first
      | (go_at_call 51; (with_reducible refine (fin_any a b _ ha hb).mono ?_); rintro e w' ⟨rfl, rfl⟩; rw [HF.out]))
    go_ret2
    exact ⟨rfl, rfl⟩
theorem product_any (x : Elm) (o : Nat) (w : World) (ho : fin o) (hv : fin x.v) :
    Calls Try.prog 33 #[elV x, .float .f64 o] w fun e w' => e = .returned (tV (prA o x.v)) ∧ Below w.heap.size w w' := by
  have E0 : Hid (EC w (w.alloc (.cells (elA x) 28)) w.heap.size x) := ec_new w x
  have hm := mul_some ho hv
  have mv := mulV_of hm
  have mn := fN_some hm
  have hb := (mul_bd hm).1
  have HB : Hid _ := hb
  clear hm hb
  unfold prA
  unfold elV
  go_enter Try.func33, Try.ntmps33
  go_wp2_with (first
    | (go_at_call 32; (with_reducible refine (atold_any 0 (mW o x.v) _ (by decide) HB.out).mono ?_); rintro e w' ⟨rfl, rfl⟩; unfold tV))
  go_ret2
  exact ⟨rfl, E0.out.bel⟩
end Go.Proofs.Ytnmibhgfcepddaa
