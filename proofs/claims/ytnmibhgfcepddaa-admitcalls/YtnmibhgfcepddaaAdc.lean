/-
  Admittances: the calls of package admit, on.
-/
import Derived.Test.YtnmibhgfcepddaaAdb
namespace Go.Proofs.Ytnmibhgfcepddaa
open Fl RowKit
set_option linter.unusedVariables false

theorem product_w (x : Elm) (o : Nat) (w : World) (ho : fin o) (hv : fin x.v) (u : Tr3) (hu : prA o x.v = u) :
    Calls Try.prog 33 #[.agg #[.int .u8 (x.k : Int), .string x.n, .string x.a, .string x.b, .string x.c, .string x.d, .float .f64 x.v, .int .i64 x.ph], .float .f64 o] w fun e w' => e = .returned (.tuple #[.complex .f64 u.1 u.2.1, .int .i64 u.2.2]) ∧ Below w.heap.size w w' := by subst hu; exact product_any x o w ho hv
theorem prA_ok {o v : Nat} (h : finB (mW o v) = true) : prA o v = (0, mW o v, 0) := by unfold prA toA; rw [h]; rfl
theorem prA_no {o v : Nat} (h : finB (mW o v) = false) : prA o v = (0, 0, 6) := by unfold prA toA; rw [h]; rfl
theorem neg_ngW {q : Nat} (h : q < 18446744073709551616) : Op.negFloat .f64 q = ngW q := by
  unfold ngW
  split
  · exact neg_of_pos ‹_›
  · exact neg_of_neg (by omega) h
theorem mW_nan {o v : Nat} (ho : fin o) (hv : fin v) : nan (mW o v) = false := (mul_bd (mul_some ho hv)).2
theorem over_any (x : Elm) (o : Nat) (w : World) (ho : fin o) (hv : fin x.v) :
    Calls Try.prog 34 #[elV x, .float .f64 o] w fun e w' => e = .returned (tV (ovA o x.v)) ∧ Below w.heap.size w w' := by
  have E0 : Hid (EC w (w.alloc (.cells (elA x) 28)) w.heap.size x) := ec_new w x
  obtain ⟨l1, c10, c11, c12, c13, c14, c15, c16, c17⟩ := E0.out.f
  cases hf : finB (mW o x.v)
  · have HP : Hid _ := fun W => product_w x o W ho hv (0, 0, 6) (prA_no hf)
    have hr : ovA o x.v = (0, 0, 6) := by unfold ovA; rw [hf]; rfl
    rw [hr]
    clear hr hf
    unfold tV elV
    go_enter Try.func34, Try.ntmps34
    go_wp2_with (first
      | (go_at_call 33; (with_reducible refine (HP.out _).mono ?_); rintro e w1 ⟨rfl, hb⟩; (have E1 : Hid _ := E0.out.below hb); clear hb E0))
    go_ret2
    exact ⟨rfl, E1.out.bel⟩
  · have HP : Hid _ := fun W => product_w x o W ho hv (0, mW o x.v, 0) (prA_ok hf)
    have hr : ovA o x.v = toA 0 (ngW (dW (mW o x.v))) := by unfold ovA; rw [hf]; rfl
    rw [hr]
    have hn := mW_nan ho hv
    have hd := dW_some hn
    have hb := dW_bd hn
    have mv := divV_of hd
    have mn := fN_some hd
    have hng := neg_ngW hb.1
    have HB : Hid _ := ngW_lt hb.1
    clear hr hf hn hd hb
    unfold elV
    go_enter Try.func34, Try.ntmps34
    go_wp2_with (first
      | (go_at_call 33; (with_reducible refine (HP.out _).mono ?_); rintro e w1 ⟨rfl, hb⟩; (have E1 : Hid _ := E0.out.below hb); clear hb E0)
      | (go_at_call 32; (with_reducible refine (atold_any 0 (ngW (dW (mW o x.v))) _ (by decide) HB.out).mono ?_); rintro e w' ⟨rfl, rfl⟩; unfold tV))
    go_ret2
    exact ⟨rfl, E1.out.bel⟩
theorem acheck_w (x : Elm) (o : Nat) (w : World) (h : x.ok) (ho : o < 18446744073709551616) (u : Int) (hu : ckA x o = u) :
    Calls Try.prog 31 #[.agg #[.int .u8 (x.k : Int), .string x.n, .string x.a, .string x.b, .string x.c, .string x.d, .float .f64 x.v, .int .i64 x.ph], .float .f64 o] w fun e w' => e = .returned (.int .i64 u) ∧ Below w.heap.size w w' := by subst hu; exact acheck_any x o w h ho
theorem over_w (x : Elm) (o : Nat) (w : World) (ho : fin o) (hv : fin x.v) :
    Calls Try.prog 34 #[.agg #[.int .u8 (x.k : Int), .string x.n, .string x.a, .string x.b, .string x.c, .string x.d, .float .f64 x.v, .int .i64 x.ph], .float .f64 o] w fun e w' => e = .returned (.tuple #[.complex .f64 (ovA o x.v).1 (ovA o x.v).2.1, .int .i64 (ovA o x.v).2.2]) ∧ Below w.heap.size w w' := over_any x o w ho hv
/-- the kinds -/
theorem kinds4 (k : Nat) : (k = 1 ∨ k = 8) ∨ k = 3 ∨ k = 2 ∨ (¬ k = 1 ∧ ¬ k = 8 ∧ ¬ k = 3 ∧ ¬ k = 2) := by omega
set_option maxRecDepth 100000 in
set_option maxHeartbeats 1000000 in
theorem aof_any (x : Elm) (o : Nat) (w : World) (h : x.ok) (ho : o < 18446744073709551616) :
    Calls Try.prog 10 #[elV x, .float .f64 o] w fun e w' => e = .returned (tV (ofT x o)) ∧ Below w.heap.size w w' := by
  have E0 : Hid (EC w (w.alloc (.cells (elA x) 28)) w.heap.size x) := ec_new w x
  obtain ⟨l1, c10, c11, c12, c13, c14, c15, c16, c17⟩ := E0.out.f
  by_cases hc : ckA x o = 0
  · have HC : Hid _ := fun W => acheck_w x o W h ho 0 hc
    have fo := (fr_zero (ck_zero hc).1).1
    have fv := (chk_zero (ck_zero hc).2).1
    have HFO : Hid (fin o) := fo
    have HFV : Hid (fin x.v) := fv
    have hn := fin_not_nan fv
    have hd := dW_some hn
    have mv := divV_of hd
    have mn := fN_some hd
    have HDB : Hid _ := (dW_bd hn).1
    have hr : ofT x o = if x.k = 1 ∨ x.k = 8 then toA (dW x.v) 0 else if x.k = 3 then prA o x.v else if x.k = 2 then ovA o x.v else (0, 0, 2) := by unfold ofT; rw [if_pos hc]
    rw [hr]
    clear hr hc fo fv hn hd
    rcases kinds4 x.k with hk | hk | hk | ⟨k1, k8, k3, k2⟩
    · rw [if_pos hk]
      have hb : ((x.k : Int) == 1) = true ∨ (((x.k : Int) == 1) = false ∧ ((x.k : Int) == 8) = true) := by
        rcases hk with hk | hk
        · left; rw [hk]; rfl
        · right; rw [hk]; exact ⟨rfl, rfl⟩
      clear hk
      unfold elV
      rcases hb with hb | ⟨hb, hb2⟩
      all_goals
        go_enter Try.func10, Try.ntmps10
        go_wp2_with (first
          | (go_at_call 31; (with_reducible refine (HC.out _).mono ?_); rintro e w1 ⟨rfl, hb⟩; (have E1 : Hid _ := E0.out.below hb); (obtain ⟨l1, c10, c11, c12, c13, c14, c15, c16, c17⟩ := E1.out.f); clear hb E0)
          | (go_at_call 32; (with_reducible refine (atold_any (dW x.v) 0 _ HDB.out (by decide)).mono ?_); rintro e w' ⟨rfl, rfl⟩; unfold tV))
        go_ret2
        exact ⟨rfl, E1.out.bel⟩
    · rw [if_neg (by omega), if_pos hk]
      have hb1 : ((x.k : Int) == 1) = false := by rw [hk]; rfl
      have hb2 : ((x.k : Int) == 8) = false := by rw [hk]; rfl
      have hb3 : ((x.k : Int) == 3) = true := by rw [hk]; rfl
      clear hk
      unfold elV
      go_enter Try.func10, Try.ntmps10
      go_wp2_with (first
        | (go_at_call 31; (with_reducible refine (HC.out _).mono ?_); rintro e w1 ⟨rfl, hb⟩; (have E1 : Hid _ := E0.out.below hb); (obtain ⟨l1, c10, c11, c12, c13, c14, c15, c16, c17⟩ := E1.out.f); clear hb E0)
        | (go_at_call 33; (with_reducible refine (product_w x o _ HFO.out HFV.out _ rfl).mono ?_); rintro e w' ⟨rfl, hb⟩; (have E2 : Hid _ := E1.out.below hb); clear hb E1))
      go_ret2
      exact ⟨rfl, E2.out.bel⟩
    · rw [if_neg (by omega), if_neg (by omega), if_pos hk]
      have hb1 : ((x.k : Int) == 1) = false := by rw [hk]; rfl
      have hb2 : ((x.k : Int) == 8) = false := by rw [hk]; rfl
      have hb3 : ((x.k : Int) == 3) = false := by rw [hk]; rfl
      have hb4 : ((x.k : Int) == 2) = true := by rw [hk]; rfl
      clear hk
      unfold elV
      go_enter Try.func10, Try.ntmps10
      go_wp2_with (first
        | (go_at_call 31; (with_reducible refine (HC.out _).mono ?_); rintro e w1 ⟨rfl, hb⟩; (have E1 : Hid _ := E0.out.below hb); (obtain ⟨l1, c10, c11, c12, c13, c14, c15, c16, c17⟩ := E1.out.f); clear hb E0)
        | (go_at_call 34; (with_reducible refine (over_w x o _ HFO.out HFV.out).mono ?_); rintro e w' ⟨rfl, hb⟩; (have E2 : Hid _ := E1.out.below hb); clear hb E1))
      go_ret2
      exact ⟨rfl, E2.out.bel⟩
    · rw [if_neg (by omega), if_neg k3, if_neg k2]
      have hb1 : ((x.k : Int) == 1) = false := by rw [beq_eq_false_iff_ne]; omega
      have hb2 : ((x.k : Int) == 8) = false := by rw [beq_eq_false_iff_ne]; omega
      have hb3 : ((x.k : Int) == 3) = false := by rw [beq_eq_false_iff_ne]; omega
      have hb4 : ((x.k : Int) == 2) = false := by rw [beq_eq_false_iff_ne]; omega
      clear k1 k8 k3 k2
      unfold elV
      go_enter Try.func10, Try.ntmps10
      go_wp2_with (first
        | (go_at_call 31; (with_reducible refine (HC.out _).mono ?_); rintro e w1 ⟨rfl, hb⟩; (have E1 : Hid _ := E0.out.below hb); (obtain ⟨l1, c10, c11, c12, c13, c14, c15, c16, c17⟩ := E1.out.f); clear hb E0))
      go_ret2
      exact ⟨rfl, E1.out.bel⟩
  · have HC : Hid _ := fun W => acheck_w x o W h ho _ rfl
    have hr : ofT x o = (0, 0, ckA x o) := by unfold ofT; rw [if_neg hc]
    rw [hr]
    have hq : (ckA x o != 0) = true := by simp [hc]
    clear hr hc
    unfold elV
    go_enter Try.func10, Try.ntmps10
    go_wp2_with (first
      | (go_at_call 31; (with_reducible refine (HC.out _).mono ?_); rintro e w1 ⟨rfl, hb⟩; (have E1 : Hid _ := E0.out.below hb); clear hb E0))
    go_ret2
    exact ⟨rfl, E1.out.bel⟩
end Go.Proofs.Ytnmibhgfcepddaa
