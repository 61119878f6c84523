/-
  Admittances: Impedance, Conjugate, Omega, Hertz of package admit.
-/
import Derived.Test.YtnmibhgfcepddaaAdc
namespace Go.Proofs.Ytnmibhgfcepddaa
open Fl RowKit
set_option linter.unusedVariables false

theorem kinds4b (k : Nat) : (k = 1 ∨ k = 8) ∨ k = 2 ∨ k = 3 ∨ (¬ k = 1 ∧ ¬ k = 8 ∧ ¬ k = 3 ∧ ¬ k = 2) := by omega
set_option maxRecDepth 100000 in
set_option maxHeartbeats 1000000 in
theorem aimp_any (x : Elm) (o : Nat) (w : World) (h : x.ok) (ho : o < 18446744073709551616) :
    Calls Try.prog 11 #[elV x, .float .f64 o] w fun e w' => e = .returned (tV (imT x o)) ∧ Below w.heap.size w w' := by
  have E0 : Hid (EC w (w.alloc (.cells (elA x) 28)) w.heap.size x) := ec_new w x
  obtain ⟨l1, c10, c11, c12, c13, c14, c15, c16, c17⟩ := E0.out.f
  by_cases hc : ckA x o = 0
  · have HC : Hid _ := fun W => acheck_w x o W h ho 0 hc
    have fo := (fr_zero (ck_zero hc).1).1
    have fv := (chk_zero (ck_zero hc).2).1
    have HFO : Hid (fin o) := fo
    have HFV : Hid (fin x.v) := fv
    have hn := fin_not_nan fv
    have hd := dW_some hn
    have mv := divV_of hd
    have mn := fN_some hd
    have HDB : Hid _ := (dW_bd hn).1
    have hr : imT x o = if x.k = 1 ∨ x.k = 8 then (x.v, 0, 0) else if x.k = 2 then prA o x.v else if x.k = 3 then ovA o x.v else (0, 0, 2) := by unfold imT; rw [if_pos hc]
    rw [hr]
    clear hr hc fo fv hn hd
    rcases kinds4b x.k with hk | hk | hk | ⟨k1, k8, k3, k2⟩
    · rw [if_pos hk]
      have hb : ((x.k : Int) == 1) = true ∨ (((x.k : Int) == 1) = false ∧ ((x.k : Int) == 8) = true) := by
        rcases hk with hk | hk
        · left; rw [hk]; rfl
        · right; rw [hk]; exact ⟨rfl, rfl⟩
      clear hk
      unfold elV
      rcases hb with hb | ⟨hb, hb2⟩
      all_goals
        go_enter Try.func11, Try.ntmps11
        go_wp2_with (first
          | (go_at_call 31; (with_reducible refine (HC.out _).mono ?_); rintro e w1 ⟨rfl, hb⟩; (have E1 : Hid _ := E0.out.below hb); (obtain ⟨l1, c10, c11, c12, c13, c14, c15, c16, c17⟩ := E1.out.f); clear hb E0)
          | (go_at_call 32; (with_reducible refine (atold_any (dW x.v) 0 _ HDB.out (by decide)).mono ?_); rintro e w' ⟨rfl, rfl⟩; unfold tV))
        go_ret2
        exact ⟨rfl, E1.out.bel⟩
    · rw [if_neg (by omega), if_pos hk]
      have hb1 : ((x.k : Int) == 1) = false := by rw [hk]; rfl
      have hb2 : ((x.k : Int) == 8) = false := by rw [hk]; rfl
      have hb3 : ((x.k : Int) == 2) = true := by rw [hk]; rfl
      clear hk
      unfold elV
      go_enter Try.func11, Try.ntmps11
      go_wp2_with (first
        | (go_at_call 31; (with_reducible refine (HC.out _).mono ?_); rintro e w1 ⟨rfl, hb⟩; (have E1 : Hid _ := E0.out.below hb); (obtain ⟨l1, c10, c11, c12, c13, c14, c15, c16, c17⟩ := E1.out.f); clear hb E0)
        | (go_at_call 33; (with_reducible refine (product_w x o _ HFO.out HFV.out _ rfl).mono ?_); rintro e w' ⟨rfl, hb⟩; (have E2 : Hid _ := E1.out.below hb); clear hb E1))
      go_ret2
      exact ⟨rfl, E2.out.bel⟩
    · rw [if_neg (by omega), if_neg (by omega), if_pos hk]
      have hb1 : ((x.k : Int) == 1) = false := by rw [hk]; rfl
      have hb2 : ((x.k : Int) == 8) = false := by rw [hk]; rfl
      have hb3 : ((x.k : Int) == 2) = false := by rw [hk]; rfl
      have hb4 : ((x.k : Int) == 3) = true := by rw [hk]; rfl
      clear hk
      unfold elV
      go_enter Try.func11, Try.ntmps11
      go_wp2_with (first
        | (go_at_call 31; (with_reducible refine (HC.out _).mono ?_); rintro e w1 ⟨rfl, hb⟩; (have E1 : Hid _ := E0.out.below hb); (obtain ⟨l1, c10, c11, c12, c13, c14, c15, c16, c17⟩ := E1.out.f); clear hb E0)
        | (go_at_call 34; (with_reducible refine (over_w x o _ HFO.out HFV.out).mono ?_); rintro e w' ⟨rfl, hb⟩; (have E2 : Hid _ := E1.out.below hb); clear hb E1))
      go_ret2
      exact ⟨rfl, E2.out.bel⟩
    · rw [if_neg (by omega), if_neg k2, if_neg k3]
      have hb1 : ((x.k : Int) == 1) = false := by rw [beq_eq_false_iff_ne]; omega
      have hb2 : ((x.k : Int) == 8) = false := by rw [beq_eq_false_iff_ne]; omega
      have hb3 : ((x.k : Int) == 3) = false := by rw [beq_eq_false_iff_ne]; omega
      have hb4 : ((x.k : Int) == 2) = false := by rw [beq_eq_false_iff_ne]; omega
      clear k1 k8 k3 k2
      unfold elV
      go_enter Try.func11, Try.ntmps11
      go_wp2_with (first
        | (go_at_call 31; (with_reducible refine (HC.out _).mono ?_); rintro e w1 ⟨rfl, hb⟩; (have E1 : Hid _ := E0.out.below hb); (obtain ⟨l1, c10, c11, c12, c13, c14, c15, c16, c17⟩ := E1.out.f); clear hb E0))
      go_ret2
      exact ⟨rfl, E1.out.bel⟩
  · have HC : Hid _ := fun W => acheck_w x o W h ho _ rfl
    have hr : imT x o = (0, 0, ckA x o) := by unfold imT; rw [if_neg hc]
    rw [hr]
    have hq : (ckA x o != 0) = true := by simp [hc]
    clear hr hc
    unfold elV
    go_enter Try.func11, Try.ntmps11
    go_wp2_with (first
      | (go_at_call 31; (with_reducible refine (HC.out _).mono ?_); rintro e w1 ⟨rfl, hb⟩; (have E1 : Hid _ := E0.out.below hb); clear hb E0))
    go_ret2
    exact ⟨rfl, E1.out.bel⟩
theorem aof_w (x : Elm) (o : Nat) (w : World) (h : x.ok) (ho : o < 18446744073709551616) (u : Tr3) (hu : ofT x o = u) :
    Calls Try.prog 10 #[.agg #[.int .u8 (x.k : Int), .string x.n, .string x.a, .string x.b, .string x.c, .string x.d, .float .f64 x.v, .int .i64 x.ph], .float .f64 o] w fun e w' => e = .returned (.tuple #[.complex .f64 u.1 u.2.1, .int .i64 u.2.2]) ∧ Below w.heap.size w w' := by subst hu; exact aof_any x o w h ho
theorem toA_bd {a b : Nat} (ha : a < 18446744073709551616) (hb : b < 18446744073709551616) : (toA a b).1 < 18446744073709551616 ∧ (toA a b).2.1 < 18446744073709551616 := by
  unfold toA; split
  · exact ⟨ha, hb⟩
  · exact ⟨by decide, by decide⟩
theorem prA_bd {o v : Nat} (ho : fin o) (hv : fin v) : (prA o v).1 < 18446744073709551616 ∧ (prA o v).2.1 < 18446744073709551616 :=
  toA_bd (by decide) (mul_bd (mul_some ho hv)).1
theorem ovA_bd {o v : Nat} (ho : fin o) (hv : fin v) : (ovA o v).1 < 18446744073709551616 ∧ (ovA o v).2.1 < 18446744073709551616 := by
  unfold ovA; split
  · exact toA_bd (by decide) (ngW_lt (dW_bd (mW_nan ho hv)).1)
  · exact ⟨by decide, by decide⟩
theorem ofT_bd {x : Elm} {o : Nat} : (ofT x o).1 < 18446744073709551616 ∧ (ofT x o).2.1 < 18446744073709551616 := by
  unfold ofT
  by_cases hc : ckA x o = 0
  · rw [if_pos hc]
    have fo := (fr_zero (ck_zero hc).1).1
    have fv := (chk_zero (ck_zero hc).2).1
    split
    · exact toA_bd (dW_bd (fin_not_nan fv)).1 (by decide)
    · split
      · exact prA_bd fo fv
      · split
        · exact ovA_bd fo fv
        · exact ⟨by decide, by decide⟩
  · rw [if_neg hc]; exact ⟨by show 0 < _; omega, by show 0 < _; omega⟩
theorem conj_of (a b : Nat) (w : World) (ha : a < 18446744073709551616) (hb : b < 18446744073709551616) : Calls Try.prog 25 #[.complex .f64 a b] w fun e w' => e = .returned (.complex .f64 a (ngW b)) ∧ w' = w := by
  go_enter Try.func25, Try.ntmps25
  go_wp2_with (first
    | (go_at_call 43; refine (apart_any _ _ _).mono ?_; rintro e w' ⟨rfl, rfl⟩)
    | (go_at_call 44; refine (turned_any _ _ (by assumption)).mono ?_; rintro e w' ⟨rfl, rfl⟩))
  go_ret
  exact ⟨rfl, rfl⟩
theorem aconj_any (x : Elm) (o : Nat) (w : World) (h : x.ok) (ho : o < 18446744073709551616) :
    Calls Try.prog 12 #[elV x, .float .f64 o] w fun e w' => e = .returned (tV (cjT x o)) ∧ Below w.heap.size w w' := by
  have E0 : Hid (EC w (w.alloc (.cells (elA x) 28)) w.heap.size x) := ec_new w x
  obtain ⟨l1, c10, c11, c12, c13, c14, c15, c16, c17⟩ := E0.out.f
  have hb := ofT_bd (x := x) (o := o)
  obtain ⟨⟨a, b, e⟩, hu⟩ : ∃ u, u = ofT x o := ⟨_, rfl⟩
  rw [← hu] at hb
  have HC : Hid _ := fun W => aof_w x o W h ho _ hu.symm
  by_cases he : e = 0
  · have hr : cjT x o = (a, ngW b, 0) := by unfold cjT; rw [← hu, if_pos he]
    rw [hr]
    subst he
    have HA : Hid (a < 18446744073709551616) := hb.1
    have HB : Hid (b < 18446744073709551616) := hb.2
    clear hr hb hu
    have ht := fun W => conj_of a b W HA.out HB.out
    have HT : Hid _ := ht
    clear ht
    unfold tV elV
    go_enter Try.func12, Try.ntmps12
    go_wp2_with (first
      | (go_at_call 10; (with_reducible refine (HC.out _).mono ?_); rintro e w1 ⟨rfl, hb⟩; (have E1 : Hid _ := E0.out.below hb); clear hb E0)
      | (go_at_call 25; (with_reducible refine (HT.out _).mono ?_); rintro e w' ⟨rfl, rfl⟩))
    go_ret2
    exact ⟨rfl, E1.out.bel⟩
  · have hr : cjT x o = (0, 0, e) := by unfold cjT; rw [← hu, if_neg he]
    rw [hr]
    have hq : (e != 0) = true := by simp [he]
    clear hr hb hu he
    unfold tV elV
    go_enter Try.func12, Try.ntmps12
    go_wp2_with (first
      | (go_at_call 10; (with_reducible refine (HC.out _).mono ?_); rintro e w1 ⟨rfl, hb⟩; (have E1 : Hid _ := E0.out.below hb); clear hb E0))
    go_ret2
    exact ⟨rfl, E1.out.bel⟩
theorem turn_any (w : World) : Calls Try.prog 39 #[] w fun e w' => e = .returned (.float .f64 tau) ∧ w' = w := by
  go_enter Try.func39, Try.ntmps39
  go_wp2
  go_ret
  exact ⟨rfl, rfl⟩
def tW (t : Nat × Int) : Value := .tuple #[.float .f64 t.1, .int .i64 t.2]
theorem freq_w (x : Nat) (w : World) (hx : x < 18446744073709551616) (u : Int) (hu : frI x = u) :
    Calls Try.prog 38 #[.float .f64 x] w fun e w' => e = .returned (.int .i64 u) ∧ w' = w := by subst hu; exact freq_any x w hx
theorem aomega_any (x : Nat) (w : World) (hx : x < 18446744073709551616) :
    Calls Try.prog 18 #[.float .f64 x] w fun e w' => e = .returned (tW (omT x)) ∧ w' = w := by
  unfold tW
  by_cases hc : frI x = 0
  · have hm := tau_some (fr_zero hc).1
    have mv := mulV_of hm
    have mn := fN_some hm
    have HB : Hid (mW tau x < 18446744073709551616) := (mul_bd hm).1
    have hr : omT x = if finB (mW tau x) = true then (mW tau x, 0) else (0, 6) := by unfold omT; rw [if_pos hc]
    rw [hr]
    have HC : Hid _ := fun W => freq_w x W hx 0 hc
    clear hr hm hc
    cases hf : finB (mW tau x)
    all_goals
      have HF : Hid _ := hf
      clear hf
      go_enter Try.func18, Try.ntmps18
      go_wp2_with (first
        | (go_at_call 38; (with_reducible refine (HC.out _).mono ?_); rintro e w' ⟨rfl, rfl⟩)
        | (go_at_call 39; (with_reducible refine (turn_any _).mono ?_); rintro e w' ⟨rfl, rfl⟩)
        | (go_at_call 40; (with_reducible refine (afin_any (mW tau x) _ HB.out).mono ?_); rintro e w' ⟨rfl, rfl⟩; rw [HF.out]))
      go_ret2
      exact ⟨rfl, rfl⟩
  · have hr : omT x = (0, frI x) := by unfold omT; rw [if_neg hc]
    rw [hr]
    have hq : (frI x != 0) = true := by simp [hc]
    clear hr hc
    go_enter Try.func18, Try.ntmps18
    go_wp2_with (first
      | (go_at_call 38; (with_reducible refine (freq_any x _ hx).mono ?_); rintro e w' ⟨rfl, rfl⟩))
    go_ret2
    exact ⟨rfl, rfl⟩
theorem ahertz_any (x : Nat) (w : World) (hx : x < 18446744073709551616) :
    Calls Try.prog 19 #[.float .f64 x] w fun e w' => e = .returned (tW (hzT x)) ∧ w' = w := by
  unfold tW
  by_cases hc : frI x = 0
  · have hm := hz_some (fr_zero hc).1
    have mv := divV_of hm
    have mn := fN_some hm
    have hr : hzT x = (hzW x, 0) := by unfold hzT; rw [if_pos hc]
    rw [hr]
    have HC : Hid _ := fun W => freq_w x W hx 0 hc
    clear hr hm hc
    go_enter Try.func19, Try.ntmps19
    go_wp2_with (first
      | (go_at_call 38; (with_reducible refine (HC.out _).mono ?_); rintro e w' ⟨rfl, rfl⟩)
      | (go_at_call 39; (with_reducible refine (turn_any _).mono ?_); rintro e w' ⟨rfl, rfl⟩))
    go_ret2
    exact ⟨rfl, rfl⟩
  · have hr : hzT x = (0, frI x) := by unfold hzT; rw [if_neg hc]
    rw [hr]
    have hq : (frI x != 0) = true := by simp [hc]
    clear hr hc
    go_enter Try.func19, Try.ntmps19
    go_wp2_with (first
      | (go_at_call 38; (with_reducible refine (freq_any x _ hx).mono ?_); rintro e w' ⟨rfl, rfl⟩))
    go_ret2
    exact ⟨rfl, rfl⟩
end Go.Proofs.Ytnmibhgfcepddaa
