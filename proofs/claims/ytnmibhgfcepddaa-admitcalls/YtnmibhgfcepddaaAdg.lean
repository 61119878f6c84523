/-
  Admittances: the document's Of, Impedance, Conjugate, Omega, Hertz.
-/
import Derived.Test.YtnmibhgfcepddaaAdf
namespace Go.Proofs.Ytnmibhgfcepddaa
open Fl RowKit
set_option linter.unusedVariables false

theorem may_not {x : Elm} {o : Nat} (h : ¬ mayI x o = 0) : ofT x o = (0, 0, mayI x o) ∧ imT x o = (0, 0, mayI x o) := by
  unfold mayI at h ⊢
  unfold ofT imT
  by_cases hc : ckA x o = 0
  · rw [if_pos hc] at h ⊢
    by_cases hk : x.k = 1 ∨ x.k = 8 ∨ x.k = 2 ∨ x.k = 3
    · rw [if_pos hk] at h; exact absurd rfl h
    · rw [if_pos hc, if_pos hc, if_neg hk, if_neg (by omega), if_neg (by omega), if_neg (by omega), if_neg (by omega), if_neg (by omega), if_neg (by omega)]
      exact ⟨rfl, rfl⟩
  · rw [if_neg hc, if_neg hc, if_neg hc]
    exact ⟨rfl, rfl⟩
theorem may_ok {x : Elm} {o : Nat} (h : mayI x o = 0) : ckA x o = 0 ∧ ofT x o = boT x o true ∧ imT x o = boT x o false ∧ fin o ∧ fin x.v := by
  unfold mayI at h
  by_cases hc : ckA x o = 0
  · rw [if_pos hc] at h
    have hk : x.k = 1 ∨ x.k = 8 ∨ x.k = 2 ∨ x.k = 3 := by
      by_cases hk : x.k = 1 ∨ x.k = 8 ∨ x.k = 2 ∨ x.k = 3
      · exact hk
      · rw [if_neg hk] at h; omega
    refine ⟨hc, ?_, ?_, (fr_zero (ck_zero hc).1).1, (chk_zero (ck_zero hc).2).1⟩
    · unfold ofT boT
      rw [if_pos hc]
      by_cases k1 : x.k = 1 ∨ x.k = 8
      · rw [if_pos k1, if_pos k1]; rfl
      · rw [if_neg k1, if_neg k1]
        rcases (show x.k = 2 ∨ x.k = 3 by omega) with q | q
        · rw [q]; rfl
        · rw [q]; rfl
    · unfold imT boT
      rw [if_pos hc]
      by_cases k1 : x.k = 1 ∨ x.k = 8
      · rw [if_pos k1, if_pos k1]; rfl
      · rw [if_neg k1, if_neg k1]
        rcases (show x.k = 2 ∨ x.k = 3 by omega) with q | q
        · rw [q]; rfl
        · rw [q]; rfl
  · rw [if_neg hc] at h; exact absurd h hc
theorem rmay_w (x : Elm) (o : Nat) (w : World) (h : x.ok) (ho : o < 18446744073709551616) (u : Int) (hu : mayI x o = u) :
    Calls Try.prog 35 #[.agg #[.int .u8 (x.k : Int), .string x.n, .string x.a, .string x.b, .string x.c, .string x.d, .float .f64 x.v, .int .i64 x.ph], .float .f64 o] w fun e w' => e = .returned (.int .i64 u) ∧ Below w.heap.size w w' := by subst hu; exact rmay_any x o w h ho
theorem rboth_w (x : Elm) (o : Nat) (inv : Bool) (w : World) (ho : fin o) (hv : fin x.v) (u : Tr3) (hu : boT x o inv = u) :
    Calls Try.prog 36 #[.agg #[.int .u8 (x.k : Int), .string x.n, .string x.a, .string x.b, .string x.c, .string x.d, .float .f64 x.v, .int .i64 x.ph], .float .f64 o, .bool inv] w fun e w' => e = .returned (.tuple #[.complex .f64 u.1 u.2.1, .int .i64 u.2.2]) ∧ Below w.heap.size w w' := by subst hu; exact rboth_any x o inv w ho hv
theorem rof_any17 (x : Elm) (o : Nat) (w : World) (h : x.ok) (ho : o < 18446744073709551616) :
    Calls Try.prog 13 #[elV x, .float .f64 o] w fun e w' => e = .returned (tV (ofT x o)) ∧ Below w.heap.size w w' := by
  have E0 : Hid (EC w (w.alloc (.cells (elA x) 28)) w.heap.size x) := ec_new w x
  obtain ⟨l1, c10, c11, c12, c13, c14, c15, c16, c17⟩ := E0.out.f
  by_cases hc : mayI x o = 0
  · obtain ⟨-, h1, -, fo, fv⟩ := may_ok hc
    have HC : Hid _ := fun W => rmay_w x o W h ho 0 hc
    have HB : Hid _ := fun W => rboth_w x o true W fo fv _ h1.symm
    clear hc h1 fo fv
    unfold tV elV
    go_enter Try.func13, Try.ntmps13
    go_wp2_with (first
      | (go_at_call 35; (with_reducible refine (HC.out _).mono ?_); rintro e w1 ⟨rfl, hb⟩; (have E1 : Hid _ := E0.out.below hb); (obtain ⟨l1, c10, c11, c12, c13, c14, c15, c16, c17⟩ := E1.out.f); clear hb E0)
      | (go_at_call 36; (with_reducible refine (HB.out _).mono ?_); rintro e w1 ⟨rfl, hb⟩; (have E2 : Hid _ := E1.out.below hb); clear hb E1))
    go_ret2
    exact ⟨rfl, E2.out.bel⟩
  · rw [(may_not hc).1]
    have hq : (mayI x o != 0) = true := by simp [hc]
    clear hc
    unfold tV elV
    go_enter Try.func13, Try.ntmps13
    go_wp2_with (first
      | (go_at_call 35; (with_reducible refine (rmay_w x o _ h ho _ rfl).mono ?_); rintro e w1 ⟨rfl, hb⟩; (have E1 : Hid _ := E0.out.below hb); clear hb E0))
    go_ret2
    exact ⟨rfl, E1.out.bel⟩
theorem rimp_any17 (x : Elm) (o : Nat) (w : World) (h : x.ok) (ho : o < 18446744073709551616) :
    Calls Try.prog 14 #[elV x, .float .f64 o] w fun e w' => e = .returned (tV (imT x o)) ∧ Below w.heap.size w w' := by
  have E0 : Hid (EC w (w.alloc (.cells (elA x) 28)) w.heap.size x) := ec_new w x
  obtain ⟨l1, c10, c11, c12, c13, c14, c15, c16, c17⟩ := E0.out.f
  by_cases hc : mayI x o = 0
  · obtain ⟨-, -, h1, fo, fv⟩ := may_ok hc
    have HC : Hid _ := fun W => rmay_w x o W h ho 0 hc
    have HB : Hid _ := fun W => rboth_w x o false W fo fv _ h1.symm
    clear hc h1 fo fv
    unfold tV elV
    go_enter Try.func14, Try.ntmps14
    go_wp2_with (first
      | (go_at_call 35; (with_reducible refine (HC.out _).mono ?_); rintro e w1 ⟨rfl, hb⟩; (have E1 : Hid _ := E0.out.below hb); (obtain ⟨l1, c10, c11, c12, c13, c14, c15, c16, c17⟩ := E1.out.f); clear hb E0)
      | (go_at_call 36; (with_reducible refine (HB.out _).mono ?_); rintro e w1 ⟨rfl, hb⟩; (have E2 : Hid _ := E1.out.below hb); clear hb E1))
    go_ret2
    exact ⟨rfl, E2.out.bel⟩
  · rw [(may_not hc).2]
    have hq : (mayI x o != 0) = true := by simp [hc]
    clear hc
    unfold tV elV
    go_enter Try.func14, Try.ntmps14
    go_wp2_with (first
      | (go_at_call 35; (with_reducible refine (rmay_w x o _ h ho _ rfl).mono ?_); rintro e w1 ⟨rfl, hb⟩; (have E1 : Hid _ := E0.out.below hb); clear hb E0))
    go_ret2
    exact ⟨rfl, E1.out.bel⟩
theorem rconj_of (a b : Nat) (w : World) (ha : a < 18446744073709551616) (hb : b < 18446744073709551616) : Calls Try.prog 37 #[.complex .f64 a b] w fun e w' => e = .returned (.complex .f64 a (ngW b)) ∧ w' = w := by
  go_enter Try.func37, Try.ntmps37
  go_wp2_with (first
    | (go_at_call 54; refine (of_any _ _ _).mono ?_; rintro e w' ⟨rfl, rfl⟩)
    | (go_at_call 55; refine (rturned_any _ _ (by assumption)).mono ?_; rintro e w' ⟨rfl, rfl⟩))
  go_ret
  exact ⟨rfl, rfl⟩
theorem rof_w (x : Elm) (o : Nat) (w : World) (h : x.ok) (ho : o < 18446744073709551616) (u : Tr3) (hu : ofT x o = u) :
    Calls Try.prog 13 #[.agg #[.int .u8 (x.k : Int), .string x.n, .string x.a, .string x.b, .string x.c, .string x.d, .float .f64 x.v, .int .i64 x.ph], .float .f64 o] w fun e w' => e = .returned (.tuple #[.complex .f64 u.1 u.2.1, .int .i64 u.2.2]) ∧ Below w.heap.size w w' := by subst hu; exact rof_any17 x o w h ho
theorem rcj_any17 (x : Elm) (o : Nat) (w : World) (h : x.ok) (ho : o < 18446744073709551616) :
    Calls Try.prog 15 #[elV x, .float .f64 o] w fun e w' => e = .returned (tV (cjT x o)) ∧ Below w.heap.size w w' := by
  have E0 : Hid (EC w (w.alloc (.cells (elA x) 28)) w.heap.size x) := ec_new w x
  obtain ⟨l1, c10, c11, c12, c13, c14, c15, c16, c17⟩ := E0.out.f
  have hb := ofT_bd (x := x) (o := o)
  obtain ⟨⟨a, b, e⟩, hu⟩ : ∃ u, u = ofT x o := ⟨_, rfl⟩
  rw [← hu] at hb
  have HC : Hid _ := fun W => rof_w x o W h ho _ hu.symm
  by_cases he : e = 0
  · have hr : cjT x o = (a, ngW b, 0) := by unfold cjT; rw [← hu, if_pos he]
    rw [hr]
    subst he
    have HA : Hid (a < 18446744073709551616) := hb.1
    have HB : Hid (b < 18446744073709551616) := hb.2
    clear hr hb hu
    have ht := fun W => rconj_of a b W HA.out HB.out
    have HT : Hid _ := ht
    clear ht
    unfold tV elV
    go_enter Try.func15, Try.ntmps15
    go_wp2_with (first
      | (go_at_call 13; (with_reducible refine (HC.out _).mono ?_); rintro e w1 ⟨rfl, hb⟩; (have E1 : Hid _ := E0.out.below hb); clear hb E0)
      | (go_at_call 37; (with_reducible refine (HT.out _).mono ?_); rintro e w' ⟨rfl, rfl⟩))
    go_ret2
    exact ⟨rfl, E1.out.bel⟩
  · have hr : cjT x o = (0, 0, e) := by unfold cjT; rw [← hu, if_neg he]
    rw [hr]
    have hq : (e != 0) = true := by simp [he]
    clear hr hb hu he
    unfold tV elV
    go_enter Try.func15, Try.ntmps15
    go_wp2_with (first
      | (go_at_call 13; (with_reducible refine (HC.out _).mono ?_); rintro e w1 ⟨rfl, hb⟩; (have E1 : Hid _ := E0.out.below hb); clear hb E0))
    go_ret2
    exact ⟨rfl, E1.out.bel⟩
theorem rang_w (x : Nat) (w : World) (hx : x < 18446744073709551616) (u : Int) (hu : frI x = u) :
    Calls Try.prog 41 #[.float .f64 x] w fun e w' => ∃ n, e = .returned (.int .i64 u) ∧ w' = w.drewN n := by subst hu; exact rang_any x w hx
theorem romega_any (x : Nat) (w : World) (hx : x < 18446744073709551616) :
    Calls Try.prog 20 #[.float .f64 x] w fun e w' => e = .returned (tW (omT x)) ∧ ∃ n, w' = w.drewN n := by
  unfold tW
  by_cases hc : frI x = 0
  · have hm := tau_some (fr_zero hc).1
    unfold tau at hm
    have mv := mulV_of hm
    have mn := fN_some hm
    have hr : omT x = if finB (mW tau x) = true then (mW tau x, 0) else (0, 6) := by unfold omT; rw [if_pos hc]
    rw [hr]
    unfold tau
    have HC : Hid _ := fun W => rang_w x W hx 0 hc
    clear hr hm hc
    cases hf : finB (mW 4618760256179416344 x)
    all_goals
      have HF : Hid _ := hf
      clear hf
      go_enter Try.func20, Try.ntmps20
      go_wp2_with (first
        | (go_at_call 41; (with_reducible refine (HC.out _).mono ?_); rintro e w' ⟨n, rfl, rfl⟩)
        | (go_at_call 42; (with_reducible refine (rfinR_any (mW 4618760256179416344 x) _).mono ?_); rintro e w' ⟨m, rfl, rfl⟩; rw [HF.out]))
      go_ret2
      exact ⟨rfl, _, rfl⟩
  · have hr : omT x = (0, frI x) := by unfold omT; rw [if_neg hc]
    rw [hr]
    have hq : (frI x != 0) = true := by simp [hc]
    clear hr hc
    go_enter Try.func20, Try.ntmps20
    go_wp2_with (first
      | (go_at_call 41; (with_reducible refine (rang_any x _ hx).mono ?_); rintro e w' ⟨n, rfl, rfl⟩))
    go_ret2
    exact ⟨rfl, _, rfl⟩
theorem rhertz_any (x : Nat) (w : World) (hx : x < 18446744073709551616) :
    Calls Try.prog 21 #[.float .f64 x] w fun e w' => e = .returned (tW (hzT x)) ∧ ∃ n, w' = w.drewN n := by
  unfold tW
  by_cases hc : frI x = 0
  · have hm := hz_some (fr_zero hc).1
    unfold tau at hm
    have mv := divV_of hm
    have mn := fN_some hm
    have hr : hzT x = (hzW x, 0) := by unfold hzT; rw [if_pos hc]
    rw [hr]
    have HC : Hid _ := fun W => rang_w x W hx 0 hc
    clear hr hm hc
    go_enter Try.func21, Try.ntmps21
    go_wp2_with (first
      | (go_at_call 41; (with_reducible refine (HC.out _).mono ?_); rintro e w' ⟨n, rfl, rfl⟩))
    go_ret2
    exact ⟨rfl, _, rfl⟩
  · have hr : hzT x = (0, frI x) := by unfold hzT; rw [if_neg hc]
    rw [hr]
    have hq : (frI x != 0) = true := by simp [hc]
    clear hr hc
    go_enter Try.func21, Try.ntmps21
    go_wp2_with (first
      | (go_at_call 41; (with_reducible refine (rang_any x _ hx).mono ?_); rintro e w' ⟨n, rfl, rfl⟩))
    go_ret2
    exact ⟨rfl, _, rfl⟩
end Go.Proofs.Ytnmibhgfcepddaa
