/-
  The walk of AdmitDoubles.
-/
import Derived.Test.YtnmibhgfcepddaaWAC
import Derived.Test.YtnmibhgfcepddaaAdk
namespace Go.Proofs.Ytnmibhgfcepddaa
open Fl RowKit
set_option linter.unusedVariables false

theorem lt_pos {x y : Nat} (hx : pos x) (hy : pos y) : (FloatKind.f64.format.order x y == some .lt) = decide (x < y) := by
  rw [order_lt (fin_not_nan hx.fin) (fin_not_nan hy.fin)]
  unfold plc sgn
  rw [hx.ng, hy.ng, hx.mg, hy.mg]; simp
theorem gt_pos {x y : Nat} (hx : pos x) (hy : pos y) : (FloatKind.f64.format.order x y == some .gt) = decide (y < x) := by
  rw [order_gt (fin_not_nan hx.fin) (fin_not_nan hy.fin)]
  unfold plc sgn
  rw [hx.ng, hy.ng, hx.mg, hy.mg]; simp
theorem pos_lo : pos 103582791429521408 := by unfold pos; omega
theorem pos_hi : pos 9110782046170513408 := by unfold pos; omega
theorem conj_w (a b : Nat) (w : World) (ha : a < 18446744073709551616) (hb : b < 18446744073709551616) : Calls Try.prog 25 #[.complex .f64 a b] w fun e w' => e = .returned (.complex .f64 a (ngW b)) ∧ w' = w := conj_of a b w ha hb
theorem prA_err {o v : Nat} (h : (prA o v).2.2 = 0) : finB (mW o v) = true := by
  unfold prA toA at h
  rw [fin0, Bool.true_and] at h
  cases hf : finB (mW o v)
  · rw [hf] at h; cases h
  · rfl
theorem ovA_err {o v : Nat} (h : (ovA o v).2.2 = 0) : finB (mW o v) = true := by
  unfold ovA at h
  cases hf : finB (mW o v)
  · rw [hf] at h; cases h
  · rfl
theorem of_k3 {x : Elm} {o : Nat} (hk : x.k = 3) (hc : ckA x o = 0) : ofT x o = prA o x.v ∧ imT x o = ovA o x.v := by
  unfold ofT imT
  rw [if_pos hc, if_pos hc, hk]; exact ⟨rfl, rfl⟩
theorem of_k2 {x : Elm} {o : Nat} (hk : x.k = 2) (hc : ckA x o = 0) : ofT x o = ovA o x.v ∧ imT x o = prA o x.v := by
  unfold ofT imT
  rw [if_pos hc, if_pos hc, hk]; exact ⟨rfl, rfl⟩
theorem abv_23 {x : Elm} (hk : x.k = 3 ∨ x.k = 2) : abv x.k = true := by rcases hk with q | q <;> rw [q] <;> rfl
set_option maxRecDepth 100000 in
set_option maxHeartbeats 4000000 in
theorem dbl_err (w : World) (x : Elm) (o : Nat) (f : Int) (hf : ¬ f = 0)
    (k1 : Hid (∀ W, Calls Try.prog 10 #[.agg #[.int .u8 (x.k : Int), .string x.n, .string x.a, .string x.b, .string x.c, .string x.d, .float .f64 x.v, .int .i64 x.ph], .float .f64 o] W fun e w' => e = .returned (.tuple #[.complex .f64 0 0, .int .i64 f]) ∧ Below W.heap.size W w'))
    (k3 : Hid (∀ W, Calls Try.prog 12 #[.agg #[.int .u8 (x.k : Int), .string x.n, .string x.a, .string x.b, .string x.c, .string x.d, .float .f64 x.v, .int .i64 x.ph], .float .f64 o] W fun e w' => e = .returned (.tuple #[.complex .f64 0 0, .int .i64 f]) ∧ Below W.heap.size W w')) :
    Calls Try.prog 6 #[inV x, .int .u64 (o : Int)] w fun e w' => e = .returned (.bool true) ∧ Below w.heap.size w w' := by
  have q1 : (f == 0) = false := by simp [hf]
  have q2 : (f != 0) = true := by simp [hf]
  unfold inV
  go_enter Try.func6, Try.ntmps6
  go_wp2_with (first
      | (go_at_call 8; (with_reducible refine (element_eq x _).mono ?_); rintro E w1 ⟨rfl, hw⟩; unfold elV)
      | (go_at_call 10; (with_reducible refine (k1.out _).mono ?_); rintro E w2 ⟨rfl, hb⟩; (have E1 : Hid (EC w w2 (w.heap.size + 3) x) := by first | exact (ec_four w x _ _ _).below hb | exact (ec_four w x _ _ _).below (undrN hb)); clear hb hw; (have E0 : Hid (EC w w2 (w.heap.size + 3) x) := E1.out); clear E1; (obtain ⟨l1, c10, c11, c12, c13, c14, c15, c16, c17⟩ := E0.out.f))
      | (go_at_call 12; (with_reducible refine (k3.out _).mono ?_); rintro E w2 ⟨rfl, hb⟩; (have E1 : Hid (EC w w2 (w.heap.size + 3) x) := by first | exact E0.out.below hb | exact E0.out.below (undrN hb)); clear hb E0; (have E0 : Hid (EC w w2 (w.heap.size + 3) x) := E1.out); clear E1; (obtain ⟨l1, c10, c11, c12, c13, c14, c15, c16, c17⟩ := E0.out.f))
      | (go_at_call 16; (with_reducible refine (lives17 _).mono ?_); rintro E w2 ⟨rfl, hb⟩; (have E1 : Hid (EC w w2 (w.heap.size + 3) x) := by first | exact E0.out.below hb | exact E0.out.below (undrN hb)); clear hb E0; (have E0 : Hid (EC w w2 (w.heap.size + 3) x) := E1.out); clear E1; (obtain ⟨l1, c10, c11, c12, c13, c14, c15, c16, c17⟩ := E0.out.f)))
  all_goals go_ret
  all_goals exact ⟨rfl, by first | exact E0.out.bel | exact below_dN E0.out.bel _⟩
set_option maxRecDepth 100000 in
set_option maxHeartbeats 4000000 in
theorem dbl_other (w : World) (x : Elm) (o a b : Nat) (hk3 : ((x.k : Int) != 3) = true) (hk2 : ((x.k : Int) != 2) = true)
    (k1 : Hid (∀ W, Calls Try.prog 10 #[.agg #[.int .u8 (x.k : Int), .string x.n, .string x.a, .string x.b, .string x.c, .string x.d, .float .f64 x.v, .int .i64 x.ph], .float .f64 o] W fun e w' => e = .returned (.tuple #[.complex .f64 a b, .int .i64 0]) ∧ Below W.heap.size W w'))
    (k3 : Hid (∀ W, Calls Try.prog 12 #[.agg #[.int .u8 (x.k : Int), .string x.n, .string x.a, .string x.b, .string x.c, .string x.d, .float .f64 x.v, .int .i64 x.ph], .float .f64 o] W fun e w' => e = .returned (.tuple #[.complex .f64 a (ngW b), .int .i64 0]) ∧ Below W.heap.size W w'))
    (kc : Hid (∀ W, Calls Try.prog 25 #[.complex .f64 a b] W fun e w' => e = .returned (.complex .f64 a (ngW b)) ∧ w' = W))
    (kk : Hid (∀ W, Calls Try.prog 26 #[.agg #[.int .u8 (x.k : Int), .string x.n, .string x.a, .string x.b, .string x.c, .string x.d, .float .f64 x.v, .int .i64 x.ph]] W fun e w' => e = .returned (.int .i64 0) ∧ Below W.heap.size W w')) :
    Calls Try.prog 6 #[inV x, .int .u64 (o : Int)] w fun e w' => e = .returned (.bool true) ∧ Below w.heap.size w w' := by
  unfold inV
  go_enter Try.func6, Try.ntmps6
  go_wp2_with (first
      | (go_at_call 8; (with_reducible refine (element_eq x _).mono ?_); rintro E w1 ⟨rfl, hw⟩; unfold elV)
      | (go_at_call 10; (with_reducible refine (k1.out _).mono ?_); rintro E w2 ⟨rfl, hb⟩; (have E1 : Hid (EC w w2 (w.heap.size + 3) x) := by first | exact (ec_four w x _ _ _).below hb | exact (ec_four w x _ _ _).below (undrN hb)); clear hb hw; (have E0 : Hid (EC w w2 (w.heap.size + 3) x) := E1.out); clear E1; (obtain ⟨l1, c10, c11, c12, c13, c14, c15, c16, c17⟩ := E0.out.f))
      | (go_at_call 12; (with_reducible refine (k3.out _).mono ?_); rintro E w2 ⟨rfl, hb⟩; (have E1 : Hid (EC w w2 (w.heap.size + 3) x) := by first | exact E0.out.below hb | exact E0.out.below (undrN hb)); clear hb E0; (have E0 : Hid (EC w w2 (w.heap.size + 3) x) := E1.out); clear E1; (obtain ⟨l1, c10, c11, c12, c13, c14, c15, c16, c17⟩ := E0.out.f))
      | (go_at_call 25; (with_reducible refine (kc.out _).mono ?_); rintro E w1 ⟨rfl, hw⟩; subst w1)
      | (go_at_call 17; (with_reducible refine (same_self _ _ _).mono ?_); rintro E w1 ⟨rfl, hw⟩; subst w1)
      | (go_at_call 16; (with_reducible refine (lives17 _).mono ?_); rintro E w2 ⟨rfl, hb⟩; (have E1 : Hid (EC w w2 (w.heap.size + 3) x) := by first | exact E0.out.below hb | exact E0.out.below (undrN hb)); clear hb E0; (have E0 : Hid (EC w w2 (w.heap.size + 3) x) := E1.out); clear E1; (obtain ⟨l1, c10, c11, c12, c13, c14, c15, c16, c17⟩ := E0.out.f))
      | (go_at_call 26; (with_reducible refine (kk.out _).mono ?_); rintro E w2 ⟨rfl, hb⟩; (have E1 : Hid (EC w w2 (w.heap.size + 3) x) := by first | exact E0.out.below hb | exact E0.out.below (undrN hb)); clear hb E0; (have E0 : Hid (EC w w2 (w.heap.size + 3) x) := E1.out); clear E1; (obtain ⟨l1, c10, c11, c12, c13, c14, c15, c16, c17⟩ := E0.out.f)))
  all_goals go_ret
  all_goals exact ⟨rfl, by first | exact E0.out.bel | exact below_dN E0.out.bel _⟩
set_option maxRecDepth 100000 in
set_option maxHeartbeats 4000000 in
theorem dbl_e1_3 (w : World) (x : Elm) (o a b m : Nat) (hk3 : ((x.k : Int) != 3) = false)
    (v1 : (FloatKind.f64.format.order m 103582791429521408 == some .lt) = true)
    (mv : ∀ W, mulV W o x.v = m) (mn : fN (mulO o x.v) = 0)
    (k1 : Hid (∀ W, Calls Try.prog 10 #[.agg #[.int .u8 (x.k : Int), .string x.n, .string x.a, .string x.b, .string x.c, .string x.d, .float .f64 x.v, .int .i64 x.ph], .float .f64 o] W fun e w' => e = .returned (.tuple #[.complex .f64 a b, .int .i64 0]) ∧ Below W.heap.size W w'))
    (k3 : Hid (∀ W, Calls Try.prog 12 #[.agg #[.int .u8 (x.k : Int), .string x.n, .string x.a, .string x.b, .string x.c, .string x.d, .float .f64 x.v, .int .i64 x.ph], .float .f64 o] W fun e w' => e = .returned (.tuple #[.complex .f64 a (ngW b), .int .i64 0]) ∧ Below W.heap.size W w'))
    (kc : Hid (∀ W, Calls Try.prog 25 #[.complex .f64 a b] W fun e w' => e = .returned (.complex .f64 a (ngW b)) ∧ w' = W))
    (kk : Hid (∀ W, Calls Try.prog 26 #[.agg #[.int .u8 (x.k : Int), .string x.n, .string x.a, .string x.b, .string x.c, .string x.d, .float .f64 x.v, .int .i64 x.ph]] W fun e w' => e = .returned (.int .i64 0) ∧ Below W.heap.size W w')) :
    Calls Try.prog 6 #[inV x, .int .u64 (o : Int)] w fun e w' => e = .returned (.bool true) ∧ Below w.heap.size w w' := by
  unfold inV
  go_enter Try.func6, Try.ntmps6
  go_wp2_with (first
      | (go_at_call 8; (with_reducible refine (element_eq x _).mono ?_); rintro E w1 ⟨rfl, hw⟩; unfold elV)
      | (go_at_call 10; (with_reducible refine (k1.out _).mono ?_); rintro E w2 ⟨rfl, hb⟩; (have E1 : Hid (EC w w2 (w.heap.size + 3) x) := by first | exact (ec_four w x _ _ _).below hb | exact (ec_four w x _ _ _).below (undrN hb)); clear hb hw; (have E0 : Hid (EC w w2 (w.heap.size + 3) x) := E1.out); clear E1; (obtain ⟨l1, c10, c11, c12, c13, c14, c15, c16, c17⟩ := E0.out.f))
      | (go_at_call 12; (with_reducible refine (k3.out _).mono ?_); rintro E w2 ⟨rfl, hb⟩; (have E1 : Hid (EC w w2 (w.heap.size + 3) x) := by first | exact E0.out.below hb | exact E0.out.below (undrN hb)); clear hb E0; (have E0 : Hid (EC w w2 (w.heap.size + 3) x) := E1.out); clear E1; (obtain ⟨l1, c10, c11, c12, c13, c14, c15, c16, c17⟩ := E0.out.f))
      | (go_at_call 25; (with_reducible refine (kc.out _).mono ?_); rintro E w1 ⟨rfl, hw⟩; subst w1)
      | (go_at_call 17; (with_reducible refine (same_self _ _ _).mono ?_); rintro E w1 ⟨rfl, hw⟩; subst w1)
      | (go_at_call 16; (with_reducible refine (lives17 _).mono ?_); rintro E w2 ⟨rfl, hb⟩; (have E1 : Hid (EC w w2 (w.heap.size + 3) x) := by first | exact E0.out.below hb | exact E0.out.below (undrN hb)); clear hb E0; (have E0 : Hid (EC w w2 (w.heap.size + 3) x) := E1.out); clear E1; (obtain ⟨l1, c10, c11, c12, c13, c14, c15, c16, c17⟩ := E0.out.f))
      | (go_at_call 26; (with_reducible refine (kk.out _).mono ?_); rintro E w2 ⟨rfl, hb⟩; (have E1 : Hid (EC w w2 (w.heap.size + 3) x) := by first | exact E0.out.below hb | exact E0.out.below (undrN hb)); clear hb E0; (have E0 : Hid (EC w w2 (w.heap.size + 3) x) := E1.out); clear E1; (obtain ⟨l1, c10, c11, c12, c13, c14, c15, c16, c17⟩ := E0.out.f))
      | (go_at_call 27; (with_reducible refine (ldx_lo _).mono ?_); rintro E w1 ⟨n, rfl, hw⟩; subst w1)
      | (go_at_call 27; (with_reducible refine (ldx_hi _).mono ?_); rintro E w1 ⟨n, rfl, hw⟩; subst w1))
  all_goals go_ret
  all_goals exact ⟨rfl, by first | exact E0.out.bel | exact below_dN E0.out.bel _⟩
set_option maxRecDepth 100000 in
set_option maxHeartbeats 4000000 in
theorem dbl_e1_2 (w : World) (x : Elm) (o a b m : Nat) (hk3 : ((x.k : Int) != 3) = true) (hk2 : ((x.k : Int) != 2) = false)
    (v1 : (FloatKind.f64.format.order m 103582791429521408 == some .lt) = true)
    (mv : ∀ W, mulV W o x.v = m) (mn : fN (mulO o x.v) = 0)
    (k1 : Hid (∀ W, Calls Try.prog 10 #[.agg #[.int .u8 (x.k : Int), .string x.n, .string x.a, .string x.b, .string x.c, .string x.d, .float .f64 x.v, .int .i64 x.ph], .float .f64 o] W fun e w' => e = .returned (.tuple #[.complex .f64 a b, .int .i64 0]) ∧ Below W.heap.size W w'))
    (k3 : Hid (∀ W, Calls Try.prog 12 #[.agg #[.int .u8 (x.k : Int), .string x.n, .string x.a, .string x.b, .string x.c, .string x.d, .float .f64 x.v, .int .i64 x.ph], .float .f64 o] W fun e w' => e = .returned (.tuple #[.complex .f64 a (ngW b), .int .i64 0]) ∧ Below W.heap.size W w'))
    (kc : Hid (∀ W, Calls Try.prog 25 #[.complex .f64 a b] W fun e w' => e = .returned (.complex .f64 a (ngW b)) ∧ w' = W))
    (kk : Hid (∀ W, Calls Try.prog 26 #[.agg #[.int .u8 (x.k : Int), .string x.n, .string x.a, .string x.b, .string x.c, .string x.d, .float .f64 x.v, .int .i64 x.ph]] W fun e w' => e = .returned (.int .i64 0) ∧ Below W.heap.size W w')) :
    Calls Try.prog 6 #[inV x, .int .u64 (o : Int)] w fun e w' => e = .returned (.bool true) ∧ Below w.heap.size w w' := by
  unfold inV
  go_enter Try.func6, Try.ntmps6
  go_wp2_with (first
      | (go_at_call 8; (with_reducible refine (element_eq x _).mono ?_); rintro E w1 ⟨rfl, hw⟩; unfold elV)
      | (go_at_call 10; (with_reducible refine (k1.out _).mono ?_); rintro E w2 ⟨rfl, hb⟩; (have E1 : Hid (EC w w2 (w.heap.size + 3) x) := by first | exact (ec_four w x _ _ _).below hb | exact (ec_four w x _ _ _).below (undrN hb)); clear hb hw; (have E0 : Hid (EC w w2 (w.heap.size + 3) x) := E1.out); clear E1; (obtain ⟨l1, c10, c11, c12, c13, c14, c15, c16, c17⟩ := E0.out.f))
      | (go_at_call 12; (with_reducible refine (k3.out _).mono ?_); rintro E w2 ⟨rfl, hb⟩; (have E1 : Hid (EC w w2 (w.heap.size + 3) x) := by first | exact E0.out.below hb | exact E0.out.below (undrN hb)); clear hb E0; (have E0 : Hid (EC w w2 (w.heap.size + 3) x) := E1.out); clear E1; (obtain ⟨l1, c10, c11, c12, c13, c14, c15, c16, c17⟩ := E0.out.f))
      | (go_at_call 25; (with_reducible refine (kc.out _).mono ?_); rintro E w1 ⟨rfl, hw⟩; subst w1)
      | (go_at_call 17; (with_reducible refine (same_self _ _ _).mono ?_); rintro E w1 ⟨rfl, hw⟩; subst w1)
      | (go_at_call 16; (with_reducible refine (lives17 _).mono ?_); rintro E w2 ⟨rfl, hb⟩; (have E1 : Hid (EC w w2 (w.heap.size + 3) x) := by first | exact E0.out.below hb | exact E0.out.below (undrN hb)); clear hb E0; (have E0 : Hid (EC w w2 (w.heap.size + 3) x) := E1.out); clear E1; (obtain ⟨l1, c10, c11, c12, c13, c14, c15, c16, c17⟩ := E0.out.f))
      | (go_at_call 26; (with_reducible refine (kk.out _).mono ?_); rintro E w2 ⟨rfl, hb⟩; (have E1 : Hid (EC w w2 (w.heap.size + 3) x) := by first | exact E0.out.below hb | exact E0.out.below (undrN hb)); clear hb E0; (have E0 : Hid (EC w w2 (w.heap.size + 3) x) := E1.out); clear E1; (obtain ⟨l1, c10, c11, c12, c13, c14, c15, c16, c17⟩ := E0.out.f))
      | (go_at_call 27; (with_reducible refine (ldx_lo _).mono ?_); rintro E w1 ⟨n, rfl, hw⟩; subst w1)
      | (go_at_call 27; (with_reducible refine (ldx_hi _).mono ?_); rintro E w1 ⟨n, rfl, hw⟩; subst w1))
  all_goals go_ret
  all_goals exact ⟨rfl, by first | exact E0.out.bel | exact below_dN E0.out.bel _⟩
set_option maxRecDepth 100000 in
set_option maxHeartbeats 4000000 in
theorem dbl_e2_3 (w : World) (x : Elm) (o a b m : Nat) (hk3 : ((x.k : Int) != 3) = false)
    (v1 : (FloatKind.f64.format.order m 103582791429521408 == some .lt) = false) (v2 : (FloatKind.f64.format.order m 9110782046170513408 == some .gt) = true)
    (mv : ∀ W, mulV W o x.v = m) (mn : fN (mulO o x.v) = 0)
    (k1 : Hid (∀ W, Calls Try.prog 10 #[.agg #[.int .u8 (x.k : Int), .string x.n, .string x.a, .string x.b, .string x.c, .string x.d, .float .f64 x.v, .int .i64 x.ph], .float .f64 o] W fun e w' => e = .returned (.tuple #[.complex .f64 a b, .int .i64 0]) ∧ Below W.heap.size W w'))
    (k3 : Hid (∀ W, Calls Try.prog 12 #[.agg #[.int .u8 (x.k : Int), .string x.n, .string x.a, .string x.b, .string x.c, .string x.d, .float .f64 x.v, .int .i64 x.ph], .float .f64 o] W fun e w' => e = .returned (.tuple #[.complex .f64 a (ngW b), .int .i64 0]) ∧ Below W.heap.size W w'))
    (kc : Hid (∀ W, Calls Try.prog 25 #[.complex .f64 a b] W fun e w' => e = .returned (.complex .f64 a (ngW b)) ∧ w' = W))
    (kk : Hid (∀ W, Calls Try.prog 26 #[.agg #[.int .u8 (x.k : Int), .string x.n, .string x.a, .string x.b, .string x.c, .string x.d, .float .f64 x.v, .int .i64 x.ph]] W fun e w' => e = .returned (.int .i64 0) ∧ Below W.heap.size W w')) :
    Calls Try.prog 6 #[inV x, .int .u64 (o : Int)] w fun e w' => e = .returned (.bool true) ∧ Below w.heap.size w w' := by
  unfold inV
  go_enter Try.func6, Try.ntmps6
  go_wp2_with (first
      | (go_at_call 8; (with_reducible refine (element_eq x _).mono ?_); rintro E w1 ⟨rfl, hw⟩; unfold elV)
      | (go_at_call 10; (with_reducible refine (k1.out _).mono ?_); rintro E w2 ⟨rfl, hb⟩; (have E1 : Hid (EC w w2 (w.heap.size + 3) x) := by first | exact (ec_four w x _ _ _).below hb | exact (ec_four w x _ _ _).below (undrN hb)); clear hb hw; (have E0 : Hid (EC w w2 (w.heap.size + 3) x) := E1.out); clear E1; (obtain ⟨l1, c10, c11, c12, c13, c14, c15, c16, c17⟩ := E0.out.f))
      | (go_at_call 12; (with_reducible refine (k3.out _).mono ?_); rintro E w2 ⟨rfl, hb⟩; (have E1 : Hid (EC w w2 (w.heap.size + 3) x) := by first | exact E0.out.below hb | exact E0.out.below (undrN hb)); clear hb E0; (have E0 : Hid (EC w w2 (w.heap.size + 3) x) := E1.out); clear E1; (obtain ⟨l1, c10, c11, c12, c13, c14, c15, c16, c17⟩ := E0.out.f))
      | (go_at_call 25; (with_reducible refine (kc.out _).mono ?_); rintro E w1 ⟨rfl, hw⟩; subst w1)
      | (go_at_call 17; (with_reducible refine (same_self _ _ _).mono ?_); rintro E w1 ⟨rfl, hw⟩; subst w1)
      | (go_at_call 16; (with_reducible refine (lives17 _).mono ?_); rintro E w2 ⟨rfl, hb⟩; (have E1 : Hid (EC w w2 (w.heap.size + 3) x) := by first | exact E0.out.below hb | exact E0.out.below (undrN hb)); clear hb E0; (have E0 : Hid (EC w w2 (w.heap.size + 3) x) := E1.out); clear E1; (obtain ⟨l1, c10, c11, c12, c13, c14, c15, c16, c17⟩ := E0.out.f))
      | (go_at_call 26; (with_reducible refine (kk.out _).mono ?_); rintro E w2 ⟨rfl, hb⟩; (have E1 : Hid (EC w w2 (w.heap.size + 3) x) := by first | exact E0.out.below hb | exact E0.out.below (undrN hb)); clear hb E0; (have E0 : Hid (EC w w2 (w.heap.size + 3) x) := E1.out); clear E1; (obtain ⟨l1, c10, c11, c12, c13, c14, c15, c16, c17⟩ := E0.out.f))
      | (go_at_call 27; (with_reducible refine (ldx_lo _).mono ?_); rintro E w1 ⟨n, rfl, hw⟩; subst w1)
      | (go_at_call 27; (with_reducible refine (ldx_hi _).mono ?_); rintro E w1 ⟨n, rfl, hw⟩; subst w1))
  all_goals go_ret
  all_goals exact ⟨rfl, by first | exact E0.out.bel | exact below_dN E0.out.bel _⟩
set_option maxRecDepth 100000 in
set_option maxHeartbeats 4000000 in
theorem dbl_e2_2 (w : World) (x : Elm) (o a b m : Nat) (hk3 : ((x.k : Int) != 3) = true) (hk2 : ((x.k : Int) != 2) = false)
    (v1 : (FloatKind.f64.format.order m 103582791429521408 == some .lt) = false) (v2 : (FloatKind.f64.format.order m 9110782046170513408 == some .gt) = true)
    (mv : ∀ W, mulV W o x.v = m) (mn : fN (mulO o x.v) = 0)
    (k1 : Hid (∀ W, Calls Try.prog 10 #[.agg #[.int .u8 (x.k : Int), .string x.n, .string x.a, .string x.b, .string x.c, .string x.d, .float .f64 x.v, .int .i64 x.ph], .float .f64 o] W fun e w' => e = .returned (.tuple #[.complex .f64 a b, .int .i64 0]) ∧ Below W.heap.size W w'))
    (k3 : Hid (∀ W, Calls Try.prog 12 #[.agg #[.int .u8 (x.k : Int), .string x.n, .string x.a, .string x.b, .string x.c, .string x.d, .float .f64 x.v, .int .i64 x.ph], .float .f64 o] W fun e w' => e = .returned (.tuple #[.complex .f64 a (ngW b), .int .i64 0]) ∧ Below W.heap.size W w'))
    (kc : Hid (∀ W, Calls Try.prog 25 #[.complex .f64 a b] W fun e w' => e = .returned (.complex .f64 a (ngW b)) ∧ w' = W))
    (kk : Hid (∀ W, Calls Try.prog 26 #[.agg #[.int .u8 (x.k : Int), .string x.n, .string x.a, .string x.b, .string x.c, .string x.d, .float .f64 x.v, .int .i64 x.ph]] W fun e w' => e = .returned (.int .i64 0) ∧ Below W.heap.size W w')) :
    Calls Try.prog 6 #[inV x, .int .u64 (o : Int)] w fun e w' => e = .returned (.bool true) ∧ Below w.heap.size w w' := by
  unfold inV
  go_enter Try.func6, Try.ntmps6
  go_wp2_with (first
      | (go_at_call 8; (with_reducible refine (element_eq x _).mono ?_); rintro E w1 ⟨rfl, hw⟩; unfold elV)
      | (go_at_call 10; (with_reducible refine (k1.out _).mono ?_); rintro E w2 ⟨rfl, hb⟩; (have E1 : Hid (EC w w2 (w.heap.size + 3) x) := by first | exact (ec_four w x _ _ _).below hb | exact (ec_four w x _ _ _).below (undrN hb)); clear hb hw; (have E0 : Hid (EC w w2 (w.heap.size + 3) x) := E1.out); clear E1; (obtain ⟨l1, c10, c11, c12, c13, c14, c15, c16, c17⟩ := E0.out.f))
      | (go_at_call 12; (with_reducible refine (k3.out _).mono ?_); rintro E w2 ⟨rfl, hb⟩; (have E1 : Hid (EC w w2 (w.heap.size + 3) x) := by first | exact E0.out.below hb | exact E0.out.below (undrN hb)); clear hb E0; (have E0 : Hid (EC w w2 (w.heap.size + 3) x) := E1.out); clear E1; (obtain ⟨l1, c10, c11, c12, c13, c14, c15, c16, c17⟩ := E0.out.f))
      | (go_at_call 25; (with_reducible refine (kc.out _).mono ?_); rintro E w1 ⟨rfl, hw⟩; subst w1)
      | (go_at_call 17; (with_reducible refine (same_self _ _ _).mono ?_); rintro E w1 ⟨rfl, hw⟩; subst w1)
      | (go_at_call 16; (with_reducible refine (lives17 _).mono ?_); rintro E w2 ⟨rfl, hb⟩; (have E1 : Hid (EC w w2 (w.heap.size + 3) x) := by first | exact E0.out.below hb | exact E0.out.below (undrN hb)); clear hb E0; (have E0 : Hid (EC w w2 (w.heap.size + 3) x) := E1.out); clear E1; (obtain ⟨l1, c10, c11, c12, c13, c14, c15, c16, c17⟩ := E0.out.f))
      | (go_at_call 26; (with_reducible refine (kk.out _).mono ?_); rintro E w2 ⟨rfl, hb⟩; (have E1 : Hid (EC w w2 (w.heap.size + 3) x) := by first | exact E0.out.below hb | exact E0.out.below (undrN hb)); clear hb E0; (have E0 : Hid (EC w w2 (w.heap.size + 3) x) := E1.out); clear E1; (obtain ⟨l1, c10, c11, c12, c13, c14, c15, c16, c17⟩ := E0.out.f))
      | (go_at_call 27; (with_reducible refine (ldx_lo _).mono ?_); rintro E w1 ⟨n, rfl, hw⟩; subst w1)
      | (go_at_call 27; (with_reducible refine (ldx_hi _).mono ?_); rintro E w1 ⟨n, rfl, hw⟩; subst w1))
  all_goals go_ret
  all_goals exact ⟨rfl, by first | exact E0.out.bel | exact below_dN E0.out.bel _⟩
set_option maxRecDepth 100000 in
set_option maxHeartbeats 4000000 in
theorem dbl_e3_3 (w : World) (x : Elm) (o a b m : Nat) (hk3 : ((x.k : Int) != 3) = false)
    (v1 : (FloatKind.f64.format.order m 103582791429521408 == some .lt) = false) (v2 : (FloatKind.f64.format.order m 9110782046170513408 == some .gt) = false) (v3 : (FloatKind.f64.format.order o 9110782046170513408 == some .gt) = true)
    (mv : ∀ W, mulV W o x.v = m) (mn : fN (mulO o x.v) = 0)
    (k1 : Hid (∀ W, Calls Try.prog 10 #[.agg #[.int .u8 (x.k : Int), .string x.n, .string x.a, .string x.b, .string x.c, .string x.d, .float .f64 x.v, .int .i64 x.ph], .float .f64 o] W fun e w' => e = .returned (.tuple #[.complex .f64 a b, .int .i64 0]) ∧ Below W.heap.size W w'))
    (k3 : Hid (∀ W, Calls Try.prog 12 #[.agg #[.int .u8 (x.k : Int), .string x.n, .string x.a, .string x.b, .string x.c, .string x.d, .float .f64 x.v, .int .i64 x.ph], .float .f64 o] W fun e w' => e = .returned (.tuple #[.complex .f64 a (ngW b), .int .i64 0]) ∧ Below W.heap.size W w'))
    (kc : Hid (∀ W, Calls Try.prog 25 #[.complex .f64 a b] W fun e w' => e = .returned (.complex .f64 a (ngW b)) ∧ w' = W))
    (kk : Hid (∀ W, Calls Try.prog 26 #[.agg #[.int .u8 (x.k : Int), .string x.n, .string x.a, .string x.b, .string x.c, .string x.d, .float .f64 x.v, .int .i64 x.ph]] W fun e w' => e = .returned (.int .i64 0) ∧ Below W.heap.size W w')) :
    Calls Try.prog 6 #[inV x, .int .u64 (o : Int)] w fun e w' => e = .returned (.bool true) ∧ Below w.heap.size w w' := by
  unfold inV
  go_enter Try.func6, Try.ntmps6
  go_wp2_with (first
      | (go_at_call 8; (with_reducible refine (element_eq x _).mono ?_); rintro E w1 ⟨rfl, hw⟩; unfold elV)
      | (go_at_call 10; (with_reducible refine (k1.out _).mono ?_); rintro E w2 ⟨rfl, hb⟩; (have E1 : Hid (EC w w2 (w.heap.size + 3) x) := by first | exact (ec_four w x _ _ _).below hb | exact (ec_four w x _ _ _).below (undrN hb)); clear hb hw; (have E0 : Hid (EC w w2 (w.heap.size + 3) x) := E1.out); clear E1; (obtain ⟨l1, c10, c11, c12, c13, c14, c15, c16, c17⟩ := E0.out.f))
      | (go_at_call 12; (with_reducible refine (k3.out _).mono ?_); rintro E w2 ⟨rfl, hb⟩; (have E1 : Hid (EC w w2 (w.heap.size + 3) x) := by first | exact E0.out.below hb | exact E0.out.below (undrN hb)); clear hb E0; (have E0 : Hid (EC w w2 (w.heap.size + 3) x) := E1.out); clear E1; (obtain ⟨l1, c10, c11, c12, c13, c14, c15, c16, c17⟩ := E0.out.f))
      | (go_at_call 25; (with_reducible refine (kc.out _).mono ?_); rintro E w1 ⟨rfl, hw⟩; subst w1)
      | (go_at_call 17; (with_reducible refine (same_self _ _ _).mono ?_); rintro E w1 ⟨rfl, hw⟩; subst w1)
      | (go_at_call 16; (with_reducible refine (lives17 _).mono ?_); rintro E w2 ⟨rfl, hb⟩; (have E1 : Hid (EC w w2 (w.heap.size + 3) x) := by first | exact E0.out.below hb | exact E0.out.below (undrN hb)); clear hb E0; (have E0 : Hid (EC w w2 (w.heap.size + 3) x) := E1.out); clear E1; (obtain ⟨l1, c10, c11, c12, c13, c14, c15, c16, c17⟩ := E0.out.f))
      | (go_at_call 26; (with_reducible refine (kk.out _).mono ?_); rintro E w2 ⟨rfl, hb⟩; (have E1 : Hid (EC w w2 (w.heap.size + 3) x) := by first | exact E0.out.below hb | exact E0.out.below (undrN hb)); clear hb E0; (have E0 : Hid (EC w w2 (w.heap.size + 3) x) := E1.out); clear E1; (obtain ⟨l1, c10, c11, c12, c13, c14, c15, c16, c17⟩ := E0.out.f))
      | (go_at_call 27; (with_reducible refine (ldx_lo _).mono ?_); rintro E w1 ⟨n, rfl, hw⟩; subst w1)
      | (go_at_call 27; (with_reducible refine (ldx_hi _).mono ?_); rintro E w1 ⟨n, rfl, hw⟩; subst w1))
  all_goals go_ret
  all_goals exact ⟨rfl, by first | exact E0.out.bel | exact below_dN E0.out.bel _⟩
set_option maxRecDepth 100000 in
set_option maxHeartbeats 4000000 in
theorem dbl_e3_2 (w : World) (x : Elm) (o a b m : Nat) (hk3 : ((x.k : Int) != 3) = true) (hk2 : ((x.k : Int) != 2) = false)
    (v1 : (FloatKind.f64.format.order m 103582791429521408 == some .lt) = false) (v2 : (FloatKind.f64.format.order m 9110782046170513408 == some .gt) = false) (v3 : (FloatKind.f64.format.order o 9110782046170513408 == some .gt) = true)
    (mv : ∀ W, mulV W o x.v = m) (mn : fN (mulO o x.v) = 0)
    (k1 : Hid (∀ W, Calls Try.prog 10 #[.agg #[.int .u8 (x.k : Int), .string x.n, .string x.a, .string x.b, .string x.c, .string x.d, .float .f64 x.v, .int .i64 x.ph], .float .f64 o] W fun e w' => e = .returned (.tuple #[.complex .f64 a b, .int .i64 0]) ∧ Below W.heap.size W w'))
    (k3 : Hid (∀ W, Calls Try.prog 12 #[.agg #[.int .u8 (x.k : Int), .string x.n, .string x.a, .string x.b, .string x.c, .string x.d, .float .f64 x.v, .int .i64 x.ph], .float .f64 o] W fun e w' => e = .returned (.tuple #[.complex .f64 a (ngW b), .int .i64 0]) ∧ Below W.heap.size W w'))
    (kc : Hid (∀ W, Calls Try.prog 25 #[.complex .f64 a b] W fun e w' => e = .returned (.complex .f64 a (ngW b)) ∧ w' = W))
    (kk : Hid (∀ W, Calls Try.prog 26 #[.agg #[.int .u8 (x.k : Int), .string x.n, .string x.a, .string x.b, .string x.c, .string x.d, .float .f64 x.v, .int .i64 x.ph]] W fun e w' => e = .returned (.int .i64 0) ∧ Below W.heap.size W w')) :
    Calls Try.prog 6 #[inV x, .int .u64 (o : Int)] w fun e w' => e = .returned (.bool true) ∧ Below w.heap.size w w' := by
  unfold inV
  go_enter Try.func6, Try.ntmps6
  go_wp2_with (first
      | (go_at_call 8; (with_reducible refine (element_eq x _).mono ?_); rintro E w1 ⟨rfl, hw⟩; unfold elV)
      | (go_at_call 10; (with_reducible refine (k1.out _).mono ?_); rintro E w2 ⟨rfl, hb⟩; (have E1 : Hid (EC w w2 (w.heap.size + 3) x) := by first | exact (ec_four w x _ _ _).below hb | exact (ec_four w x _ _ _).below (undrN hb)); clear hb hw; (have E0 : Hid (EC w w2 (w.heap.size + 3) x) := E1.out); clear E1; (obtain ⟨l1, c10, c11, c12, c13, c14, c15, c16, c17⟩ := E0.out.f))
      | (go_at_call 12; (with_reducible refine (k3.out _).mono ?_); rintro E w2 ⟨rfl, hb⟩; (have E1 : Hid (EC w w2 (w.heap.size + 3) x) := by first | exact E0.out.below hb | exact E0.out.below (undrN hb)); clear hb E0; (have E0 : Hid (EC w w2 (w.heap.size + 3) x) := E1.out); clear E1; (obtain ⟨l1, c10, c11, c12, c13, c14, c15, c16, c17⟩ := E0.out.f))
      | (go_at_call 25; (with_reducible refine (kc.out _).mono ?_); rintro E w1 ⟨rfl, hw⟩; subst w1)
      | (go_at_call 17; (with_reducible refine (same_self _ _ _).mono ?_); rintro E w1 ⟨rfl, hw⟩; subst w1)
      | (go_at_call 16; (with_reducible refine (lives17 _).mono ?_); rintro E w2 ⟨rfl, hb⟩; (have E1 : Hid (EC w w2 (w.heap.size + 3) x) := by first | exact E0.out.below hb | exact E0.out.below (undrN hb)); clear hb E0; (have E0 : Hid (EC w w2 (w.heap.size + 3) x) := E1.out); clear E1; (obtain ⟨l1, c10, c11, c12, c13, c14, c15, c16, c17⟩ := E0.out.f))
      | (go_at_call 26; (with_reducible refine (kk.out _).mono ?_); rintro E w2 ⟨rfl, hb⟩; (have E1 : Hid (EC w w2 (w.heap.size + 3) x) := by first | exact E0.out.below hb | exact E0.out.below (undrN hb)); clear hb E0; (have E0 : Hid (EC w w2 (w.heap.size + 3) x) := E1.out); clear E1; (obtain ⟨l1, c10, c11, c12, c13, c14, c15, c16, c17⟩ := E0.out.f))
      | (go_at_call 27; (with_reducible refine (ldx_lo _).mono ?_); rintro E w1 ⟨n, rfl, hw⟩; subst w1)
      | (go_at_call 27; (with_reducible refine (ldx_hi _).mono ?_); rintro E w1 ⟨n, rfl, hw⟩; subst w1))
  all_goals go_ret
  all_goals exact ⟨rfl, by first | exact E0.out.bel | exact below_dN E0.out.bel _⟩
set_option maxRecDepth 100000 in
set_option maxHeartbeats 4000000 in
theorem dbl_e4_3 (w : World) (x : Elm) (o a b m : Nat) (hk3 : ((x.k : Int) != 3) = false)
    (v1 : (FloatKind.f64.format.order m 103582791429521408 == some .lt) = false) (v2 : (FloatKind.f64.format.order m 9110782046170513408 == some .gt) = false) (v3 : (FloatKind.f64.format.order o 9110782046170513408 == some .gt) = false) (v4 : (FloatKind.f64.format.order o 103582791429521408 == some .lt) = true)
    (mv : ∀ W, mulV W o x.v = m) (mn : fN (mulO o x.v) = 0)
    (k1 : Hid (∀ W, Calls Try.prog 10 #[.agg #[.int .u8 (x.k : Int), .string x.n, .string x.a, .string x.b, .string x.c, .string x.d, .float .f64 x.v, .int .i64 x.ph], .float .f64 o] W fun e w' => e = .returned (.tuple #[.complex .f64 a b, .int .i64 0]) ∧ Below W.heap.size W w'))
    (k3 : Hid (∀ W, Calls Try.prog 12 #[.agg #[.int .u8 (x.k : Int), .string x.n, .string x.a, .string x.b, .string x.c, .string x.d, .float .f64 x.v, .int .i64 x.ph], .float .f64 o] W fun e w' => e = .returned (.tuple #[.complex .f64 a (ngW b), .int .i64 0]) ∧ Below W.heap.size W w'))
    (kc : Hid (∀ W, Calls Try.prog 25 #[.complex .f64 a b] W fun e w' => e = .returned (.complex .f64 a (ngW b)) ∧ w' = W))
    (kk : Hid (∀ W, Calls Try.prog 26 #[.agg #[.int .u8 (x.k : Int), .string x.n, .string x.a, .string x.b, .string x.c, .string x.d, .float .f64 x.v, .int .i64 x.ph]] W fun e w' => e = .returned (.int .i64 0) ∧ Below W.heap.size W w')) :
    Calls Try.prog 6 #[inV x, .int .u64 (o : Int)] w fun e w' => e = .returned (.bool true) ∧ Below w.heap.size w w' := by
  unfold inV
  go_enter Try.func6, Try.ntmps6
  go_wp2_with (first
      | (go_at_call 8; (with_reducible refine (element_eq x _).mono ?_); rintro E w1 ⟨rfl, hw⟩; unfold elV)
      | (go_at_call 10; (with_reducible refine (k1.out _).mono ?_); rintro E w2 ⟨rfl, hb⟩; (have E1 : Hid (EC w w2 (w.heap.size + 3) x) := by first | exact (ec_four w x _ _ _).below hb | exact (ec_four w x _ _ _).below (undrN hb)); clear hb hw; (have E0 : Hid (EC w w2 (w.heap.size + 3) x) := E1.out); clear E1; (obtain ⟨l1, c10, c11, c12, c13, c14, c15, c16, c17⟩ := E0.out.f))
      | (go_at_call 12; (with_reducible refine (k3.out _).mono ?_); rintro E w2 ⟨rfl, hb⟩; (have E1 : Hid (EC w w2 (w.heap.size + 3) x) := by first | exact E0.out.below hb | exact E0.out.below (undrN hb)); clear hb E0; (have E0 : Hid (EC w w2 (w.heap.size + 3) x) := E1.out); clear E1; (obtain ⟨l1, c10, c11, c12, c13, c14, c15, c16, c17⟩ := E0.out.f))
      | (go_at_call 25; (with_reducible refine (kc.out _).mono ?_); rintro E w1 ⟨rfl, hw⟩; subst w1)
      | (go_at_call 17; (with_reducible refine (same_self _ _ _).mono ?_); rintro E w1 ⟨rfl, hw⟩; subst w1)
      | (go_at_call 16; (with_reducible refine (lives17 _).mono ?_); rintro E w2 ⟨rfl, hb⟩; (have E1 : Hid (EC w w2 (w.heap.size + 3) x) := by first | exact E0.out.below hb | exact E0.out.below (undrN hb)); clear hb E0; (have E0 : Hid (EC w w2 (w.heap.size + 3) x) := E1.out); clear E1; (obtain ⟨l1, c10, c11, c12, c13, c14, c15, c16, c17⟩ := E0.out.f))
      | (go_at_call 26; (with_reducible refine (kk.out _).mono ?_); rintro E w2 ⟨rfl, hb⟩; (have E1 : Hid (EC w w2 (w.heap.size + 3) x) := by first | exact E0.out.below hb | exact E0.out.below (undrN hb)); clear hb E0; (have E0 : Hid (EC w w2 (w.heap.size + 3) x) := E1.out); clear E1; (obtain ⟨l1, c10, c11, c12, c13, c14, c15, c16, c17⟩ := E0.out.f))
      | (go_at_call 27; (with_reducible refine (ldx_lo _).mono ?_); rintro E w1 ⟨n, rfl, hw⟩; subst w1)
      | (go_at_call 27; (with_reducible refine (ldx_hi _).mono ?_); rintro E w1 ⟨n, rfl, hw⟩; subst w1))
  all_goals go_ret
  all_goals exact ⟨rfl, by first | exact E0.out.bel | exact below_dN E0.out.bel _⟩
set_option maxRecDepth 100000 in
set_option maxHeartbeats 4000000 in
theorem dbl_e4_2 (w : World) (x : Elm) (o a b m : Nat) (hk3 : ((x.k : Int) != 3) = true) (hk2 : ((x.k : Int) != 2) = false)
    (v1 : (FloatKind.f64.format.order m 103582791429521408 == some .lt) = false) (v2 : (FloatKind.f64.format.order m 9110782046170513408 == some .gt) = false) (v3 : (FloatKind.f64.format.order o 9110782046170513408 == some .gt) = false) (v4 : (FloatKind.f64.format.order o 103582791429521408 == some .lt) = true)
    (mv : ∀ W, mulV W o x.v = m) (mn : fN (mulO o x.v) = 0)
    (k1 : Hid (∀ W, Calls Try.prog 10 #[.agg #[.int .u8 (x.k : Int), .string x.n, .string x.a, .string x.b, .string x.c, .string x.d, .float .f64 x.v, .int .i64 x.ph], .float .f64 o] W fun e w' => e = .returned (.tuple #[.complex .f64 a b, .int .i64 0]) ∧ Below W.heap.size W w'))
    (k3 : Hid (∀ W, Calls Try.prog 12 #[.agg #[.int .u8 (x.k : Int), .string x.n, .string x.a, .string x.b, .string x.c, .string x.d, .float .f64 x.v, .int .i64 x.ph], .float .f64 o] W fun e w' => e = .returned (.tuple #[.complex .f64 a (ngW b), .int .i64 0]) ∧ Below W.heap.size W w'))
    (kc : Hid (∀ W, Calls Try.prog 25 #[.complex .f64 a b] W fun e w' => e = .returned (.complex .f64 a (ngW b)) ∧ w' = W))
    (kk : Hid (∀ W, Calls Try.prog 26 #[.agg #[.int .u8 (x.k : Int), .string x.n, .string x.a, .string x.b, .string x.c, .string x.d, .float .f64 x.v, .int .i64 x.ph]] W fun e w' => e = .returned (.int .i64 0) ∧ Below W.heap.size W w')) :
    Calls Try.prog 6 #[inV x, .int .u64 (o : Int)] w fun e w' => e = .returned (.bool true) ∧ Below w.heap.size w w' := by
  unfold inV
  go_enter Try.func6, Try.ntmps6
  go_wp2_with (first
      | (go_at_call 8; (with_reducible refine (element_eq x _).mono ?_); rintro E w1 ⟨rfl, hw⟩; unfold elV)
      | (go_at_call 10; (with_reducible refine (k1.out _).mono ?_); rintro E w2 ⟨rfl, hb⟩; (have E1 : Hid (EC w w2 (w.heap.size + 3) x) := by first | exact (ec_four w x _ _ _).below hb | exact (ec_four w x _ _ _).below (undrN hb)); clear hb hw; (have E0 : Hid (EC w w2 (w.heap.size + 3) x) := E1.out); clear E1; (obtain ⟨l1, c10, c11, c12, c13, c14, c15, c16, c17⟩ := E0.out.f))
      | (go_at_call 12; (with_reducible refine (k3.out _).mono ?_); rintro E w2 ⟨rfl, hb⟩; (have E1 : Hid (EC w w2 (w.heap.size + 3) x) := by first | exact E0.out.below hb | exact E0.out.below (undrN hb)); clear hb E0; (have E0 : Hid (EC w w2 (w.heap.size + 3) x) := E1.out); clear E1; (obtain ⟨l1, c10, c11, c12, c13, c14, c15, c16, c17⟩ := E0.out.f))
      | (go_at_call 25; (with_reducible refine (kc.out _).mono ?_); rintro E w1 ⟨rfl, hw⟩; subst w1)
      | (go_at_call 17; (with_reducible refine (same_self _ _ _).mono ?_); rintro E w1 ⟨rfl, hw⟩; subst w1)
      | (go_at_call 16; (with_reducible refine (lives17 _).mono ?_); rintro E w2 ⟨rfl, hb⟩; (have E1 : Hid (EC w w2 (w.heap.size + 3) x) := by first | exact E0.out.below hb | exact E0.out.below (undrN hb)); clear hb E0; (have E0 : Hid (EC w w2 (w.heap.size + 3) x) := E1.out); clear E1; (obtain ⟨l1, c10, c11, c12, c13, c14, c15, c16, c17⟩ := E0.out.f))
      | (go_at_call 26; (with_reducible refine (kk.out _).mono ?_); rintro E w2 ⟨rfl, hb⟩; (have E1 : Hid (EC w w2 (w.heap.size + 3) x) := by first | exact E0.out.below hb | exact E0.out.below (undrN hb)); clear hb E0; (have E0 : Hid (EC w w2 (w.heap.size + 3) x) := E1.out); clear E1; (obtain ⟨l1, c10, c11, c12, c13, c14, c15, c16, c17⟩ := E0.out.f))
      | (go_at_call 27; (with_reducible refine (ldx_lo _).mono ?_); rintro E w1 ⟨n, rfl, hw⟩; subst w1)
      | (go_at_call 27; (with_reducible refine (ldx_hi _).mono ?_); rintro E w1 ⟨n, rfl, hw⟩; subst w1))
  all_goals go_ret
  all_goals exact ⟨rfl, by first | exact E0.out.bel | exact below_dN E0.out.bel _⟩
set_option maxRecDepth 100000 in
set_option maxHeartbeats 4000000 in
theorem dbl_main_3 (w : World) (x : Elm) (o O m M q q' : Nat) (hk3 : ((x.k : Int) != 3) = false) (hk5 : ((x.k : Int) == 3) = true)
    (v1 : (FloatKind.f64.format.order m 103582791429521408 == some .lt) = false) (v2 : (FloatKind.f64.format.order m 9110782046170513408 == some .gt) = false) (v3 : (FloatKind.f64.format.order o 9110782046170513408 == some .gt) = false) (v4 : (FloatKind.f64.format.order o 103582791429521408 == some .lt) = false)
    (mv : ∀ W, mulV W o x.v = m) (mn : fN (mulO o x.v) = 0) (ov : ∀ W, mulV W 4611686018427387904 o = O) (on : fN (mulO 4611686018427387904 o) = 0) (mm : ∀ W, mulV W 4611686018427387904 m = M) (mmn : fN (mulO 4611686018427387904 m) = 0) (qm : ∀ W, mulV W 4611686018427387904 (ngW q') = ngW q) (qmn : fN (mulO 4611686018427387904 (ngW q')) = 0)
    (s1 : FloatKind.f64.format.order M M = some .eq) (s2 : FloatKind.f64.format.order (ngW q) (ngW q) = some .eq)
    (k1 : Hid (∀ W, Calls Try.prog 10 #[.agg #[.int .u8 (x.k : Int), .string x.n, .string x.a, .string x.b, .string x.c, .string x.d, .float .f64 x.v, .int .i64 x.ph], .float .f64 o] W fun e w' => e = .returned (.tuple #[.complex .f64 0 m, .int .i64 0]) ∧ Below W.heap.size W w'))
    (k3 : Hid (∀ W, Calls Try.prog 12 #[.agg #[.int .u8 (x.k : Int), .string x.n, .string x.a, .string x.b, .string x.c, .string x.d, .float .f64 x.v, .int .i64 x.ph], .float .f64 o] W fun e w' => e = .returned (.tuple #[.complex .f64 0 (ngW m), .int .i64 0]) ∧ Below W.heap.size W w'))
    (kc : Hid (∀ W, Calls Try.prog 25 #[.complex .f64 0 m] W fun e w' => e = .returned (.complex .f64 0 (ngW m)) ∧ w' = W))
    (kk : Hid (∀ W, Calls Try.prog 26 #[.agg #[.int .u8 (x.k : Int), .string x.n, .string x.a, .string x.b, .string x.c, .string x.d, .float .f64 x.v, .int .i64 x.ph]] W fun e w' => e = .returned (.int .i64 0) ∧ Below W.heap.size W w'))
    (k7 : Hid (∀ W, Calls Try.prog 10 #[.agg #[.int .u8 (x.k : Int), .string x.n, .string x.a, .string x.b, .string x.c, .string x.d, .float .f64 x.v, .int .i64 x.ph], .float .f64 O] W fun e w' => e = .returned (.tuple #[.complex .f64 0 M, .int .i64 0]) ∧ Below W.heap.size W w'))
    (k8 : Hid (∀ W, Calls Try.prog 11 #[.agg #[.int .u8 (x.k : Int), .string x.n, .string x.a, .string x.b, .string x.c, .string x.d, .float .f64 x.v, .int .i64 x.ph], .float .f64 o] W fun e w' => e = .returned (.tuple #[.complex .f64 0 (ngW q), .int .i64 0]) ∧ Below W.heap.size W w'))
    (k9 : Hid (∀ W, Calls Try.prog 11 #[.agg #[.int .u8 (x.k : Int), .string x.n, .string x.a, .string x.b, .string x.c, .string x.d, .float .f64 x.v, .int .i64 x.ph], .float .f64 O] W fun e w' => e = .returned (.tuple #[.complex .f64 0 (ngW q'), .int .i64 0]) ∧ Below W.heap.size W w')) :
    Calls Try.prog 6 #[inV x, .int .u64 (o : Int)] w fun e w' => e = .returned (.bool true) ∧ Below w.heap.size w w' := by
  unfold inV
  go_enter Try.func6, Try.ntmps6
  go_wp2_with (first
      | (go_at_call 8; (with_reducible refine (element_eq x _).mono ?_); rintro E w1 ⟨rfl, hw⟩; unfold elV)
      | (go_at_call 10; (with_reducible refine (k1.out _).mono ?_); rintro E w2 ⟨rfl, hb⟩; (have E1 : Hid (EC w w2 (w.heap.size + 3) x) := by first | exact (ec_four w x _ _ _).below hb | exact (ec_four w x _ _ _).below (undrN hb)); clear hb hw; (have E0 : Hid (EC w w2 (w.heap.size + 3) x) := E1.out); clear E1; (obtain ⟨l1, c10, c11, c12, c13, c14, c15, c16, c17⟩ := E0.out.f))
      | (go_at_call 12; (with_reducible refine (k3.out _).mono ?_); rintro E w2 ⟨rfl, hb⟩; (have E1 : Hid (EC w w2 (w.heap.size + 3) x) := by first | exact E0.out.below hb | exact E0.out.below (undrN hb)); clear hb E0; (have E0 : Hid (EC w w2 (w.heap.size + 3) x) := E1.out); clear E1; (obtain ⟨l1, c10, c11, c12, c13, c14, c15, c16, c17⟩ := E0.out.f))
      | (go_at_call 25; (with_reducible refine (kc.out _).mono ?_); rintro E w1 ⟨rfl, hw⟩; subst w1)
      | (go_at_call 17; (with_reducible refine (same_self _ _ _).mono ?_); rintro E w1 ⟨rfl, hw⟩; subst w1)
      | (go_at_call 16; (with_reducible refine (lives17 _).mono ?_); rintro E w2 ⟨rfl, hb⟩; (have E1 : Hid (EC w w2 (w.heap.size + 3) x) := by first | exact E0.out.below hb | exact E0.out.below (undrN hb)); clear hb E0; (have E0 : Hid (EC w w2 (w.heap.size + 3) x) := E1.out); clear E1; (obtain ⟨l1, c10, c11, c12, c13, c14, c15, c16, c17⟩ := E0.out.f))
      | (go_at_call 26; (with_reducible refine (kk.out _).mono ?_); rintro E w2 ⟨rfl, hb⟩; (have E1 : Hid (EC w w2 (w.heap.size + 3) x) := by first | exact E0.out.below hb | exact E0.out.below (undrN hb)); clear hb E0; (have E0 : Hid (EC w w2 (w.heap.size + 3) x) := E1.out); clear E1; (obtain ⟨l1, c10, c11, c12, c13, c14, c15, c16, c17⟩ := E0.out.f))
      | (go_at_call 27; (with_reducible refine (ldx_lo _).mono ?_); rintro E w1 ⟨n, rfl, hw⟩; subst w1)
      | (go_at_call 27; (with_reducible refine (ldx_hi _).mono ?_); rintro E w1 ⟨n, rfl, hw⟩; subst w1)
      | (go_at_call 10; (with_reducible refine (k7.out _).mono ?_); rintro E w2 ⟨rfl, hb⟩; (have E1 : Hid (EC w w2 (w.heap.size + 3) x) := by first | exact E0.out.below hb | exact E0.out.below (undrN hb)); clear hb E0; (have E0 : Hid (EC w w2 (w.heap.size + 3) x) := E1.out); clear E1; (obtain ⟨l1, c10, c11, c12, c13, c14, c15, c16, c17⟩ := E0.out.f))
      | (go_at_call 11; (with_reducible refine (k8.out _).mono ?_); rintro E w2 ⟨rfl, hb⟩; (have E1 : Hid (EC w w2 (w.heap.size + 3) x) := by first | exact E0.out.below hb | exact E0.out.below (undrN hb)); clear hb E0; (have E0 : Hid (EC w w2 (w.heap.size + 3) x) := E1.out); clear E1; (obtain ⟨l1, c10, c11, c12, c13, c14, c15, c16, c17⟩ := E0.out.f))
      | (go_at_call 11; (with_reducible refine (k9.out _).mono ?_); rintro E w2 ⟨rfl, hb⟩; (have E1 : Hid (EC w w2 (w.heap.size + 3) x) := by first | exact E0.out.below hb | exact E0.out.below (undrN hb)); clear hb E0; (have E0 : Hid (EC w w2 (w.heap.size + 3) x) := E1.out); clear E1; (obtain ⟨l1, c10, c11, c12, c13, c14, c15, c16, c17⟩ := E0.out.f)))
  all_goals go_ret
  all_goals exact ⟨rfl, by first | exact E0.out.bel | exact below_dN E0.out.bel _⟩
set_option maxRecDepth 100000 in
set_option maxHeartbeats 4000000 in
theorem dbl_main_2 (w : World) (x : Elm) (o O m M q q' : Nat) (hk3 : ((x.k : Int) != 3) = true) (hk2 : ((x.k : Int) != 2) = false) (hk5 : ((x.k : Int) == 3) = false)
    (v1 : (FloatKind.f64.format.order m 103582791429521408 == some .lt) = false) (v2 : (FloatKind.f64.format.order m 9110782046170513408 == some .gt) = false) (v3 : (FloatKind.f64.format.order o 9110782046170513408 == some .gt) = false) (v4 : (FloatKind.f64.format.order o 103582791429521408 == some .lt) = false)
    (mv : ∀ W, mulV W o x.v = m) (mn : fN (mulO o x.v) = 0) (ov : ∀ W, mulV W 4611686018427387904 o = O) (on : fN (mulO 4611686018427387904 o) = 0) (mm : ∀ W, mulV W 4611686018427387904 m = M) (mmn : fN (mulO 4611686018427387904 m) = 0) (qm : ∀ W, mulV W 4611686018427387904 (ngW q') = ngW q) (qmn : fN (mulO 4611686018427387904 (ngW q')) = 0)
    (s1 : FloatKind.f64.format.order M M = some .eq) (s2 : FloatKind.f64.format.order (ngW q) (ngW q) = some .eq)
    (k1 : Hid (∀ W, Calls Try.prog 10 #[.agg #[.int .u8 (x.k : Int), .string x.n, .string x.a, .string x.b, .string x.c, .string x.d, .float .f64 x.v, .int .i64 x.ph], .float .f64 o] W fun e w' => e = .returned (.tuple #[.complex .f64 0 (ngW q), .int .i64 0]) ∧ Below W.heap.size W w'))
    (k3 : Hid (∀ W, Calls Try.prog 12 #[.agg #[.int .u8 (x.k : Int), .string x.n, .string x.a, .string x.b, .string x.c, .string x.d, .float .f64 x.v, .int .i64 x.ph], .float .f64 o] W fun e w' => e = .returned (.tuple #[.complex .f64 0 (ngW (ngW q)), .int .i64 0]) ∧ Below W.heap.size W w'))
    (kc : Hid (∀ W, Calls Try.prog 25 #[.complex .f64 0 (ngW q)] W fun e w' => e = .returned (.complex .f64 0 (ngW (ngW q))) ∧ w' = W))
    (kk : Hid (∀ W, Calls Try.prog 26 #[.agg #[.int .u8 (x.k : Int), .string x.n, .string x.a, .string x.b, .string x.c, .string x.d, .float .f64 x.v, .int .i64 x.ph]] W fun e w' => e = .returned (.int .i64 0) ∧ Below W.heap.size W w'))
    (k7 : Hid (∀ W, Calls Try.prog 10 #[.agg #[.int .u8 (x.k : Int), .string x.n, .string x.a, .string x.b, .string x.c, .string x.d, .float .f64 x.v, .int .i64 x.ph], .float .f64 O] W fun e w' => e = .returned (.tuple #[.complex .f64 0 (ngW q'), .int .i64 0]) ∧ Below W.heap.size W w'))
    (k8 : Hid (∀ W, Calls Try.prog 11 #[.agg #[.int .u8 (x.k : Int), .string x.n, .string x.a, .string x.b, .string x.c, .string x.d, .float .f64 x.v, .int .i64 x.ph], .float .f64 o] W fun e w' => e = .returned (.tuple #[.complex .f64 0 m, .int .i64 0]) ∧ Below W.heap.size W w'))
    (k9 : Hid (∀ W, Calls Try.prog 11 #[.agg #[.int .u8 (x.k : Int), .string x.n, .string x.a, .string x.b, .string x.c, .string x.d, .float .f64 x.v, .int .i64 x.ph], .float .f64 O] W fun e w' => e = .returned (.tuple #[.complex .f64 0 M, .int .i64 0]) ∧ Below W.heap.size W w')) :
    Calls Try.prog 6 #[inV x, .int .u64 (o : Int)] w fun e w' => e = .returned (.bool true) ∧ Below w.heap.size w w' := by
  unfold inV
  go_enter Try.func6, Try.ntmps6
  go_wp2_with (first
      | (go_at_call 8; (with_reducible refine (element_eq x _).mono ?_); rintro E w1 ⟨rfl, hw⟩; unfold elV)
      | (go_at_call 10; (with_reducible refine (k1.out _).mono ?_); rintro E w2 ⟨rfl, hb⟩; (have E1 : Hid (EC w w2 (w.heap.size + 3) x) := by first | exact (ec_four w x _ _ _).below hb | exact (ec_four w x _ _ _).below (undrN hb)); clear hb hw; (have E0 : Hid (EC w w2 (w.heap.size + 3) x) := E1.out); clear E1; (obtain ⟨l1, c10, c11, c12, c13, c14, c15, c16, c17⟩ := E0.out.f))
      | (go_at_call 12; (with_reducible refine (k3.out _).mono ?_); rintro E w2 ⟨rfl, hb⟩; (have E1 : Hid (EC w w2 (w.heap.size + 3) x) := by first | exact E0.out.below hb | exact E0.out.below (undrN hb)); clear hb E0; (have E0 : Hid (EC w w2 (w.heap.size + 3) x) := E1.out); clear E1; (obtain ⟨l1, c10, c11, c12, c13, c14, c15, c16, c17⟩ := E0.out.f))
      | (go_at_call 25; (with_reducible refine (kc.out _).mono ?_); rintro E w1 ⟨rfl, hw⟩; subst w1)
      | (go_at_call 17; (with_reducible refine (same_self _ _ _).mono ?_); rintro E w1 ⟨rfl, hw⟩; subst w1)
      | (go_at_call 16; (with_reducible refine (lives17 _).mono ?_); rintro E w2 ⟨rfl, hb⟩; (have E1 : Hid (EC w w2 (w.heap.size + 3) x) := by first | exact E0.out.below hb | exact E0.out.below (undrN hb)); clear hb E0; (have E0 : Hid (EC w w2 (w.heap.size + 3) x) := E1.out); clear E1; (obtain ⟨l1, c10, c11, c12, c13, c14, c15, c16, c17⟩ := E0.out.f))
      | (go_at_call 26; (with_reducible refine (kk.out _).mono ?_); rintro E w2 ⟨rfl, hb⟩; (have E1 : Hid (EC w w2 (w.heap.size + 3) x) := by first | exact E0.out.below hb | exact E0.out.below (undrN hb)); clear hb E0; (have E0 : Hid (EC w w2 (w.heap.size + 3) x) := E1.out); clear E1; (obtain ⟨l1, c10, c11, c12, c13, c14, c15, c16, c17⟩ := E0.out.f))
      | (go_at_call 27; (with_reducible refine (ldx_lo _).mono ?_); rintro E w1 ⟨n, rfl, hw⟩; subst w1)
      | (go_at_call 27; (with_reducible refine (ldx_hi _).mono ?_); rintro E w1 ⟨n, rfl, hw⟩; subst w1)
      | (go_at_call 10; (with_reducible refine (k7.out _).mono ?_); rintro E w2 ⟨rfl, hb⟩; (have E1 : Hid (EC w w2 (w.heap.size + 3) x) := by first | exact E0.out.below hb | exact E0.out.below (undrN hb)); clear hb E0; (have E0 : Hid (EC w w2 (w.heap.size + 3) x) := E1.out); clear E1; (obtain ⟨l1, c10, c11, c12, c13, c14, c15, c16, c17⟩ := E0.out.f))
      | (go_at_call 11; (with_reducible refine (k8.out _).mono ?_); rintro E w2 ⟨rfl, hb⟩; (have E1 : Hid (EC w w2 (w.heap.size + 3) x) := by first | exact E0.out.below hb | exact E0.out.below (undrN hb)); clear hb E0; (have E0 : Hid (EC w w2 (w.heap.size + 3) x) := E1.out); clear E1; (obtain ⟨l1, c10, c11, c12, c13, c14, c15, c16, c17⟩ := E0.out.f))
      | (go_at_call 11; (with_reducible refine (k9.out _).mono ?_); rintro E w2 ⟨rfl, hb⟩; (have E1 : Hid (EC w w2 (w.heap.size + 3) x) := by first | exact E0.out.below hb | exact E0.out.below (undrN hb)); clear hb E0; (have E0 : Hid (EC w w2 (w.heap.size + 3) x) := E1.out); clear E1; (obtain ⟨l1, c10, c11, c12, c13, c14, c15, c16, c17⟩ := E0.out.f)))
  all_goals go_ret
  all_goals exact ⟨rfl, by first | exact E0.out.bel | exact below_dN E0.out.bel _⟩
end Go.Proofs.Ytnmibhgfcepddaa
