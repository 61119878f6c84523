/-
  The walk of AdmitCalls.
-/
import Derived.Test.YtnmibhgfcepddaaAdi
import Derived.Test.YtnmibhgfcepddaaElk
import Derived.Test.YtnmibhgfcepddaaElo
import Derived.Deep.Cut
namespace Go.Proofs.Ytnmibhgfcepddaa
open Fl RowKit
set_option linter.unusedVariables false

theorem aof_v (x : Elm) (o : Nat) (w : World) (h : x.ok) (ho : o < 18446744073709551616) (a b : Nat) (f : Int) (hu : ofT x o = (a, b, f)) :
    Calls Try.prog 10 #[.agg #[.int .u8 (x.k : Int), .string x.n, .string x.a, .string x.b, .string x.c, .string x.d, .float .f64 x.v, .int .i64 x.ph], .float .f64 o] w fun e w' => e = .returned (.tuple #[.complex .f64 a b, .int .i64 f]) ∧ Below w.heap.size w w' := aof_w x o w h ho _ hu
theorem aimp_v (x : Elm) (o : Nat) (w : World) (h : x.ok) (ho : o < 18446744073709551616) (a b : Nat) (f : Int) (hu : imT x o = (a, b, f)) :
    Calls Try.prog 11 #[.agg #[.int .u8 (x.k : Int), .string x.n, .string x.a, .string x.b, .string x.c, .string x.d, .float .f64 x.v, .int .i64 x.ph], .float .f64 o] w fun e w' => e = .returned (.tuple #[.complex .f64 a b, .int .i64 f]) ∧ Below w.heap.size w w' := by have := aimp_any x o w h ho; rw [hu] at this; exact this
theorem acj_v (x : Elm) (o : Nat) (w : World) (h : x.ok) (ho : o < 18446744073709551616) (a b : Nat) (f : Int) (hu : cjT x o = (a, b, f)) :
    Calls Try.prog 12 #[.agg #[.int .u8 (x.k : Int), .string x.n, .string x.a, .string x.b, .string x.c, .string x.d, .float .f64 x.v, .int .i64 x.ph], .float .f64 o] w fun e w' => e = .returned (.tuple #[.complex .f64 a b, .int .i64 f]) ∧ Below w.heap.size w w' := by have := aconj_any x o w h ho; rw [hu] at this; exact this
theorem rof_v (x : Elm) (o : Nat) (w : World) (h : x.ok) (ho : o < 18446744073709551616) (a b : Nat) (f : Int) (hu : ofT x o = (a, b, f)) :
    Calls Try.prog 13 #[.agg #[.int .u8 (x.k : Int), .string x.n, .string x.a, .string x.b, .string x.c, .string x.d, .float .f64 x.v, .int .i64 x.ph], .float .f64 o] w fun e w' => e = .returned (.tuple #[.complex .f64 a b, .int .i64 f]) ∧ Below w.heap.size w w' := rof_w x o w h ho _ hu
theorem rimp_v (x : Elm) (o : Nat) (w : World) (h : x.ok) (ho : o < 18446744073709551616) (a b : Nat) (f : Int) (hu : imT x o = (a, b, f)) :
    Calls Try.prog 14 #[.agg #[.int .u8 (x.k : Int), .string x.n, .string x.a, .string x.b, .string x.c, .string x.d, .float .f64 x.v, .int .i64 x.ph], .float .f64 o] w fun e w' => e = .returned (.tuple #[.complex .f64 a b, .int .i64 f]) ∧ Below w.heap.size w w' := by have := rimp_any17 x o w h ho; rw [hu] at this; exact this
theorem rcj_v (x : Elm) (o : Nat) (w : World) (h : x.ok) (ho : o < 18446744073709551616) (a b : Nat) (f : Int) (hu : cjT x o = (a, b, f)) :
    Calls Try.prog 15 #[.agg #[.int .u8 (x.k : Int), .string x.n, .string x.a, .string x.b, .string x.c, .string x.d, .float .f64 x.v, .int .i64 x.ph], .float .f64 o] w fun e w' => e = .returned (.tuple #[.complex .f64 a b, .int .i64 f]) ∧ Below w.heap.size w w' := by have := rcj_any17 x o w h ho; rw [hu] at this; exact this
theorem same_self (a b : Nat) (w : World) : Calls Try.prog 17 #[.complex .f64 a b, .complex .f64 a b] w fun e w' => e = .returned (.bool true) ∧ w' = w := by
  have := rsame_any a b a b w; rw [smB_self, smB_self] at this; exact this
theorem undr1 {a b : World} (h : Below a.drew.heap.size a.drew b) : Below a.heap.size a b := undrN (n := 1) h
/-- an element handed in, made, and laid -/
theorem ec_four (w : World) (x : Elm) (o1 o2 o3 : Obj) : EC w (((((w.alloc o1).alloc o2).alloc o3).alloc (.cells (elA x) 28)).drew) (w.heap.size + 3) x := by
  have h := ec_new (((w.alloc o1).alloc o2).alloc o3) x
  have hs : (((w.alloc o1).alloc o2).alloc o3).heap.size = w.heap.size + 3 := by rw [al_size, al_size, al_size]
  rw [hs] at h
  have hb : Below w.heap.size w (((w.alloc o1).alloc o2).alloc o3) := (below_2 w o1 o2).alloc (by simp; omega) _
  exact ⟨below_dN (hb.trans ((by rw [← hs]; exact h.bel : Below (w.heap.size + 3) _ _).mono (by omega))) 1, h.e⟩
set_option maxRecDepth 100000 in
set_option maxHeartbeats 2000000 in
theorem calls_walk (w : World) (x : Elm) (hx : x.ok) (o : Nat) (ho : o < 18446744073709551616) :
    Calls Try.prog 3 #[inV x, .int .u64 (o : Int)] w fun e w' => e = .returned (.bool true) ∧ Below w.heap.size w w' := by
  obtain ⟨⟨a1, b1, f1⟩, hu1⟩ : ∃ u, ofT x o = u := ⟨_, rfl⟩
  obtain ⟨⟨a2, b2, f2⟩, hu2⟩ : ∃ u, imT x o = u := ⟨_, rfl⟩
  obtain ⟨⟨a3, b3, f3⟩, hu3⟩ : ∃ u, cjT x o = u := ⟨_, rfl⟩
  have k1 : Hid _ := fun W => aof_v x o W hx ho a1 b1 f1 hu1
  have k2 : Hid _ := fun W => aimp_v x o W hx ho a2 b2 f2 hu2
  have k3 : Hid _ := fun W => acj_v x o W hx ho a3 b3 f3 hu3
  have k4 : Hid _ := fun W => rof_v x o W hx ho a1 b1 f1 hu1
  have k5 : Hid _ := fun W => rimp_v x o W hx ho a2 b2 f2 hu2
  have k6 : Hid _ := fun W => rcj_v x o W hx ho a3 b3 f3 hu3
  clear hu1 hu2 hu3 hx ho
  unfold inV
  go_enter Try.func3, Try.ntmps3
  go_wp2_with (first
    | (go_at_call 8; (with_reducible refine (element_eq x _).mono ?_); rintro E w1 ⟨rfl, hw⟩; unfold elV)
    | (go_at_call 10; (with_reducible refine (k1.out _).mono ?_); rintro E w2 ⟨rfl, hb⟩; (have E1 : Hid (EC w w2 (w.heap.size + 3) x) := (ec_four w x _ _ _).below hb); clear hb hw; (obtain ⟨l1, c10, c11, c12, c13, c14, c15, c16, c17⟩ := E1.out.f))
    | (go_at_call 11; (with_reducible refine (k2.out _).mono ?_); rintro E w3 ⟨rfl, hb⟩; (have E2 : Hid (EC w w3 (w.heap.size + 3) x) := E1.out.below hb); clear hb E1 c10 c11 c12 c13 c14 c15 c16 c17; (obtain ⟨l2, c20, c21, c22, c23, c24, c25, c26, c27⟩ := E2.out.f))
    | (go_at_call 12; (with_reducible refine (k3.out _).mono ?_); rintro E w4 ⟨rfl, hb⟩; (have E3 : Hid (EC w w4 (w.heap.size + 3) x) := E2.out.below hb); clear hb E2 c20 c21 c22 c23 c24 c25 c26 c27; (obtain ⟨l3, c30, c31, c32, c33, c34, c35, c36, c37⟩ := E3.out.f))
    | (go_at_call 13; (with_reducible refine (k4.out _).mono ?_); rintro E w5 ⟨rfl, hb⟩; (have E4 : Hid (EC w w5 (w.heap.size + 3) x) := E3.out.below hb); clear hb E3 c30 c31 c32 c33 c34 c35 c36 c37; (obtain ⟨l4, c40, c41, c42, c43, c44, c45, c46, c47⟩ := E4.out.f))
    | (go_at_call 14; (with_reducible refine (k5.out _).mono ?_); rintro E w6 ⟨rfl, hb⟩; (have E5 : Hid (EC w w6 (w.heap.size + 3) x) := E4.out.below hb); clear hb E4 c40 c41 c42 c43 c44 c45 c46 c47; (obtain ⟨l5, c50, c51, c52, c53, c54, c55, c56, c57⟩ := E5.out.f))
    | (go_at_call 15; (with_reducible refine (k6.out _).mono ?_); rintro E w7 ⟨rfl, hb⟩; (have E6 : Hid (EC w w7 (w.heap.size + 3) x) := E5.out.below hb); clear hb E5 c50 c51 c52 c53 c54 c55 c56 c57; (obtain ⟨l6, c60, c61, c62, c63, c64, c65, c66, c67⟩ := E6.out.f))
    | (go_at_call 16; (with_reducible refine (lives17 _).mono ?_); rintro E w9 ⟨rfl, hb⟩; (have E7 : Hid (EC w w9 (w.heap.size + 3) x) := E6.out.below hb); clear hb E6)
    | (go_at_call 17; (with_reducible refine (same_self _ _ _).mono ?_); rintro E w1 ⟨rfl, hw⟩; subst w1))
  go_ret
  exact ⟨rfl, E7.out.bel⟩
end Go.Proofs.Ytnmibhgfcepddaa
