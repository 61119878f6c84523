/-
  The walk of AdmitNames.
-/
import Derived.Test.YtnmibhgfcepddaaWAH
import Derived.Test.YtnmibhgfcepddaaWAC
namespace Go.Proofs.Ytnmibhgfcepddaa
open Fl RowKit
set_option linter.unusedVariables false

def cjK (k v o : Nat) : Tr3 := if (adK k v o).2.2 = 0 then ((adK k v o).1, ngW (adK k v o).2.1, 0) else (0, 0, (adK k v o).2.2)
theorem cj_K {k v o : Nat} (hk : kSix k) : cjT (eK k v) o = cjK k v o := by unfold cjT cjK; rw [of_K hk]
theorem cj_l (k c v o : Nat) (hk : kSix k) (hc : UInt8.ofNat (ltr k) = UInt8.ofNat c) (hv : v < 18446744073709551616) (ho : o < 18446744073709551616) (u : Tr3) (hu : cjK k v o = u) (w : World) :
    Calls Try.prog 12 #[.agg #[.int .u8 (k : Int), .string ⟨#[UInt8.ofNat c, 49]⟩, .string ⟨#[49]⟩, .string ⟨#[48]⟩, .string ⟨#[]⟩, .string ⟨#[]⟩, .float .f64 v, .int .i64 0], .float .f64 o] w fun e w' => e = .returned (.tuple #[.complex .f64 u.1 u.2.1, .int .i64 u.2.2]) ∧ Below w.heap.size w w' := by
  have h8 : k < 256 := by unfold kSix at hk; omega
  have h := aconj_any (eK k v) o w (eK_ok h8 hv) ho
  rw [cj_K hk, hu] at h
  unfold elV eK at h
  rw [hc] at h
  exact h
set_option maxRecDepth 100000 in
theorem code_0 (w : World) : Calls Try.prog 29 #[.int .u8 1, .float .f64 1, .float .f64 4607182418800017408] w fun e w' => e = .returned (.int .i64 6) ∧ Below w.heap.size w w' := by
  have o0 := oeqn 0 (by decide)
  have k1 : Hid (∀ W, Calls Try.prog 10 #[.agg #[.int .u8 1, .string ⟨#[82, 49]⟩, .string ⟨#[49]⟩, .string ⟨#[48]⟩, .string ⟨#[]⟩, .string ⟨#[]⟩, .float .f64 1, .int .i64 0], .float .f64 4607182418800017408] W fun e w' => e = .returned (.tuple #[.complex .f64 0 0, .int .i64 6]) ∧ Below W.heap.size W w') := of_l 1 82 1 4607182418800017408 (.inl rfl) rfl (by decide) (by decide) (0, 0, 6) (by kernel_rfl)
  have B : Hid (Below w.heap.size w w) := Below.refl _ _
  go_enter Try.func29, Try.ntmps29
  go_wp2_with (first
      | (go_at_call 23; (with_reducible refine (of17_1 _ _).mono ?_); rintro E w2 ⟨rfl, hb⟩; (replace B : Hid (Below w.heap.size w w2) := by first | exact bt17 B.out hb | exact bt17 B.out (undrN hb)); clear hb)
      | (go_at_call 10; (with_reducible refine (k1.out _).mono ?_); rintro E w2 ⟨rfl, hb⟩; (replace B : Hid (Below w.heap.size w w2) := by first | exact bt17 B.out hb | exact bt17 B.out (undrN hb)); clear hb))
  go_ret
  exact ⟨rfl, B.out⟩
set_option maxRecDepth 100000 in
theorem code_1 (w : World) : Calls Try.prog 29 #[.int .u8 2, .float .f64 1, .float .f64 4591870180066957722] w fun e w' => e = .returned (.int .i64 6) ∧ Below w.heap.size w w' := by
  have o0 := oeqn 0 (by decide)
  have k1 : Hid (∀ W, Calls Try.prog 10 #[.agg #[.int .u8 2, .string ⟨#[76, 49]⟩, .string ⟨#[49]⟩, .string ⟨#[48]⟩, .string ⟨#[]⟩, .string ⟨#[]⟩, .float .f64 1, .int .i64 0], .float .f64 4591870180066957722] W fun e w' => e = .returned (.tuple #[.complex .f64 0 0, .int .i64 6]) ∧ Below W.heap.size W w') := of_l 2 76 1 4591870180066957722 (.inr (.inl rfl)) rfl (by decide) (by decide) (0, 0, 6) (by kernel_rfl)
  have B : Hid (Below w.heap.size w w) := Below.refl _ _
  go_enter Try.func29, Try.ntmps29
  go_wp2_with (first
      | (go_at_call 23; (with_reducible refine (of17_2 _ _).mono ?_); rintro E w2 ⟨rfl, hb⟩; (replace B : Hid (Below w.heap.size w w2) := by first | exact bt17 B.out hb | exact bt17 B.out (undrN hb)); clear hb)
      | (go_at_call 10; (with_reducible refine (k1.out _).mono ?_); rintro E w2 ⟨rfl, hb⟩; (replace B : Hid (Below w.heap.size w w2) := by first | exact bt17 B.out hb | exact bt17 B.out (undrN hb)); clear hb))
  go_ret
  exact ⟨rfl, B.out⟩
set_option maxRecDepth 100000 in
theorem code_2 (w : World) : Calls Try.prog 29 #[.int .u8 4, .float .f64 4607182418800017408, .float .f64 4607182418800017408] w fun e w' => e = .returned (.int .i64 2) ∧ Below w.heap.size w w' := by
  have o0 := oeqn 0 (by decide)
  have k1 : Hid (∀ W, Calls Try.prog 10 #[.agg #[.int .u8 4, .string ⟨#[73, 49]⟩, .string ⟨#[49]⟩, .string ⟨#[48]⟩, .string ⟨#[]⟩, .string ⟨#[]⟩, .float .f64 4607182418800017408, .int .i64 0], .float .f64 4607182418800017408] W fun e w' => e = .returned (.tuple #[.complex .f64 0 0, .int .i64 2]) ∧ Below W.heap.size W w') := of_l 4 73 4607182418800017408 4607182418800017408 (.inr (.inr (.inr (.inl rfl)))) rfl (by decide) (by decide) (0, 0, 2) (by kernel_rfl)
  have B : Hid (Below w.heap.size w w) := Below.refl _ _
  go_enter Try.func29, Try.ntmps29
  go_wp2_with (first
      | (go_at_call 23; (with_reducible refine (of17_4 _ _).mono ?_); rintro E w2 ⟨rfl, hb⟩; (replace B : Hid (Below w.heap.size w w2) := by first | exact bt17 B.out hb | exact bt17 B.out (undrN hb)); clear hb)
      | (go_at_call 10; (with_reducible refine (k1.out _).mono ?_); rintro E w2 ⟨rfl, hb⟩; (replace B : Hid (Below w.heap.size w w2) := by first | exact bt17 B.out hb | exact bt17 B.out (undrN hb)); clear hb))
  go_ret
  exact ⟨rfl, B.out⟩
set_option maxRecDepth 100000 in
theorem code_3 (w : World) : Calls Try.prog 29 #[.int .u8 1, .float .f64 4607182418800017408, .float .f64 0] w fun e w' => e = .returned (.int .i64 2) ∧ Below w.heap.size w w' := by
  have o0 := oeqn 0 (by decide)
  have k1 : Hid (∀ W, Calls Try.prog 10 #[.agg #[.int .u8 1, .string ⟨#[82, 49]⟩, .string ⟨#[49]⟩, .string ⟨#[48]⟩, .string ⟨#[]⟩, .string ⟨#[]⟩, .float .f64 4607182418800017408, .int .i64 0], .float .f64 0] W fun e w' => e = .returned (.tuple #[.complex .f64 0 0, .int .i64 2]) ∧ Below W.heap.size W w') := of_l 1 82 4607182418800017408 0 (.inl rfl) rfl (by decide) (by decide) (0, 0, 2) (by kernel_rfl)
  have B : Hid (Below w.heap.size w w) := Below.refl _ _
  go_enter Try.func29, Try.ntmps29
  go_wp2_with (first
      | (go_at_call 23; (with_reducible refine (of17_1 _ _).mono ?_); rintro E w2 ⟨rfl, hb⟩; (replace B : Hid (Below w.heap.size w w2) := by first | exact bt17 B.out hb | exact bt17 B.out (undrN hb)); clear hb)
      | (go_at_call 10; (with_reducible refine (k1.out _).mono ?_); rintro E w2 ⟨rfl, hb⟩; (replace B : Hid (Below w.heap.size w w2) := by first | exact bt17 B.out hb | exact bt17 B.out (undrN hb)); clear hb))
  go_ret
  exact ⟨rfl, B.out⟩
set_option maxRecDepth 100000 in
theorem code_4 (w : World) : Calls Try.prog 29 #[.int .u8 1, .float .f64 4607182418800017408, .float .f64 13830554455654793216] w fun e w' => e = .returned (.int .i64 2) ∧ Below w.heap.size w w' := by
  have o0 := oeqn 0 (by decide)
  have k1 : Hid (∀ W, Calls Try.prog 10 #[.agg #[.int .u8 1, .string ⟨#[82, 49]⟩, .string ⟨#[49]⟩, .string ⟨#[48]⟩, .string ⟨#[]⟩, .string ⟨#[]⟩, .float .f64 4607182418800017408, .int .i64 0], .float .f64 13830554455654793216] W fun e w' => e = .returned (.tuple #[.complex .f64 0 0, .int .i64 2]) ∧ Below W.heap.size W w') := of_l 1 82 4607182418800017408 13830554455654793216 (.inl rfl) rfl (by decide) (by decide) (0, 0, 2) (by kernel_rfl)
  have B : Hid (Below w.heap.size w w) := Below.refl _ _
  go_enter Try.func29, Try.ntmps29
  go_wp2_with (first
      | (go_at_call 23; (with_reducible refine (of17_1 _ _).mono ?_); rintro E w2 ⟨rfl, hb⟩; (replace B : Hid (Below w.heap.size w w2) := by first | exact bt17 B.out hb | exact bt17 B.out (undrN hb)); clear hb)
      | (go_at_call 10; (with_reducible refine (k1.out _).mono ?_); rintro E w2 ⟨rfl, hb⟩; (replace B : Hid (Below w.heap.size w w2) := by first | exact bt17 B.out hb | exact bt17 B.out (undrN hb)); clear hb))
  go_ret
  exact ⟨rfl, B.out⟩
set_option maxRecDepth 100000 in
theorem code_5 (w : World) : Calls Try.prog 29 #[.int .u8 1, .float .f64 4607182418800017408, .float .f64 9221120237041090561] w fun e w' => e = .returned (.int .i64 5) ∧ Below w.heap.size w w' := by
  have o0 := oeqn 0 (by decide)
  have k1 : Hid (∀ W, Calls Try.prog 10 #[.agg #[.int .u8 1, .string ⟨#[82, 49]⟩, .string ⟨#[49]⟩, .string ⟨#[48]⟩, .string ⟨#[]⟩, .string ⟨#[]⟩, .float .f64 4607182418800017408, .int .i64 0], .float .f64 9221120237041090561] W fun e w' => e = .returned (.tuple #[.complex .f64 0 0, .int .i64 5]) ∧ Below W.heap.size W w') := of_l 1 82 4607182418800017408 9221120237041090561 (.inl rfl) rfl (by decide) (by decide) (0, 0, 5) (by kernel_rfl)
  have B : Hid (Below w.heap.size w w) := Below.refl _ _
  go_enter Try.func29, Try.ntmps29
  go_wp2_with (first
      | (go_at_call 23; (with_reducible refine (of17_1 _ _).mono ?_); rintro E w2 ⟨rfl, hb⟩; (replace B : Hid (Below w.heap.size w w2) := by first | exact bt17 B.out hb | exact bt17 B.out (undrN hb)); clear hb)
      | (go_at_call 10; (with_reducible refine (k1.out _).mono ?_); rintro E w2 ⟨rfl, hb⟩; (replace B : Hid (Below w.heap.size w w2) := by first | exact bt17 B.out hb | exact bt17 B.out (undrN hb)); clear hb))
  go_ret
  exact ⟨rfl, B.out⟩
set_option maxRecDepth 100000 in
set_option maxHeartbeats 4000000 in
theorem anames_walk (w : World) : Calls Try.prog 7 #[] w fun e w' => e = .returned (.bool true) ∧ Below w.heap.size w w' := by
  have k0 : Hid (∀ W, Calls Try.prog 10 #[.agg #[.int .u8 1, .string ⟨#[82, 49]⟩, .string ⟨#[49]⟩, .string ⟨#[48]⟩, .string ⟨#[]⟩, .string ⟨#[]⟩, .float .f64 4616189618054758400, .int .i64 0], .float .f64 4611686018427387904] W fun e w' => e = .returned (.tuple #[.complex .f64 4598175219545276416 0, .int .i64 0]) ∧ Below W.heap.size W w') := of_l 1 82 4616189618054758400 4611686018427387904 (.inl rfl) rfl (by decide) (by decide) (4598175219545276416, 0, 0) (by kernel_rfl)
  have k1 : Hid (∀ W, Calls Try.prog 10 #[.agg #[.int .u8 3, .string ⟨#[67, 49]⟩, .string ⟨#[49]⟩, .string ⟨#[48]⟩, .string ⟨#[]⟩, .string ⟨#[]⟩, .float .f64 4602678819172646912, .int .i64 0], .float .f64 4611686018427387904] W fun e w' => e = .returned (.tuple #[.complex .f64 0 4607182418800017408, .int .i64 0]) ∧ Below W.heap.size W w') := of_l 3 67 4602678819172646912 4611686018427387904 (.inr (.inr (.inl rfl))) rfl (by decide) (by decide) (0, 4607182418800017408, 0) (by kernel_rfl)
  have k2 : Hid (∀ W, Calls Try.prog 11 #[.agg #[.int .u8 1, .string ⟨#[82, 49]⟩, .string ⟨#[49]⟩, .string ⟨#[48]⟩, .string ⟨#[]⟩, .string ⟨#[]⟩, .float .f64 4616189618054758400, .int .i64 0], .float .f64 4611686018427387904] W fun e w' => e = .returned (.tuple #[.complex .f64 4616189618054758400 0, .int .i64 0]) ∧ Below W.heap.size W w') := im_l 1 82 4616189618054758400 4611686018427387904 (.inl rfl) rfl (by decide) (by decide) (4616189618054758400, 0, 0) (by kernel_rfl)
  have k3 : Hid (∀ W, Calls Try.prog 11 #[.agg #[.int .u8 2, .string ⟨#[76, 49]⟩, .string ⟨#[49]⟩, .string ⟨#[48]⟩, .string ⟨#[]⟩, .string ⟨#[]⟩, .float .f64 4611686018427387904, .int .i64 0], .float .f64 4611686018427387904] W fun e w' => e = .returned (.tuple #[.complex .f64 0 4616189618054758400, .int .i64 0]) ∧ Below W.heap.size W w') := im_l 2 76 4611686018427387904 4611686018427387904 (.inr (.inl rfl)) rfl (by decide) (by decide) (0, 4616189618054758400, 0) (by kernel_rfl)
  have k4 : Hid (∀ W, Calls Try.prog 12 #[.agg #[.int .u8 1, .string ⟨#[82, 49]⟩, .string ⟨#[49]⟩, .string ⟨#[48]⟩, .string ⟨#[]⟩, .string ⟨#[]⟩, .float .f64 4616189618054758400, .int .i64 0], .float .f64 4611686018427387904] W fun e w' => e = .returned (.tuple #[.complex .f64 4598175219545276416 9223372036854775808, .int .i64 0]) ∧ Below W.heap.size W w') := cj_l 1 82 4616189618054758400 4611686018427387904 (.inl rfl) rfl (by decide) (by decide) (4598175219545276416, 9223372036854775808, 0) (by kernel_rfl)
  have k5 : Hid (∀ W, Calls Try.prog 10 #[.agg #[.int .u8 3, .string ⟨#[67, 49]⟩, .string ⟨#[49]⟩, .string ⟨#[48]⟩, .string ⟨#[]⟩, .string ⟨#[]⟩, .float .f64 1, .int .i64 0], .float .f64 4591870180066957722] W fun e w' => e = .returned (.tuple #[.complex .f64 0 0, .int .i64 0]) ∧ Below W.heap.size W w') := of_l 3 67 1 4591870180066957722 (.inr (.inr (.inl rfl))) rfl (by decide) (by decide) (0, 0, 0) (by kernel_rfl)
  have om : Hid (∀ W, Calls Try.prog 18 #[.float .f64 4632233691727265792] W fun E w' => E = .returned (.tuple #[.float .f64 4644234364435383099, .int .i64 0]) ∧ w' = W) := fun W => aomega_w 4632233691727265792 W (by decide) _ _ (by kernel_rfl)
  have hz : Hid (∀ W, Calls Try.prog 19 #[.float .f64 4644234364435383099] W fun E w' => E = .returned (.tuple #[.float .f64 4632233691727265792, .int .i64 0]) ∧ w' = W) := fun W => ahertz_w 4644234364435383099 W (by decide) _ _ (by kernel_rfl)
  have o1 := oeqn 4644234364435383099 (by decide)
  have o2 := oeqn 4632233691727265792 (by decide)
  have B : Hid (Below w.heap.size w w) := Below.refl _ _
  go_enter Try.func7, Try.ntmps7
  go_wp2_with (first
      | (go_at_call 23; (with_reducible refine (of17_1 _ _).mono ?_); rintro E w2 ⟨rfl, hb⟩; (replace B : Hid (Below w.heap.size w w2) := by first | exact bt17 B.out hb | exact bt17 B.out (undrN hb)); clear hb)
      | (go_at_call 23; (with_reducible refine (of17_3 _ _).mono ?_); rintro E w2 ⟨rfl, hb⟩; (replace B : Hid (Below w.heap.size w w2) := by first | exact bt17 B.out hb | exact bt17 B.out (undrN hb)); clear hb)
      | (go_at_call 23; (with_reducible refine (of17_2 _ _).mono ?_); rintro E w2 ⟨rfl, hb⟩; (replace B : Hid (Below w.heap.size w w2) := by first | exact bt17 B.out hb | exact bt17 B.out (undrN hb)); clear hb)
      | (go_at_call 10; (with_reducible refine (k0.out _).mono ?_); rintro E w2 ⟨rfl, hb⟩; (replace B : Hid (Below w.heap.size w w2) := by first | exact bt17 B.out hb | exact bt17 B.out (undrN hb)); clear hb)
      | (go_at_call 10; (with_reducible refine (k1.out _).mono ?_); rintro E w2 ⟨rfl, hb⟩; (replace B : Hid (Below w.heap.size w w2) := by first | exact bt17 B.out hb | exact bt17 B.out (undrN hb)); clear hb)
      | (go_at_call 11; (with_reducible refine (k2.out _).mono ?_); rintro E w2 ⟨rfl, hb⟩; (replace B : Hid (Below w.heap.size w w2) := by first | exact bt17 B.out hb | exact bt17 B.out (undrN hb)); clear hb)
      | (go_at_call 11; (with_reducible refine (k3.out _).mono ?_); rintro E w2 ⟨rfl, hb⟩; (replace B : Hid (Below w.heap.size w w2) := by first | exact bt17 B.out hb | exact bt17 B.out (undrN hb)); clear hb)
      | (go_at_call 12; (with_reducible refine (k4.out _).mono ?_); rintro E w2 ⟨rfl, hb⟩; (replace B : Hid (Below w.heap.size w w2) := by first | exact bt17 B.out hb | exact bt17 B.out (undrN hb)); clear hb)
      | (go_at_call 10; (with_reducible refine (k5.out _).mono ?_); rintro E w2 ⟨rfl, hb⟩; (replace B : Hid (Below w.heap.size w w2) := by first | exact bt17 B.out hb | exact bt17 B.out (undrN hb)); clear hb)
      | (go_at_call 29; (with_reducible refine (code_0 _).mono ?_); rintro E w2 ⟨rfl, hb⟩; (replace B : Hid (Below w.heap.size w w2) := by first | exact bt17 B.out hb | exact bt17 B.out (undrN hb)); clear hb)
      | (go_at_call 29; (with_reducible refine (code_1 _).mono ?_); rintro E w2 ⟨rfl, hb⟩; (replace B : Hid (Below w.heap.size w w2) := by first | exact bt17 B.out hb | exact bt17 B.out (undrN hb)); clear hb)
      | (go_at_call 29; (with_reducible refine (code_2 _).mono ?_); rintro E w2 ⟨rfl, hb⟩; (replace B : Hid (Below w.heap.size w w2) := by first | exact bt17 B.out hb | exact bt17 B.out (undrN hb)); clear hb)
      | (go_at_call 29; (with_reducible refine (code_3 _).mono ?_); rintro E w2 ⟨rfl, hb⟩; (replace B : Hid (Below w.heap.size w w2) := by first | exact bt17 B.out hb | exact bt17 B.out (undrN hb)); clear hb)
      | (go_at_call 29; (with_reducible refine (code_4 _).mono ?_); rintro E w2 ⟨rfl, hb⟩; (replace B : Hid (Below w.heap.size w w2) := by first | exact bt17 B.out hb | exact bt17 B.out (undrN hb)); clear hb)
      | (go_at_call 29; (with_reducible refine (code_5 _).mono ?_); rintro E w2 ⟨rfl, hb⟩; (replace B : Hid (Below w.heap.size w w2) := by first | exact bt17 B.out hb | exact bt17 B.out (undrN hb)); clear hb)
      | (go_at_call 16; (with_reducible refine (lives17 _).mono ?_); rintro E w2 ⟨rfl, hb⟩; (replace B : Hid (Below w.heap.size w w2) := by first | exact bt17 B.out hb | exact bt17 B.out (undrN hb)); clear hb)
      | (go_at_call 18; (with_reducible refine (om.out _).mono ?_); rintro E w1 ⟨rfl, hw⟩; subst w1)
      | (go_at_call 19; (with_reducible refine (hz.out _).mono ?_); rintro E w1 ⟨rfl, hw⟩; subst w1)
      | (go_at_call 28; (with_reducible refine (cs_lit _).mono ?_); rintro E w1 ⟨rfl, hw⟩; subst w1)
      | (go_at_call 30; (with_reducible refine (nan_1 _).mono ?_); rintro E w1 ⟨rfl, hw⟩; subst w1)
      | (go_at_call 17; (with_reducible refine (same_self _ _ _).mono ?_); rintro E w1 ⟨rfl, hw⟩; subst w1))
  go_ret
  exact ⟨rfl, B.out⟩
end Go.Proofs.Ytnmibhgfcepddaa
