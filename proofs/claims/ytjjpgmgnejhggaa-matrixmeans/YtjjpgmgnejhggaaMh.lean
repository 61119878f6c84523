/-
  Which two matrices are refused, which are the same, which equal, by package matrix.
-/
import Derived.Test.YtjjpgmgnejhggaaMg
namespace Go.Proofs.Ytjjpgmgnejhggaa
open Fl RowKit

section pairs
variable {R C R' C' : Int} {A A' : Option Addr} {n c n' c' : Nat} {w : World} (hn : n ≤ 1000000000000000) (hn' : n' ≤ 1000000000000000)
include hn hn'
theorem fplaced (fv : FuncId) (hp : prB R C n R' C' n' = false) : Calls Try.prog 61 #[.agg #[.int .i64 R, .int .i64 C, .slice A n c], .agg #[.int .i64 R', .int .i64 C', .slice A' n' c'], .func (.func fv) #[] #[]] w fun e w' => e = .returned (.tuple #[.agg #[.int .i64 0, .int .i64 0, .slice none 0 0], .int .i64 4]) ∧ Below w.heap.size w w' := by
  go_enter Try.func61, Try.ntmps61
  go_wp2_with (go_at_call 81; (refine (paired_mx _ _ _ _ _ _ _ _ _ _ _ hn hn').mono ?_); (rintro e w1 ⟨rfl, hb1⟩); (rw [hp]); (have Vr : V3 (w.heap.size + 1 + 1 + 1) (.int .i64 0) (.int .i64 0) (.slice none 0 0) w1 := V3.below (by repeat first | exact v3_at _ _ _ _ _ (by first | rfl | (simp only [size_al]; first | done | omega)) | refine V3.below ?_ (bal _ _)) hb1); (have BB : Below w.heap.size w w1 := b_of (by repeat first | exact below_self _ | refine ba ?_ _ ) hb1 (by simp only [size_al]; omega)); (obtain ⟨r0, r1, r2⟩ := Vr.reads); (obtain ⟨_, q0, q1, q2, q3, q4, q5⟩ := Vr); clear hb1)
  refine bodyPost_ret (by simp [results, Try.results61, go_sem, r0, r1, r2]; try rfl) rfl ?_
  exact ⟨rfl, below_set3 BB (by omega) _ _ _⟩

theorem fadd (hp : prB R C n R' C' n' = false) : Calls Try.prog 11 #[.agg #[.int .i64 R, .int .i64 C, .slice A n c], .agg #[.int .i64 R', .int .i64 C', .slice A' n' c']] w fun e w' => e = .returned (.tuple #[.agg #[.int .i64 0, .int .i64 0, .slice none 0 0], .int .i64 4]) ∧ Below w.heap.size w w' := by
  go_enter Try.func11, Try.ntmps11
  go_wp2_with (go_at_call 61; (refine (fplaced hn hn' _ hp).mono ?_); (rintro e w1 ⟨rfl, hb1⟩); (have Vr : V3 (w.heap.size + 1 + 1) (.int .i64 0) (.int .i64 0) (.slice none 0 0) w1 := V3.below (by repeat first | exact v3_at _ _ _ _ _ (by first | rfl | (simp only [size_al]; first | done | omega)) | refine V3.below ?_ (bal _ _)) hb1); (have BB : Below w.heap.size w w1 := b_of (by repeat first | exact below_self _ | refine ba ?_ _ ) hb1 (by simp only [size_al]; omega)); (obtain ⟨r0, r1, r2⟩ := Vr.reads); (obtain ⟨_, q0, q1, q2, q3, q4, q5⟩ := Vr); clear hb1)
  refine bodyPost_ret (by simp [results, Try.results11, go_sem, r0, r1, r2]; try rfl) rfl ?_
  exact ⟨rfl, below_set3 BB (by omega) _ _ _⟩
theorem fsub (hp : prB R C n R' C' n' = false) : Calls Try.prog 12 #[.agg #[.int .i64 R, .int .i64 C, .slice A n c], .agg #[.int .i64 R', .int .i64 C', .slice A' n' c']] w fun e w' => e = .returned (.tuple #[.agg #[.int .i64 0, .int .i64 0, .slice none 0 0], .int .i64 4]) ∧ Below w.heap.size w w' := by
  go_enter Try.func12, Try.ntmps12
  go_wp2_with (go_at_call 61; (refine (fplaced hn hn' _ hp).mono ?_); (rintro e w1 ⟨rfl, hb1⟩); (have Vr : V3 (w.heap.size + 1 + 1) (.int .i64 0) (.int .i64 0) (.slice none 0 0) w1 := V3.below (by repeat first | exact v3_at _ _ _ _ _ (by first | rfl | (simp only [size_al]; first | done | omega)) | refine V3.below ?_ (bal _ _)) hb1); (have BB : Below w.heap.size w w1 := b_of (by repeat first | exact below_self _ | refine ba ?_ _ ) hb1 (by simp only [size_al]; omega)); (obtain ⟨r0, r1, r2⟩ := Vr.reads); (obtain ⟨_, q0, q1, q2, q3, q4, q5⟩ := Vr); clear hb1)
  refine bodyPost_ret (by simp [results, Try.results12, go_sem, r0, r1, r2]; try rfl) rfl ?_
  exact ⟨rfl, below_set3 BB (by omega) _ _ _⟩
/-- may a product be? -/
def muB (R C : Int) (n : Nat) (R' C' : Int) (n' : Nat) : Bool := mb R C n && mb R' C' n' && decide (C = R')
theorem fmul (hp : muB R C n R' C' n' = false) : Calls Try.prog 13 #[.agg #[.int .i64 R, .int .i64 C, .slice A n c], .agg #[.int .i64 R', .int .i64 C', .slice A' n' c']] w fun e w' => e = .returned (.tuple #[.agg #[.int .i64 0, .int .i64 0, .slice none 0 0], .int .i64 4]) ∧ Below w.heap.size w w' := by
  cases h1 : mb R C n
  · go_enter Try.func13, Try.ntmps13
    go_wp2_with (go_at_call 63; (refine (mayBe_any _ _ _ _ _ _ hn).mono ?_); (rintro e w' ⟨rfl, rfl⟩); (rw [h1]))
    refine bodyPost_ret (by simp [results, Try.results13, go_sem]; try rfl) rfl ?_
    exact ⟨rfl, (by repeat first | exact below_self _ | refine ba ?_ _ )⟩
  · cases h2 : mb R' C' n'
    · go_enter Try.func13, Try.ntmps13
      go_wp2_with (first
        | (go_at_call 63; (with_reducible refine (mayBe_any R C A n c _ hn).mono ?_); (rintro e w' ⟨rfl, rfl⟩); (rw [h1]))
        | (go_at_call 63; (with_reducible refine (mayBe_any R' C' A' n' c' _ hn').mono ?_); (rintro e w' ⟨rfl, rfl⟩); (rw [h2])))
      refine bodyPost_ret (by simp [results, Try.results13, go_sem]; try rfl) rfl ?_
      exact ⟨rfl, (by repeat first | exact below_self _ | refine ba ?_ _ )⟩
    · have h3 : ¬ C = R' := fun e => by unfold muB at hp; rw [h1, h2, decide_eq_true e] at hp; cases hp
      clear hp
      go_enter Try.func13, Try.ntmps13
      go_wp2_with (first
        | (go_at_call 63; (with_reducible refine (mayBe_any R C A n c _ hn).mono ?_); (rintro e w' ⟨rfl, rfl⟩); (rw [h1]))
        | (go_at_call 63; (with_reducible refine (mayBe_any R' C' A' n' c' _ hn').mono ?_); (rintro e w' ⟨rfl, rfl⟩); (rw [h2])))
      refine bodyPost_ret (by simp [results, Try.results13, go_sem]; try rfl) rfl ?_
      exact ⟨rfl, (by repeat first | exact below_self _ | refine ba ?_ _ )⟩
theorem fsame (hp : prB R C n R' C' n' = false) : Calls Try.prog 24 #[.agg #[.int .i64 R, .int .i64 C, .slice A n c], .agg #[.int .i64 R', .int .i64 C', .slice A' n' c']] w fun e w' => e = .returned (.bool false) ∧ Below w.heap.size w w' := by
  go_enter Try.func24, Try.ntmps24
  go_wp2_with (go_at_call 81; (refine (paired_mx _ _ _ _ _ _ _ _ _ _ _ hn hn').mono ?_); (rintro e w1 ⟨rfl, hb1⟩); (rw [hp]))
  go_ret
  exact ⟨rfl, b_of (by repeat first | exact below_self _ | refine ba ?_ _ ) hb1 (by simp only [size_al]; omega)⟩
theorem fequal (hp : prB R C n R' C' n' = false) : Calls Try.prog 26 #[.agg #[.int .i64 R, .int .i64 C, .slice A n c], .agg #[.int .i64 R', .int .i64 C', .slice A' n' c']] w fun e w' => e = .returned (.bool false) ∧ Below w.heap.size w w' := by
  go_enter Try.func26, Try.ntmps26
  go_wp2_with (go_at_call 81; (refine (paired_mx _ _ _ _ _ _ _ _ _ _ _ hn hn').mono ?_); (rintro e w1 ⟨rfl, hb1⟩); (rw [hp]))
  go_ret
  exact ⟨rfl, b_of (by repeat first | exact below_self _ | refine ba ?_ _ ) hb1 (by simp only [size_al]; omega)⟩
end pairs
section two
variable {w : World} {R C c c' : Nat} {A A' : Option Addr} {F G : Nat → Cn} {xs ys : List Cw} (h : Mx w R C A c F xs) (h' : Mx w R C A' c' G ys)
include h h'
set_option maxHeartbeats 1000000 in
theorem msame : Calls Try.prog 24 #[.agg #[.int .i64 R, .int .i64 C, .slice A (R * C) c], .agg #[.int .i64 R, .int .i64 C, .slice A' (R * C) c']] w fun e w' => e = .returned (.bool (allB (fun k => sameW (zat xs k) (zat ys k)) (R * C))) ∧ Below w.heap.size w w' := by
  have hR := h.hR
  have hC := h.hC
  have hn := small (le_4096 hR hC)
  have hp := pr_yes h
  go_enter Try.func24, Try.ntmps24
  go_wp2_with (first
    | (go_at_call 81; (refine (paired_mx _ _ _ _ _ _ _ _ _ _ _ hn hn).mono ?_); (rintro e w1 ⟨rfl, hb1⟩); (rw [hp]); (have Va : V3 w.heap.size (.int .i64 R) (.int .i64 C) (.slice A (R * C) c) w1 := V3.below (by repeat first | exact v3_at _ _ _ _ _ (by first | rfl | (simp only [size_al]; first | done | omega)) | refine V3.below ?_ (bal _ _)) hb1); (have Vb : V3 (w.heap.size + 1) (.int .i64 R) (.int .i64 C) (.slice A' (R * C) c') w1 := V3.below (by repeat first | exact v3_at _ _ _ _ _ (by first | rfl | (simp only [size_al]; first | done | omega)) | refine V3.below ?_ (bal _ _)) hb1); (have B1 : Below w.heap.size w w1 := b_of (by repeat first | exact below_self _ | refine ba ?_ _ ) hb1 (by simp only [size_al]; omega)); clear hb1; (have a0 := Va.c0); (have a1 := Va.c1); (have a2 := Va.c2))
    | (go_at_call 82; (refine (all_any _ _ _ R C _ _ hR hC ent_same1 (says_msame (h.below B1) Va (h'.below B1) Vb rfl rfl)).mono ?_); (rintro e w3 ⟨rfl, hb⟩)))
  go_ret
  refine ⟨?_, b_of B1 hb B1.size⟩
  rw [← allB_congr (fun k _ => flatB_flat (C := C) (p := fun k => sameW (zat xs k) (zat ys k)) k)]
  rfl
set_option maxHeartbeats 1000000 in
theorem mequal : Calls Try.prog 26 #[.agg #[.int .i64 R, .int .i64 C, .slice A (R * C) c], .agg #[.int .i64 R, .int .i64 C, .slice A' (R * C) c']] w fun e w' => e = .returned (.bool (allB (fun k => equalW (zat xs k) (zat ys k)) (R * C))) ∧ Below w.heap.size w w' := by
  have hR := h.hR
  have hC := h.hC
  have hn := small (le_4096 hR hC)
  have hp := pr_yes h
  go_enter Try.func26, Try.ntmps26
  go_wp2_with (first
    | (go_at_call 81; (refine (paired_mx _ _ _ _ _ _ _ _ _ _ _ hn hn).mono ?_); (rintro e w1 ⟨rfl, hb1⟩); (rw [hp]); (have Va : V3 w.heap.size (.int .i64 R) (.int .i64 C) (.slice A (R * C) c) w1 := V3.below (by repeat first | exact v3_at _ _ _ _ _ (by first | rfl | (simp only [size_al]; first | done | omega)) | refine V3.below ?_ (bal _ _)) hb1); (have Vb : V3 (w.heap.size + 1) (.int .i64 R) (.int .i64 C) (.slice A' (R * C) c') w1 := V3.below (by repeat first | exact v3_at _ _ _ _ _ (by first | rfl | (simp only [size_al]; first | done | omega)) | refine V3.below ?_ (bal _ _)) hb1); (have B1 : Below w.heap.size w w1 := b_of (by repeat first | exact below_self _ | refine ba ?_ _ ) hb1 (by simp only [size_al]; omega)); clear hb1; (have a0 := Va.c0); (have a1 := Va.c1); (have a2 := Va.c2))
    | (go_at_call 82; (refine (all_any _ _ _ R C _ _ hR hC ent_equal1 (says_mequal (h.below B1) Va (h'.below B1) Vb rfl rfl)).mono ?_); (rintro e w3 ⟨rfl, hb⟩)))
  go_ret
  refine ⟨?_, b_of B1 hb B1.size⟩
  rw [← allB_congr (fun k _ => flatB_flat (C := C) (p := fun k => equalW (zat xs k) (zat ys k)) k)]
  rfl
end two
set_option maxHeartbeats 1000000 in
theorem msym {w : World} {N c : Nat} {A : Option Addr} {F : Nat → Cn} {xs : List Cw} (h : Mx w N N A c F xs) : Calls Try.prog 30 #[.agg #[.int .i64 N, .int .i64 N, .slice A (N * N) c]] w fun e w' => e = .returned (.bool (allB (flatB N (fun i j => equalW (zat xs (i * N + j)) (zat xs (j * N + i)))) (N * N))) ∧ Below w.heap.size w w' := by
  have hR := h.hR
  have hn := small (le_4096 hR hR)
  have hm := h.mb
  go_enter Try.func30, Try.ntmps30
  go_wp2_with (first
    | (go_at_call 63; (refine (mayBe_any _ _ _ _ _ _ hn).mono ?_); (rintro e w' ⟨rfl, rfl⟩); (rw [hm]))
    | (go_at_call 82; (refine (all_any _ _ _ N N _ _ hR hR ent_sym1 (says_msym (B := w.heap.size) (h.below (by repeat first | exact below_self _ | refine ba ?_ _ )) (by repeat first | exact v3_at _ _ _ _ _ (by first | rfl | (simp only [size_al]; first | done | omega)) | refine V3.below ?_ (bal _ _)) rfl)).mono ?_); (rintro e w3 ⟨rfl, hb⟩)))
  go_ret
  exact ⟨rfl, b_of (by repeat first | exact below_self _ | refine ba ?_ _ ) hb (by simp only [size_al]; omega)⟩

end Go.Proofs.Ytjjpgmgnejhggaa
