/-
  Products, the identity, what is the same or equal, of package matrix; the greatest sum of a column; what is none.
-/
import Derived.Test.YtjjpgmgnejhggaaMf
namespace Go.Proofs.Ytjjpgmgnejhggaa
open Fl RowKit

theorem new_mx {base R C g c : Nat} {f : Nat → Cn} {zs : List Cw} {w : World} (h : New base f (R * C) zs (.slice (some ⟨g, 0, none⟩) (R * C) c) w) (hR : R ≤ 64) (hC : C ≤ 64) : Mx w R C (some ⟨g, 0, none⟩) c f zs := by
  have h1 := h.len
  have h2 := h.own
  rw [← h1] at h2
  obtain ⟨ao, cap, hv, hs⟩ := own_sl h2
  cases hv
  exact ⟨h1, hR, hC, h.rep, hs⟩
set_option maxHeartbeats 1000000 in
theorem mmul {w : World} {R C K c c' : Nat} {A A' : Option Addr} {F G : Nat → Cn} {xs ys : List Cw} (h : Mx w R C A c F xs) (h' : Mx w C K A' c' G ys) : Calls Try.prog 13 #[.agg #[.int .i64 R, .int .i64 C, .slice A (R * C) c], .agg #[.int .i64 C, .int .i64 K, .slice A' (C * K) c']] w fun e w' => ∃ g zs, e = .returned (.tuple #[.agg #[.int .i64 R, .int .i64 K, .slice (some ⟨g, 0, none⟩) (R * K) (R * K)], .int .i64 0]) ∧ New w.heap.size (flat K (fun i j => sumZ (fun k => mulZ (F (i * C + k)) (G (k * K + j))) C)) (R * K) zs (.slice (some ⟨g, 0, none⟩) (R * K) (R * K)) w' ∧ Below w.heap.size w w' := by
  have hR := h.hR
  have hC := h.hC
  have hK := h'.hC
  have hn := small (le_4096 hR hC)
  have hn' := small (le_4096 hC hK)
  have hmb := h.mb
  have hmb' := h'.mb
  go_enter Try.func13, Try.ntmps13
  go_wp2_with (first
    | (go_at_call 63; (with_reducible refine (mayBe_any R C A (R * C) c _ hn).mono ?_); (rintro e w' ⟨rfl, rfl⟩); (rw [hmb]))
    | (go_at_call 63; (with_reducible refine (mayBe_any C K A' (C * K) c' _ hn').mono ?_); (rintro e w' ⟨rfl, rfl⟩); (rw [hmb']))
    | (go_at_call 64; (refine (mtransposed (h'.below (by repeat first | exact below_self _ | refine ba ?_ _ ))).mono ?_); (rintro e w1 ⟨g1, zs1, rfl, hN1, hb1⟩); (have Va : V3 w.heap.size (.int .i64 R) (.int .i64 C) (.slice A (R * C) c) w1 := V3.below (by repeat first | exact v3_at _ _ _ _ _ (by first | rfl | (simp only [size_al]; first | done | omega)) | refine V3.below ?_ (bal _ _)) hb1); (have Vb : V3 (w.heap.size + 1) (.int .i64 C) (.int .i64 K) (.slice A' (C * K) c') w1 := V3.below (by repeat first | exact v3_at _ _ _ _ _ (by first | rfl | (simp only [size_al]; first | done | omega)) | refine V3.below ?_ (bal _ _)) hb1); (have Vr : V3 (w.heap.size + 1 + 1) (.int .i64 0) (.int .i64 0) (.slice none 0 0) w1 := V3.below (by repeat first | exact v3_at _ _ _ _ _ (by first | rfl | (simp only [size_al]; first | done | omega)) | refine V3.below ?_ (bal _ _)) hb1); (have B1 : Below w.heap.size w w1 := b_of (by repeat first | exact below_self _ | refine ba ?_ _ ) hb1 (by simp only [size_al]; omega)); (have s1 := hb1.size); (simp only [size_al] at s1); (have M1 := new_mx hN1 hK hC); clear hb1 hN1; (have l0 : w.heap.size < w1.heap.size := by omega); (have l1 : w.heap.size + 1 < w1.heap.size := by omega); (have l2 : w.heap.size + 1 + 1 < w1.heap.size := by omega); (have a0 := Va.c0); (have a1 := Va.c1); (have a2 := Va.c2); (have b0 := Vb.c0); (have b1 := Vb.c1); (have b2 := Vb.c2))
    | (go_at_call 65; (refine (made_any _ _ _ R K _ hR hK ent_mul1 (says_mmul ((h.below B1).below (by repeat first | exact below_self _ | refine ba ?_ _ )) (V3.below Va (by repeat first | exact below_self _ | refine ba ?_ _ )) (M1.below (by repeat first | exact below_self _ | refine ba ?_ _ )) (B := w.heap.size) (B' := w1.heap.size) (by repeat first | exact v3_at _ _ _ _ _ (by first | rfl | (simp only [size_al]; first | done | omega)) | refine V3.below ?_ (bal _ _)) rfl)).mono ?_); (rintro e w3 ⟨g, zs, rfl, hN, hb⟩); (have Vs := (Vr.below (bal _ _)).below hb); (obtain ⟨r0, r1, r2⟩ := Vs.reads); (obtain ⟨_, q0, q1, q2, q3, q4, q5⟩ := Vs); (have BB : Below w.heap.size w w3 := b_of (ba B1 _) hb (by simp only [size_al]; omega)); (have HN : New w.heap.size _ _ zs _ w3 := hN.base (by simp only [size_al]; omega)); (have hg := hN.ge); (simp only [size_al] at hg); clear hN hb))
  refine bodyPost_ret (by simp [results, Try.results13, go_sem, r0, r1, r2]; try rfl) rfl ?_
  refine ⟨_, zs, rfl, (HN.set3 (by omega) _ _ _).congr (fun k hk => ?_), below_set3 BB (by omega) _ _ _⟩
  unfold flat
  have hK0 : 0 < K := by
    rcases Nat.eq_zero_or_pos K with h0 | h0
    · rw [h0, Nat.mul_zero] at hk; omega
    · exact h0
  refine sumZ_congr (fun t ht => ?_)
  have e := flat_at (C := C) (i := k % K) (j := t) (f := fun j i => G (i * K + j)) ht
  unfold flat at e
  rw [e]

set_option maxHeartbeats 1000000 in
theorem midentity {N : Nat} (w : World) (hN : N ≤ 64) : Calls Try.prog 41 #[.int .i64 N] w fun e w' => ∃ g zs, e = .returned (.tuple #[.agg #[.int .i64 N, .int .i64 N, .slice (some ⟨g, 0, none⟩) (N * N) (N * N)], .int .i64 0]) ∧ New w.heap.size (flat N idE) (N * N) zs (.slice (some ⟨g, 0, none⟩) (N * N) (N * N)) w' ∧ Below w.heap.size w w' := by
  have hc : cnt (N : Int) = true := decide_eq_true ⟨by omega, by omega⟩
  go_enter Try.func41, Try.ntmps41
  go_wp2_with (first
    | (go_at_call 95; (refine (cnt_any _ _).mono ?_); (rintro e w' ⟨rfl, hw'⟩); (subst w'); (rw [hc]))
    | (go_at_call 65; (refine (made_any _ _ _ N N _ hN hN ent_id1 (says_mid _ N N)).mono ?_); (rintro e w3 ⟨g, zs, rfl, hN, hb⟩); (have Vr : V3 (w.heap.size) (.int .i64 0) (.int .i64 0) (.slice none 0 0) w3 := V3.below (by repeat first | exact v3_at _ _ _ _ _ (by first | rfl | (simp only [size_al]; first | done | omega)) | refine V3.below ?_ (bal _ _)) hb); (obtain ⟨r0, r1, r2⟩ := Vr.reads); (obtain ⟨_, q0, q1, q2, q3, q4, q5⟩ := Vr); (have BB : Below w.heap.size w w3 := b_of (by repeat first | exact below_self _ | refine ba ?_ _ ) hb (by simp; try omega)); (have HN : New w.heap.size _ _ zs _ w3 := hN.base (by simp; try omega)); (have hg := hN.ge); (simp at hg); clear hN hb))
  refine bodyPost_ret (by simp [results, Try.results41, go_sem, r0, r1, r2]; try rfl) rfl ?_
  exact ⟨_, zs, rfl, HN.set3 (by omega) _ _ _, below_set3 BB (by omega) _ _ _⟩
theorem fidentity {N : Int} (w : World) (hN : cnt N = false) : Calls Try.prog 41 #[.int .i64 N] w fun e w' => e = .returned (.tuple #[.agg #[.int .i64 0, .int .i64 0, .slice none 0 0], .int .i64 2]) ∧ Below w.heap.size w w' := by
  go_enter Try.func41, Try.ntmps41
  go_wp2_with (go_at_call 95; (refine (cnt_any _ _).mono ?_); (rintro e w' ⟨rfl, hw'⟩); (subst w'); (rw [hN]))
  refine bodyPost_ret (by simp [results, Try.results41, go_sem]; try rfl) rfl ?_
  exact ⟨rfl, (by repeat first | exact below_self _ | refine ba ?_ _ )⟩
theorem mcheck (R C : Int) (A : Option Addr) (n c : Nat) (w : World) (hn : n ≤ 1000000000000000) : Calls Try.prog 28 #[.agg #[.int .i64 R, .int .i64 C, .slice A n c]] w fun e w' => e = .returned (.int .i64 (if mb R C n then 0 else 4)) ∧ Below w.heap.size w w' := by
  cases hm : mb R C n
  all_goals
    go_enter Try.func28, Try.ntmps28
    go_wp2_with (go_at_call 63; (refine (mayBe_any _ _ _ _ _ _ hn).mono ?_); (rintro e w' ⟨rfl, rfl⟩); (rw [hm]))
    go_ret
    exact ⟨rfl, ba (bal _ _) _⟩
section none
variable {R C : Int} {A : Option Addr} {n c : Nat} {w : World} (hn : n ≤ 1000000000000000) (hm : mb R C n = false)
include hn hm
theorem fconj : Calls Try.prog 15 #[.agg #[.int .i64 R, .int .i64 C, .slice A n c]] w fun e w' => e = .returned (.tuple #[.agg #[.int .i64 0, .int .i64 0, .slice none 0 0], .int .i64 4]) ∧ Below w.heap.size w w' := by
  go_enter Try.func15, Try.ntmps15
  go_wp2_with (go_at_call 63; (refine (mayBe_any _ _ _ _ _ _ hn).mono ?_); (rintro e w' ⟨rfl, rfl⟩); (rw [hm]))
  refine bodyPost_ret (by simp [results, Try.results15, go_sem]; try rfl) rfl ?_
  exact ⟨rfl, (by repeat first | exact below_self _ | refine ba ?_ _ )⟩
theorem ftranspose : Calls Try.prog 14 #[.agg #[.int .i64 R, .int .i64 C, .slice A n c]] w fun e w' => e = .returned (.tuple #[.agg #[.int .i64 0, .int .i64 0, .slice none 0 0], .int .i64 4]) ∧ Below w.heap.size w w' := by
  go_enter Try.func14, Try.ntmps14
  go_wp2_with (go_at_call 63; (refine (mayBe_any _ _ _ _ _ _ hn).mono ?_); (rintro e w' ⟨rfl, rfl⟩); (rw [hm]))
  refine bodyPost_ret (by simp [results, Try.results14, go_sem]; try rfl) rfl ?_
  exact ⟨rfl, (by repeat first | exact below_self _ | refine ba ?_ _ )⟩
theorem fswap (i j : Int) : Calls Try.prog 16 #[.agg #[.int .i64 R, .int .i64 C, .slice A n c], .int .i64 i, .int .i64 j] w fun e w' => e = .returned (.tuple #[.agg #[.int .i64 0, .int .i64 0, .slice none 0 0], .int .i64 4]) ∧ Below w.heap.size w w' := by
  go_enter Try.func16, Try.ntmps16
  go_wp2_with (go_at_call 63; (refine (mayBe_any _ _ _ _ _ _ hn).mono ?_); (rintro e w' ⟨rfl, rfl⟩); (rw [hm]))
  refine bodyPost_ret (by simp [results, Try.results16, go_sem]; try rfl) rfl ?_
  exact ⟨rfl, (by repeat first | exact below_self _ | refine ba ?_ _ )⟩
theorem frow (i : Int) : Calls Try.prog 37 #[.agg #[.int .i64 R, .int .i64 C, .slice A n c], .int .i64 i] w fun e w' => e = .returned (.tuple #[.slice none 0 0, .int .i64 4]) ∧ Below w.heap.size w w' := by
  go_enter Try.func37, Try.ntmps37
  go_wp2_with (go_at_call 63; (refine (mayBe_any _ _ _ _ _ _ hn).mono ?_); (rintro e w' ⟨rfl, rfl⟩); (rw [hm]))
  go_ret2
  exact ⟨rfl, (by repeat first | exact below_self _ | refine ba ?_ _ )⟩
theorem fcol (i : Int) : Calls Try.prog 38 #[.agg #[.int .i64 R, .int .i64 C, .slice A n c], .int .i64 i] w fun e w' => e = .returned (.tuple #[.slice none 0 0, .int .i64 4]) ∧ Below w.heap.size w w' := by
  go_enter Try.func38, Try.ntmps38
  go_wp2_with (go_at_call 63; (refine (mayBe_any _ _ _ _ _ _ hn).mono ?_); (rintro e w' ⟨rfl, rfl⟩); (rw [hm]))
  go_ret2
  exact ⟨rfl, (by repeat first | exact below_self _ | refine ba ?_ _ )⟩
theorem fapply (X : Option Addr) (m cX : Nat) : Calls Try.prog 39 #[.agg #[.int .i64 R, .int .i64 C, .slice A n c], .slice X m cX] w fun e w' => e = .returned (.tuple #[.slice none 0 0, .int .i64 4]) ∧ Below w.heap.size w w' := by
  go_enter Try.func39, Try.ntmps39
  go_wp2_with (go_at_call 63; (refine (mayBe_any _ _ _ _ _ _ hn).mono ?_); (rintro e w' ⟨rfl, rfl⟩); (rw [hm]))
  go_ret2
  exact ⟨rfl, (by repeat first | exact below_self _ | refine ba ?_ _ )⟩
theorem fnorm : Calls Try.prog 40 #[.agg #[.int .i64 R, .int .i64 C, .slice A n c]] w fun e w' => e = .returned (.tuple #[.float .f64 0, .int .i64 4]) ∧ Below w.heap.size w w' := by
  go_enter Try.func40, Try.ntmps40
  go_wp2_with (go_at_call 63; (refine (mayBe_any _ _ _ _ _ _ hn).mono ?_); (rintro e w' ⟨rfl, rfl⟩); (rw [hm]))
  go_ret2
  exact ⟨rfl, (by repeat first | exact below_self _ | refine ba ?_ _ )⟩
theorem fsym : Calls Try.prog 30 #[.agg #[.int .i64 R, .int .i64 C, .slice A n c]] w fun e w' => e = .returned (.bool false) ∧ Below w.heap.size w w' := by
  go_enter Try.func30, Try.ntmps30
  go_wp2_with (go_at_call 63; (refine (mayBe_any _ _ _ _ _ _ hn).mono ?_); (rintro e w' ⟨rfl, rfl⟩); (rw [hm]))
  go_ret
  exact ⟨rfl, (by repeat first | exact below_self _ | refine ba ?_ _ )⟩
end none
section arg
variable {R C : Int} {A : Option Addr} {n c : Nat} {w : World} (hn : n ≤ 1000000000000000) (hm : mb R C n = true)
include hn hm
theorem fswap_arg {i j : Int} (h : ¬ ((0 ≤ i ∧ i < R) ∧ 0 ≤ j ∧ j < R)) : Calls Try.prog 16 #[.agg #[.int .i64 R, .int .i64 C, .slice A n c], .int .i64 i, .int .i64 j] w fun e w' => e = .returned (.tuple #[.agg #[.int .i64 0, .int .i64 0, .slice none 0 0], .int .i64 2]) ∧ Below w.heap.size w w' := by
  by_cases h1 : 0 ≤ i ∧ i < R
  · have hwj : decide (0 ≤ i ∧ i < R) = true := decide_eq_true h1
    have hwi : decide (0 ≤ j ∧ j < R) = false := decide_eq_false (fun k => h ⟨h1, k⟩)
    clear h h1
    go_enter Try.func16, Try.ntmps16
    go_wp2_with (first
      | (go_at_call 63; (refine (mayBe_any _ _ _ _ _ _ hn).mono ?_); (rintro e w' ⟨rfl, rfl⟩); (rw [hm]))
      | (go_at_call 72; (refine (within_any _ _ _).mono ?_); (rintro e w' ⟨rfl, hw'⟩); (subst w'); (first | rw [hwi] | rw [hwj])))
    refine bodyPost_ret (by simp [results, Try.results16, go_sem]; try rfl) rfl ?_
    exact ⟨rfl, (by repeat first | exact below_self _ | refine ba ?_ _ )⟩
  · have hwi : decide (0 ≤ i ∧ i < R) = false := decide_eq_false h1
    have hwj := hwi
    clear h h1
    go_enter Try.func16, Try.ntmps16
    go_wp2_with (first
      | (go_at_call 63; (refine (mayBe_any _ _ _ _ _ _ hn).mono ?_); (rintro e w' ⟨rfl, rfl⟩); (rw [hm]))
      | (go_at_call 72; (refine (within_any _ _ _).mono ?_); (rintro e w' ⟨rfl, hw'⟩); (subst w'); (first | rw [hwi] | rw [hwj])))
    refine bodyPost_ret (by simp [results, Try.results16, go_sem]; try rfl) rfl ?_
    exact ⟨rfl, (by repeat first | exact below_self _ | refine ba ?_ _ )⟩
theorem frow_arg {i : Int} (h : ¬ (0 ≤ i ∧ i < R)) : Calls Try.prog 37 #[.agg #[.int .i64 R, .int .i64 C, .slice A n c], .int .i64 i] w fun e w' => e = .returned (.tuple #[.slice none 0 0, .int .i64 2]) ∧ Below w.heap.size w w' := by
  have hwi : decide (0 ≤ i ∧ i < R) = false := decide_eq_false h
  have hwj := hwi
  clear h
  go_enter Try.func37, Try.ntmps37
  go_wp2_with (first
    | (go_at_call 63; (refine (mayBe_any _ _ _ _ _ _ hn).mono ?_); (rintro e w' ⟨rfl, rfl⟩); (rw [hm]))
    | (go_at_call 72; (refine (within_any _ _ _).mono ?_); (rintro e w' ⟨rfl, hw'⟩); (subst w'); (first | rw [hwi] | rw [hwj])))
  go_ret2
  exact ⟨rfl, (by repeat first | exact below_self _ | refine ba ?_ _ )⟩
theorem fcol_arg {i : Int} (h : ¬ (0 ≤ i ∧ i < C)) : Calls Try.prog 38 #[.agg #[.int .i64 R, .int .i64 C, .slice A n c], .int .i64 i] w fun e w' => e = .returned (.tuple #[.slice none 0 0, .int .i64 2]) ∧ Below w.heap.size w w' := by
  have hwi : decide (0 ≤ i ∧ i < C) = false := decide_eq_false h
  have hwj := hwi
  clear h
  go_enter Try.func38, Try.ntmps38
  go_wp2_with (first
    | (go_at_call 63; (refine (mayBe_any _ _ _ _ _ _ hn).mono ?_); (rintro e w' ⟨rfl, rfl⟩); (rw [hm]))
    | (go_at_call 72; (refine (within_any _ _ _).mono ?_); (rintro e w' ⟨rfl, hw'⟩); (subst w'); (first | rw [hwi] | rw [hwj])))
  go_ret2
  exact ⟨rfl, (by repeat first | exact below_self _ | refine ba ?_ _ )⟩
theorem fapply_len {X : Option Addr} {m cX : Nat} (h : ¬ (m : Int) = C) : Calls Try.prog 39 #[.agg #[.int .i64 R, .int .i64 C, .slice A n c], .slice X m cX] w fun e w' => e = .returned (.tuple #[.slice none 0 0, .int .i64 4]) ∧ Below w.heap.size w w' := by
  go_enter Try.func39, Try.ntmps39
  go_wp2_with (go_at_call 63; (refine (mayBe_any _ _ _ _ _ _ hn).mono ?_); (rintro e w' ⟨rfl, rfl⟩); (rw [hm]))
  go_ret2
  exact ⟨rfl, (by repeat first | exact below_self _ | refine ba ?_ _ )⟩
theorem fsym_sq (h : ¬ R = C) : Calls Try.prog 30 #[.agg #[.int .i64 R, .int .i64 C, .slice A n c]] w fun e w' => e = .returned (.bool false) ∧ Below w.heap.size w w' := by
  go_enter Try.func30, Try.ntmps30
  go_wp2_with (go_at_call 63; (refine (mayBe_any _ _ _ _ _ _ hn).mono ?_); (rintro e w' ⟨rfl, rfl⟩); (rw [hm]))
  go_ret
  exact ⟨rfl, (by repeat first | exact below_self _ | refine ba ?_ _ )⟩
end arg
end Go.Proofs.Ytjjpgmgnejhggaa
