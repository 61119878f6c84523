/-
  The document's matrices (gridworkref07): which may be, entries, a blank one.
-/
import Derived.Test.YtomllbpkjhoepaaBnc
namespace Go.Proofs.Ytomllbpkjhoepaa
open Fl RowKit

theorem rcheck_any (R C : Int) (A : Option Addr) (n c : Nat) (w : World) (_hn : n ≤ 1000000000000000) :
    Calls Try.prog 31 #[.agg #[.int .i64 R, .int .i64 C, .slice A n c]] w fun e w' => e = .returned (.int .i64 (if mb R C n then 0 else 4)) ∧ w' = w.alloc (.cells #[.int .i64 R, .int .i64 C, .slice A n c] 28) := by
  by_cases h1 : R < 0
  · rw [mb_no1 (decide_eq_false (fun k => by omega))]
    go_enter Try.func31, Try.ntmps31
    go_wp2
    go_ret
    exact ⟨rfl, rfl⟩
  · by_cases h2 : 64 < R
    · rw [mb_no1 (decide_eq_false (fun k => by omega))]
      go_enter Try.func31, Try.ntmps31
      go_wp2
      go_ret
      exact ⟨rfl, rfl⟩
    · by_cases h3 : C < 0
      · rw [mb_no2 (decide_eq_false (fun k => by omega))]
        go_enter Try.func31, Try.ntmps31
        go_wp2
        go_ret
        exact ⟨rfl, rfl⟩
      · by_cases h4 : 64 < C
        · rw [mb_no2 (decide_eq_false (fun k => by omega))]
          go_enter Try.func31, Try.ntmps31
          go_wp2
          go_ret
          exact ⟨rfl, rfl⟩
        · have e0 : 0 ≤ R * C := Int.mul_nonneg (by omega) (by omega)
          have e1 : R * C ≤ 64 * 64 := Int.mul_le_mul (by omega) (by omega) (by omega) (by omega)
          have hw0 : wrap64 (R * C) = R * C := wrap_small e0 (by omega)
          obtain ⟨m, hm⟩ : ∃ m, m = R * C := ⟨_, rfl⟩
          have hw : wrap64 (R * C) = m := hw0.trans hm.symm
          have hb : mb R C n = decide ((n : Int) = m) := by
            unfold mb
            rw [hm]
            by_cases h : (n : Int) = R * C
            · rw [decide_eq_true ⟨by omega, by omega, by omega, by omega, h⟩, decide_eq_true h]
            · rw [decide_eq_false (fun k => h k.2.2.2.2), decide_eq_false h]
          rw [hb]
          clear hm hb e0 e1 hw0
          by_cases h5 : (n : Int) = m
          · rw [decide_eq_true h5]
            rw [← h5] at hw
            clear h5
            go_enter Try.func31, Try.ntmps31
            go_wp2
            go_ret
            exact ⟨rfl, rfl⟩
          · rw [decide_eq_false h5]
            go_enter Try.func31, Try.ntmps31
            go_wp2
            go_ret
            exact ⟨rfl, rfl⟩
theorem ris_any (R C : Int) (A : Option Addr) (n c : Nat) (w : World) (hn : n ≤ 1000000000000000) :
    Calls Try.prog 64 #[.agg #[.int .i64 R, .int .i64 C, .slice A n c]] w fun e w' => e = .returned (.bool (mb R C n)) ∧ w' = (w.alloc (.cells #[.int .i64 R, .int .i64 C, .slice A n c] 28)).alloc (.cells #[.int .i64 R, .int .i64 C, .slice A n c] 28) := by
  cases hm : mb R C n
  all_goals
    go_enter Try.func64, Try.ntmps64
    go_wp2_with (go_at_call 31; (refine (rcheck_any _ _ _ _ _ _ hn).mono ?_); (rintro e w' ⟨rfl, rfl⟩); (rw [hm]))
    go_ret
    exact ⟨rfl, rfl⟩
theorem rentry_any (R C i j : Nat) (A : Option Addr) (c : Nat) (xs : List Cw) (w : World) (hn : xs.length = R * C) (hR : R ≤ 64) (hC : C ≤ 64) (hi : i < R) (hj : j < C) (hc : Rc w A xs) :
    Calls Try.prog 68 #[.agg #[.int .i64 R, .int .i64 C, .slice A (R * C) c], .int .i64 i, .int .i64 j] w fun e w' => e = .returned (cx (zat xs (i * C + j))) ∧ w' = w.alloc (.cells #[.int .i64 R, .int .i64 C, .slice A (R * C) c] 28) := by
  have hk := place_lt hi hj
  have h4 := le_4096 hR hC
  obtain ⟨b, off, rfl, hb, hcx⟩ := hc (i * C + j) (by omega)
  have hm := wrap_mul (i := i) (C := C) (by omega) (by omega)
  obtain ⟨x, hx⟩ : ∃ x, x = zat xs (i * C + j) := ⟨_, rfl⟩
  rw [← hx] at hcx ⊢
  obtain ⟨k, hke⟩ : ∃ k, k = i * C := ⟨_, rfl⟩
  obtain ⟨n, hne⟩ : ∃ n, n = R * C := ⟨_, rfl⟩
  rw [← hke] at hm hk hcx
  rw [← hne] at hk h4 ⊢
  clear hn hc hke hne hx
  unfold cx at hcx ⊢
  go_enter Try.func68, Try.ntmps68
  go_wp2
  go_ret
  exact ⟨rfl, rfl⟩
theorem rent {w : World} {R C c i j : Nat} {A : Option Addr} {F : Nat → Cn} {xs : List Cw} (h : Mx w R C A c F xs) (hi : i < R) (hj : j < C) :
    Calls Try.prog 68 #[.agg #[.int .i64 R, .int .i64 C, .slice A (R * C) c], .int .i64 i, .int .i64 j] w fun e w' => e = .returned (.complex .f64 (zat xs (i * C + j)).1 (zat xs (i * C + j)).2) ∧ Below w.heap.size w w' :=
  (rentry_any R C i j A c xs w h.len h.hR h.hC hi hj h.sl.rd).mono (by rintro e w' ⟨rfl, rfl⟩; exact ⟨rfl, bal _ _⟩)
set_option maxHeartbeats 1000000 in
theorem rblank (R C : Nat) (w : World) (hR : R ≤ 64) (hC : C ≤ 64) :
    Calls Try.prog 65 #[.int .i64 R, .int .i64 C] w fun e w' => ∃ g, e = .returned (.agg #[.int .i64 R, .int .i64 C, .slice (some ⟨g, 0, none⟩) (R * C) (R * C)]) ∧ w'.ownsRow w.heap.size 43 1 (.slice (some ⟨g, 0, none⟩) (R * C) (R * C)) (R * C) ((List.replicate (R * C) ((0, 0) : Cw)).map cx) ∧ Below w.heap.size w w' := by
  obtain ⟨i0, hi, hz0, hz1, hz2⟩ := info_parts Try.infoC
  have h4 := le_4096 hR hC
  have hm := wrap_mul (i := R) (C := C) (by omega) (by omega)
  obtain ⟨n, hne⟩ : ∃ n, n = R * C := ⟨_, rfl⟩
  rw [← hne] at hm h4 ⊢
  clear hne
  have V0 : V3 w.heap.size (.int .i64 0) (.int .i64 0) (.slice none 0 0) (w.alloc (.cells #[.int .i64 0, .int .i64 0, .slice none 0 0] 28)) := v3_new w _ _ _ _
  have B0 : Below w.heap.size w (w.alloc (.cells #[.int .i64 0, .int .i64 0, .slice none 0 0] 28)) := (Below.refl _ _).alloc (Nat.le_refl _) _
  go_enter Try.func65, Try.ntmps65
  go_wp2_with (at_make; (refine wpList_make_full _ rfl _ _ 25 rfl w.heap.size 43 i0 (.complex .f64 0 0) 1 Try.underlying25 hi hz0 hz1 _ _ _ _ n rfl rfl (by first | rfl | exact hm) (by first | rfl | exact hm) (by rw [hz2]; omega) (by unfold maxLen; omega) (by simp) ?_); intro w1 hown hgrow; (have BB : Below w.heap.size w w1 := B0.grown hgrow (by simp) (by intro k hk; simp at hk)); (have V1 : V3 w.heap.size (.int .i64 0) (.int .i64 0) (.slice none 0 0) w1 := V0.below ((Below.refl _ _).grown hgrow (Nat.le_refl _) (by intro k hk; simp at hk))); (rw [made_zeroC] at hown); (simp only [size_al] at hown); clear hgrow V0 B0; (obtain ⟨r0, r1, r2⟩ := V1.reads); (obtain ⟨_, q0, q1, q2, q3, q4, q5⟩ := V1))
  refine bodyPost_ret (by simp [results, Try.results65, go_sem, r0, r1, r2]; try rfl) rfl ?_
  exact ⟨_, rfl, own_at hown (fun q hq => by cases hq; exact set3_block (p := w.heap.size) (g := w.heap.size + 1) (by omega)), below_set3 BB (Nat.le_refl _) _ _ _⟩

end Go.Proofs.Ytomllbpkjhoepaa
