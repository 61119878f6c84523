/-
  What the calls of package matrix hand back that ask two matrices; the identity; what is none.
-/
import Derived.Test.YtjjpgmgnejhggaaMe
namespace Go.Proofs.Ytjjpgmgnejhggaa
open Fl RowKit

/-- may both be, and have as many rows and columns? -/
def prB (R C : Int) (n : Nat) (R' C' : Int) (n' : Nat) : Bool := mb R C n && mb R' C' n' && decide (R = R') && decide (C = C')
theorem paired_mx (R C R' C' : Int) (A A' : Option Addr) (n c n' c' : Nat) (w : World) (hn : n ≤ 1000000000000000) (hn' : n' ≤ 1000000000000000) :
    Calls Try.prog 81 #[.agg #[.int .i64 R, .int .i64 C, .slice A n c], .agg #[.int .i64 R', .int .i64 C', .slice A' n' c']] w fun e w' => e = .returned (.bool (prB R C n R' C' n')) ∧ Below w.heap.size w w' := by
  have B2 : ∀ o p, Below w.heap.size w ((w.alloc o).alloc p) := fun o p => ba (ba (below_self _) _) _
  cases h1 : mb R C n
  · have e : prB R C n R' C' n' = false := by unfold prB; rw [h1]; rfl
    rw [e]
    go_enter Try.func81, Try.ntmps81
    go_wp2_with (go_at_call 63; (refine (mayBe_any _ _ _ _ _ _ (by assumption)).mono ?_); (rintro e w' ⟨rfl, rfl⟩); (rw [h1]))
    go_ret
    exact ⟨rfl, ba (B2 _ _) _⟩
  · cases h2 : mb R' C' n'
    · have e : prB R C n R' C' n' = false := by unfold prB; rw [h1, h2]; rfl
      rw [e]
      go_enter Try.func81, Try.ntmps81
      go_wp2_with (first
        | (go_at_call 63; (with_reducible refine (mayBe_any R C A n c _ hn).mono ?_); (rintro e w' ⟨rfl, rfl⟩); (rw [h1]))
        | (go_at_call 63; (with_reducible refine (mayBe_any R' C' A' n' c' _ hn').mono ?_); (rintro e w' ⟨rfl, rfl⟩); (rw [h2])))
      go_ret
      exact ⟨rfl, ba (ba (B2 _ _) _) _⟩
    · by_cases h3 : R = R'
      · by_cases h4 : C = C'
        · have e : prB R C n R' C' n' = true := by unfold prB; rw [h1, h2, decide_eq_true h3, decide_eq_true h4]; rfl
          rw [e]
          clear e
          subst h3 h4
          go_enter Try.func81, Try.ntmps81
          go_wp2_with (first
            | (go_at_call 63; (with_reducible refine (mayBe_any R C A n c _ hn).mono ?_); (rintro e w' ⟨rfl, rfl⟩); (rw [h1]))
            | (go_at_call 63; (with_reducible refine (mayBe_any R C A' n' c' _ hn').mono ?_); (rintro e w' ⟨rfl, rfl⟩); (rw [h2])))
          go_ret
          exact ⟨rfl, ba (ba (B2 _ _) _) _⟩
        · have e : prB R C n R' C' n' = false := by unfold prB; rw [h1, h2, decide_eq_true h3, decide_eq_false h4]; rfl
          rw [e]
          clear e
          subst h3
          go_enter Try.func81, Try.ntmps81
          go_wp2_with (first
            | (go_at_call 63; (with_reducible refine (mayBe_any R C A n c _ hn).mono ?_); (rintro e w' ⟨rfl, rfl⟩); (rw [h1]))
            | (go_at_call 63; (with_reducible refine (mayBe_any R C' A' n' c' _ hn').mono ?_); (rintro e w' ⟨rfl, rfl⟩); (rw [h2])))
          go_ret
          exact ⟨by show Ending.returned (.bool (C == C')) = _; rw [beq_false_of_ne h4], ba (ba (B2 _ _) _) _⟩
      · have e : prB R C n R' C' n' = false := by unfold prB; rw [h1, h2, decide_eq_false h3]; rfl
        rw [e]
        go_enter Try.func81, Try.ntmps81
        go_wp2_with (first
          | (go_at_call 63; (with_reducible refine (mayBe_any R C A n c _ hn).mono ?_); (rintro e w' ⟨rfl, rfl⟩); (rw [h1]))
          | (go_at_call 63; (with_reducible refine (mayBe_any R' C' A' n' c' _ hn').mono ?_); (rintro e w' ⟨rfl, rfl⟩); (rw [h2])))
        go_ret
        exact ⟨rfl, ba (ba (B2 _ _) _) _⟩
theorem flat_flat {C : Nat} {f : Nat → Cn} (k : Nat) : flat C (fun i j => f (i * C + j)) k = f k := by
  show f (k / C * C + k % C) = f k
  rw [Nat.mul_comm, Nat.div_add_mod]
theorem flatB_flat {C : Nat} {p : Nat → Bool} (k : Nat) : flatB C (fun i j => p (i * C + j)) k = p k := by
  show p (k / C * C + k % C) = p k
  rw [Nat.mul_comm, Nat.div_add_mod]
section two
variable {w : World} {R C c c' : Nat} {A A' : Option Addr} {F G : Nat → Cn} {xs ys : List Cw} (h : Mx w R C A c F xs) (h' : Mx w R C A' c' G ys)
include h h'
omit h' in
theorem pr_yes : prB R C (R * C) R C (R * C) = true := by unfold prB; rw [h.mb]; simp
set_option maxHeartbeats 1000000 in
theorem mplaced_add : Calls Try.prog 61 #[.agg #[.int .i64 R, .int .i64 C, .slice A (R * C) c], .agg #[.int .i64 R, .int .i64 C, .slice A' (R * C) c'], .func (.func 54) #[] #[]] w fun e w' => ∃ g zs, e = .returned (.tuple #[.agg #[.int .i64 R, .int .i64 C, .slice (some ⟨g, 0, none⟩) (R * C) (R * C)], .int .i64 0]) ∧ New w.heap.size (zipF addZ F G) (R * C) zs (.slice (some ⟨g, 0, none⟩) (R * C) (R * C)) w' ∧ Below w.heap.size w w' := by
  have hR := h.hR
  have hC := h.hC
  have hn := small (le_4096 hR hC)
  have hp := pr_yes h
  go_enter Try.func61, Try.ntmps61
  go_wp2_with (first
    | (go_at_call 81; (refine (paired_mx _ _ _ _ _ _ _ _ _ _ _ hn hn).mono ?_); (rintro e w1 ⟨rfl, hb1⟩); (rw [hp]); (have Va : V3 w.heap.size (.int .i64 R) (.int .i64 C) (.slice A (R * C) c) w1 := V3.below (by repeat first | exact v3_at _ _ _ _ _ (by first | rfl | (simp only [size_al]; first | done | omega)) | refine V3.below ?_ (bal _ _)) hb1); (have Vb : V3 (w.heap.size + 1) (.int .i64 R) (.int .i64 C) (.slice A' (R * C) c') w1 := V3.below (by repeat first | exact v3_at _ _ _ _ _ (by first | rfl | (simp only [size_al]; first | done | omega)) | refine V3.below ?_ (bal _ _)) hb1); (have Vr : V3 (w.heap.size + 1 + 1 + 1) (.int .i64 0) (.int .i64 0) (.slice none 0 0) w1 := V3.below (by repeat first | exact v3_at _ _ _ _ _ (by first | rfl | (simp only [size_al]; first | done | omega)) | refine V3.below ?_ (bal _ _)) hb1); (have cf : w1.cell? ⟨w.heap.size + 1 + 1, 0, none⟩ = some (.func (.func 54) #[] #[]) := (hb1.cell (p := ⟨w.heap.size + 1 + 1, 0, none⟩) (by simp only [size_al]; omega)).trans (by repeat first | exact al_at _ _ _ _ 0 (by first | rfl | (simp only [size_al]; first | done | omega)) | (refine cell_al ?_ (by simp only [size_al]; omega)))); (have B1 : Below w.heap.size w w1 := b_of (by repeat first | exact below_self _ | refine ba ?_ _ ) hb1 (by simp only [size_al]; omega)); (have s1 := hb1.size); (simp only [size_al] at s1); clear hb1; (have a0 := Va.c0); (have a1 := Va.c1))
    | (go_at_call 65; (refine (made_any _ _ _ R C _ hR hC ent_placed1 (says_mplaced_add (h.below B1) Va (h'.below B1) Vb (Bf := w.heap.size + 1 + 1) (by omega) cf rfl rfl)).mono ?_); (rintro e w3 ⟨g, zs, rfl, hN, hb⟩); (have Vs := Vr.below hb); (obtain ⟨r0, r1, r2⟩ := Vs.reads); (obtain ⟨_, q0, q1, q2, q3, q4, q5⟩ := Vs); (have BB : Below w.heap.size w w3 := b_of B1 hb (by omega)); (have HN : New w.heap.size _ _ zs _ w3 := hN.base (by omega)); (have hg := hN.ge); clear hN hb))
  refine bodyPost_ret (by simp [results, Try.results61, go_sem, r0, r1, r2]; try rfl) rfl ?_
  exact ⟨_, zs, rfl, (HN.set3 (by omega) _ _ _).congr (fun k _ => flat_flat (f := zipF addZ F G) k), below_set3 BB (by omega) _ _ _⟩
set_option maxHeartbeats 1000000 in
theorem madd : Calls Try.prog 11 #[.agg #[.int .i64 R, .int .i64 C, .slice A (R * C) c], .agg #[.int .i64 R, .int .i64 C, .slice A' (R * C) c']] w fun e w' => ∃ g zs, e = .returned (.tuple #[.agg #[.int .i64 R, .int .i64 C, .slice (some ⟨g, 0, none⟩) (R * C) (R * C)], .int .i64 0]) ∧ New w.heap.size (zipF addZ F G) (R * C) zs (.slice (some ⟨g, 0, none⟩) (R * C) (R * C)) w' ∧ Below w.heap.size w w' := by
  go_enter Try.func11, Try.ntmps11
  go_wp2_with (go_at_call 61; (refine (mplaced_add (h.below (by repeat first | exact below_self _ | refine ba ?_ _ )) (h'.below (by repeat first | exact below_self _ | refine ba ?_ _ ))).mono ?_); (rintro e w3 ⟨g, zs, rfl, hN, hb⟩); (have Vr : V3 (w.heap.size + 1 + 1) (.int .i64 0) (.int .i64 0) (.slice none 0 0) w3 := V3.below (by repeat first | exact v3_at _ _ _ _ _ (by first | rfl | (simp only [size_al]; first | done | omega)) | refine V3.below ?_ (bal _ _)) hb); (obtain ⟨r0, r1, r2⟩ := Vr.reads); (obtain ⟨_, q0, q1, q2, q3, q4, q5⟩ := Vr); (have BB : Below w.heap.size w w3 := b_of (by repeat first | exact below_self _ | refine ba ?_ _ ) hb (by simp; try omega)); (have HN : New w.heap.size _ _ zs _ w3 := hN.base (by simp; try omega)); (have hg := hN.ge); (simp at hg); clear hN hb)
  refine bodyPost_ret (by simp [results, Try.results11, go_sem, r0, r1, r2]; try rfl) rfl ?_
  exact ⟨_, zs, rfl, HN.set3 (by omega) _ _ _, below_set3 BB (by omega) _ _ _⟩
set_option maxHeartbeats 1000000 in
theorem mplaced_sub : Calls Try.prog 61 #[.agg #[.int .i64 R, .int .i64 C, .slice A (R * C) c], .agg #[.int .i64 R, .int .i64 C, .slice A' (R * C) c'], .func (.func 62) #[] #[]] w fun e w' => ∃ g zs, e = .returned (.tuple #[.agg #[.int .i64 R, .int .i64 C, .slice (some ⟨g, 0, none⟩) (R * C) (R * C)], .int .i64 0]) ∧ New w.heap.size (zipF subZ F G) (R * C) zs (.slice (some ⟨g, 0, none⟩) (R * C) (R * C)) w' ∧ Below w.heap.size w w' := by
  have hR := h.hR
  have hC := h.hC
  have hn := small (le_4096 hR hC)
  have hp := pr_yes h
  go_enter Try.func61, Try.ntmps61
  go_wp2_with (first
    | (go_at_call 81; (refine (paired_mx _ _ _ _ _ _ _ _ _ _ _ hn hn).mono ?_); (rintro e w1 ⟨rfl, hb1⟩); (rw [hp]); (have Va : V3 w.heap.size (.int .i64 R) (.int .i64 C) (.slice A (R * C) c) w1 := V3.below (by repeat first | exact v3_at _ _ _ _ _ (by first | rfl | (simp only [size_al]; first | done | omega)) | refine V3.below ?_ (bal _ _)) hb1); (have Vb : V3 (w.heap.size + 1) (.int .i64 R) (.int .i64 C) (.slice A' (R * C) c') w1 := V3.below (by repeat first | exact v3_at _ _ _ _ _ (by first | rfl | (simp only [size_al]; first | done | omega)) | refine V3.below ?_ (bal _ _)) hb1); (have Vr : V3 (w.heap.size + 1 + 1 + 1) (.int .i64 0) (.int .i64 0) (.slice none 0 0) w1 := V3.below (by repeat first | exact v3_at _ _ _ _ _ (by first | rfl | (simp only [size_al]; first | done | omega)) | refine V3.below ?_ (bal _ _)) hb1); (have cf : w1.cell? ⟨w.heap.size + 1 + 1, 0, none⟩ = some (.func (.func 62) #[] #[]) := (hb1.cell (p := ⟨w.heap.size + 1 + 1, 0, none⟩) (by simp only [size_al]; omega)).trans (by repeat first | exact al_at _ _ _ _ 0 (by first | rfl | (simp only [size_al]; first | done | omega)) | (refine cell_al ?_ (by simp only [size_al]; omega)))); (have B1 : Below w.heap.size w w1 := b_of (by repeat first | exact below_self _ | refine ba ?_ _ ) hb1 (by simp only [size_al]; omega)); (have s1 := hb1.size); (simp only [size_al] at s1); clear hb1; (have a0 := Va.c0); (have a1 := Va.c1))
    | (go_at_call 65; (refine (made_any _ _ _ R C _ hR hC ent_placed1 (says_mplaced_sub (h.below B1) Va (h'.below B1) Vb (Bf := w.heap.size + 1 + 1) (by omega) cf rfl rfl)).mono ?_); (rintro e w3 ⟨g, zs, rfl, hN, hb⟩); (have Vs := Vr.below hb); (obtain ⟨r0, r1, r2⟩ := Vs.reads); (obtain ⟨_, q0, q1, q2, q3, q4, q5⟩ := Vs); (have BB : Below w.heap.size w w3 := b_of B1 hb (by omega)); (have HN : New w.heap.size _ _ zs _ w3 := hN.base (by omega)); (have hg := hN.ge); clear hN hb))
  refine bodyPost_ret (by simp [results, Try.results61, go_sem, r0, r1, r2]; try rfl) rfl ?_
  exact ⟨_, zs, rfl, (HN.set3 (by omega) _ _ _).congr (fun k _ => flat_flat (f := zipF subZ F G) k), below_set3 BB (by omega) _ _ _⟩
set_option maxHeartbeats 1000000 in
theorem msub : Calls Try.prog 12 #[.agg #[.int .i64 R, .int .i64 C, .slice A (R * C) c], .agg #[.int .i64 R, .int .i64 C, .slice A' (R * C) c']] w fun e w' => ∃ g zs, e = .returned (.tuple #[.agg #[.int .i64 R, .int .i64 C, .slice (some ⟨g, 0, none⟩) (R * C) (R * C)], .int .i64 0]) ∧ New w.heap.size (zipF subZ F G) (R * C) zs (.slice (some ⟨g, 0, none⟩) (R * C) (R * C)) w' ∧ Below w.heap.size w w' := by
  go_enter Try.func12, Try.ntmps12
  go_wp2_with (go_at_call 61; (refine (mplaced_sub (h.below (by repeat first | exact below_self _ | refine ba ?_ _ )) (h'.below (by repeat first | exact below_self _ | refine ba ?_ _ ))).mono ?_); (rintro e w3 ⟨g, zs, rfl, hN, hb⟩); (have Vr : V3 (w.heap.size + 1 + 1) (.int .i64 0) (.int .i64 0) (.slice none 0 0) w3 := V3.below (by repeat first | exact v3_at _ _ _ _ _ (by first | rfl | (simp only [size_al]; first | done | omega)) | refine V3.below ?_ (bal _ _)) hb); (obtain ⟨r0, r1, r2⟩ := Vr.reads); (obtain ⟨_, q0, q1, q2, q3, q4, q5⟩ := Vr); (have BB : Below w.heap.size w w3 := b_of (by repeat first | exact below_self _ | refine ba ?_ _ ) hb (by simp; try omega)); (have HN : New w.heap.size _ _ zs _ w3 := hN.base (by simp; try omega)); (have hg := hN.ge); (simp at hg); clear hN hb)
  refine bodyPost_ret (by simp [results, Try.results12, go_sem, r0, r1, r2]; try rfl) rfl ?_
  exact ⟨_, zs, rfl, HN.set3 (by omega) _ _ _, below_set3 BB (by omega) _ _ _⟩
end two

end Go.Proofs.Ytjjpgmgnejhggaa
