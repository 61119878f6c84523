/-
  The document's Lower of no rows; what it says of wrong shapes.
-/
import Derived.Test.YtklbgibhbnijaaaLri
import Derived.Test.YtklbgibhbnijaaaLrl
import Derived.Test.YtklbgibhbnijaaaLrk
namespace Go.Proofs.Ytklbgibhbnijaaa
open Fl RowKit
set_option linter.unusedVariables false

set_option maxRecDepth 4000 in
set_option maxHeartbeats 2000000 in
theorem r9u_zero {v : Value} {A B : Value} {odd : Bool} {w : World} (h : Hr w v true 0 A B odd) :
    Calls Try.prog 70 #[v] w fun e w' => e = .returned (.agg #[.int .i64 0, .int .i64 0, .slice none 0 0]) ∧ Below w.heap.size w w' := by
  have B0 : Below w.heap.size w (w.alloc (.cells #[.int .i64 0, .int .i64 0, .slice none 0 0] 26)) := bal _ _
  have HL := hid_o h
  have HR := hid_o (h.below B0)
  clear h B0
  go_enter Try.func70, Try.ntmps70
  go_wp2_with (go_at_call 67; (with_reducible refine (r9size_any HR.out).mono ?_); rintro e w1 ⟨rfl, hw1⟩; subst hw1; simp only [if_true])
  clear HR
  go_loopw [4] (fun iv wr => iv = .int .i64 0 ∧ Gm w wr 0 0 (fun _ => (0, 0)) (.slice none 0 0)) (fun _ _ => 0)
  case atStart => exact ⟨rfl, gm_new _ 0 _⟩
  case round =>
    obtain ⟨rfl, hg⟩ := hrel
    have HR := hid_o (HL.out.below hg.bel)
    have HG := hid_o hg
    have q0 := hg.v.c0
    have q1 := hg.v.c1
    have q2 := hg.v.c2
    have ql := hg.v.lt
    have p0 := hg.r.c0
    have p1 := hg.r.c1
    have p2 := hg.r.c2
    have p3 := hg.r.f0
    have p4 := hg.r.f1
    have p5 := hg.r.f2
    have pl := hg.r.lt
    clear hg
    go_wp2_with (go_at_call 67; (with_reducible refine (r9size_any HR.out).mono ?_); rintro e w1 ⟨rfl, hw1⟩; subst hw1; simp only [if_true])
    obtain ⟨m0, m1, m2⟩ := HG.out.r.reads
    refine bodyPost_ret (by simp [results, Try.results70, go_sem, m0, m1, m2]; try rfl) rfl ?_
    exact ⟨rfl, below_set3 HG.out.bel (Nat.le_refl _) _ _ _⟩
set_option maxRecDepth 4000 in
set_option maxHeartbeats 2000000 in
theorem r9l_zero {v : Value} {A B : Value} {odd : Bool} {w : World} (h : Hr w v true 0 A B odd) :
    Calls Try.prog 69 #[v] w fun e w' => e = .returned (.agg #[.int .i64 0, .int .i64 0, .slice none 0 0]) ∧ Below w.heap.size w w' := by
  have B0 : Below w.heap.size w (w.alloc (.cells #[.int .i64 0, .int .i64 0, .slice none 0 0] 26)) := bal _ _
  have HL := hid_o h
  have HR := hid_o (h.below B0)
  clear h B0
  go_enter Try.func69, Try.ntmps69
  go_wp2_with (go_at_call 67; (with_reducible refine (r9size_any HR.out).mono ?_); rintro e w1 ⟨rfl, hw1⟩; subst hw1; simp only [if_true])
  clear HR
  go_loopw [4] (fun iv wr => iv = .int .i64 0 ∧ Gm w wr 0 0 (fun _ => (0, 0)) (.slice none 0 0)) (fun _ _ => 0)
  case atStart => exact ⟨rfl, gm_new _ 0 _⟩
  case round =>
    obtain ⟨rfl, hg⟩ := hrel
    have HR := hid_o (HL.out.below hg.bel)
    have HG := hid_o hg
    have q0 := hg.v.c0
    have q1 := hg.v.c1
    have q2 := hg.v.c2
    have ql := hg.v.lt
    have p0 := hg.r.c0
    have p1 := hg.r.c1
    have p2 := hg.r.c2
    have p3 := hg.r.f0
    have p4 := hg.r.f1
    have p5 := hg.r.f2
    have pl := hg.r.lt
    clear hg
    go_wp2_with (go_at_call 67; (with_reducible refine (r9size_any HR.out).mono ?_); rintro e w1 ⟨rfl, hw1⟩; subst hw1; simp only [if_true])
    obtain ⟨m0, m1, m2⟩ := HG.out.r.reads
    refine bodyPost_ret (by simp [results, Try.results69, go_sem, m0, m1, m2]; try rfl) rfl ?_
    exact ⟨rfl, below_set3 HG.out.bel (Nat.le_refl _) _ _ _⟩
set_option maxHeartbeats 1000000 in
theorem r9pivots_zero {v : Value} {A B : Value} {odd : Bool} {w : World} (h : Hr w v true 0 A B odd) :
    Calls Try.prog 71 #[v] w fun e w' => e = .returned (.slice none 0 0) ∧ w' = w := by
  have HH := hid_o h
  clear h
  go_enter Try.func71, Try.ntmps71
  go_wp2
  go_loopw [3, 4] (fun v i wr => v = .slice none 0 0 ∧ i = .int .i64 0 ∧ wr = w) (fun _ _ _ => 0)
  case atStart => exact ⟨rfl, rfl, rfl⟩
  case round =>
    obtain ⟨rfl, rfl, rfl⟩ := hrel
    go_wp2_with (go_at_call 67; (with_reducible refine (r9size_any HH.out).mono ?_); rintro e w1 ⟨rfl, rfl⟩; simp only [if_true])
    go_ret
    exact ⟨rfl, rfl⟩
set_option maxHeartbeats 1000000 in
theorem r9order_zero {p : Nat} {A : Value} {odd ties : Bool} {w : World} (h : V6 p (.int .i64 0) A (.slice none 0 0) (.bool odd) (.bool ties) (.bool true) w) :
    Calls Try.prog 72 #[.pointer (some ⟨p, 0, none⟩)] w fun e w' => e = .returned (.slice none 0 0) ∧ Below w.heap.size w w' := by
  have HH : Hid (Hr w (.pointer (some ⟨p, 0, none⟩)) true 0 A (.slice none 0 0) odd) := .inr ⟨p, ties, rfl, h⟩
  have c2 := h.c2
  have pl := h.lt
  clear h
  go_enter Try.func72, Try.ntmps72
  go_wp2_with (first
    | (go_at_call 109; (with_reducible refine (r9none_any HH.out).mono ?_); rintro e w1 ⟨rfl, hw⟩; subst w1))
  go_ret
  exact ⟨rfl, Below.refl _ _⟩
set_option maxHeartbeats 4000000 in
theorem rshaped_no (R C : Int) (l c : Nat) (A : Option Addr) (w : World) (hl : l ≤ 1000000000000000) (h : ¬ (mb R C l = true ∧ R = C)) : Calls Try.prog 35 #[.agg #[.int .i64 R, .int .i64 C, .slice A l c]] w fun e w' => e = .returned (.bool false) ∧ Below w.heap.size w w' := by
  by_cases h0 : 0 ≤ R
  · by_cases h1 : R ≤ 64
    · by_cases h2 : C = R
      · subst h2
        obtain ⟨N, rfl⟩ := Int.eq_ofNat_of_zero_le h0
        have hm := wrap_mul (i := N) (C := N) (by omega) (by omega)
        have hne : ((l : Int) == ((N * N : Nat) : Int)) = false := by
          rw [beq_eq_false_iff_ne]
          intro e
          refine h ⟨?_, rfl⟩
          have : l = N * N := by omega
          subst this
          exact mb_sq (by omega)
        obtain ⟨Q, hQ⟩ : ∃ Q, Q = N * N := ⟨_, rfl⟩
        rw [← hQ] at hm hne
        clear h hQ
        go_enter Try.func35, Try.ntmps35
        go_wp2
        go_ret
        exact ⟨rfl, bal _ _⟩
      · have hne : (C == R) = false := by rw [beq_eq_false_iff_ne]; exact h2
        clear h
        go_enter Try.func35, Try.ntmps35
        go_wp2
        go_ret
        exact ⟨rfl, bal _ _⟩
    · have h1' : decide (R ≤ 64) = false := decide_eq_false h1
      clear h
      go_enter Try.func35, Try.ntmps35
      go_wp2
      go_ret
      exact ⟨rfl, bal _ _⟩
  · have h0' : decide (0 ≤ R) = false := decide_eq_false h0
    clear h
    go_enter Try.func35, Try.ntmps35
    go_wp2
    go_ret
    exact ⟨rfl, bal _ _⟩
set_option maxHeartbeats 4000000 in
theorem rof_shape (R C : Int) (l c : Nat) (A : Option Addr) (w : World) (hl : l ≤ 1000000000000000) (h : ¬ (mb R C l = true ∧ R = C)) : Calls Try.prog 11 #[.agg #[.int .i64 R, .int .i64 C, .slice A l c]] w fun e w' => e = .returned (.tuple #[.pointer none, .agg #[.int .i64 4, .int .i64 (-1)]]) ∧ Below w.heap.size w w' := by
  have V0 := hid_o (v3_new w (.int .i64 R) (.int .i64 C) (.slice A l c) 26)
  have H := hid_o h
  clear h
  go_enter Try.func11, Try.ntmps11
  go_wp2_with (go_at_call 35; (with_reducible refine (rshaped_no R C l c A _ hl H.out).mono ?_); rintro e w1 ⟨rfl, hb1⟩; have HB1 := hid_o ((ba (bal w _) (.cells #[.int .i64 0, .int .i64 0] 35)).trans (hb1.mono (by simp; omega))); have HU1 := hid_o ((v2_new (w.alloc (.cells #[.int .i64 R, .int .i64 C, .slice A l c] 26)) (.int .i64 0) (.int .i64 0) 35).below hb1); clear hb1; have U5 : V2 (w.heap.size + 1) (.int .i64 0) (.int .i64 0) w1 := (by simpa using HU1.out); have q0 := U5.c0; have q1 := U5.c1; have q2 := U5.f0; have q3 := U5.f1; have ql := U5.lt; have rr := U5.reads; clear U5 HU1)
  refine bodyPost_ret (by simp [results, Try.results11, go_sem, rr.1, rr.2]; try rfl) rfl ?_
  exact ⟨rfl, below_set2 HB1.out (by omega) _ _⟩
end Go.Proofs.Ytklbgibhbnijaaa
