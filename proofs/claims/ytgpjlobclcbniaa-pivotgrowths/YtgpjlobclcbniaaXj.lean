/-
  A matrix that is lent: its numbers stand ahead of marks.
-/
import Derived.Test.YtgpjlobclcbniaaXg
namespace Go.Proofs.Ytgpjlobclcbniaa
open Fl RowKit

set_option maxHeartbeats 2000000 in
theorem lentM {R C : Int} {A : Option Addr} {c n : Nat} {xs : List Cw} {w : World} (h : Src w A c n xs) (hsz : n * 16 + 96 ≤ 140737488355328) :
    Calls Try.prog 15 #[.agg #[.int .i64 R, .int .i64 C, .slice A n c]] w fun e w' => ∃ g c', e = .returned (.tuple #[.agg #[.int .i64 R, .int .i64 C, .slice (some ⟨g, 0, none⟩) n c'], .slice (some ⟨g, 0, none⟩) (n + 6) c']) ∧ (n + 6 ≤ c' ∧ c' ≤ maxLen) ∧ Rw w' w.heap.size (.slice (some ⟨g, 0, none⟩) (n + 6) c') (n + 6) (xs ++ marks 7 6) ∧ Below w.heap.size w w' := by
  obtain ⟨wA, hwA⟩ : ∃ wA, wA = (w.alloc (.cells #[.int .i64 R, .int .i64 C, .slice A n c] 35)).alloc (.cells #[.int .i64 0, .int .i64 0, .slice none 0 0] 35) := ⟨_, rfl⟩
  have Va : V3 w.heap.size (.int .i64 R) (.int .i64 C) (.slice A n c) wA := by rw [hwA]; exact (v3_new w _ _ _ _).below (bal _ _)
  have Vr : V3 (w.heap.size + 1) (.int .i64 0) (.int .i64 0) (.slice none 0 0) wA := by rw [hwA]; exact v3_at _ _ _ _ _ (size_al _ _)
  have BA : Below w.heap.size w wA := by rw [hwA]; exact ba (bal _ _) _
  have sA : wA.heap.size = w.heap.size + 1 + 1 := by rw [hwA, size_al, size_al]
  have SA := h.below BA
  subst hwA
  have n1 : w.heap.size ≠ w.heap.size + 1 := by omega
  go_enter Try.func15, Try.ntmps15
  go_wp2_with (first
    | (go_at_call 10; (with_reducible refine (tlent SA hsz).mono ?_); rintro e w1 ⟨g, c', rfl, ⟨hc1, hc2⟩, RX, bb1⟩; have D1 := Va.below bb1; have Dr := Vr.below bb1; have R3 := (Dr.other (q := ⟨w.heap.size, 2, none⟩) n1 (.slice (some ⟨g, 0, none⟩) n c')).reads; have BW := hid_of (b_of BA bb1 BA.size); have HRX := hid_of RX; obtain ⟨_, a0, a1, a2, a3, a4, a5⟩ := D1; obtain ⟨_, q0, q1, q2, q3, q4, q5⟩ := Dr; clear Va Vr BA SA bb1 RX))
  obtain ⟨m0, m1, m2⟩ := R3
  refine bodyPost_ret (by simp [results, Try.results15, go_sem, m0, m1, m2]; try rfl) rfl ?_
  have RX' : Rw w1 (w.heap.size + 1 + 1) (.slice (some ⟨g, 0, none⟩) (n + 6) c') (n + 6) (xs ++ marks 7 6) := rw_base HRX.out (Nat.le_of_eq sA.symm)
  have hg := RX'.lt
  have R1 : Rw (w1.setCell ⟨w.heap.size, 2, none⟩ (.slice (some ⟨g, 0, none⟩) n c')) (w.heap.size + 1 + 1) (.slice (some ⟨g, 0, none⟩) (n + 6) c') (n + 6) (xs ++ marks 7 6) := ⟨RX'.len, own_at RX'.own (fun q hq => by
    have : g = q := by simpa [Value.ownBlock] using hq
    exact Below.heap_setCell _ _ _ _ (by show q ≠ w.heap.size; omega))⟩
  exact ⟨g, c', rfl, ⟨hc1, hc2⟩, rw_base (R1.set3 (p := w.heap.size + 1) (by omega) _ _ _) (by omega), below_set3 (BW.out.setCell (p := ⟨w.heap.size, 2, none⟩) (Nat.le_refl _) _) (by omega) _ _ _⟩

end Go.Proofs.Ytgpjlobclcbniaa
