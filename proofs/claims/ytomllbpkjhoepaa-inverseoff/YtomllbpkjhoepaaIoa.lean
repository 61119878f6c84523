/-
  Off of the program and of the document, of any two matrices; a matrix that is lent.
-/
import Derived.Test.YtomllbpkjhoepaaMnd
namespace Go.Proofs.Ytomllbpkjhoepaa
open Fl RowKit

set_option maxHeartbeats 2000000 in
theorem lentM12 {R C : Int} {A : Option Addr} {c n : Nat} {xs : List Cw} {w : World} (h : Src w A c n xs) (hsz : n * 16 + 96 ≤ 140737488355328) :
    Calls Try.prog 8 #[.agg #[.int .i64 R, .int .i64 C, .slice A n c]] w fun e w' => ∃ g c', e = .returned (.tuple #[.agg #[.int .i64 R, .int .i64 C, .slice (some ⟨g, 0, none⟩) n c'], .slice (some ⟨g, 0, none⟩) (n + 6) c']) ∧ (n + 6 ≤ c' ∧ c' ≤ maxLen) ∧ Rw w' w.heap.size (.slice (some ⟨g, 0, none⟩) (n + 6) c') (n + 6) (xs ++ marks 7 6) ∧ Below w.heap.size w w' := by
  obtain ⟨wA, hwA⟩ : ∃ wA, wA = (w.alloc (.cells #[.int .i64 R, .int .i64 C, .slice A n c] 28)).alloc (.cells #[.int .i64 0, .int .i64 0, .slice none 0 0] 28) := ⟨_, rfl⟩
  have Va : V3 w.heap.size (.int .i64 R) (.int .i64 C) (.slice A n c) wA := by rw [hwA]; exact (v3_new w _ _ _ _).below (bal _ _)
  have Vr : V3 (w.heap.size + 1) (.int .i64 0) (.int .i64 0) (.slice none 0 0) wA := by rw [hwA]; exact v3_at _ _ _ _ _ (size_al _ _)
  have BA : Below w.heap.size w wA := by rw [hwA]; exact ba (bal _ _) _
  have sA : wA.heap.size = w.heap.size + 1 + 1 := by rw [hwA, size_al, size_al]
  have SA := h.below BA
  subst hwA
  have n1 : w.heap.size ≠ w.heap.size + 1 := by omega
  go_enter Try.func8, Try.ntmps8
  go_wp2_with (first
    | (go_at_call 25; (with_reducible refine (tlent SA hsz).mono ?_); rintro e w1 ⟨g, c', rfl, ⟨hc1, hc2⟩, RX, bb1⟩; have D1 := Va.below bb1; have Dr := Vr.below bb1; have R3 := (Dr.other (q := ⟨w.heap.size, 2, none⟩) n1 (.slice (some ⟨g, 0, none⟩) n c')).reads; have BW := hid_o (b_of BA bb1 BA.size); have HRX := hid_o RX; obtain ⟨_, a0, a1, a2, a3, a4, a5⟩ := D1; obtain ⟨_, q0, q1, q2, q3, q4, q5⟩ := Dr; clear Va Vr BA SA bb1 RX))
  obtain ⟨m0, m1, m2⟩ := R3
  refine bodyPost_ret (by simp [results, Try.results8, go_sem, m0, m1, m2]; try rfl) rfl ?_
  have RX' : Rw w1 (w.heap.size + 1 + 1) (.slice (some ⟨g, 0, none⟩) (n + 6) c') (n + 6) (xs ++ marks 7 6) := rw_base HRX.out (Nat.le_of_eq sA.symm)
  have hg := RX'.lt
  have R1 : Rw (w1.setCell ⟨w.heap.size, 2, none⟩ (.slice (some ⟨g, 0, none⟩) n c')) (w.heap.size + 1 + 1) (.slice (some ⟨g, 0, none⟩) (n + 6) c') (n + 6) (xs ++ marks 7 6) := ⟨RX'.len, own_at RX'.own (fun q hq => by
    have : g = q := by simpa [Value.ownBlock] using hq
    exact Below.heap_setCell _ _ _ _ (by show q ≠ w.heap.size; omega))⟩
  exact ⟨g, c', rfl, ⟨hc1, hc2⟩, rw_base (R1.set3 (p := w.heap.size + 1) (by omega) _ _ _) (by omega), below_set3 (BW.out.setCell (p := ⟨w.heap.size, 2, none⟩) (Nat.le_refl _) _) (by omega) _ _ _⟩
theorem sl_pre {w : World} {b g n m c : Nat} {xs ms : List Cw} (h : Rw w b (.slice (some ⟨g, 0, none⟩) (n + m) c) (n + m) (xs ++ ms)) (hl : xs.length = n) (hc : n ≤ c) : Sl w (some ⟨g, 0, none⟩) c xs := by
  refine ⟨fun k hk => ?_, .inr ⟨g, 0, rfl⟩, by omega⟩
  obtain ⟨b', off, e, hb, hcell⟩ := h.rc k (by rw [List.length_append]; omega)
  refine ⟨b', off, e, hb, ?_⟩
  rw [hcell]
  have : zat (xs ++ ms) k = zat xs k := by simp [zat, List.getD_eq_getElem?_getD, List.getElem?_append_left hk]
  rw [this]
def OffSays (F : FuncId) (R C R' C' : Int) (n n' : Nat) (xs ys : List Cw) (D : Nat) (E : Int) : Prop := ∀ (W : World) (A A' : Option Addr) (c c' : Nat), Sl W A c xs → Sl W A' c' ys → Calls Try.prog F #[.agg #[.int .i64 R, .int .i64 C, .slice A n c], .agg #[.int .i64 R', .int .i64 C', .slice A' n' c']] W fun e w' => e = .returned (.tuple #[.float .f64 D, .int .i64 E]) ∧ Below W.heap.size W w'
theorem off_cases (R C R' C' : Int) (n n' : Nat) (xs ys : List Cw) (hn : xs.length = n) (hn' : ys.length = n') (hx : okl xs) (hy : okl ys) (hl : n ≤ 1000000000000000) (hl' : n' ≤ 1000000000000000) :
    ∃ D E, OffSays 9 R C R' C' n n' xs ys D E ∧ OffSays 10 R C R' C' n n' xs ys D E := by
  by_cases h : sqB R C n = true ∧ sqB R' C' n' = true ∧ R = R'
  · obtain ⟨h1, h2, rfl⟩ := h
    obtain ⟨m1, rfl⟩ := sqB_iff.1 h1
    obtain ⟨m2, rfl⟩ := sqB_iff.1 h2
    obtain ⟨k1, k2, _, _, k3⟩ := of_decide_eq_true m1
    obtain ⟨_, _, _, _, k4⟩ := of_decide_eq_true m2
    obtain ⟨N, rfl⟩ := Int.eq_ofNat_of_zero_le k1
    have hN : N ≤ 64 := by omega
    have e1 : n = N * N := by have : ((n : Nat) : Int) = ((N * N : Nat) : Int) := by rw [k3]; simp
                              exact Int.ofNat.inj this
    have e2 : n' = N * N := by have : ((n' : Nat) : Int) = ((N * N : Nat) : Int) := by rw [k4]; simp
                               exact Int.ofNat.inj this
    subst e1
    subst e2
    have r1 := ro_of hn
    have r2 := ro_of hn'
    refine ⟨offW N (fun k => anz (zat xs k)) (fun k => anz (zat ys k)), 0, fun W A A' c c' s1 s2 => ?_, fun W A A' c c' s1 s2 => ?_⟩
    · rw [r1] at s1; rw [r2] at s2
      exact off_ok (mx_of hN (fun k _ => hx k) s1) (mx_of hN (fun k _ => hy k) s2)
    · rw [r1] at s1; rw [r2] at s2
      exact roff_ok (mx_of hN (fun k _ => hx k) s1) (mx_of hN (fun k _ => hy k) s2)
  · exact ⟨0, 4, fun W A A' c c' _ _ => off_no hl hl' h, fun W A A' c c' _ _ => roff_no hl hl' h⟩

end Go.Proofs.Ytomllbpkjhoepaa
