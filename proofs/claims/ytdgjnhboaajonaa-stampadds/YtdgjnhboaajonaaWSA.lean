/-
  The walk of StampAdds.
-/
import Derived.Test.YtdgjnhboaajonaaStc
import Derived.Deep.Cut
import Derived.Deep.DeepCutAuto
namespace Go.Proofs.Ytdgjnhboaajonaa
open Fl RowKit
set_option linter.unusedVariables false

theorem lentM18 {R C : Int} {A : Option Addr} {c n : Nat} {xs : List Cw} {w : World} (h : Src w A c n xs) (hsz : n * 16 + 96 ≤ 140737488355328) :
    Calls Try.prog 18 #[.agg #[.int .i64 R, .int .i64 C, .slice A n c]] w fun e w' => ∃ g c', e = .returned (.tuple #[.agg #[.int .i64 R, .int .i64 C, .slice (some ⟨g, 0, none⟩) n c'], .slice (some ⟨g, 0, none⟩) (n + 6) c']) ∧ (n + 6 ≤ c' ∧ c' ≤ maxLen) ∧ Rw w' w.heap.size (.slice (some ⟨g, 0, none⟩) (n + 6) c') (n + 6) (xs ++ marks 7 6) ∧ Below w.heap.size w w' := by
  obtain ⟨wA, hwA⟩ : ∃ wA, wA = (w.alloc (.cells #[.int .i64 R, .int .i64 C, .slice A n c] 39)).alloc (.cells #[.int .i64 0, .int .i64 0, .slice none 0 0] 39) := ⟨_, rfl⟩
  have Va : V3 w.heap.size (.int .i64 R) (.int .i64 C) (.slice A n c) wA := by rw [hwA]; exact (v3_new w _ _ _ _).below (bal _ _)
  have Vr : V3 (w.heap.size + 1) (.int .i64 0) (.int .i64 0) (.slice none 0 0) wA := by rw [hwA]; exact v3_at _ _ _ _ _ (size_al _ _)
  have BA : Below w.heap.size w wA := by rw [hwA]; exact ba (bal _ _) _
  have sA : wA.heap.size = w.heap.size + 1 + 1 := by rw [hwA, size_al, size_al]
  have SA := h.below BA
  subst hwA
  have n1 : w.heap.size ≠ w.heap.size + 1 := by omega
  go_enter Try.func18, Try.ntmps18
  go_wp2_with (first
    | (go_at_call 46; (with_reducible refine (tlent SA hsz).mono ?_); rintro e w1 ⟨g, c', rfl, ⟨hc1, hc2⟩, RX, bb1⟩; have D1 := Va.below bb1; have Dr := Vr.below bb1; have R3 := (Dr.other (q := ⟨w.heap.size, 2, none⟩) n1 (.slice (some ⟨g, 0, none⟩) n c')).reads; have BW := hidS (b_of BA bb1 BA.size); have HRX := hidS RX; obtain ⟨_, a0, a1, a2, a3, a4, a5⟩ := D1; obtain ⟨_, q0, q1, q2, q3, q4, q5⟩ := Dr; clear Va Vr BA SA bb1 RX))
  obtain ⟨m0, m1, m2⟩ := R3
  refine bodyPost_ret (by simp [results, Try.results18, go_sem, m0, m1, m2]; try rfl) rfl ?_
  have RX' : Rw w1 (w.heap.size + 1 + 1) (.slice (some ⟨g, 0, none⟩) (n + 6) c') (n + 6) (xs ++ marks 7 6) := rw_base HRX.out (Nat.le_of_eq sA.symm)
  have hg := RX'.lt
  have R1 : Rw (w1.setCell ⟨w.heap.size, 2, none⟩ (.slice (some ⟨g, 0, none⟩) n c')) (w.heap.size + 1 + 1) (.slice (some ⟨g, 0, none⟩) (n + 6) c') (n + 6) (xs ++ marks 7 6) := ⟨RX'.len, own_at RX'.own (fun q hq => by
    have : g = q := by simpa [Value.ownBlock] using hq
    exact Below.heap_setCell _ _ _ _ (by show q ≠ w.heap.size; omega))⟩
  exact ⟨g, c', rfl, ⟨hc1, hc2⟩, rw_base (rw_set3 R1 (by omega) _ _ _) (by omega), below_set3 (BW.out.setCell (p := ⟨w.heap.size, 2, none⟩) (Nat.le_refl _) _) (by omega) _ _ _⟩
theorem sl_pre18 {w : World} {b g n m c : Nat} {xs ms : List Cw} (h : Rw w b (.slice (some ⟨g, 0, none⟩) (n + m) c) (n + m) (xs ++ ms)) (hl : xs.length = n) (hc : n ≤ c) (hx : okl xs) : Src w (some ⟨g, 0, none⟩) c n xs := by
  refine ⟨hl, hx, fun k hk => ?_, .inr ⟨g, 0, rfl⟩, by omega⟩
  obtain ⟨b', off, e, hb, hcell⟩ := h.rc k (by rw [List.length_append]; omega)
  refine ⟨b', off, e, hb, ?_⟩
  rw [hcell]
  have : zat (xs ++ ms) k = zat xs k := by simp [zat, List.getD_eq_getElem?_getD, List.getElem?_append_left hk]
  rw [this]
/-- the two answers -/
theorem sad_cases (R C : Int) (n : Nat) (i j : Int) (y : Cw) (xs : List Cw) (hn : n ≤ 1000000000000000) (hl : xs.length = n) (hy : okz y) :
    (∃ E : Int, ¬ E = 0 ∧ SadNo 20 R C n i j y xs E ∧ SadNo 21 R C n i j y xs E) ∨ (∃ k, SadYes 20 R C n k i j y xs ∧ SadYes 21 R C n k i j y xs) := by
  cases hm : mb R C n
  · exact .inl ⟨4, by decide, sadd_no1 hn hm, rsadd_no1 hm⟩
  · by_cases hr : 0 ≤ i ∧ i < R ∧ 0 ≤ j ∧ j < C
    · obtain ⟨a1, a2, a3, a4, a5⟩ := of_decide_eq_true hm
      obtain ⟨r1, r2, r3, r4⟩ := hr
      obtain ⟨R', rfl⟩ := Int.eq_ofNat_of_zero_le a1
      obtain ⟨C', rfl⟩ := Int.eq_ofNat_of_zero_le a3
      obtain ⟨i', rfl⟩ := Int.eq_ofNat_of_zero_le r1
      obtain ⟨j', rfl⟩ := Int.eq_ofNat_of_zero_le r3
      have e1 : n = R' * C' := by have : ((n : Nat) : Int) = ((R' * C' : Nat) : Int) := by rw [a5]; simp
                                  exact Int.ofNat.inj this
      subst e1
      have h1 : R' ≤ 64 := by omega
      have h2 : C' ≤ 64 := by omega
      have h3 : i' < R' := by omega
      have h4 : j' < C' := by omega
      cases hf : finC (addZ (anz (zat xs (i' * C' + j'))) (anz y))
      · exact .inl ⟨6, by decide, fun W A c h => sadd_body h1 h2 h3 h4 hy false hf h, fun W A c h => rsadd_body h1 h2 h3 h4 hy false hf h⟩
      · exact .inr ⟨i' * C' + j', fun W A c h => sadd_body h1 h2 h3 h4 hy true hf h, fun W A c h => rsadd_body h1 h2 h3 h4 hy true hf h⟩
    · exact .inl ⟨2, by decide, sadd_no2 hn hm hr, rsadd_no2 hm hr⟩
end Go.Proofs.Ytdgjnhboaajonaa
