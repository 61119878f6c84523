/-
  Of, Carried and Off of what is no square matrix.
-/
import Derived.Test.YtomllbpkjhoepaaIve
namespace Go.Proofs.Ytomllbpkjhoepaa
open Fl RowKit

set_option maxHeartbeats 4000000 in
theorem inv_shape (R C : Int) (A : Option Addr) (T c : Nat) (W : World) (hl : T ≤ 1000000000000000) (h : ¬ (mb R C T = true ∧ R = C)) :
    Calls Try.prog 13 #[.agg #[.int .i64 R, .int .i64 C, .slice A T c]] W fun e w' => e = .returned (.tuple #[.agg #[.int .i64 0, .int .i64 0, .slice none 0 0], .agg #[.int .i64 4, .int .i64 (-1)]]) ∧ Below W.heap.size W w' := by
  have H := hid_o (fun (w : World) => of_shape R C A T c w hl h)
  clear h
  obtain ⟨wb, hwb⟩ : ∃ wb, wb = ((W.alloc (.cells #[.int .i64 R, .int .i64 C, .slice A T c] 28)).alloc (.cells #[.int .i64 0, .int .i64 0, .slice none 0 0] 28)).alloc (.cells #[.int .i64 0, .int .i64 0] 39) := ⟨_, rfl⟩
  have hsb : Hid (wb.heap.size = W.heap.size + 1 + 1 + 1) := by rw [hwb]; show _ = _; simp
  have VM : Hid (V3 (W.heap.size + 1) (.int .i64 0) (.int .i64 0) (.slice none 0 0) wb) := by rw [hwb]; exact (v3_at _ _ _ _ _ (by simp)).below (bal _ _)
  have VF : Hid (V2 (W.heap.size + 1 + 1) (.int .i64 0) (.int .i64 0) wb) := by rw [hwb]; exact v2_at _ _ _ _ (by simp)
  have Bb : Hid (Below W.heap.size W wb) := by rw [hwb]; exact ((bal _ _).alloc (by simp) _).alloc (by simp; omega) _
  go_enter Try.func13, Try.ntmps13
  go_wp2_with (go_at_call 38; (rw [← hwb]); (with_reducible refine (H.out _).mono ?_); rintro e w2 ⟨rfl, hb⟩; (have B2 := hid_o hb); clear hb)
  obtain ⟨wd, hwd⟩ : ∃ wd, wd = (w2.alloc (.cells #[.pointer none] 69)).alloc (.cells #[.int .i64 4, .int .i64 (-1)] 39) := ⟨_, rfl⟩
  have Bd : Below w2.heap.size w2 wd := by rw [hwd]; exact (bal _ _).alloc (by simp) _
  have VE : V2 (w2.heap.size + 1) (.int .i64 4) (.int .i64 (-1)) wd := by rw [hwd]; exact v2_at _ _ _ _ (by simp)
  have B3 := hid_o (bt B2.out Bd)
  have VM3 := hid_o (VM.out.below B3.out)
  have VF3 := hid_o (VF.out.below B3.out)
  have hw2 : W.heap.size + 1 + 1 + 1 ≤ w2.heap.size := by have := B2.out.size; rw [hsb.out] at this; exact this
  rw [← hwd]
  obtain ⟨rl, r0, r1, r2, r3, r4, r5⟩ := VM3.out
  obtain ⟨sl, s0, s1, s3, s4⟩ := VF3.out
  obtain ⟨tl, t0, t1, t3, t4⟩ := VE
  clear hwd Bd
  go_region
  go_wp2
  have M := reads5 (by omega : W.heap.size + 1 ≠ W.heap.size + 1 + 1) VM3.out VF3.out (.int .i64 0) (.int .i64 0) (.slice none 0 0) (.int .i64 4) (.int .i64 (-1))
  have B5 := (below_set5 (p := W.heap.size + 1) (q := W.heap.size + 1 + 1) (bt Bb.out B3.out) (by omega) (by omega) (.int .i64 0) (.int .i64 0) (.slice none 0 0) (.int .i64 4) (.int .i64 (-1))).drew
  unfold set5 set3 at M B5
  obtain ⟨m0, m1, m2, m3, m4⟩ := M
  refine bodyPost_ret (by simp [results, Try.results13, go_sem, m0, m1, m2, m3, m4]; try rfl) rfl ?_
  exact ⟨rfl, B5⟩
set_option maxHeartbeats 2000000 in
theorem car_shape (R C : Int) (A : Option Addr) (T c : Nat) (W : World) (hl : T ≤ 1000000000000000) (h : ¬ (mb R C T = true ∧ R = C)) :
    Calls Try.prog 15 #[.agg #[.int .i64 R, .int .i64 C, .slice A T c]] W fun e w' => e = .returned (.tuple #[.float .f64 0, .agg #[.int .i64 4, .int .i64 (-1)]]) ∧ Below W.heap.size W w' := by
  have H := hid_o (fun (w : World) => inv_shape R C A T c w hl h)
  clear h
  obtain ⟨wb, hwb⟩ : ∃ wb, wb = (W.alloc (.cells #[.int .i64 R, .int .i64 C, .slice A T c] 28)).alloc (.cells #[.int .i64 0, .int .i64 0] 39) := ⟨_, rfl⟩
  have VF : Hid (V2 (W.heap.size + 1) (.int .i64 0) (.int .i64 0) wb) := by rw [hwb]; exact v2_at _ _ _ _ (by simp)
  have Bb : Hid (Below W.heap.size W wb) := by rw [hwb]; exact (bal _ _).alloc (by simp) _
  have hsb : Hid (wb.heap.size = W.heap.size + 1 + 1) := by rw [hwb]; show _ = _; simp
  go_enter Try.func15, Try.ntmps15
  go_wp2_with (go_at_call 13; (rw [← hwb]); (with_reducible refine (H.out _).mono ?_); rintro e w2 ⟨rfl, hb⟩; (have B2 := hid_o hb); clear hb)
  obtain ⟨wd, hwd⟩ : ∃ wd, wd = (w2.alloc (.cells #[.int .i64 0, .int .i64 0, .slice none 0 0] 28)).alloc (.cells #[.int .i64 4, .int .i64 (-1)] 39) := ⟨_, rfl⟩
  have Bd : Below w2.heap.size w2 wd := by rw [hwd]; exact (bal _ _).alloc (by simp) _
  have VE : V2 (w2.heap.size + 1) (.int .i64 4) (.int .i64 (-1)) wd := by rw [hwd]; exact v2_at _ _ _ _ (by simp)
  have B3 := hid_o (bt B2.out Bd)
  have VF3 := hid_o (VF.out.below B3.out)
  rw [← hwd]
  obtain ⟨sl, s0, s1, s3, s4⟩ := VF3.out
  obtain ⟨tl, t0, t1, t3, t4⟩ := VE
  clear hwd Bd
  go_region
  go_wp2
  obtain ⟨m3, m4⟩ := VF3.out.reads
  have m3' := other_cell (w := wd.setCell ⟨W.heap.size + 1, 0, none⟩ (.int .i64 4)) (a := ⟨W.heap.size + 1, 1, none⟩) (b := ⟨W.heap.size + 1, 0, none⟩) (.int .i64 (-1)) (by simp)
  have B5 := (below_set2 (p := W.heap.size + 1) (bt Bb.out B3.out) (by omega) (.int .i64 4) (.int .i64 (-1))).drew
  refine bodyPost_ret (by simp [results, Try.results15, go_sem, m3, m4, m3']; try rfl) rfl ?_
  exact ⟨rfl, B5⟩
theorem sqB_iff {R C : Int} {n : Nat} : sqB R C n = true ↔ (mb R C n = true ∧ R = C) := by unfold sqB; simp
set_option maxHeartbeats 2000000 in
theorem off_no {W : World} {A A' : Option Addr} {l l' c c' : Nat} {R C R' C' : Int} (hl : l ≤ 1000000000000000) (hl' : l' ≤ 1000000000000000) (h : ¬ (sqB R C l = true ∧ sqB R' C' l' = true ∧ R = R')) :
    Calls Try.prog 9 #[.agg #[.int .i64 R, .int .i64 C, .slice A l c], .agg #[.int .i64 R', .int .i64 C', .slice A' l' c']] W fun e w' => e = .returned (.tuple #[.float .f64 0, .int .i64 4]) ∧ Below W.heap.size W w' := by
  have HQ := hid_o (fun (w : World) => issq_any R C A l c w hl)
  have HQ' := hid_o (fun (w : World) => issq_any R' C' A' l' c' w hl')
  obtain ⟨wb, hwb⟩ : ∃ wb, wb = (W.alloc (.cells #[.int .i64 R, .int .i64 C, .slice A l c] 28)).alloc (.cells #[.int .i64 R', .int .i64 C', .slice A' l' c'] 28) := ⟨_, rfl⟩
  have VA : Hid (V3 W.heap.size (.int .i64 R) (.int .i64 C) (.slice A l c) wb) := by rw [hwb]; exact (v3_new _ _ _ _ _).below (bal _ _)
  have VB : Hid (V3 (W.heap.size + 1) (.int .i64 R') (.int .i64 C') (.slice A' l' c') wb) := by rw [hwb]; exact v3_at _ _ _ _ _ (by simp)
  have Bb : Hid (Below W.heap.size W wb) := by rw [hwb]; exact (bal _ _).alloc (by simp) _
  have st : Stg 0 := ⟨trivial⟩
  cases h1 : sqB R C l
  · rw [h1] at HQ
    clear h h1
    go_enter Try.func9, Try.ntmps9
    go_wp2_with (first
      | (go_at_call 26; (rw [← hwb]); (with_reducible refine (HQ.out _).mono ?_); rintro e w1 ⟨rfl, hb⟩; (have B1 := hid_o hb); clear hb))
    go_ret2
    exact ⟨rfl, bt Bb.out B1.out⟩
  · rw [h1] at HQ
    cases h2 : sqB R' C' l'
    · rw [h2] at HQ'
      clear h h1 h2
      go_enter Try.func9, Try.ntmps9
      go_wp2_with (first
        | ((have _ := (st : Stg 0)); go_at_call 26; (rw [← hwb]); (with_reducible refine (HQ.out _).mono ?_); rintro e w1 ⟨rfl, hb⟩; (have B1 := hid_o hb); (obtain ⟨bl, b0, b1, b2, _, _, _⟩ := VB.out.below hb); clear hb st; (have st : Stg 1 := ⟨trivial⟩))
        | ((have _ := (st : Stg 1)); go_at_call 26; (with_reducible refine (HQ'.out _).mono ?_); rintro e w2 ⟨rfl, hb⟩; (have B2 := hid_o (bt B1.out hb)); clear hb st))
      go_ret2
      exact ⟨rfl, bt Bb.out B2.out⟩
    · rw [h2] at HQ'
      have hne : ¬ R = R' := fun e => h ⟨h1, h2, e⟩
      clear h h1 h2
      go_enter Try.func9, Try.ntmps9
      go_wp2_with (first
        | ((have _ := (st : Stg 0)); go_at_call 26; (rw [← hwb]); (with_reducible refine (HQ.out _).mono ?_); rintro e w1 ⟨rfl, hb⟩; (have B1 := hid_o hb); (obtain ⟨bl, b0, b1, b2, _, _, _⟩ := VB.out.below hb); clear hb st; (have st : Stg 1 := ⟨trivial⟩))
        | ((have _ := (st : Stg 1)); go_at_call 26; (with_reducible refine (HQ'.out _).mono ?_); rintro e w2 ⟨rfl, hb⟩; (have B2 := hid_o (bt B1.out hb)); (clear bl b0 b1 b2); (obtain ⟨al, a0, a1, a2, _, _, _⟩ := VA.out.below B2.out); (obtain ⟨bl, b0, b1, b2, _, _, _⟩ := VB.out.below B2.out); clear hb st))
      go_ret2
      exact ⟨rfl, bt Bb.out B2.out⟩

end Go.Proofs.Ytomllbpkjhoepaa
