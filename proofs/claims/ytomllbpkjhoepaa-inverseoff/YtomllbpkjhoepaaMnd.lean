/-
  What the document's Off hands back.
-/
import Derived.Test.YtomllbpkjhoepaaMnc
namespace Go.Proofs.Ytomllbpkjhoepaa
open Fl RowKit

set_option maxHeartbeats 1000000 in
theorem rsubM {w : World} {R C c c' : Nat} {A A' : Option Addr} {F G : Nat → Cn} {xs ys : List Cw} (h : Mx w R C A c F xs) (h' : Mx w R C A' c' G ys) : Calls Try.prog 34 #[.agg #[.int .i64 R, .int .i64 C, .slice A (R * C) c], .agg #[.int .i64 R, .int .i64 C, .slice A' (R * C) c']] w fun e w' => ∃ g zs, e = .returned (.tuple #[.agg #[.int .i64 R, .int .i64 C, .slice (some ⟨g, 0, none⟩) (R * C) (R * C)], .int .i64 0]) ∧ New w.heap.size (zipF subZ F G) (R * C) zs (.slice (some ⟨g, 0, none⟩) (R * C) (R * C)) w' ∧ Below w.heap.size w w' := by
  go_enter Try.func34, Try.ntmps34
  go_wp2_with (go_at_call 69; (refine (rsubboth (h.below (by repeat first | exact below_self _ | refine ba ?_ _ )) (h'.below (by repeat first | exact below_self _ | refine ba ?_ _ )) rfl).mono ?_); (rintro e w3 ⟨g, zs, rfl, hN, hb⟩); (have Vr : V3 (w.heap.size + 1 + 1) (.int .i64 0) (.int .i64 0) (.slice none 0 0) w3 := V3.below (by repeat first | exact v3_at _ _ _ _ _ (by first | rfl | (simp only [size_al]; first | done | omega)) | refine V3.below ?_ (bal _ _)) hb); (obtain ⟨r0, r1, r2⟩ := Vr.reads); (obtain ⟨_, q0, q1, q2, q3, q4, q5⟩ := Vr); (have BB : Below w.heap.size w w3 := b_of (by repeat first | exact below_self _ | refine ba ?_ _ ) hb (by simp; try omega)); (have HN : New w.heap.size _ _ zs _ w3 := hN.base (by simp; try omega)); (have hg := hN.ge); (simp at hg); clear hN hb)
  refine bodyPost_ret (by simp [results, Try.results34, go_sem, r0, r1, r2]; try rfl) rfl ?_
  exact ⟨_, zs, rfl, HN.set3 (by omega) _ _ _, below_set3 BB (by omega) _ _ _⟩
theorem rnorm12 {W : World} {A : Option Addr} {c N : Nat} {F : Nat → Cn} {xs : List Cw} (h : Mx W N N A c F xs) :
    Calls Try.prog 35 #[.agg #[.int .i64 N, .int .i64 N, .slice A (N * N) c]] W fun e w' => e = .returned (.float .f64 (mxF (colT F N N) N)) ∧ Below W.heap.size W w' := by
  have H : Hid (∀ w, Below W.heap.size W w → Calls Try.prog 70 #[.agg #[.int .i64 N, .int .i64 N, .slice A (N * N) c]] w fun e w' => e = .returned (.tuple #[.float .f64 (mxF (colT F N N) N), .int .i64 0]) ∧ Below w.heap.size w w') := fun w hb => rnorm (h.below hb)
  obtain ⟨x, hx⟩ : ∃ x, x = mxF (colT F N N) N := ⟨_, rfl⟩
  obtain ⟨T, hT⟩ : ∃ T, T = N * N := ⟨_, rfl⟩
  rw [← hx, ← hT] at H ⊢
  clear hx hT h
  go_enter Try.func35, Try.ntmps35
  go_wp2_with (go_at_call 70; (with_reducible refine (H.out _ (bal _ _)).mono ?_); rintro e w1 ⟨rfl, hb⟩; (have HB := hid_o (bt (bal W (.cells #[.int .i64 N, .int .i64 N, .slice A T c] 28)) hb)); clear hb)
  go_ret
  exact ⟨rfl, HB.out⟩
set_option maxHeartbeats 4000000 in
theorem roff_ok {W : World} {A A' : Option Addr} {c c' N : Nat} {F G : Nat → Cn} {xs ys : List Cw} (h : Mx W N N A c F xs) (h' : Mx W N N A' c' G ys) :
    Calls Try.prog 10 #[.agg #[.int .i64 N, .int .i64 N, .slice A (N * N) c], .agg #[.int .i64 N, .int .i64 N, .slice A' (N * N) c']] W fun e w' => e = .returned (.tuple #[.float .f64 (offW N F G), .int .i64 0]) ∧ Below W.heap.size W w' := by
  have hN := h.hR
  have hn := small (le_4096 hN hN)
  have hs := h.mb
  have HQ : Hid (∀ (w : World) (A : Option Addr) (c : Nat), Calls Try.prog 31 #[.agg #[.int .i64 N, .int .i64 N, .slice A (N * N) c]] w fun e w' => e = .returned (.int .i64 0) ∧ Below w.heap.size w w') := fun w A c => by
    refine (rcheck_any N N A (N * N) c w hn).mono ?_
    rintro e w' ⟨rfl, rfl⟩
    exact ⟨by rw [if_pos hs], bal _ _⟩
  have HMU : Hid (∀ w, Below W.heap.size W w → Calls Try.prog 32 #[.agg #[.int .i64 N, .int .i64 N, .slice A (N * N) c], .agg #[.int .i64 N, .int .i64 N, .slice A' (N * N) c']] w fun e w' => ∃ g zs, e = .returned (.tuple #[.agg #[.int .i64 N, .int .i64 N, .slice (some ⟨g, 0, none⟩) (N * N) (N * N)], .int .i64 0]) ∧ Mx w' N N (some ⟨g, 0, none⟩) (N * N) (prF N F G) zs ∧ Below w.heap.size w w') := fun w hb => by
    exact rmulM (h.below hb) (h'.below hb)
  have HID : Hid (∀ w, Calls Try.prog 33 #[.int .i64 N] w fun e w' => ∃ g zs, e = .returned (.tuple #[.agg #[.int .i64 N, .int .i64 N, .slice (some ⟨g, 0, none⟩) (N * N) (N * N)], .int .i64 0]) ∧ Mx w' N N (some ⟨g, 0, none⟩) (N * N) (flat N idE) zs ∧ Below w.heap.size w w') := fun w => by
    exact rident w hN
  have HSU : Hid (∀ (w : World) (g g' : Nat) (zs zs' : List Cw), Mx w N N (some ⟨g, 0, none⟩) (N * N) (prF N F G) zs → Mx w N N (some ⟨g', 0, none⟩) (N * N) (flat N idE) zs' → Calls Try.prog 34 #[.agg #[.int .i64 N, .int .i64 N, .slice (some ⟨g, 0, none⟩) (N * N) (N * N)], .agg #[.int .i64 N, .int .i64 N, .slice (some ⟨g', 0, none⟩) (N * N) (N * N)]] w fun e w' => ∃ g zs, e = .returned (.tuple #[.agg #[.int .i64 N, .int .i64 N, .slice (some ⟨g, 0, none⟩) (N * N) (N * N)], .int .i64 0]) ∧ Mx w' N N (some ⟨g, 0, none⟩) (N * N) (offF N F G) zs ∧ Below w.heap.size w w') := fun w g g' zs zs' k k' => by
    refine (rsubM k k').mono ?_
    rintro e w' ⟨g, zs, rfl, hN', hb'⟩
    exact ⟨g, zs, rfl, new_mx hN' hN hN, hb'⟩
  have HNO : Hid (∀ (w : World) (g : Nat) (zs : List Cw), Mx w N N (some ⟨g, 0, none⟩) (N * N) (offF N F G) zs → Calls Try.prog 35 #[.agg #[.int .i64 N, .int .i64 N, .slice (some ⟨g, 0, none⟩) (N * N) (N * N)]] w fun e w' => e = .returned (.float .f64 (offW N F G)) ∧ Below w.heap.size w w') := fun w g zs k => rnorm12 k
  obtain ⟨x, hx⟩ : ∃ x, x = offW N F G := ⟨_, rfl⟩
  rw [← hx] at HNO ⊢
  obtain ⟨wb, hwb⟩ : ∃ wb, wb = (W.alloc (.cells #[.int .i64 N, .int .i64 N, .slice A (N * N) c] 28)).alloc (.cells #[.int .i64 N, .int .i64 N, .slice A' (N * N) c'] 28) := ⟨_, rfl⟩
  have VA : Hid (V3 W.heap.size (.int .i64 N) (.int .i64 N) (.slice A (N * N) c) wb) := by rw [hwb]; exact (v3_new _ _ _ _ _).below (bal _ _)
  have VB : Hid (V3 (W.heap.size + 1) (.int .i64 N) (.int .i64 N) (.slice A' (N * N) c') wb) := by rw [hwb]; exact v3_at _ _ _ _ _ (by simp)
  have Bb : Hid (Below W.heap.size W wb) := by rw [hwb]; exact (bal _ _).alloc (by simp) _
  generalize N * N = T at *
  clear h h' hn hs hx
  have st : Stg 0 := ⟨trivial⟩
  go_enter Try.func10, Try.ntmps10
  go_wp2_with (first
    | ((have _ := (st : Stg 0)); go_at_call 31; (rw [← hwb]); (with_reducible refine (HQ.out _ _ _).mono ?_); rintro e w1 ⟨rfl, hb⟩; (have B1 := hid_o hb); (obtain ⟨al, a0, a1, a2, _, _, _⟩ := VA.out.below hb); (obtain ⟨bl, b0, b1, b2, _, _, _⟩ := VB.out.below hb); clear hb st; (have st : Stg 1 := ⟨trivial⟩))
    | ((have _ := (st : Stg 1)); go_at_call 31; (with_reducible refine (HQ.out _ _ _).mono ?_); rintro e w2 ⟨rfl, hb⟩; (have B2 := hid_o (bt B1.out hb)); (clear al a0 a1 a2 bl b0 b1 b2); (obtain ⟨al, a0, a1, a2, _, _, _⟩ := VA.out.below B2.out); (obtain ⟨bl, b0, b1, b2, _, _, _⟩ := VB.out.below B2.out); clear hb st)
    | (go_at_call 32; (with_reducible refine (HMU.out _ (bt Bb.out B2.out)).mono ?_); rintro e w3 ⟨g3, z3, rfl, hM, hb⟩; (have B3 := hid_o (bt (bt B2.out hb) (bal _ (.cells #[.int .i64 N, .int .i64 N, .slice (some ⟨g3, 0, none⟩) T T] 28)))); (have V3' := hid_o (v3_new w3 (.int .i64 N) (.int .i64 N) (.slice (some ⟨g3, 0, none⟩) T T) 28)); (have M3 := hid_o (hM.below (bal _ (.cells #[.int .i64 N, .int .i64 N, .slice (some ⟨g3, 0, none⟩) T T] 28)))); (clear al a0 a1 a2 bl b0 b1 b2); (obtain ⟨al, a0, a1, a2, _, _, _⟩ := VA.out.below B3.out); clear hb hM)
    | (go_at_call 33; (with_reducible refine (HID.out _).mono ?_); rintro e w4 ⟨g4, z4, rfl, hM, hb⟩; (have M4 := hid_o ((M3.out.below hb).below (bal _ (.cells #[.int .i64 N, .int .i64 N, .slice (some ⟨g4, 0, none⟩) T T] 28)))); (have I4 := hid_o (hM.below (bal _ (.cells #[.int .i64 N, .int .i64 N, .slice (some ⟨g4, 0, none⟩) T T] 28)))); (have B4 := hid_o (bt (bt B3.out hb) (bal _ (.cells #[.int .i64 N, .int .i64 N, .slice (some ⟨g4, 0, none⟩) T T] 28)))); (clear al a0 a1 a2); (obtain ⟨al, a0, a1, a2, _, _, _⟩ := (V3'.out.below hb).below (bal _ (.cells #[.int .i64 N, .int .i64 N, .slice (some ⟨g4, 0, none⟩) T T] 28))); clear hb hM)
    | (go_at_call 34; (with_reducible refine (HSU.out _ _ _ _ _ M4.out I4.out).mono ?_); rintro e w5 ⟨g5, z5, rfl, hM, hb⟩; (have M5 := hid_o (hM.below (bal _ (.cells #[.int .i64 N, .int .i64 N, .slice (some ⟨g5, 0, none⟩) T T] 28)))); (have B5 := hid_o (bt (bt B4.out hb) (bal _ (.cells #[.int .i64 N, .int .i64 N, .slice (some ⟨g5, 0, none⟩) T T] 28)))); (clear al a0 a1 a2); clear hb hM)
    | (go_at_call 35; (with_reducible refine (HNO.out _ _ _ M5.out).mono ?_); rintro e w6 ⟨rfl, hb⟩; (have B6 := hid_o (bt B5.out hb)); clear hb))
  go_ret2
  exact ⟨rfl, bt Bb.out B6.out⟩

set_option maxHeartbeats 4000000 in
theorem roff_no {W : World} {A A' : Option Addr} {l l' c c' : Nat} {R C R' C' : Int} (hl : l ≤ 1000000000000000) (hl' : l' ≤ 1000000000000000) (h : ¬ (sqB R C l = true ∧ sqB R' C' l' = true ∧ R = R')) :
    Calls Try.prog 10 #[.agg #[.int .i64 R, .int .i64 C, .slice A l c], .agg #[.int .i64 R', .int .i64 C', .slice A' l' c']] W fun e w' => e = .returned (.tuple #[.float .f64 0, .int .i64 4]) ∧ Below W.heap.size W w' := by
  have HQ : Hid (∀ w, Calls Try.prog 31 #[.agg #[.int .i64 R, .int .i64 C, .slice A l c]] w fun e w' => e = .returned (.int .i64 (if mb R C l then 0 else 4)) ∧ Below w.heap.size w w') := fun w => (rcheck_any R C A l c w hl).mono (by rintro e w' ⟨rfl, rfl⟩; exact ⟨rfl, bal _ _⟩)
  have HQ' : Hid (∀ w, Calls Try.prog 31 #[.agg #[.int .i64 R', .int .i64 C', .slice A' l' c']] w fun e w' => e = .returned (.int .i64 (if mb R' C' l' then 0 else 4)) ∧ Below w.heap.size w w') := fun w => (rcheck_any R' C' A' l' c' w hl').mono (by rintro e w' ⟨rfl, rfl⟩; exact ⟨rfl, bal _ _⟩)
  obtain ⟨wb, hwb⟩ : ∃ wb, wb = (W.alloc (.cells #[.int .i64 R, .int .i64 C, .slice A l c] 28)).alloc (.cells #[.int .i64 R', .int .i64 C', .slice A' l' c'] 28) := ⟨_, rfl⟩
  have VA : Hid (V3 W.heap.size (.int .i64 R) (.int .i64 C) (.slice A l c) wb) := by rw [hwb]; exact (v3_new _ _ _ _ _).below (bal _ _)
  have VB : Hid (V3 (W.heap.size + 1) (.int .i64 R') (.int .i64 C') (.slice A' l' c') wb) := by rw [hwb]; exact v3_at _ _ _ _ _ (by simp)
  have Bb : Hid (Below W.heap.size W wb) := by rw [hwb]; exact (bal _ _).alloc (by simp) _
  have st : Stg 0 := ⟨trivial⟩
  cases h1 : mb R C l
  · rw [h1] at HQ
    clear h h1
    go_enter Try.func10, Try.ntmps10
    go_wp2_with (first
      | (go_at_call 31; (rw [← hwb]); (with_reducible refine (HQ.out _).mono ?_); rintro e w1 ⟨rfl, hb⟩; (have B1 := hid_o hb); clear hb))
    go_ret2
    exact ⟨rfl, bt Bb.out B1.out⟩
  · rw [h1] at HQ
    cases h2 : mb R' C' l'
    · rw [h2] at HQ'
      clear h h1 h2
      go_enter Try.func10, Try.ntmps10
      go_wp2_with (first
        | ((have _ := (st : Stg 0)); go_at_call 31; (rw [← hwb]); (with_reducible refine (HQ.out _).mono ?_); rintro e w1 ⟨rfl, hb⟩; (have B1 := hid_o hb); (obtain ⟨bl, b0, b1, b2, _, _, _⟩ := VB.out.below hb); clear hb st; (have st : Stg 1 := ⟨trivial⟩))
        | ((have _ := (st : Stg 1)); go_at_call 31; (with_reducible refine (HQ'.out _).mono ?_); rintro e w2 ⟨rfl, hb⟩; (have B2 := hid_o (bt B1.out hb)); clear hb st))
      go_ret2
      exact ⟨rfl, bt Bb.out B2.out⟩
    · rw [h2] at HQ'
      have hne : ¬ (R = C ∧ R' = R ∧ C' = R) := fun e => h ⟨sqB_iff.2 ⟨h1, e.1⟩, sqB_iff.2 ⟨h2, e.2.1.trans e.2.2.symm⟩, e.2.1.symm⟩
      clear h h1 h2
      by_cases c1 : R = C
      · by_cases c2 : R' = R
        · have c3 : ¬ C' = R := fun e => hne ⟨c1, c2, e⟩
          subst c1
          subst c2
          clear hne
          go_enter Try.func10, Try.ntmps10
          go_wp2_with (first
            | ((have _ := (st : Stg 0)); go_at_call 31; (rw [← hwb]); (with_reducible refine (HQ.out _).mono ?_); rintro e w1 ⟨rfl, hb⟩; (have B1 := hid_o hb); (obtain ⟨bl, b0, b1, b2, _, _, _⟩ := VB.out.below hb); clear hb st; (have st : Stg 1 := ⟨trivial⟩))
            | ((have _ := (st : Stg 1)); go_at_call 31; (with_reducible refine (HQ'.out _).mono ?_); rintro e w2 ⟨rfl, hb⟩; (have B2 := hid_o (bt B1.out hb)); (clear bl b0 b1 b2); (obtain ⟨al, a0, a1, a2, _, _, _⟩ := VA.out.below B2.out); (obtain ⟨bl, b0, b1, b2, _, _, _⟩ := VB.out.below B2.out); clear hb st))
          go_ret2
          exact ⟨rfl, bt Bb.out B2.out⟩
        · clear hne
          subst c1
          go_enter Try.func10, Try.ntmps10
          go_wp2_with (first
            | ((have _ := (st : Stg 0)); go_at_call 31; (rw [← hwb]); (with_reducible refine (HQ.out _).mono ?_); rintro e w1 ⟨rfl, hb⟩; (have B1 := hid_o hb); (obtain ⟨bl, b0, b1, b2, _, _, _⟩ := VB.out.below hb); clear hb st; (have st : Stg 1 := ⟨trivial⟩))
            | ((have _ := (st : Stg 1)); go_at_call 31; (with_reducible refine (HQ'.out _).mono ?_); rintro e w2 ⟨rfl, hb⟩; (have B2 := hid_o (bt B1.out hb)); (clear bl b0 b1 b2); (obtain ⟨al, a0, a1, a2, _, _, _⟩ := VA.out.below B2.out); (obtain ⟨bl, b0, b1, b2, _, _, _⟩ := VB.out.below B2.out); clear hb st))
          go_ret2
          exact ⟨rfl, bt Bb.out B2.out⟩
      · clear hne
        go_enter Try.func10, Try.ntmps10
        go_wp2_with (first
          | ((have _ := (st : Stg 0)); go_at_call 31; (rw [← hwb]); (with_reducible refine (HQ.out _).mono ?_); rintro e w1 ⟨rfl, hb⟩; (have B1 := hid_o hb); (obtain ⟨bl, b0, b1, b2, _, _, _⟩ := VB.out.below hb); clear hb st; (have st : Stg 1 := ⟨trivial⟩))
          | ((have _ := (st : Stg 1)); go_at_call 31; (with_reducible refine (HQ'.out _).mono ?_); rintro e w2 ⟨rfl, hb⟩; (have B2 := hid_o (bt B1.out hb)); (clear bl b0 b1 b2); (obtain ⟨al, a0, a1, a2, _, _, _⟩ := VA.out.below B2.out); (obtain ⟨bl, b0, b1, b2, _, _, _⟩ := VB.out.below B2.out); clear hb st))
        go_ret2
        exact ⟨rfl, bt Bb.out B2.out⟩

end Go.Proofs.Ytomllbpkjhoepaa
