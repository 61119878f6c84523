/-
  Inverses of every square matrix: refused, or made; closed ones; the statements' own awake.
-/
import Derived.Test.YtomllbpkjhoepaaIvd
import Derived.Deep.RegionHeldLaw
namespace Go.Proofs.Ytomllbpkjhoepaa
open Fl RowKit

theorem inv_lit {N : Nat} {f g : Nat → Cw} (hN : N ≤ 64) (hf : ∀ k, k < N * N → okz (f k)) (h1 : nff (ro (N * N) f) (N * N) = N * N) (h2 : (elm N (mat9 N f) N).1.1 = 0) (h3 : fstN (inK N (elm N (mat9 N f) N).2.M (elm N (mat9 N f) N).2.o) N = N) (h4 : ∀ k, k < N * N → ivW N (elm N (mat9 N f) N).2 k = g k) : InvMakes N f g := by
  rcases of_cases N f hN hf with ⟨E, a, h0, _, hw⟩ | ⟨_, _, hC⟩
  · exfalso
    rcases hw with ⟨w1, _, _⟩ | ⟨_, w2, _⟩
    · omega
    · exact h0 (w2.trans h2)
  · intro W A c hc hr
    have := inv_makes0 hN hC (elm_eok (mat_ok hf) (mat_fin h1) N (Nat.le_refl _) h2) (elm_in N (Nat.le_refl _) h2) h3 W A c hc hr
    rw [ro_congr h4] at this
    exact this
theorem inv_lit_over {N q : Nat} {f : Nat → Cw} (hN : N ≤ 64) (hf : ∀ k, k < N * N → okz (f k)) (h1 : nff (ro (N * N) f) (N * N) = N * N) (h2 : (elm N (mat9 N f) N).1.1 = 0) (h3 : fstN (inK N (elm N (mat9 N f) N).2.M (elm N (mat9 N f) N).2.o) N = q) (hq : q < N) : InvFails N f 6 q := by
  rcases of_cases N f hN hf with ⟨E, a, h0, _, hw⟩ | ⟨_, _, hC⟩
  · exfalso
    rcases hw with ⟨w1, _, _⟩ | ⟨_, w2, _⟩
    · omega
    · exact h0 (w2.trans h2)
  · intro W A c hc hr
    have := inv_over0 hN hC (elm_eok (mat_ok hf) (mat_fin h1) N (Nat.le_refl _) h2) (elm_in N (Nat.le_refl _) h2) (by rw [h3]; exact hq) W A c hc hr
    rw [h3] at this
    exact this
theorem inv_lit_no {N : Nat} {f : Nat → Cw} {E : Int} {a : Nat} (hN : N ≤ 64) (hf : ∀ k, k < N * N → okz (f k)) (h1 : nff (ro (N * N) f) (N * N) = N * N) (h2 : (elm N (mat9 N f) N).1 = (E, a)) (hE : ¬ E = 0) : InvFails N f E a := by
  rcases of_cases N f hN hf with ⟨E', a', h0, hC, hw⟩ | ⟨_, h3, _⟩
  · rcases hw with ⟨w1, _, _⟩ | ⟨_, w2, w3⟩
    · omega
    · rw [h2] at w2 w3
      subst w2
      subst w3
      exact inv_fails h0 hC
  · rw [h2] at h3; exact absurd h3 hE
theorem bwS_bd (n : Nat) (m : Nat → Nat → Cn) (f : Nat → Cn) : ∀ t, t ≤ n → ∀ j, n - t ≤ j → j < n → bdZ (bwS n m divZ f t j) := by
  intro t
  induction t with
  | zero => intro _ j h1 h2; omega
  | succ t ih =>
    intro ht j h1 h2
    show bdZ (stB n m divZ (n - 1 - t) (bwS n m divZ f t) j)
    unfold stB upC
    by_cases e : j = n - 1 - t
    · rw [if_pos e]; exact bd_divZ _ _
    · rw [if_neg e]; exact ih (by omega) j (by omega) h2
theorem inX_bd {n : Nat} {M : Nat → Nat → Cw} {o : Nat → Nat} {j i : Nat} (hi : i < n) : bdZ (inX n M o j i) := bwS_bd n _ _ n (Nat.le_refl _) i (by omega) hi
theorem ivW_ok {n : Nat} {S : Es} {k : Nat} (hk : k < n * n) : okz (ivW n S k) := by
  obtain ⟨k1, _⟩ := div_lt' hk
  exact toW_ok (inX_bd k1).1 (inX_bd k1).2
theorem ivW_anz {n : Nat} {S : Es} (hK : fstN (inK n S.M S.o) n = n) {k : Nat} (hk : k < n * n) : anz (ivW n S k) = inX n S.M S.o (k % n) (k / n) := by
  obtain ⟨k1, k2⟩ := div_lt' hk
  exact anz_toW (inX_bd k1) (inK_fin (fstN_iff.1 hK _ k2) k1)
/-- every square matrix -/
theorem inv_cases (N : Nat) (f : Nat → Cw) (hN : N ≤ 64) (hf : ∀ k, k < N * N → okz (f k)) :
    (∃ E a, ¬ E = 0 ∧ InvFails N f E a) ∨ (∃ g, (∀ k, k < N * N → okz (g k)) ∧ InvMakes N f g) := by
  rcases of_cases N f hN hf with ⟨E, a, h0, hC, _⟩ | ⟨h1, h2, hC⟩
  · exact .inl ⟨E, a, h0, inv_fails h0 hC⟩
  · have e := elm_eok (mat_ok hf) (mat_fin h1) N (Nat.le_refl _) h2
    have i := elm_in N (Nat.le_refl _) h2
    rcases Nat.lt_or_ge (fstN (inK N (elm N (mat9 N f) N).2.M (elm N (mat9 N f) N).2.o) N) N with h | h
    · exact .inl ⟨6, _, by decide, inv_over0 hN hC e i h⟩
    · have hE : fstN (inK N (elm N (mat9 N f) N).2.M (elm N (mat9 N f) N).2.o) N = N := Nat.le_antisymm (fstN_le _ _) h
      exact .inr ⟨_, fun k hk => ivW_ok hk, inv_makes0 hN hC e i hE⟩
set_option maxHeartbeats 1000000 in
theorem sq12 (a1 a2 b1 b2 c1 c2 d1 d2 : Nat) (w : World) : Calls Try.prog 14 #[.complex .f64 a1 a2, .complex .f64 b1 b2, .complex .f64 c1 c2, .complex .f64 d1 d2] w fun e w' => ∃ B, e = .returned (.agg #[.int .i64 2, .int .i64 2, .slice (some ⟨B, 0, none⟩) 4 4]) ∧ Sl w' (some ⟨B, 0, none⟩) 4 (ro 4 (zat [(a1, a2), (b1, b2), (c1, c2), (d1, d2)])) ∧ Below w.heap.size w w' := by
  go_enter Try.func14, Try.ntmps14
  go_wp2
  refine bodyPost_ret (by simp [results, Try.results14, go_sem]; try rfl) rfl ?_
  exact ⟨w.heap.size + 1, rfl, ⟨al_rc4 (w.alloc _) (a1, a2) (b1, b2) (c1, c2) (d1, d2) 43 _ (by simp), .inr ⟨_, _, rfl⟩, by rw [ro_len]; omega⟩, ba (bal _ _) _⟩
theorem okl4 (a b c d : Cw) (ha : okz a) (hb : okz b) (hc : okz c) (hd : okz d) : ∀ k, k < 2 * 2 → okz (zat [a, b, c, d] k) := fun k _ => ok4 ha hb hc hd k
abbrev aL : List Cw := [(0, 4607182418800017408), (0, 0), (0, 0), (4611686018427387904, 0)]
abbrev bL : List Cw := [(0, 13830554455654793216), (0, 0), (0, 0), (4602678819172646912, 0)]
theorem aL_ok : ∀ k, k < 2 * 2 → okz (zat aL k) := okl4 _ _ _ _ ⟨by decide, by decide⟩ ⟨by decide, by decide⟩ ⟨by decide, by decide⟩ ⟨by decide, by decide⟩
theorem aL_1 : nff (ro (2 * 2) (zat aL)) (2 * 2) = 2 * 2 := by kernel_rfl
theorem aL_2 : (elm 2 (mat9 2 (zat aL)) 2).1.1 = 0 := by kernel_rfl
theorem aL_3 : fstN (inK 2 (elm 2 (mat9 2 (zat aL)) 2).2.M (elm 2 (mat9 2 (zat aL)) 2).2.o) 2 = 2 := by kernel_rfl
abbrev aS : Es := (elm 2 (mat9 2 (zat aL)) 2).2
theorem aL_4 : ∀ k, k < 4 → eqB (zat (ro 4 (ivW 2 aS)) k).1 (zat (ro 4 (zat bL)) k).1 = true ∧ eqB (zat (ro 4 (ivW 2 aS)) k).2 (zat (ro 4 (zat bL)) k).2 = true := by decide +kernel
theorem of_aL {W : World} {B : Nat} (hr : Sl W (some ⟨B, 0, none⟩) 4 (ro 4 (zat aL))) : Calls Try.prog 13 #[.agg #[.int .i64 2, .int .i64 2, .slice (some ⟨B, 0, none⟩) 4 4]] W fun e w' => ∃ B', e = .returned (.tuple #[.agg #[.int .i64 2, .int .i64 2, .slice (some ⟨B', 0, none⟩) 4 4], .agg #[.int .i64 0, .int .i64 0]]) ∧ Rc w' (some ⟨B', 0, none⟩) (ro 4 (ivW 2 aS)) ∧ Below W.heap.size W w' := by
  have h := inv_lit (by decide) aL_ok aL_1 aL_2 aL_3 (fun _ _ => rfl) W (some ⟨B, 0, none⟩) 4 (by decide) hr.rd
  refine Calls.mono h ?_
  rintro e w' ⟨B', rfl, h1, h2⟩
  exact ⟨B', rfl, h1.rc, h2⟩
set_option maxHeartbeats 4000000 in
theorem awake12 (w : World) : Calls Try.prog 19 #[] w fun e w' => e = .returned (.bool true) ∧ Below w.heap.size w w' := by
  go_enter Try.func19, Try.ntmps19
  go_wp2_with (first
    | (go_at_call 14; (with_reducible refine (sq12 0 4607182418800017408 0 0 0 0 4611686018427387904 0 _).mono ?_); rintro e w1 ⟨B1, rfl, hr, hb⟩; (have HR1 := hid_o hr); (have HB1 := hid_o hb); clear hr hb)
    | (go_at_call 13; (with_reducible refine (of_aL HR1.out).mono ?_); rintro e w2 ⟨B2, rfl, hr, hb⟩; (have HR2 := hid_o hr); (have HB2 := hid_o (bt HB1.out hb)); clear hr hb))
  obtain ⟨wz, hwz⟩ : ∃ wz, wz = (w2.alloc (.cells #[.int .i64 2, .int .i64 2, .slice (some ⟨B2, 0, none⟩) 4 4] 28)).alloc (.cells #[.int .i64 0, .int .i64 0] 39) := ⟨_, rfl⟩
  have Bz : Below w2.heap.size w2 wz := by rw [hwz]; exact (bal _ _).alloc (by simp) _
  have VW : Hid (V3 w2.heap.size (.int .i64 2) (.int .i64 2) (.slice (some ⟨B2, 0, none⟩) 4 4) wz) := by rw [hwz]; exact (v3_new _ _ _ _ _).below (bal _ _)
  have VF : Hid (V2 (w2.heap.size + 1) (.int .i64 0) (.int .i64 0) wz) := by rw [hwz]; exact v2_at _ _ _ _ (by simp)
  have HRz := hid_o (HR2.out.below Bz)
  have HBz := hid_o (bt HB2.out Bz)
  have SA : Hid (∀ W : World, Below wz.heap.size wz W → W.cell? ⟨w2.heap.size, 0, none⟩ = some (.int .i64 2) ∧ W.cell? ⟨w2.heap.size, 1, none⟩ = some (.int .i64 2) ∧ W.cell? ⟨w2.heap.size, 2, none⟩ = some (.slice (some ⟨B2, 0, none⟩) 4 4) ∧ W.cell? ⟨w2.heap.size + 1, 0, none⟩ = some (.int .i64 0) ∧ W.cell? ⟨w2.heap.size + 1, 1, none⟩ = some (.int .i64 0)) := fun W hW => ⟨(VW.out.below hW).c0, (VW.out.below hW).c1, (VW.out.below hW).c2, (VF.out.below hW).c0, (VF.out.below hW).c1⟩
  have D0 : Hid (Below wz.heap.size wz wz.drew) := (Below.refl _ _).drew
  rw [← hwz]
  clear hwz Bz HR2 HR1 HB1 HB2
  go_region_held_law (fun W => W.cell? ⟨w2.heap.size, 0, none⟩ = some (.int .i64 2) ∧ W.cell? ⟨w2.heap.size, 1, none⟩ = some (.int .i64 2) ∧ W.cell? ⟨w2.heap.size, 2, none⟩ = some (.slice (some ⟨B2, 0, none⟩) 4 4) ∧ W.cell? ⟨w2.heap.size + 1, 0, none⟩ = some (.int .i64 0) ∧ W.cell? ⟨w2.heap.size + 1, 1, none⟩ = some (.int .i64 0))
    (first | with_reducible exact SA.out _ HB4.out | with_reducible exact SA.out _ HB3.out | with_reducible exact SA.out _ D0.out)
    (first
    | (go_at_call 14; (with_reducible refine (sq12 0 13830554455654793216 0 0 0 0 4602678819172646912 0 _).mono ?_); rintro e w3 ⟨B3, rfl, hr, hb⟩; (have HR3 := hid_o hr); (have HB3 := hid_o (bt D0.out hb)); clear hr hb)
    | (go_at_call 18; (with_reducible refine (keqM 2 2 (ro_len 4 _) (ro_len 4 _) (HRz.out.below HB3.out) HR3.out.rd (by decide) aL_4).mono ?_); rintro e w4 ⟨rfl, hb⟩; (have HB4 := hid_o (bt HB3.out hb)); clear hb))
  all_goals
    go_wp2_with fail
    go_ret
    exact ⟨rfl, bt HBz.out HB4.out⟩

end Go.Proofs.Ytomllbpkjhoepaa
