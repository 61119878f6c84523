/-
  The walk of MatrixKnown: it hands back true and only lays new memory.
-/
import Derived.Test.YtjjpgmgnejhggaaMva
namespace Go.Proofs.Ytjjpgmgnejhggaa
open Fl RowKit

theorem al_rcN (W : World) (xs : List Cw) (t : TypeId) (B : Nat) (hB : W.heap.size = B) : Rc (W.alloc (.cells (xs.map cx).toArray t)) (some ⟨B, 0, none⟩) xs := by
  intro k hk
  refine ⟨B, 0, rfl, by rw [size_al]; omega, ?_⟩
  rw [Nat.zero_add, al_at W _ t B k hB]
  simp [zat_lt hk]
theorem chk_yes {R C : Int} {A : Option Addr} {n c : Nat} {w : World} (h : mb R C n = true) (hn : n ≤ 1000000000000000) : Calls Try.prog 28 #[.agg #[.int .i64 R, .int .i64 C, .slice A n c]] w fun e w' => e = .returned (.int .i64 0) ∧ Below w.heap.size w w' :=
  (mcheck R C A n c w hn).mono (by rintro e w' ⟨rfl, hb⟩; rw [h]; exact ⟨rfl, hb⟩)
theorem chk_no {R C : Int} {A : Option Addr} {n c : Nat} {w : World} (h : mb R C n = false) (hn : n ≤ 1000000000000000) : Calls Try.prog 28 #[.agg #[.int .i64 R, .int .i64 C, .slice A n c]] w fun e w' => e = .returned (.int .i64 4) ∧ Below w.heap.size w w' :=
  (mcheck R C A n c w hn).mono (by rintro e w' ⟨rfl, hb⟩; rw [h]; exact ⟨rfl, hb⟩)
theorem id64 (w : World) : Calls Try.prog 41 #[.int .i64 64] w fun e w' => ∃ g, e = .returned (.tuple #[.agg #[.int .i64 64, .int .i64 64, .slice (some ⟨g, 0, none⟩) 4096 4096], .int .i64 0]) ∧ (g < w'.heap.size ∧ w'.cell? ⟨g, 4095, none⟩ = some (.complex .f64 4607182418800017408 0)) ∧ Below w.heap.size w w' := by
  refine (midentity (N := 64) w (by decide)).mono ?_
  rintro e w' ⟨g, zs, rfl, hN, hb⟩
  obtain ⟨b, off, e1, h2, h3⟩ := new_rc hN 4095 (by rw [hN.len]; decide)
  cases e1
  have hr := hN.rep 4095 (by decide)
  have e2 : zat zs 4095 = (4607182418800017408, 0) := Prod.ext (rep_is hr.1 (by decide +kernel)) (rep_is hr.2 (by decide +kernel))
  rw [e2, Nat.zero_add] at h3
  exact ⟨g, rfl, ⟨h2, h3⟩, hb⟩
theorem mx_none (W : World) {R C : Nat} (hR : R ≤ 64) (hC : C ≤ 64) (h0 : R * C = 0) : Mx W R C none 0 (fun _ => (some 0, some 0)) [] :=
  ⟨by rw [h0]; rfl, hR, hC, fun j hj => by omega, ⟨Rc.nil _ _, .inl ⟨rfl, rfl⟩, Nat.le_refl _⟩⟩
def zero6 : List Cw := [(0, 0), (0, 0), (0, 0), (0, 0), (0, 0), (0, 0)]
theorem mul23 (w : World) : Calls Try.prog 13 #[.agg #[.int .i64 2, .int .i64 0, .slice none 0 0], .agg #[.int .i64 0, .int .i64 3, .slice none 0 0]] w fun e w' => ∃ g zs, e = .returned (.tuple #[.agg #[.int .i64 2, .int .i64 3, .slice (some ⟨g, 0, none⟩) 6 6], .int .i64 0]) ∧ Lst w' (some ⟨g, 0, none⟩) 6 (fun _ => (some 0, some 0)) zs ∧ Below w.heap.size w w' := by
  refine (mmul (mx_none w (R := 2) (C := 0) (by decide) (by decide) rfl) (mx_none w (R := 0) (C := 3) (by decide) (by decide) rfl)).mono ?_
  rintro e w' ⟨g, zs, rfl, hN, hb⟩
  exact ⟨g, zs, rfl, new_lst (hN.congr (fun k hk => rfl)), hb⟩
theorem norm30 (w : World) : Calls Try.prog 40 #[.agg #[.int .i64 3, .int .i64 0, .slice none 0 0]] w fun e w' => e = .returned (.tuple #[.float .f64 0, .int .i64 0]) ∧ Below w.heap.size w w' :=
  (mnorm (mx_none w (R := 3) (C := 0) (by decide) (by decide) rfl)).mono (by rintro e w' ⟨rfl, hb⟩; exact ⟨rfl, hb⟩)
def xm0 : Cw := (9223372036854775808, 0)
theorem sym22 {W : World} {B : Nat} (h : Rc W (some ⟨B, 0, none⟩) [x1, x0, xm0, x2]) : Calls Try.prog 30 #[.agg #[.int .i64 2, .int .i64 2, .slice (some ⟨B, 0, none⟩) 4 4]] W fun e w' => e = .returned (.bool true) ∧ Below W.heap.size W w' := by
  refine (msym (mx_closed (R := 2) (C := 2) (c := 4) rfl (by decide) (by decide) (by decide) (ok4 (by unfold okz x1; decide) (by unfold okz x0; decide) (by unfold okz xm0; decide) (by unfold okz x2; decide)) h)).mono ?_
  rintro e w' ⟨rfl, hb⟩
  have e : allB (flatB 2 (fun i j => equalW (zat [x1, x0, xm0, x2] (i * 2 + j)) (zat [x1, x0, xm0, x2] (j * 2 + i)))) (2 * 2) = true := by kernel_rfl
  rw [e]
  exact ⟨rfl, hb⟩
theorem lst_zero6 (W : World) (t : TypeId) (B : Nat) (hB : W.heap.size = B) : Lst (W.alloc (.cells #[.complex .f64 0 0, .complex .f64 0 0, .complex .f64 0 0, .complex .f64 0 0, .complex .f64 0 0, .complex .f64 0 0] t)) (some ⟨B, 0, none⟩) 6 (fun _ => (some 0, some 0)) zero6 := by
  refine ⟨rfl, ?_, al_rcN W zero6 t B hB⟩
  intro j hj
  have : zat zero6 j = (0, 0) := by
    match j, hj with
    | 0, _ => rfl
    | 1, _ => rfl
    | 2, _ => rfl
    | 3, _ => rfl
    | 4, _ => rfl
    | 5, _ => rfl
  rw [this]
  exact ⟨rep_0, rep_0⟩

set_option maxHeartbeats 4000000 in
theorem known_any (w : World) : Calls Try.prog 7 #[] w fun e w' => e = .returned (.bool true) ∧ Below w.heap.size w w' := by
  have BX : Below w.heap.size w w := below_self w
  have q0 : FloatKind.f64.format.order 0 0 = some .eq := by kernel_rfl
  have q1 : FloatKind.f64.format.order 4607182418800017408 4607182418800017408 = some .eq := by kernel_rfl
  have hc65 : cnt 65 = false := by decide
  have h96 : 6 * 16 ≤ 140737488355328 := by decide
  have hng : Op.negFloat .f64 0 = 9223372036854775808 := by kernel_rfl
  go_enter Try.func7, Try.ntmps7
  go_wp2_with (first
    | (go_at_call 60; (refine (lmade_any _ _ _ _ _ _).mono ?_); (rintro e w' ⟨rfl, hw'⟩); (subst w'))
    | (go_at_call 28; (first | (refine (chk_yes (by decide) (by decide)).mono ?_) | (refine (chk_no (by decide) (by decide)).mono ?_)); (rintro e wx ⟨rfl, hb⟩); (replace BX : Below w.heap.size w wx := b_of (by repeat first | exact BX | refine ba ?_ _) hb (by first | exact BX.size | (simp only [size_al]; have := BX.size; omega))); clear hb)
    | (go_at_call 16; (refine (fswap_arg (by decide) (by decide) (by omega)).mono ?_); (rintro e wx ⟨rfl, hb⟩); (replace BX : Below w.heap.size w wx := b_of (by repeat first | exact BX | refine ba ?_ _) hb (by first | exact BX.size | (simp only [size_al]; have := BX.size; omega))); clear hb)
    | (go_at_call 37; (refine (frow_arg (by decide) (by decide) (by omega)).mono ?_); (rintro e wx ⟨rfl, hb⟩); (replace BX : Below w.heap.size w wx := b_of (by repeat first | exact BX | refine ba ?_ _) hb (by first | exact BX.size | (simp only [size_al]; have := BX.size; omega))); clear hb)
    | (go_at_call 41; (with_reducible refine (fidentity (N := 65) _ hc65).mono ?_); (rintro e wx ⟨rfl, hb⟩); (replace BX : Below w.heap.size w wx := b_of (by repeat first | exact BX | refine ba ?_ _) hb (by first | exact BX.size | (simp only [size_al]; have := BX.size; omega))); clear hb)
    | (go_at_call 41; (with_reducible refine (id64 _).mono ?_); (rintro e w9 ⟨g9, rfl, ⟨hg9, hc9⟩, hb⟩); (replace BX : Below w.heap.size w w9 := b_of (by repeat first | exact BX | refine ba ?_ _) hb (by first | exact BX.size | (simp only [size_al]; have := BX.size; omega))); clear hb)
    | (go_at_call 13; (with_reducible refine (mul23 _).mono ?_); (rintro e w11 ⟨g11, zs, rfl, L11, hb⟩); (have V9 : V3 w9.heap.size (.int .i64 64) (.int .i64 64) (.slice (some ⟨g9, 0, none⟩) 4096 4096) w11 := V3.below (by repeat first | exact v3_at _ _ _ _ _ (by first | rfl | (simp only [size_al]; first | done | omega)) | refine V3.below ?_ (bal _ _)) hb); (have B9 : Below w9.heap.size w9 w11 := b_of (by repeat first | exact below_self _ | refine ba ?_ _ ) hb (by simp only [size_al]; omega)); (have C9 := (B9.cell (p := ⟨g9, 4095, none⟩) hg9).trans hc9); (replace BX : Below w.heap.size w w11 := b_of BX B9 BX.size); clear hb)
    | (go_at_call 40; (with_reducible refine (norm30 _).mono ?_); (rintro e w12 ⟨rfl, hb⟩); (have V11 : V3 w11.heap.size (.int .i64 2) (.int .i64 3) (.slice (some ⟨g11, 0, none⟩) 6 6) w12 := V3.below (by repeat first | exact v3_at _ _ _ _ _ (by first | rfl | (simp only [size_al]; first | done | omega)) | refine V3.below ?_ (bal _ _)) hb); (have B11 : Below w11.heap.size w11 w12 := b_of (by repeat first | exact below_self _ | refine ba ?_ _ ) hb (by simp only [size_al]; omega)); (have V92 := V9.below B11); (have C92 := (B11.cell (p := ⟨g9, 4095, none⟩) (Nat.lt_of_lt_of_le hg9 B9.size)).trans C9); (have L12 := L11.below B11); (replace BX : Below w.heap.size w w12 := b_of BX B11 BX.size); (have v0 := V11.c0); (have v1 := V11.c1); (have v2 := V11.c2); (have vl := V11.lt); (have hg12 : g9 < w12.heap.size := Nat.lt_of_lt_of_le hg9 (Nat.le_trans B9.size B11.size)); clear hb)
    | (go_at_call 49; (with_reducible refine (tsame (L12.below (bal _ _)) (lst_zero6 _ _ _ rfl) h96).mono ?_); (rintro e w14 ⟨m14, rfl, hw14⟩); subst w14)
    | (go_at_call 51; (refine (mawake_any _).mono ?_); (rintro e w13 ⟨rfl, hb⟩); (have B12 : Below w12.heap.size w12 w13 := b_of (by repeat first | exact below_self _ | refine below_drewN ?_ _ | refine ba ?_ _) hb (by simp)); (have V93 := V92.below B12); (have C93 := (B12.cell (p := ⟨g9, 4095, none⟩) hg12).trans C92); (replace BX : Below w.heap.size w w13 := b_of BX B12 BX.size); (have v3 := V93.c2); clear hb v0 v1 v2 vl)
    | (go_at_call 30; (with_reducible refine (sym22 ?h1).mono ?_); (case h1 => exact (al_rc4 _ x1 x0 xm0 x2 _ _ rfl).below (bal _ _)); (rintro e w15 ⟨rfl, hb⟩); (replace BX : Below w.heap.size w w15 := b_of (by repeat first | exact BX | refine ba ?_ _) hb (by first | exact BX.size | (simp only [size_al]; have := BX.size; omega))); clear hb)
    | (go_at_call 30; (refine (fsym_sq (by decide) (by decide) (by decide)).mono ?_); (rintro e wx ⟨rfl, hb⟩); (replace BX : Below w.heap.size w wx := b_of (by repeat first | exact BX | refine ba ?_ _) hb (by first | exact BX.size | (simp only [size_al]; have := BX.size; omega))); clear hb))
  go_ret
  exact ⟨rfl, BX⟩


end Go.Proofs.Ytjjpgmgnejhggaa
