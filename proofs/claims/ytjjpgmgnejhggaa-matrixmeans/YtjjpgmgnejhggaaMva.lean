/-
  The statements' awake: it hands back true and only lays new memory.
-/
import Derived.Test.YtjjpgmgnejhggaaMw
namespace Go.Proofs.Ytjjpgmgnejhggaa
open Fl RowKit

theorem rc4 {w : World} {B : Nat} {a b c d : Cw} (h0 : w.cell? ⟨B, 0, none⟩ = some (.complex .f64 a.1 a.2)) (h1 : w.cell? ⟨B, 1, none⟩ = some (.complex .f64 b.1 b.2)) (h2 : w.cell? ⟨B, 2, none⟩ = some (.complex .f64 c.1 c.2)) (h3 : w.cell? ⟨B, 3, none⟩ = some (.complex .f64 d.1 d.2)) (hB : B < w.heap.size) : Rc w (some ⟨B, 0, none⟩) [a, b, c, d] := by
  intro k hk
  refine ⟨B, 0, rfl, hB, ?_⟩
  match k, hk with
  | 0, _ => exact h0
  | 1, _ => exact h1
  | 2, _ => exact h2
  | 3, _ => exact h3
theorem al_rc4 (W : World) (a b c d : Cw) (t : TypeId) (B : Nat) (hB : W.heap.size = B) : Rc (W.alloc (.cells #[.complex .f64 a.1 a.2, .complex .f64 b.1 b.2, .complex .f64 c.1 c.2, .complex .f64 d.1 d.2] t)) (some ⟨B, 0, none⟩) [a, b, c, d] :=
  rc4 (al_at W _ t B 0 hB) (al_at W _ t B 1 hB) (al_at W _ t B 2 hB) (al_at W _ t B 3 hB) (by rw [size_al]; omega)
theorem mx_closed {W : World} {R C B c : Nat} {xs : List Cw} (hl : xs.length = R * C) (hR : R ≤ 64) (hC : C ≤ 64) (hc : R * C ≤ c) (hx : okl xs) (hr : Rc W (some ⟨B, 0, none⟩) xs) : Mx W R C (some ⟨B, 0, none⟩) c (fun k => anz (zat xs k)) xs :=
  ⟨hl, hR, hC, fun j _ => repz_anz (hx j), ⟨hr, .inr ⟨B, 0, rfl⟩, by omega⟩⟩
def xI : Cw := (0, 4607182418800017408)
def x1 : Cw := (4607182418800017408, 0)
def x2 : Cw := (4611686018427387904, 0)
def x3 : Cw := (4613937818241073152, 0)
def x4 : Cw := (4616189618054758400, 0)
def x0 : Cw := (0, 0)
def x34 : Cw := (4613937818241073152, 4616189618054758400)
def xm1 : Cw := (13830554455654793216, 0)
theorem ok4 {a b c d : Cw} (h1 : okz a) (h2 : okz b) (h3 : okz c) (h4 : okz d) : okl [a, b, c, d] := okl_cons h1 (okl_cons h2 (okl_cons h3 (okl_cons h4 okl_nil)))
theorem ok2 {a b : Cw} (h1 : okz a) (h2 : okz b) : okl [a, b] := okl_cons h1 (okl_cons h2 okl_nil)
theorem okA : okl [x1, xI, x0, x2] := ok4 (by unfold okz x1; decide) (by unfold okz xI; decide) (by unfold okz x0; decide) (by unfold okz x2; decide)
theorem okB : okl [x1, xI] := ok2 (by unfold okz x1; decide) (by unfold okz xI; decide)
theorem okC : okl [x1, x2, x3, x4] := ok4 (by unfold okz x1; decide) (by unfold okz x2; decide) (by unfold okz x3; decide) (by unfold okz x4; decide)
theorem okD : okl [x34, x1, xm1, x2] := ok4 (by unfold okz x34; decide) (by unfold okz x1; decide) (by unfold okz xm1; decide) (by unfold okz x2; decide)
theorem mul_closed {W : World} {B1 B2 : Nat} (h1 : Rc W (some ⟨B1, 0, none⟩) [x1, xI, x0, x2]) (h2 : Rc W (some ⟨B2, 0, none⟩) [x1, xI]) :
    Calls Try.prog 13 #[.agg #[.int .i64 2, .int .i64 2, .slice (some ⟨B1, 0, none⟩) 4 4], .agg #[.int .i64 2, .int .i64 1, .slice (some ⟨B2, 0, none⟩) 2 2]] W fun e w' => ∃ g zs, e = .returned (.tuple #[.agg #[.int .i64 2, .int .i64 1, .slice (some ⟨g, 0, none⟩) 2 2], .int .i64 0]) ∧ Hid (equalW (zat zs 0) (0, 0) = true ∧ equalW (zat zs 1) (0, 4611686018427387904) = true) ∧ Hid (∃ F, Mx w' 2 1 (some ⟨g, 0, none⟩) 2 F zs) ∧ Below W.heap.size W w' := by
  refine (mmul (mx_closed (R := 2) (C := 2) (c := 4) rfl (by decide) (by decide) (by decide) okA h1) (mx_closed (R := 2) (C := 1) (c := 2) rfl (by decide) (by decide) (by decide) okB h2)).mono ?_
  rintro e w' ⟨g, zs, rfl, hN, hb⟩
  refine ⟨g, zs, rfl, ⟨?_, ?_⟩, ⟨_, new_mx (R := 2) (C := 1) hN (by decide) (by decide)⟩, hb⟩
  · have := hN.rep 0 (by decide)
    unfold equalW
    rw [eq_word (c := 0) this.1 (by kernel_rfl) (by kernel_rfl), eq_word (c := 0) this.2 (by kernel_rfl) (by kernel_rfl)]; rfl
  · have := hN.rep 1 (by decide)
    unfold equalW
    rw [eq_word (c := 0) this.1 (by kernel_rfl) (by kernel_rfl), eq_word (c := 4611686018427387904) this.2 (by kernel_rfl) (by kernel_rfl)]; rfl
theorem apply_closed {W : World} {B1 B2 : Nat} (h1 : Rc W (some ⟨B1, 0, none⟩) [x1, x2, x3, x4]) (h2 : Rc W (some ⟨B2, 0, none⟩) [x1, xI]) :
    Calls Try.prog 39 #[.agg #[.int .i64 2, .int .i64 2, .slice (some ⟨B1, 0, none⟩) 4 4], .slice (some ⟨B2, 0, none⟩) 2 2] W fun e w' => ∃ g zs, e = .returned (.tuple #[.slice (some ⟨g, 0, none⟩) 2 2, .int .i64 0]) ∧ (zs.length = 2 ∧ Hid (∀ k, k < 2 → eqB (zat zs k).1 (zat [(4607182418800017408, 4611686018427387904), (4613937818241073152, 4616189618054758400)] k).1 = true ∧ eqB (zat zs k).2 (zat [(4607182418800017408, 4611686018427387904), (4613937818241073152, 4616189618054758400)] k).2 = true) ∧ Rc w' (some ⟨g, 0, none⟩) zs) ∧ Below W.heap.size W w' := by
  refine (mapply (mx_closed (R := 2) (C := 2) (c := 4) rfl (by decide) (by decide) (by decide) okC h1) (lst_self rfl okB h2)).mono ?_
  rintro e w' ⟨g, zs, rfl, hN, hb⟩
  have h0 := hN.rep 0 (by decide)
  have h1 := hN.rep 1 (by decide)
  refine ⟨g, zs, rfl, ⟨hN.len, two_cases ⟨?_, ?_⟩ ⟨?_, ?_⟩, new_rc hN⟩, hb⟩
  · exact eq_word h0.1 (by kernel_rfl) (by kernel_rfl)
  · exact eq_word h0.2 (by kernel_rfl) (by kernel_rfl)
  · exact eq_word h1.1 (by kernel_rfl) (by kernel_rfl)
  · exact eq_word h1.2 (by kernel_rfl) (by kernel_rfl)
theorem norm_closed {W : World} {B1 : Nat} (h1 : Rc W (some ⟨B1, 0, none⟩) [x34, x1, xm1, x2]) :
    Calls Try.prog 40 #[.agg #[.int .i64 2, .int .i64 2, .slice (some ⟨B1, 0, none⟩) 4 4]] W fun e w' => e = .returned (.tuple #[.float .f64 4620693217682128896, .int .i64 0]) ∧ Below W.heap.size W w' := by
  refine (mnorm (mx_closed (R := 2) (C := 2) (c := 4) rfl (by decide) (by decide) (by decide) okD h1)).mono ?_
  rintro e w' ⟨rfl, hb⟩
  have e : mxF (colT (fun k => anz (zat [x34, x1, xm1, x2] k)) 2 2) 2 = 4620693217682128896 := by kernel_rfl
  rw [e]
  exact ⟨rfl, hb⟩
theorem equal_closed {W : World} {B1 B2 : Nat} {F : Nat → Cn} {zs : List Cw} (h1 : Mx W 2 1 (some ⟨B1, 0, none⟩) 2 F zs) (hz : equalW (zat zs 0) (0, 0) = true ∧ equalW (zat zs 1) (0, 4611686018427387904) = true) (h2 : Rc W (some ⟨B2, 0, none⟩) [x0, (0, 4611686018427387904)]) :
    Calls Try.prog 26 #[.agg #[.int .i64 2, .int .i64 1, .slice (some ⟨B1, 0, none⟩) 2 2], .agg #[.int .i64 2, .int .i64 1, .slice (some ⟨B2, 0, none⟩) 2 2]] W fun e w' => e = .returned (.bool true) ∧ Below W.heap.size W w' := by
  refine (mequal h1 (mx_closed (R := 2) (C := 1) (c := 2) rfl (by decide) (by decide) (by decide) (ok2 (by unfold okz x0; decide) (by unfold okz; decide)) h2)).mono ?_
  rintro e w' ⟨rfl, hb⟩
  have e : allB (fun k => equalW (zat zs k) (zat [x0, (0, 4611686018427387904)] k)) (2 * 1) = true := allB_mk (two_cases hz.1 hz.2)
  rw [e]
  exact ⟨rfl, hb⟩

set_option maxHeartbeats 2000000 in
theorem mawake_any (w : World) : Calls Try.prog 51 #[] w fun e w' => e = .returned (.bool true) ∧ Below w.heap.size w w' := by
  go_enter Try.func51, Try.ntmps51
  go_wp2_with (first
    | (go_at_call 60; (refine (lmade_any _ _ _ _ _ _).mono ?_); (rintro e w' ⟨rfl, hw'⟩); (subst w'))
    | (go_at_call 13; (with_reducible refine (mul_closed ?h1 ?h2).mono ?_); (case h1 => exact (((al_rc4 _ x1 xI x0 x2 _ _ rfl).below (bal _ _)).below (bal _ _)).below (bal _ _)); (case h2 => exact (al_rc2 _ x1 xI _ _ (by simp)).below (bal _ _)); (rintro e w1 ⟨g1, zs1, rfl, hz1, hm1, hb1⟩); (have B1 : Below w.heap.size w w1 := b_of (by repeat first | exact below_self _ | refine ba ?_ _ ) hb1 (by simp only [size_al]; omega)); clear hb1)
    | (go_at_call 39; (with_reducible refine (apply_closed ?h1 ?h2).mono ?_); (case h1 => exact ((al_rc4 _ x1 x2 x3 x4 _ _ (by simp)).below (bal _ _)).below (bal _ _)); (case h2 => exact al_rc2 _ x1 xI _ _ (by simp)); (rintro e w2 ⟨g2, zs2, rfl, ⟨hl2, hz2, hr2⟩, hb2⟩); (have V2 : V3 w1.heap.size (.int .i64 2) (.int .i64 1) (.slice (some ⟨g1, 0, none⟩) 2 2) w2 := V3.below (by repeat first | exact v3_at _ _ _ _ _ (by first | rfl | (simp only [size_al]; first | done | omega)) | refine V3.below ?_ (bal _ _)) hb2); (have B12 : Below w1.heap.size w1 w2 := b_of (by repeat first | exact below_self _ | refine ba ?_ _ ) hb2 (by simp only [size_al]; omega)); clear hb2)
    | (go_at_call 40; (with_reducible refine (norm_closed ?h1).mono ?_); (case h1 => exact (al_rc4 _ x34 x1 xm1 x2 _ _ (by simp)).below (bal _ _)); (rintro e w3 ⟨rfl, hb3⟩); (have B23 : Below w2.heap.size w2 w3 := b_of (by repeat first | exact below_self _ | refine ba ?_ _ ) hb3 (by simp only [size_al]; omega)); (have V := V2.below B23); clear hb3 V2))
  obtain ⟨F1, M1⟩ := hm1.out
  have B13 : Below w1.heap.size w1 w3 := b_of B12 B23 B12.size
  have M3 := M1.below B13
  have L3 := hr2.below B23
  have q8 : FloatKind.f64.format.order 4620693217682128896 4620693217682128896 = some .eq := by kernel_rfl
  have hlr : ([(4607182418800017408, 4611686018427387904), (4613937818241073152, 4616189618054758400)] : List Cw).length = 2 := rfl
  have h32 : 2 * 16 ≤ 140737488355328 := by decide
  have vl := V.lt
  have c0 := V.c0
  have c1 := V.c1
  have c2 := V.c2
  go_region_held_law (fun W => W.cell? ⟨w1.heap.size, 0, none⟩ = some (.int .i64 2) ∧ W.cell? ⟨w1.heap.size, 1, none⟩ = some (.int .i64 1) ∧ W.cell? ⟨w1.heap.size, 2, none⟩ = some (.slice (some ⟨g1, 0, none⟩) 2 2))
    (first | with_reducible exact ⟨((D1.below (bal _ _)).drewN _).c0, ((D1.below (bal _ _)).drewN _).c1, ((D1.below (bal _ _)).drewN _).c2⟩ | with_reducible exact ⟨D1.c0, D1.c1, D1.c2⟩ | go_keep)
    ((first
      | (go_at_call 60; (with_reducible refine (lmade_any _ _ _ _ _ _).mono ?_); rintro e w' ⟨rfl, hw'⟩; subst w')
      | (go_at_call 26; (with_reducible refine (equal_closed (M3.below ?h1) hz1.out ?h2).mono ?_); (case h1 => exact (by repeat first | exact below_self _ | refine ba ?_ _ | refine Below.drew ?_)); (case h2 => first | exact Rc.drewN ((al_rc2 _ x0 (0, 4611686018427387904) _ _ (by first | rfl | simp)).below (bal _ _)) 1 | exact (al_rc2 _ x0 (0, 4611686018427387904) _ _ (by first | rfl | simp)).below (bal _ _)); rintro e w4 ⟨rfl, hb4⟩; have B34 : Below w3.heap.size w3 w4 := b_of (by repeat first | exact below_self _ | refine ba ?_ _ | refine Below.drew ?_) hb4 (by simp; omega); have D1 := V.below B34)
      | (go_at_call 101; (with_reducible refine (kequal_len 2 _ _ _ _ zs2 [(4607182418800017408, 4611686018427387904), (4613937818241073152, 4616189618054758400)] _ h32 hl2 hlr ?h1 ?h2 hz2.out).mono ?_); (case h1 => exact (L3.below B34).below (by repeat first | exact below_self _ | refine ba ?_ _ | refine Below.drew ?_)); (case h2 => first | exact Rc.drewN (al_rc2 _ (4607182418800017408, 4611686018427387904) (4613937818241073152, 4616189618054758400) _ _ (by first | rfl | simp)) 1 | exact al_rc2 _ (4607182418800017408, 4611686018427387904) (4613937818241073152, 4616189618054758400) _ _ (by first | rfl | simp)); rintro e w5 ⟨n5, rfl, hw5⟩; subst w5; have DD := hz2)))
  go_wp2
  go_ret
  have B14 := b_of (b_of B1 B13 B1.size) B34 (Nat.le_trans B1.size B13.size)
  exact ⟨rfl, by first | exact below_drewN (ba B14 _) _ | exact (below_drewN (ba B14 _) _).drew⟩

end Go.Proofs.Ytjjpgmgnejhggaa
