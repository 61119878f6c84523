/-
  Two rows and columns eliminated, by the numbers alone; matrices held to be equal.
-/
import Derived.Test.YtklbgibhbnijaaaLwh
import Derived.Test.YtklbgibhbnijaaaLwj
import Derived.Test.YtklbgibhbnijaaaBnc
import Derived.Test.YtklbgibhbnijaaaBnd
namespace Go.Proofs.Ytklbgibhbnijaaa
open Fl RowKit

/-- a matrix of two rows -/
def M4 (a b c d : Cw) (i j : Nat) : Cw := zat [a, b, c, d] (i * 2 + j)
theorem aw_e : (elm 2 (M4 xI x1 x1 x0) 2).1.1 = 0 := by kernel_rfl
theorem aw_s : (elm 2 (M4 xI x1 x1 x0) 2).2.s = 1 := by kernel_rfl
theorem aw_o : ri 2 (elm 2 (M4 xI x1 x1 x0) 2).2.o = [0, 1] := by kernel_rfl
theorem aw_u : ro 4 (flw 2 (uE (elm 2 (M4 xI x1 x1 x0) 2).2.M)) = [xI, x1, x0, xI] := by kernel_rfl

theorem m4_at (a b c d : Cw) : ∀ i j, i < 2 → j < 2 → M4 a b c d i j = zat [a, b, c, d] (i * 2 + j) := fun _ _ _ _ => rfl
set_option maxHeartbeats 1000000 in
theorem sq_any (a1 a2 b1 b2 c1 c2 d1 d2 : Nat) (w : World) : Calls Try.prog 38 #[.complex .f64 a1 a2, .complex .f64 b1 b2, .complex .f64 c1 c2, .complex .f64 d1 d2] w fun e w' => ∃ B, e = .returned (.agg #[.int .i64 2, .int .i64 2, .slice (some ⟨B, 0, none⟩) 4 4]) ∧ Rc w' (some ⟨B, 0, none⟩) [(a1, a2), (b1, b2), (c1, c2), (d1, d2)] ∧ Below w.heap.size w w' := by
  go_enter Try.func38, Try.ntmps38
  go_wp2
  refine bodyPost_ret (by simp [results, Try.results38, go_sem]; try rfl) rfl ?_
  exact ⟨w.heap.size + 1, rfl, al_rc4 (w.alloc _) (a1, a2) (b1, b2) (c1, c2) (d1, d2) 52 _ (by simp), ba (bal _ _) _⟩
theorem of2 {W : World} {B : Nat} {a b c d : Cw} (hc : Rc W (some ⟨B, 0, none⟩) [a, b, c, d]) (hx : okl [a, b, c, d]) (hf : nff [a, b, c, d] 4 = 4) :
    Calls Try.prog 14 #[.agg #[.int .i64 2, .int .i64 2, .slice (some ⟨B, 0, none⟩) 4 4]] W fun e w' =>
      (¬ (elm 2 (M4 a b c d) 2).1.1 = 0 → e = .returned (.tuple #[.pointer none, .agg #[.int .i64 (elm 2 (M4 a b c d) 2).1.1, .int .i64 ((elm 2 (M4 a b c d) 2).1.2 : Nat)]])) ∧
      ((elm 2 (M4 a b c d) 2).1.1 = 0 → ∃ p gr go bl, e = .returned (.tuple #[.pointer (some ⟨p, 0, none⟩), .agg #[.int .i64 0, .int .i64 0]]) ∧ Lo w' W.heap.size p 2 gr go bl (elm 2 (M4 a b c d) 2).2.M (elm 2 (M4 a b c d) 2).2.o (elm 2 (M4 a b c d) 2).2.s) ∧ Below W.heap.size W w' :=
  of_square 2 (some ⟨B, 0, none⟩) 4 [a, b, c, d] (M4 a b c d) W (by decide) rfl (by decide) hc hx hf (m4_at a b c d)
set_option maxHeartbeats 1000000 in
theorem keqM {n ca cb : Nat} {ao bo : Option Addr} {xs ys : List Cw} {w : World} (R C : Int) (h1 : xs.length = n) (h2 : ys.length = n) (hc : Rc w ao xs) (hd : Rc w bo ys) (hsz : n ≤ 65536) (hs : ∀ k, k < n → eqB (zat xs k).1 (zat ys k).1 = true ∧ eqB (zat xs k).2 (zat ys k).2 = true) :
    Calls Try.prog 40 #[.agg #[.int .i64 R, .int .i64 C, .slice ao n ca], .agg #[.int .i64 R, .int .i64 C, .slice bo n cb]] w fun e w' => e = .returned (.bool true) ∧ Below w.heap.size w w' := by
  have hb2 : ∀ o p, Below w.heap.size w ((w.alloc o).alloc p) := fun o p => ba (bal _ _) _
  have HE := hid_o (fun W (hW : Below w.heap.size w W) => kequal_len n ao bo ca cb xs ys W (by omega) h1 h2 (hc.below hW) (hd.below hW) hs)
  clear hs hc hd
  go_enter Try.func40, Try.ntmps40
  go_wp2_with (go_at_call 55; (refine (HE.out _ (hb2 _ _)).mono ?_); (rintro e w1 ⟨m, rfl, hw1⟩); subst w1)
  go_ret
  exact ⟨rfl, below_drewN (hb2 _ _) _⟩

theorem qi2 (w : World) (a b : Int) (t : TypeId) (B : Nat) (hB : w.heap.size = B) : Qi (w.alloc (.cells #[.int .i64 a, .int .i64 b] t)) (some ⟨B, 0, none⟩) [a, b] := by
  intro k hk
  refine ⟨B, 0, rfl, by rw [size_al]; omega, ?_⟩
  match k, hk with
  | 0, _ => exact al_at w _ t B 0 hB
  | 1, _ => exact al_at w _ t B 1 hB
theorem okAw : okl [(0, 4607182418800017408), (4607182418800017408, 0), (4607182418800017408, 0), (0, 0)] := ok4 ⟨by decide, by decide⟩ ⟨by decide, by decide⟩ ⟨by decide, by decide⟩ ⟨by decide, by decide⟩
theorem nfAw : nff [(0, 4607182418800017408), (4607182418800017408, 0), (4607182418800017408, 0), (0, 0)] 4 = 4 := by kernel_rfl
theorem of_aw {W : World} {B : Nat} (hc : Rc W (some ⟨B, 0, none⟩) [(0, 4607182418800017408), (4607182418800017408, 0), (4607182418800017408, 0), (0, 0)]) :
    Calls Try.prog 14 #[.agg #[.int .i64 2, .int .i64 2, .slice (some ⟨B, 0, none⟩) 4 4]] W fun e w' => ∃ p gr go bl, e = .returned (.tuple #[.pointer (some ⟨p, 0, none⟩), .agg #[.int .i64 0, .int .i64 0]]) ∧ Lo w' W.heap.size p 2 gr go bl (elm 2 (M4 xI x1 x1 x0) 2).2.M (elm 2 (M4 xI x1 x1 x0) 2).2.o 1 ∧ Below W.heap.size W w' := by
  refine (of2 (a := xI) (b := x1) (c := x1) (d := x0) hc okAw nfAw).mono ?_
  rintro e w' ⟨_, h2, h3⟩
  obtain ⟨p, gr, go, bl, he, hL⟩ := h2 aw_e
  refine ⟨p, gr, go, bl, he, ?_, h3⟩
  rw [← aw_s]
  exact hL
theorem ord_aw {w : World} {b p gr go : Nat} {bl : Nat → Nat} {M : Nat → Nat → Cw} {s : Int} (h : Lo w b p 2 gr go bl M (elm 2 (M4 xI x1 x1 x0) 2).2.o s) : Calls Try.prog 18 #[.pointer (some ⟨p, 0, none⟩)] w fun e w' => ∃ g, e = .returned (.slice (some ⟨g, 0, none⟩) 2 2) ∧ Qi w' (some ⟨g, 0, none⟩) [0, 1] ∧ Below w.heap.size w w' := by
  have hq := h.ord.qi
  rw [aw_o] at hq
  refine (lorder_any [0, 1] rfl (by decide) h.hs hq).mono ?_
  rintro e w' ⟨g, rfl, hI, hb⟩
  exact ⟨g, rfl, hI.qi, hb⟩
theorem u_aw {w : World} {b p gr go : Nat} {bl : Nat → Nat} {o : Nat → Nat} {s : Int} (h : Lo w b p 2 gr go bl (elm 2 (M4 xI x1 x1 x0) 2).2.M o s) : Calls Try.prog 17 #[.pointer (some ⟨p, 0, none⟩)] w fun e w' => ∃ g, e = .returned (.agg #[.int .i64 2, .int .i64 2, .slice (some ⟨g, 0, none⟩) 4 4]) ∧ Rc w' (some ⟨g, 0, none⟩) [xI, x1, x0, xI] ∧ Below w.heap.size w w' := by
  refine (u_any (by decide) h.hs h.rws).mono ?_
  rintro e w' ⟨g, rfl, hR, hb⟩
  have hr := hR.rc
  rw [show (2 * 2 : Nat) = 4 from rfl, aw_u] at hr
  exact ⟨g, rfl, hr, hb⟩
theorem eq_aw : ∀ k, k < 4 → eqB (zat [xI, x1, x0, xI] k).1 (zat [(0, 4607182418800017408), (4607182418800017408, 0), (0, 0), (0, 4607182418800017408)] k).1 = true ∧ eqB (zat [xI, x1, x0, xI] k).2 (zat [(0, 4607182418800017408), (4607182418800017408, 0), (0, 0), (0, 4607182418800017408)] k).2 = true := by
  intro k hk
  match k, hk with
  | 0, _ => exact ⟨by kernel_rfl, by kernel_rfl⟩
  | 1, _ => exact ⟨by kernel_rfl, by kernel_rfl⟩
  | 2, _ => exact ⟨by kernel_rfl, by kernel_rfl⟩
  | 3, _ => exact ⟨by kernel_rfl, by kernel_rfl⟩
theorem keq_aw {w : World} {B1 B2 : Nat} (h : Rc w (some ⟨B1, 0, none⟩) [xI, x1, x0, xI]) (k : Rc w (some ⟨B2, 0, none⟩) [(0, 4607182418800017408), (4607182418800017408, 0), (0, 0), (0, 4607182418800017408)]) :
    Calls Try.prog 40 #[.agg #[.int .i64 2, .int .i64 2, .slice (some ⟨B1, 0, none⟩) 4 4], .agg #[.int .i64 2, .int .i64 2, .slice (some ⟨B2, 0, none⟩) 4 4]] w fun e w' => e = .returned (.bool true) ∧ Below w.heap.size w w' := keqM 2 2 rfl rfl h k (by decide) eq_aw
set_option maxHeartbeats 2000000 in
theorem awake9 (w : World) : Calls Try.prog 12 #[] w fun e w' => e = .returned (.bool true) ∧ Below w.heap.size w w' := by
  go_enter Try.func12, Try.ntmps12
  go_wp2_with (first
    | (go_at_call 38; (with_reducible refine (sq_any 0 4607182418800017408 4607182418800017408 0 4607182418800017408 0 0 0 _).mono ?_); rintro e w1 ⟨B1, rfl, hr, hb⟩; have HR1 := hid_o hr; have HB1 := hid_o hb; clear hr hb)
    | (go_at_call 14; (with_reducible refine (of_aw HR1.out).mono ?_); rintro e w2 ⟨p, gr, go, bl, rfl, hL, hb⟩; have HL := hid_o (hL.below (bal _ (.cells #[.int .i64 0, .int .i64 0] 35))); have HB2 := hid_o (ba (bt HB1.out hb) (.cells #[.int .i64 0, .int .i64 0] 35)); clear hL hb HR1 HB1)
    | (go_at_call 18; (with_reducible refine (ord_aw HL.out).mono ?_); rintro e w3 ⟨g3, rfl, hQ, hb⟩; have HQ := hid_o (hQ.below (bal _ (.cells #[.int .i64 0, .int .i64 1] 3))); have HQ2 := hid_o (qi2 w3 0 1 3 _ rfl); have HL3 := hid_o ((HL.out.below hb).below (bal _ (.cells #[.int .i64 0, .int .i64 1] 3))); have HB3 := hid_o (ba (bt HB2.out hb) (.cells #[.int .i64 0, .int .i64 1] 3)); clear hQ hb HL HB2)
    | (go_at_call 39; (with_reducible refine (ksameI _ _ _ _ 2 [0, 1] _ rfl (by decide) HQ.out HQ2.out).mono ?_); rintro e w4 ⟨m4, rfl, hw4⟩; subst w4; have HL4 := hid_o (HL3.out.drewN m4); have HB4 := hid_o (below_drewN HB3.out m4); clear HL3 HB3 HQ HQ2)
    | (go_at_call 19; (with_reducible refine (lsign_any HL4.out.hs).mono ?_); rintro e w5 ⟨rfl, hb⟩; have HL5 := hid_o (HL4.out.below hb); have HB5 := hid_o (bt HB4.out hb); clear hb HL4 HB4)
    | (go_at_call 17; (with_reducible refine (u_aw HL5.out).mono ?_); rintro e w6 ⟨g6, rfl, hr, hb⟩; have HR6 := hid_o hr; have HB6 := hid_o (bt HB5.out hb); clear hr hb HB5 HL5)
    | (go_at_call 38; (with_reducible refine (sq_any 0 4607182418800017408 4607182418800017408 0 0 0 0 4607182418800017408 _).mono ?_); rintro e w7 ⟨B7, rfl, hr, hb⟩; have HR7 := hid_o hr; have HR8 := hid_o (HR6.out.below hb); have HB7 := hid_o (bt HB6.out hb); clear hr hb HR6 HB6)
    | (go_at_call 40; (with_reducible refine (keq_aw HR8.out HR7.out).mono ?_); rintro e w8 ⟨rfl, hb⟩; have HB8 := hid_o (bt HB7.out hb); clear hb))
  go_ret
  exact ⟨rfl, HB8.out⟩

end Go.Proofs.Ytklbgibhbnijaaa
