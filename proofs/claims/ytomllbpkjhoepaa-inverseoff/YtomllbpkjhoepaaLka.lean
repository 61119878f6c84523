/-
  Two rows and columns eliminated, by the numbers alone; matrices held to be equal.
-/
import Derived.Test.YtomllbpkjhoepaaLwh
import Derived.Test.YtomllbpkjhoepaaLwj
import Derived.Test.YtomllbpkjhoepaaBnc
import Derived.Test.YtomllbpkjhoepaaBnd
namespace Go.Proofs.Ytomllbpkjhoepaa
open Fl RowKit

/-- a matrix of two rows -/
def M4 (a b c d : Cw) (i j : Nat) : Cw := zat [a, b, c, d] (i * 2 + j)
theorem aw_e : (elm 2 (M4 xI x1 x1 x0) 2).1.1 = 0 := by kernel_rfl
theorem aw_s : (elm 2 (M4 xI x1 x1 x0) 2).2.s = 1 := by kernel_rfl
theorem aw_o : ri 2 (elm 2 (M4 xI x1 x1 x0) 2).2.o = [0, 1] := by kernel_rfl
theorem aw_u : ro 4 (flw 2 (uE (elm 2 (M4 xI x1 x1 x0) 2).2.M)) = [xI, x1, x0, xI] := by kernel_rfl

theorem m4_at (a b c d : Cw) : ∀ i j, i < 2 → j < 2 → M4 a b c d i j = zat [a, b, c, d] (i * 2 + j) := fun _ _ _ _ => rfl
theorem of2 {W : World} {B : Nat} {a b c d : Cw} (hc : Rc W (some ⟨B, 0, none⟩) [a, b, c, d]) (hx : okl [a, b, c, d]) (hf : nff [a, b, c, d] 4 = 4) :
    Calls Try.prog 38 #[.agg #[.int .i64 2, .int .i64 2, .slice (some ⟨B, 0, none⟩) 4 4]] W fun e w' =>
      (¬ (elm 2 (M4 a b c d) 2).1.1 = 0 → e = .returned (.tuple #[.pointer none, .agg #[.int .i64 (elm 2 (M4 a b c d) 2).1.1, .int .i64 ((elm 2 (M4 a b c d) 2).1.2 : Nat)]])) ∧
      ((elm 2 (M4 a b c d) 2).1.1 = 0 → ∃ p gr go bl, e = .returned (.tuple #[.pointer (some ⟨p, 0, none⟩), .agg #[.int .i64 0, .int .i64 0]]) ∧ Lo w' W.heap.size p 2 gr go bl (elm 2 (M4 a b c d) 2).2.M (elm 2 (M4 a b c d) 2).2.o (elm 2 (M4 a b c d) 2).2.s) ∧ Below W.heap.size W w' :=
  of_square 2 (some ⟨B, 0, none⟩) 4 [a, b, c, d] (M4 a b c d) W (by decide) rfl (by decide) hc hx hf (m4_at a b c d)
set_option maxHeartbeats 1000000 in
theorem keqM {n ca cb : Nat} {ao bo : Option Addr} {xs ys : List Cw} {w : World} (R C : Int) (h1 : xs.length = n) (h2 : ys.length = n) (hc : Rc w ao xs) (hd : Rc w bo ys) (hsz : n ≤ 65536) (hs : ∀ k, k < n → eqB (zat xs k).1 (zat ys k).1 = true ∧ eqB (zat xs k).2 (zat ys k).2 = true) :
    Calls Try.prog 18 #[.agg #[.int .i64 R, .int .i64 C, .slice ao n ca], .agg #[.int .i64 R, .int .i64 C, .slice bo n cb]] w fun e w' => e = .returned (.bool true) ∧ Below w.heap.size w w' := by
  have hb2 : ∀ o p, Below w.heap.size w ((w.alloc o).alloc p) := fun o p => ba (bal _ _) _
  have HE := hid_o (fun W (hW : Below w.heap.size w W) => kequal_len n ao bo ca cb xs ys W (by omega) h1 h2 (hc.below hW) (hd.below hW) hs)
  clear hs hc hd
  go_enter Try.func18, Try.ntmps18
  go_wp2_with (go_at_call 47; (refine (HE.out _ (hb2 _ _)).mono ?_); (rintro e w1 ⟨m, rfl, hw1⟩); subst w1)
  go_ret
  exact ⟨rfl, below_drewN (hb2 _ _) _⟩

theorem qi2 (w : World) (a b : Int) (t : TypeId) (B : Nat) (hB : w.heap.size = B) : Qi (w.alloc (.cells #[.int .i64 a, .int .i64 b] t)) (some ⟨B, 0, none⟩) [a, b] := by
  intro k hk
  refine ⟨B, 0, rfl, by rw [size_al]; omega, ?_⟩
  match k, hk with
  | 0, _ => exact al_at w _ t B 0 hB
  | 1, _ => exact al_at w _ t B 1 hB
theorem okAw : okl [(0, 4607182418800017408), (4607182418800017408, 0), (4607182418800017408, 0), (0, 0)] := ok4 ⟨by decide, by decide⟩ ⟨by decide, by decide⟩ ⟨by decide, by decide⟩ ⟨by decide, by decide⟩
theorem nfAw : nff [(0, 4607182418800017408), (4607182418800017408, 0), (4607182418800017408, 0), (0, 0)] 4 = 4 := by kernel_rfl
theorem of_aw {W : World} {B : Nat} (hc : Rc W (some ⟨B, 0, none⟩) [(0, 4607182418800017408), (4607182418800017408, 0), (4607182418800017408, 0), (0, 0)]) :
    Calls Try.prog 38 #[.agg #[.int .i64 2, .int .i64 2, .slice (some ⟨B, 0, none⟩) 4 4]] W fun e w' => ∃ p gr go bl, e = .returned (.tuple #[.pointer (some ⟨p, 0, none⟩), .agg #[.int .i64 0, .int .i64 0]]) ∧ Lo w' W.heap.size p 2 gr go bl (elm 2 (M4 xI x1 x1 x0) 2).2.M (elm 2 (M4 xI x1 x1 x0) 2).2.o 1 ∧ Below W.heap.size W w' := by
  refine (of2 (a := xI) (b := x1) (c := x1) (d := x0) hc okAw nfAw).mono ?_
  rintro e w' ⟨_, h2, h3⟩
  obtain ⟨p, gr, go, bl, he, hL⟩ := h2 aw_e
  refine ⟨p, gr, go, bl, he, ?_, h3⟩
  rw [← aw_s]
  exact hL
theorem ord_aw {w : World} {b p gr go : Nat} {bl : Nat → Nat} {M : Nat → Nat → Cw} {s : Int} (h : Lo w b p 2 gr go bl M (elm 2 (M4 xI x1 x1 x0) 2).2.o s) : Calls Try.prog 78 #[.pointer (some ⟨p, 0, none⟩)] w fun e w' => ∃ g, e = .returned (.slice (some ⟨g, 0, none⟩) 2 2) ∧ Qi w' (some ⟨g, 0, none⟩) [0, 1] ∧ Below w.heap.size w w' := by
  have hq := h.ord.qi
  rw [aw_o] at hq
  refine (lorder_any [0, 1] rfl (by decide) h.hs hq).mono ?_
  rintro e w' ⟨g, rfl, hI, hb⟩
  exact ⟨g, rfl, hI.qi, hb⟩
theorem u_aw {w : World} {b p gr go : Nat} {bl : Nat → Nat} {o : Nat → Nat} {s : Int} (h : Lo w b p 2 gr go bl (elm 2 (M4 xI x1 x1 x0) 2).2.M o s) : Calls Try.prog 80 #[.pointer (some ⟨p, 0, none⟩)] w fun e w' => ∃ g, e = .returned (.agg #[.int .i64 2, .int .i64 2, .slice (some ⟨g, 0, none⟩) 4 4]) ∧ Rc w' (some ⟨g, 0, none⟩) [xI, x1, x0, xI] ∧ Below w.heap.size w w' := by
  refine (u_any (by decide) h.hs h.rws).mono ?_
  rintro e w' ⟨g, rfl, hR, hb⟩
  have hr := hR.rc
  rw [show (2 * 2 : Nat) = 4 from rfl, aw_u] at hr
  exact ⟨g, rfl, hr, hb⟩
theorem eq_aw : ∀ k, k < 4 → eqB (zat [xI, x1, x0, xI] k).1 (zat [(0, 4607182418800017408), (4607182418800017408, 0), (0, 0), (0, 4607182418800017408)] k).1 = true ∧ eqB (zat [xI, x1, x0, xI] k).2 (zat [(0, 4607182418800017408), (4607182418800017408, 0), (0, 0), (0, 4607182418800017408)] k).2 = true := by
  intro k hk
  match k, hk with
  | 0, _ => exact ⟨by kernel_rfl, by kernel_rfl⟩
  | 1, _ => exact ⟨by kernel_rfl, by kernel_rfl⟩
  | 2, _ => exact ⟨by kernel_rfl, by kernel_rfl⟩
  | 3, _ => exact ⟨by kernel_rfl, by kernel_rfl⟩
theorem keq_aw {w : World} {B1 B2 : Nat} (h : Rc w (some ⟨B1, 0, none⟩) [xI, x1, x0, xI]) (k : Rc w (some ⟨B2, 0, none⟩) [(0, 4607182418800017408), (4607182418800017408, 0), (0, 0), (0, 4607182418800017408)]) :
    Calls Try.prog 18 #[.agg #[.int .i64 2, .int .i64 2, .slice (some ⟨B1, 0, none⟩) 4 4], .agg #[.int .i64 2, .int .i64 2, .slice (some ⟨B2, 0, none⟩) 4 4]] w fun e w' => e = .returned (.bool true) ∧ Below w.heap.size w w' := keqM 2 2 rfl rfl h k (by decide) eq_aw
end Go.Proofs.Ytomllbpkjhoepaa
