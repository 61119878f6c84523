/-
  The statements' of, whatever matrix it is called with.
-/
import Derived.Test.YtklbgibhbnijaaaLte
import Derived.Test.YtklbgibhbnijaaaLtd
import Derived.Test.YtklbgibhbnijaaaLmd
namespace Go.Proofs.Ytklbgibhbnijaaa
open Fl RowKit
set_option linter.unusedVariables false

theorem rw_ex {w : World} {b n : Nat} {v : Value} {zs : List Cw} (h : Rw w b v n zs) (hz : okl zs) : ∃ A c, v = .slice A n c ∧ Lst w A n (fun j => anz (zat zs j)) zs := by
  obtain ⟨A, c, rfl⟩ := own_form h.own
  exact ⟨A, c, rfl, lst_self h.len hz (rw_rc h)⟩
theorem ir_ex {w : World} {b n : Nat} {v : Value} {zs : List Int} (h : Ir w b v n zs) : ∃ A c, v = .slice A n c ∧ Qi w A zs := by
  obtain ⟨A, c, rfl⟩ := own_form h.own
  refine ⟨A, c, rfl, ?_⟩
  rcases h.own.2 with ⟨hv, h0⟩ | ⟨g, cap, cur, hv, _⟩
  · intro k hk
    have := h.len
    omega
  · cases hv
    exact h.qi
/-- the document's Lower, made, of one row and more -/
def RRl (N : Nat) (M : Nat → Nat → Cw) (o : Nat → Nat) (s : Int) (W : World) (b p : Nat) : Prop := ∃ gr go cr co bl cp odd ties, Lr W b p N gr go cr co bl cp M o odd ties ∧ sgO odd = s
theorem rr_at {N : Nat} {M : Nat → Nat → Cw} {o : Nat → Nat} {s : Int} : ∀ (W W' : World) (b p : Nat), RRl N M o s W b p → W.heap.size ≤ W'.heap.size → (∀ q, b ≤ q → q < W.heap.size → W'.heap[q]? = W.heap[q]?) → RRl N M o s W' b p := by
  rintro W W' b p ⟨gr, go, cr, co, bl, cp, odd, ties, h, hs⟩ h1 h2
  exact ⟨gr, go, cr, co, bl, cp, odd, ties, h.at h1 h2, hs⟩
theorem told_l {N : Nat} {M : Nat → Nat → Cw} {o : Nat → Nat} {s : Int} (hN : N ≤ 64) (okL : okl (ro (N * N) (flw N (lE M)))) (okU : okl (ro (N * N) (flw N (uE M)))) (okP : okl (ro N fun i => M i i)) (W : World) (b1 b2 p1 p2 g1 g2 : Nat) (bk : Nat → Nat) (hL : Lo W b1 p1 N g1 g2 bk M o s) (hR : RRl N M o s W b2 p2) :
    Calls Try.prog 33 #[.pointer (some ⟨p1, 0, none⟩), .pointer (some ⟨p2, 0, none⟩)] W fun e w' => e = .returned (.bool true) ∧ Below W.heap.size W w' := by
  obtain ⟨gr, go, cr, co, bl, cp, odd, ties, h, hs⟩ := hR
  refine told_any hL.lh hN rfl okL okU okP (fun X B => ?_) (fun X B => ?_) (fun X B => ?_) (fun X B => ?_) (fun X B => ?_) (fun X B => ?_)
  · refine (r9size_any (h.below B).hr).mono ?_
    rintro e w' ⟨rfl, hw⟩
    subst hw
    exact ⟨rfl, Below.refl _ _⟩
  · refine (r9sign_any (h.below B).hr).mono ?_
    rintro e w' ⟨rfl, hw⟩
    subst hw
    refine ⟨?_, Below.refl _ _⟩
    rw [← hs]; rfl
  · refine (r9l_any hN (h.below B)).mono ?_
    rintro e w' ⟨v, rfl, hv, hb⟩
    obtain ⟨A, c, rfl, hl⟩ := rw_ex hv okL
    exact ⟨A, c, rfl, hl, hb⟩
  · refine (r9u_any hN (h.below B)).mono ?_
    rintro e w' ⟨v, rfl, hv, hb⟩
    obtain ⟨A, c, rfl, hl⟩ := rw_ex hv okU
    exact ⟨A, c, rfl, hl, hb⟩
  · refine (r9pivots_any hN (h.below B)).mono ?_
    rintro e w' ⟨v, rfl, hv, hb⟩
    obtain ⟨A, c, rfl, hl⟩ := rw_ex hv okP
    exact ⟨A, c, rfl, hl, hb⟩
  · refine (r9order_any hN (h.below B)).mono ?_
    rintro e w' ⟨v, rfl, hv, hb⟩
    obtain ⟨A, c, rfl, hl⟩ := ir_ex hv
    exact ⟨A, c, rfl, hl, hb⟩
/-- the document's Lower, made, of no rows -/
def RRz (W : World) (b p : Nat) : Prop := b ≤ p ∧ V6 p (.int .i64 0) (.slice none 0 0) (.slice none 0 0) (.bool false) (.bool false) (.bool true) W
theorem rz_at : ∀ (W W' : World) (b p : Nat), RRz W b p → W.heap.size ≤ W'.heap.size → (∀ q, b ≤ q → q < W.heap.size → W'.heap[q]? = W.heap[q]?) → RRz W' b p := by
  rintro W W' b p ⟨h1, h2⟩ h3 h4
  exact ⟨h1, h2.at h3 (h4 p h1 h2.lt)⟩
theorem told_z {M : Nat → Nat → Cw} {o : Nat → Nat} (W : World) (b1 b2 p1 p2 g1 g2 : Nat) (bk : Nat → Nat) (hL : Lo W b1 p1 0 g1 g2 bk M o 1) (hR : RRz W b2 p2) :
    Calls Try.prog 33 #[.pointer (some ⟨p1, 0, none⟩), .pointer (some ⟨p2, 0, none⟩)] W fun e w' => e = .returned (.bool true) ∧ Below W.heap.size W w' := by
  obtain ⟨h1, h2⟩ := hR
  have hr : ∀ X, Below W.heap.size W X → Hr X (.pointer (some ⟨p2, 0, none⟩)) true 0 (.slice none 0 0) (.slice none 0 0) false := fun X B => .inr ⟨p2, false, rfl, h2.at B.size (B.block p2 h2.lt)⟩
  have z : ∀ (X : World) (F : Nat → Cn), Lst X none 0 F [] := fun X F => ⟨rfl, fun j hj => absurd hj (Nat.not_lt_zero _), Rc.nil _ _⟩
  have ok0 : okl [] := fun k => by rw [zat_ge (Nat.zero_le _)]; exact ⟨by decide, by decide⟩
  refine told_any hL.lh (by decide) (T := 0) rfl ok0 ok0 ok0 (fun X B => ?_) (fun X B => ?_) (fun X B => ?_) (fun X B => ?_) (fun X B => ?_) (fun X B => ?_)
  · refine (r9size_any (hr X B)).mono ?_
    rintro e w' ⟨rfl, hw⟩
    subst hw
    exact ⟨rfl, Below.refl _ _⟩
  · refine (r9sign_any (hr X B)).mono ?_
    rintro e w' ⟨rfl, hw⟩
    subst hw
    exact ⟨rfl, Below.refl _ _⟩
  · refine (r9l_zero (hr X B)).mono ?_
    rintro e w' ⟨rfl, hb⟩
    exact ⟨none, 0, rfl, z _ _, hb⟩
  · refine (r9u_zero (hr X B)).mono ?_
    rintro e w' ⟨rfl, hb⟩
    exact ⟨none, 0, rfl, z _ _, hb⟩
  · refine (r9pivots_zero (hr X B)).mono ?_
    rintro e w' ⟨rfl, hw⟩
    subst hw
    exact ⟨none, 0, rfl, z _ _, Below.refl _ _⟩
  · refine (r9order_zero (h2.at B.size (B.block p2 h2.lt))).mono ?_
    rintro e w' ⟨rfl, hb⟩
    exact ⟨none, 0, rfl, fun k hk => absurd hk (by simp [ri]), hb⟩
set_option maxHeartbeats 1000000 in
theorem lawof_any (R C : Int) {A : Option Addr} {l c : Nat} {xs : List Cw} {w : World} (SA : Src w A c l xs) (hz : l * 16 + 96 ≤ 140737488355328) :
    Calls Try.prog 8 #[.agg #[.int .i64 R, .int .i64 C, .slice A l c]] w fun e w' => e = .returned (.bool true) ∧ Below w.heap.size w w' := by
  by_cases h : mb R C l = true ∧ R = C
  · obtain ⟨hm, rfl⟩ := h
    obtain ⟨k1, k2, _, _, k3⟩ := of_decide_eq_true hm
    obtain ⟨N, rfl⟩ := Int.eq_ofNat_of_zero_le k1
    have hN : N ≤ 64 := by omega
    have el : l = N * N := by
      have : ((l : Nat) : Int) = ((N * N : Nat) : Int) := by rw [k3]; simp
      exact Int.ofNat.inj this
    subst el
    have hn := SA.len
    have hx := SA.ok
    have hro := ro_of hn
    rcases of_cases N (zat xs) hN (fun k _ => hx k) with ⟨E, a, hE, h1, h2⟩ | ⟨h1, h2, h3⟩
    · refine of_fails (E := E) (a := a) SA hz (fun W g c' hc hs => h1 W _ c' hc (by rw [← hro]; exact hs.rd)) (fun W hS => ?_)
      rw [← hro] at h2
      rcases h2 with ⟨q1, rfl, rfl⟩ | ⟨q1, rfl, rfl⟩
      · exact rof_number N (N * N) c A xs W hN rfl hn hS.sl.rd q1
      · have h0 : 0 < N := by
          rcases Nat.eq_zero_or_pos N with e | e
          · subst e; exact absurd rfl hE
          · exact e
        refine (rof_any N (N * N) c A xs W hN h0 rfl hn hS.sl.rd hx (nff_fin q1)).mono ?_
        rintro e w' ⟨_, q2, hb⟩
        exact ⟨q2 hE, hb⟩
    · have hE : Eok N (elm N (mat9 N (zat xs)) N).2 := elm_eok (mat_ok fun k _ => hx k) (mat_fin h1) N (Nat.le_refl _) h2
      have okP : okl (ro N fun i => (elm N (mat9 N (zat xs)) N).2.M i i) := ro_ok (fun i hi => hE.ok i i hi hi)
      rcases Nat.eq_zero_or_pos N with e | h0
      · subst e
        exact of_tells SA hz rz_at (fun W b1 b2 p1 p2 gr gO bl hL hR => told_z W b1 b2 p1 p2 gr gO bl hL hR) (fun W g c' hc hs => h3 W _ c' hc (by rw [← hro]; exact hs.rd)) (fun W hS => rof_0 c A W)
      · rw [← hro] at h1
        refine of_tells SA hz rr_at (told_l hN (ro_ok (lE_ok hE)) (ro_ok (uE_ok hE)) okP) (fun W g c' hc hs => h3 W _ c' hc (by rw [← hro]; exact hs.rd)) (fun W hS => ?_)
        refine (rof_any N (N * N) c A xs W hN h0 rfl hn hS.sl.rd hx (nff_fin h1)).mono ?_
        rintro e w' ⟨q1, _, hb⟩
        obtain ⟨p, gr, go, cr, co, bl, cp, odd, ties, rfl, hL, hs⟩ := q1 h2
        exact ⟨p, rfl, ⟨gr, go, cr, co, bl, cp, odd, ties, hL, hs⟩, hb⟩
  · exact of_fails (E := 4) (a := -1) SA hz (fun W g c' _ _ => of_shape R C _ l c' W (by omega) h) (fun W _ => rof_shape R C l c A W (by omega) h)
end Go.Proofs.Ytklbgibhbnijaaa
