/-
  The walk of PivotSelf.
-/
import Derived.Test.YtgpjlobclcbniaaXg
import Derived.Test.YtgpjlobclcbniaaXf
namespace Go.Proofs.Ytgpjlobclcbniaa
open Fl RowKit

theorem growth_len {R C R' C' : Int} {A A' : Option Addr} {n c n' c' : Nat} {xs ys : List Cw} {W : World} (hn : xs.length = n) (hn' : ys.length = n') (h : n ≤ 1000000000000000) (h' : n' ≤ 1000000000000000) (hc : Rc W A xs) (hx : okl xs) (hc' : Rc W A' ys) (hx' : okl ys) :
    Calls Try.prog 19 #[.agg #[.int .i64 R, .int .i64 C, .slice A n c], .agg #[.int .i64 R', .int .i64 C', .slice A' n' c']] W fun e w' => e = .returned (.tuple #[.float .f64 (gwW (grE R C xs) (grE R' C' ys) (grW R C xs) (grW R' C' ys)), .int .i64 (gwE (grE R C xs) (grE R' C' ys) (grW R C xs) (grW R' C' ys))]) ∧ Below W.heap.size W w' := by
  subst hn hn'
  exact growth_any R C A c xs R' C' A' c' ys W h h' hc hx hc' hx'
theorem greatest_len {R C : Int} {A : Option Addr} {n c : Nat} {xs : List Cw} {W : World} (hn : xs.length = n) (h : n ≤ 1000000000000000) (hc : Rc W A xs) (hx : okl xs) :
    Calls Try.prog 17 #[.agg #[.int .i64 R, .int .i64 C, .slice A n c]] W fun e w' => e = .returned (.tuple #[.float .f64 (grW R C xs), .int .i64 (grE R C xs)]) ∧ Below W.heap.size W w' := by
  subst hn
  refine (greatest_any R C A c xs W h hc hx).mono ?_
  rintro e w' ⟨m, rfl, rfl⟩
  exact ⟨rfl, below_drewN (ba (ba (below_self W) _) _) m⟩
set_option maxRecDepth 20000 in
set_option maxHeartbeats 4000000 in
theorem self_any (R C : Int) (ao : Option Addr) (n cap : Nat) (xs : List Cw) (w : World) (hn : xs.length = n) (hsz : n * 16 ≤ 140737488355328) (hc : Rz w ao xs) (hx : okl xs) :
    Calls Try.prog 8 #[.agg #[.int .i64 R, .int .i64 C, .slice ao n cap]] w fun e w' => e = .returned (.bool true) ∧ Below w.heap.size w w' := by
  have gl := grW_lim R C xs
  have G0 : ¬ grE R C xs = 0 → grW R C xs = 0 := fun h => if_neg h
  obtain ⟨E, hE⟩ : ∃ E, E = grE R C xs := ⟨_, rfl⟩
  obtain ⟨G, hG⟩ : ∃ G, G = grW R C xs := ⟨_, rfl⟩
  rw [← hG] at gl G0
  rw [← hE] at G0
  have q0 : FloatKind.f64.format.order 0 0 = some .eq := by kernel_rfl
  have q1 : FloatKind.f64.format.order 4607182418800017408 4607182418800017408 = some .eq := by kernel_rfl
  have hn1 : n ≤ 1000000000000000 := by omega
  have main : ∀ (g : Nat) (e : Int), g = gwW E E G G → e = gwE E E G G → (¬ E = 0 ∧ e = E ∧ g = 0 ∧ G = 0 ∨ E = 0 ∧ G = 0 ∧ e = 7 ∨ E = 0 ∧ FloatKind.f64.format.order G 0 = some .gt ∧ finB G = false ∧ e = 6 ∨ E = 0 ∧ FloatKind.f64.format.order G 0 = some .gt ∧ finB G = true ∧ e = 0 ∧ g = 4607182418800017408) := by
    intro g e hg he
    by_cases e0 : E = 0
    · by_cases g0 : G = 0
      · refine .inr (.inl ⟨e0, g0, ?_⟩)
        rw [he]; unfold gwE; rw [if_neg (fun h => h e0), if_neg (fun h => h e0), if_pos g0]
      · have og := ord_gt gl (Nat.zero_le _) (by omega : 0 < G)
        by_cases gi : G = 9218868437227405312
        · refine .inr (.inr (.inl ⟨e0, og, by rw [gi]; decide, ?_⟩))
          rw [he]; unfold gwE; rw [if_neg (fun h => h e0), if_neg (fun h => h e0), if_neg g0, gi, div_inf, if_pos (by decide)]
        · have hd := div_self (by omega : 0 < G) (by omega)
          have r1 : gwE E E G G = 0 := by unfold gwE; rw [if_neg (fun h => h e0), if_neg (fun h => h e0), if_neg g0, hd, if_neg (by decide)]
          refine .inr (.inr (.inr ⟨e0, og, decide_eq_true (by unfold mg; omega), by rw [he, r1], ?_⟩))
          rw [hg]; unfold gwW; rw [if_pos r1, hd]; rfl
    · refine .inl ⟨e0, ?_, ?_, G0 e0⟩
      · rw [he]; unfold gwE; rw [if_pos e0]
      · rw [hg]; unfold gwW gwE; rw [if_pos e0, if_neg e0]
  obtain ⟨g, hg⟩ : ∃ g, g = gwW E E G G := ⟨_, rfl⟩
  obtain ⟨e, he⟩ : ∃ e, e = gwE E E G G := ⟨_, rfl⟩
  have M := main g e hg he
  have GG : ∀ (W : World) (A : Option Addr) (c : Nat), Rc W A xs → Calls Try.prog 19 #[.agg #[.int .i64 R, .int .i64 C, .slice A n c], .agg #[.int .i64 R, .int .i64 C, .slice A n c]] W fun e' w' => e' = .returned (.tuple #[.float .f64 g, .int .i64 e]) ∧ Below W.heap.size W w' := by
    intro W A c hr
    refine (growth_len hn hn hn1 hn1 hr hx hr hx).mono ?_
    rintro e' w' ⟨rfl, hb⟩
    rw [← hE, ← hG, ← hg, ← he]
    exact ⟨rfl, hb⟩
  have GR : ∀ (W : World) (A : Option Addr) (c : Nat), Rc W A xs → Calls Try.prog 17 #[.agg #[.int .i64 R, .int .i64 C, .slice A n c]] W fun e' w' => e' = .returned (.tuple #[.float .f64 G, .int .i64 E]) ∧ Below W.heap.size W w' := by
    intro W A c hr
    refine (greatest_len hn hn1 hr hx).mono ?_
    rintro e' w' ⟨rfl, hb⟩
    rw [← hE, ← hG]
    exact ⟨rfl, hb⟩
  have HGG := hid_of GG
  have HGR := hid_of GR
  have HX := hid_of hx
  clear GG GR main G0 hg he hE hG gl hx
  rcases M with ⟨c1, c2, c3, c4⟩ | ⟨c1, c2, c3⟩ | ⟨c1, c2, c3, c4⟩ | ⟨c1, c2, c3, c4, c5⟩
  case' inl => skip
  all_goals subst hn
  all_goals
    try subst c4
    try subst c3
    try subst c2
    try subst c1
    go_enter Try.func8, Try.ntmps8
    go_wp2_with (first
      | (go_at_call 16; (with_reducible refine (lmat_any rfl hsz (hc.below (bal _ _))).mono ?_); rintro e' w1 ⟨A, c, rfl, hS, bb1⟩; have B1 := hid_of (b_of (bal _ _) bb1 (by simp)); have HR := hid_of (rw_src hS HX.out).sl.rd; clear hS bb1)
      | (go_at_call 19; (with_reducible refine (HGG.out _ _ _ (HR.out.below (bal _ _))).mono ?_); rintro e' w2 ⟨rfl, hb2⟩; have V2 := (v3_new w1 _ _ _ _).below hb2; have k0 := V2.c0; have k1 := V2.c1; have k2 := V2.c2; have B2 := hid_of (b_of (ba B1.out _) hb2 (ba B1.out _).size); have HR2 := hid_of ((HR.out.below (bal _ _)).below hb2); clear V2 hb2 B1 HR)
      | (go_at_call 17; (with_reducible refine (HGR.out _ _ _ HR2.out).mono ?_); rintro e' w3 ⟨rfl, hb3⟩; have B3 := hid_of (b_of B2.out hb3 B2.out.size); clear hb3 B2 HR2 k0 k1 k2)
      | (go_at_call 34; (with_reducible refine (kfin_any _ _).mono ?_); rintro e' w4 ⟨m4, rfl, rfl⟩; rw [c3])
      | (go_at_call 13; (with_reducible refine (plives_any _).mono ?_); rintro e' w5 ⟨rfl, hb5⟩; have B5 : Below w.heap.size w w5 := (by first | exact b_of B3.out hb5 B3.out.size | exact b_of (below_drewN B3.out _) hb5 (below_drewN B3.out _).size); clear hb5 B3))
    go_ret
    exact ⟨rfl, B5⟩

end Go.Proofs.Ytgpjlobclcbniaa
