/-
  SolveKnown's walk.
-/
import Derived.Test.YtpaljgbhladceaaSkn
import Derived.Test.YtpaljgbhladceaaSlm
namespace Go.Proofs.Ytpaljgbhladceaa
open Fl RowKit

structure Kr (w0 : World) (pb pl pn pt : Nat) (W : World) : Prop where
  b : LB W pb
  l : LL W pl
  n : LN W pn
  t : LT W pt
  be : Below w0.heap.size w0 W
theorem Kr.below {w0 : World} {pb pl pn pt : Nat} {W W' : World} (h : Kr w0 pb pl pn pt W) (hb : Below W.heap.size W W') : Kr w0 pb pl pn pt W' := ⟨h.b.below hb, h.l.below hb, h.n.below hb, h.t.below hb, bt h.be hb⟩
theorem mk3 (w : World) : Rc (w.alloc (.cells (madeCells #[.complex .f64 0 0] 3) 48)) (some ⟨w.heap.size, 0, none⟩) [y0, y0, y0] := by
  have e : madeCells #[Value.complex .f64 0 0] 3 = #[.complex .f64 0 0, .complex .f64 0 0, .complex .f64 0 0] := by kernel_rfl
  rw [e]
  exact al_rc3 w y0 y0 y0 48 _ rfl
theorem mk3r (w : World) : (Instr.makeSlice 23 (.int .i64 3) (.int .i64 3)).run Try.prog w = .ok (.slice (some ⟨w.heap.size, 0, none⟩) 3 3) (w.alloc (.cells (madeCells #[.complex .f64 0 0] 3) 48)) := run_mkC 3 (by decide) w
theorem ksm1 {w : World} {B1 B2 : Nat} (h : Rc w (some ⟨B1, 0, none⟩) [(0, 9223372036854775808)]) (k : Rc w (some ⟨B2, 0, none⟩) [(0, 9223372036854775808)]) : Calls Try.prog 25 #[.slice (some ⟨B1, 0, none⟩) 1 1, .slice (some ⟨B2, 0, none⟩) 1 1] w fun e w' => ∃ m, e = .returned (.bool true) ∧ w' = w.drewN m :=
  ksameL_yes _ _ 1 1 [(0, 9223372036854775808)] [(0, 9223372036854775808)] w (by decide) rfl h k (fun j hj => by rw [show j = 0 by simp at hj; exact hj]; exact ⟨by kernel_rfl, by kernel_rfl⟩)
theorem sm_b : (smB 0 0 && smB 4607182418800017408 4607182418800017408) = true := by kernel_rfl
theorem sm_t : (smB 4607182418800017408 4607182418800017408 && smB 9223372036854775808 9223372036854775808) = true := by kernel_rfl
theorem cpm (w : World) : Calls Try.prog 38 #[.float .f64 0, .float .f64 13830554455654793216] w fun e w' => e = .returned (.float .f64 9223372036854775808) ∧ w' = w := by
  have e : Ieee.double.word (ng 13830554455654793216) (mg 0) = 9223372036854775808 := by kernel_rfl
  have := copys_any 0 13830554455654793216 w (by decide) (by decide)
  rw [e] at this
  exact this
theorem det_t {w : World} {p : Nat} (h : LT w p) : Calls Try.prog 29 #[.pointer (some ⟨p, 0, none⟩)] w fun e w' => e = .returned (.tuple #[.complex .f64 4607182418800017408 9223372036854775808, .int .i64 1, .int .i64 0]) ∧ Below w.heap.size w w' := det_a2 h
abbrev FO : Obj := .cells #[.int .i64 0, .int .i64 0] 35
set_option maxRecDepth 20000 in
set_option maxHeartbeats 8000000 in
theorem sknown_walk (w : World) : Calls Try.prog 7 #[] w fun e w' => e = .returned (.bool true) ∧ Below w.heap.size w w' := by
  have z1 : (FloatKind.f64.format.order 4607182418800017408 4607182418800017408 == some .eq) = true := by kernel_rfl
  have z0 : (FloatKind.f64.format.order 0 0 == some .eq) = true := by kernel_rfl
  have st : Stg 0 := ⟨trivial⟩
  go_enter Try.func7, Try.ntmps7
  go_wp2_with (first
    | ((have _ := (st : Stg 0)); go_at_call 37; (with_reducible refine (of10_any _ _ _ _ _).mono ?_); rintro e a1 ⟨rfl, hb⟩; have RB := hid_o ((al_rc1 w zB 48 _ rfl).below hb); have BE := hid_o (bt (bal w _) hb); clear hb st; have st : Stg 1 := ⟨trivial⟩)
    | ((have _ := (st : Stg 1)); go_at_call 11; (with_reducible refine (of_b RB.out).mono ?_); rintro e a2 ⟨pb, rfl, hL, hb⟩; have HB := hid_o (hL.below (bal _ FO)); have F1 := hid_o (v2_new a2 (.int .i64 0) (.int .i64 0) 35); replace BE := hid_o (ba (bt BE.out hb) FO); clear hb hL RB st; have st : Stg 2 := ⟨trivial⟩)
    | ((have _ := (st : Stg 2)); go_at_call 37; (with_reducible refine (of10_any _ _ _ _ _).mono ?_); rintro e a3 ⟨rfl, hb⟩; have RL := hid_o ((al_rc1 (a2.alloc FO) zL 48 (a2.heap.size + 1) (by simp)).below hb); replace HB := hid_o ((HB.out.below (bal _ _)).below hb); replace F1 := hid_o ((F1.out.below (bal _ _)).below hb); replace BE := hid_o (bt (ba BE.out _) hb); clear hb st; have st : Stg 3 := ⟨trivial⟩)
    | ((have _ := (st : Stg 3)); go_at_call 11; (with_reducible refine (of_l RL.out).mono ?_); rintro e a4 ⟨pl, rfl, hL, hb⟩; have HL := hid_o (hL.below (bal _ FO)); have F2 := hid_o (v2_new a4 (.int .i64 0) (.int .i64 0) 35); replace HB := hid_o ((HB.out.below hb).below (bal _ FO)); replace F1 := hid_o ((F1.out.below hb).below (bal _ FO)); replace BE := hid_o (ba (bt BE.out hb) FO); clear hb hL RL st; have st : Stg 4 := ⟨trivial⟩)
    | ((have _ := (st : Stg 4)); go_at_call 11; (with_reducible refine (of_n _).mono ?_); rintro e a5 ⟨pn, rfl, hL, hb⟩; have HN := hid_o (hL.below (bal _ FO)); have F3 := hid_o (v2_new a5 (.int .i64 0) (.int .i64 0) 35); replace HB := hid_o ((HB.out.below hb).below (bal _ FO)); replace HL := hid_o ((HL.out.below hb).below (bal _ FO)); replace F1 := hid_o ((F1.out.below hb).below (bal _ FO)); replace F2 := hid_o ((F2.out.below hb).below (bal _ FO)); replace BE := hid_o (ba (bt BE.out hb) FO); clear hb hL st; have st : Stg 5 := ⟨trivial⟩)
    | ((have _ := (st : Stg 5)); go_at_call 37; (with_reducible refine (of10_any _ _ _ _ _).mono ?_); rintro e a6 ⟨rfl, hb⟩; have RT := hid_o ((al_rc4 (a5.alloc FO) y2 y1 y4 y3 48 (a5.heap.size + 1) (by simp)).below hb); replace HB := hid_o ((HB.out.below (bal _ _)).below hb); replace HL := hid_o ((HL.out.below (bal _ _)).below hb); replace HN := hid_o ((HN.out.below (bal _ _)).below hb); replace F1 := hid_o ((F1.out.below (bal _ _)).below hb); replace F2 := hid_o ((F2.out.below (bal _ _)).below hb); replace F3 := hid_o ((F3.out.below (bal _ _)).below hb); replace BE := hid_o (bt (ba BE.out _) hb); clear hb st; have st : Stg 6 := ⟨trivial⟩)
    | ((have _ := (st : Stg 6)); go_at_call 11; (with_reducible refine (of_a2 RT.out).mono ?_); rintro e a7 ⟨pt, rfl, hL, hb⟩; (have HK : Hid (Kr w pb pl pn pt (a7.alloc FO)) := ⟨(HB.out.below hb).below (bal _ FO), (HL.out.below hb).below (bal _ FO), (HN.out.below hb).below (bal _ FO), Lhd.below hL (bal _ FO), ba (bt BE.out hb) FO⟩); (have V1 := (F1.out.below hb).below (bal _ FO)); (have V2 := (F2.out.below hb).below (bal _ FO)); (have V3 := (F3.out.below hb).below (bal _ FO)); (have V4 := v2_new a7 (.int .i64 0) (.int .i64 0) 35); (have c10 := V1.c0); (have c11 := V1.c1); (have c20 := V2.c0); (have c21 := V2.c1); (have c30 := V3.c0); (have c31 := V3.c1); (have c40 := V4.c0); (have c41 := V4.c1); clear hb hL RT HB HL HN F1 F2 F3 BE V1 V2 V3 V4 st; have st : Stg 7 := ⟨trivial⟩)
    | ((have _ := (st : Stg 7)); go_at_call 29; (with_reducible refine (det_b HK.out.b).mono ?_); rintro e a8 ⟨rfl, hb⟩; replace HK := hid_o (HK.out.below hb); clear hb c10 c11 c20 c21 c30 c31 c40 c41 st; have st : Stg 8 := ⟨trivial⟩)
    | ((have _ := (st : Stg 8)); go_at_call 14; (with_reducible refine (sol_b (HK.out.b.below (bal _ _)) (al_rc1 _ zL 48 _ (by simp))).mono ?_); rintro e a9 ⟨gx, rfl, hr, hb⟩; have RX := hid_o hr; replace HK := hid_o ((HK.out.below (bal _ _)).below hb); clear hr hb st; have st : Stg 9 := ⟨trivial⟩)
    | (go_at_call 38; (with_reducible refine (cpm _).mono ?_); rintro e w' ⟨rfl, rfl⟩)
    | ((have _ := (st : Stg 9)); go_at_call 39; (with_reducible refine (ksame_any _ _ _ _ _).mono ?_); rintro e w' ⟨rfl, rfl⟩; (rw [sm_b]); clear st; have st : Stg 10 := ⟨trivial⟩)
    | ((have _ := (st : Stg 10)); go_at_call 25; (with_reducible refine (ksm1 (RX.out.below (bal _ _)) (al_rc1 _ (0, 9223372036854775808) 48 _ rfl)).mono ?_); rintro e b1 ⟨m1, rfl, hw⟩; subst b1; replace HK := hid_o ((HK.out.below (bal _ (.cells #[.complex .f64 0 9223372036854775808] 48))).below (below_drewN (Below.refl _ _) m1)); clear RX st; have st : Stg 11 := ⟨trivial⟩)
    | ((have _ := (st : Stg 11)); go_at_call 14; (with_reducible refine (sol_l (HK.out.l.below (bal _ _)) (al_rc1 _ zH 48 _ (by simp))).mono ?_); rintro e b2 ⟨rfl, hb⟩; replace HK := hid_o ((HK.out.below (bal _ _)).below hb); clear hb st; have st : Stg 12 := ⟨trivial⟩)
    | ((have _ := (st : Stg 12)); go_at_call 14; (with_reducible refine (sol_n HK.out.n).mono ?_); rintro e b3 ⟨gy, rfl, hb⟩; replace HK := hid_o (HK.out.below hb); clear hb st; have st : Stg 13 := ⟨trivial⟩)
    | ((have _ := (st : Stg 13)); go_at_call 29; (with_reducible refine (det_n HK.out.n).mono ?_); rintro e b4 ⟨rfl, hb⟩; replace HK := hid_o (HK.out.below hb); (have mk := mk3r); clear hb st; have st : Stg 14 := ⟨trivial⟩)
    | ((have _ := (st : Stg 14)); go_at_call 14; (with_reducible refine (sol_3 (HK.out.t.below (bal _ _)) (mk3 _)).mono ?_); rintro e b5 ⟨rfl, hb⟩; replace HK := hid_o ((HK.out.below (bal _ _)).below hb); clear hb st; have st : Stg 15 := ⟨trivial⟩)
    | (go_at_call 40; (with_reducible refine (nan_1 _).mono ?_); rintro e w' ⟨rfl, rfl⟩)
    | ((have _ := (st : Stg 15)); go_at_call 14; (with_reducible refine (sol_nan (HK.out.t.below (bal _ _)) (al_rc2 _ (9221120237041090561, 0) y1 48 _ (by simp))).mono ?_); rintro e b6 ⟨rfl, hb⟩; replace HK := hid_o ((HK.out.below (bal _ _)).below hb); clear hb st; have st : Stg 16 := ⟨trivial⟩)
    | ((have _ := (st : Stg 16)); go_at_call 29; (with_reducible refine (det_t HK.out.t).mono ?_); rintro e b7 ⟨rfl, hb⟩; replace HK := hid_o (HK.out.below hb); clear hb st; have st : Stg 17 := ⟨trivial⟩)
    | ((have _ := (st : Stg 17)); go_at_call 37; (with_reducible refine (of10_any _ _ _ _ _).mono ?_); rintro e b8 ⟨rfl, hb⟩; have RS := hid_o ((al_rc4 b7 y1 y0 y1 y1 48 b7.heap.size rfl).below hb); replace HK := hid_o ((HK.out.below (bal _ _)).below hb); clear hb st; have st : Stg 18 := ⟨trivial⟩)
    | ((have _ := (st : Stg 18)); go_at_call 11; (with_reducible refine (of_s RS.out).mono ?_); rintro e b9 ⟨ps, rfl, hL, hb⟩; have HS := hid_o (hL.below (bal _ FO)); have F5 := hid_o (v2_new b9 (.int .i64 0) (.int .i64 0) 35); replace HK := hid_o ((HK.out.below hb).below (bal _ FO)); clear hb hL RS st; have st : Stg 19 := ⟨trivial⟩)
    | ((have _ := (st : Stg 19)); go_at_call 28; (with_reducible refine (tra_s (HS.out.below (bal _ _)) (al_rc2 _ (9214364837600034816, 0) (18437736874454810624, 0) 48 _ (by simp))).mono ?_); rintro e c1 ⟨rfl, hb⟩; replace HK := hid_o ((HK.out.below (bal _ _)).below hb); replace F5 := hid_o ((F5.out.below (bal _ _)).below hb); clear hb st HS; have st : Stg 20 := ⟨trivial⟩)
    | ((have _ := (st : Stg 20)); go_at_call 9; (with_reducible refine (awake10 _).mono ?_); rintro e c2 ⟨rfl, hb⟩; replace HK := hid_o (HK.out.below hb); (have V5 := F5.out.below hb); (have c50 := V5.c0); (have c51 := V5.c1); clear hb V5 F5 st; have st : Stg 21 := ⟨trivial⟩)
    | ((have _ := (st : Stg 21)); go_at_call 39; (with_reducible refine (ksame_any _ _ _ _ _).mono ?_); rintro e w' ⟨rfl, rfl⟩; (rw [sm_t]); clear st; have st : Stg 22 := ⟨trivial⟩))
  go_ret
  exact ⟨rfl, HK.out.be⟩

end Go.Proofs.Ytpaljgbhladceaa
