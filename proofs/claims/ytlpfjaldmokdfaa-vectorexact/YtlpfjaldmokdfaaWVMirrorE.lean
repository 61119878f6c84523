/-
  The walk of VectorMirror where the lists are too long or have not as many numbers: it hands back true and only lays new memory.
-/
import Derived.Test.YtlpfjaldmokdfaaWVMirror
namespace Go.Proofs.Ytlpfjaldmokdfaa
open Fl RowKit

theorem fin_none (w : World) : Calls Try.prog 43 #[.slice none 0 0] w fun e w' => ∃ m, e = .returned (.bool true) ∧ w' = w.drewN m := kfinL_any none 0 [] w (by simp) (Rc.nil _ _)
theorem equal_none (w : World) : Calls Try.prog 40 #[.slice none 0 0, .slice none 0 0] w fun e w' => ∃ m, e = .returned (.bool true) ∧ w' = w.drewN m := kequal_len 0 none none 0 0 [] [] w (by simp) rfl rfl (Rc.nil _ _) (Rc.nil _ _) (fun j hj => by omega)
theorem same_none (w : World) : Calls Try.prog 20 #[.complex .f64 0 0, .complex .f64 0 0] w fun e w' => e = .returned (.bool true) ∧ w' = w := by
  have := ksame_any 0 0 0 0 w
  rw [smB_self] at this
  exact this
section errs
variable {na nb : Nat} {E : Int} (ao bo : Option Addr) (ca cb : Nat) (w : World) (ha : na ≤ 1000000000000000) (hb : nb ≤ 1000000000000000) (he : ¬ E = 0) (hE : E = errV na nb)
include ha hb he hE
theorem eadd : Calls Try.prog 11 #[.slice ao na ca, .slice bo nb cb] w fun e w' => e = .returned (.tuple #[.slice none 0 0, .int .i64 E]) ∧ w' = w := by subst hE; exact vadd_err ao bo na nb ca cb w ha hb he
theorem esub : Calls Try.prog 12 #[.slice ao na ca, .slice bo nb cb] w fun e w' => e = .returned (.tuple #[.slice none 0 0, .int .i64 E]) ∧ w' = w := by subst hE; exact vsub_err ao bo na nb ca cb w ha hb he
theorem edot : Calls Try.prog 13 #[.slice ao na ca, .slice bo nb cb] w fun e w' => e = .returned (.tuple #[.complex .f64 0 0, .int .i64 E]) ∧ w' = w := by subst hE; exact vdot_err ao bo na nb ca cb w ha hb he
theorem einner : Calls Try.prog 14 #[.slice ao na ca, .slice bo nb cb] w fun e w' => e = .returned (.tuple #[.complex .f64 0 0, .int .i64 E]) ∧ w' = w := by subst hE; exact vinner_err ao bo na nb ca cb w ha hb he
end errs

set_option maxHeartbeats 16000000 in
theorem vmirror_err (ao bo : Option Addr) (ca cb n n2 : Nat) (xs ys : List Cw) (w : World) (hn : xs.length = n) (hn2 : ys.length = n2) (hs1 : n * 16 ≤ 140737488355328) (hs2 : n2 * 16 ≤ 140737488355328) (he : ¬ errV n n2 = 0) (hc : Rz w ao xs) (hd : Rz w bo ys) (hx : okl xs) (hy : okl ys) :
    Calls Try.prog 7 #[.slice ao n ca, .slice bo n2 cb] w fun e w' => e = .returned (.bool true) ∧ Below w.heap.size w w' := by
  have st : Stg 0 := ⟨trivial⟩
  obtain ⟨E, hE⟩ : ∃ E, E = errV n n2 := ⟨_, rfl⟩
  rw [← hE] at he
  have HE1 : Hid (E = errV n n2) := hE
  have HE2 : Hid (E = errV n2 n) := by rw [errV_comm] at hE; exact hE
  have hb1 : n ≤ 1000000000000000 := by omega
  have hb2 : n2 ≤ 1000000000000000 := by omega
  obtain ⟨FA, hFA⟩ : ∃ FA, FA = finF (fun j => anz (zat xs j)) n := ⟨_, rfl⟩
  obtain ⟨N, hN⟩ : ∃ N, N = nrm xs n := ⟨_, rfl⟩
  have HN : Hid (N = nrm xs n) := hN
  obtain ⟨mx, hmx⟩ : ∃ mx, mx = nmx xs n := ⟨_, rfl⟩
  have HFA : Hid (FA = finF (fun j => anz (zat xs j)) n) := hFA
  have HMX : Hid (mx = nmx xs n) := hmx
  have HO : Hid (∀ s, rep (nrm xs n) s → nan s = false → (FloatKind.f64.format.order mx s == some .gt) = false) := by rw [hmx]; exact fun s h1 h2 => most_ord hx h1 h2
  have HX : Hid (okl xs) := hx
  clear hFA hmx hN hE
  by_cases hm : n ≤ 65536
  case' neg => have hn65 : (65536 : Int) < (n : Int) := by omega
  case' pos =>
    have hn65 : ¬ (65536 : Int) < (n : Int) := by omega
    have hmk := run_mkC n hm
  all_goals cases N
  all_goals
    go_enter Try.func7, Try.ntmps7
    go_wp2_with (first
      | (go_at_call 9; (with_reducible refine (lnumbers hn hs1 hx hc).mono ?_); rintro e w1 ⟨A, C, rfl, RA, BB⟩; (have hd := hd.below BB); clear hc)
      | (go_at_call 9; (with_reducible refine (lnumbers hn2 hs2 hy hd).mono ?_); rintro e w2 ⟨B, D, rfl, RB, hb⟩; (replace RA := RA.below hb); (replace BB := BB.trans (hb.mono BB.size)); clear hb hd)
      | (go_at_call 14; (with_reducible refine (einner A B C D _ hb1 hb2 he HE1.out).mono ?_); rintro e w' ⟨rfl, hw'⟩; subst w')
      | ((have _ := (st : Stg 0)); go_at_call 15; (with_reducible refine (lconj_any RA hs1).mono ?_); rintro e w3 ⟨gc, zc, rfl, LC, hb⟩; clear st; (have st : Stg 1 := ⟨trivial⟩); (replace RA := RA.below hb); (replace RB := RB.below hb); (replace BB := BB.trans (hb.mono BB.size)); clear hb)
      | (go_at_call 13; (with_reducible refine (edot _ B _ D _ hb1 hb2 he HE1.out).mono ?_); rintro e w' ⟨rfl, hw'⟩; subst w'; clear LC)
      | (go_at_call 14; (with_reducible refine (einner B A D C _ hb2 hb1 he HE2.out).mono ?_); rintro e w' ⟨rfl, hw'⟩; subst w')
      | (go_at_call 36; (with_reducible refine (awake_any _).mono ?_); rintro e w4 ⟨rfl, hb⟩; (replace RA := RA.below hb); (replace RB := RB.below hb); (replace BB := BB.trans (hb.mono BB.size)); clear hb)
      | (go_at_call 20; (with_reducible refine (same_none _).mono ?_); rintro e w' ⟨rfl, hw'⟩; subst w')
      | (go_at_call 22; (with_reducible refine (lnorm_any (ao := A) RA hs1).mono ?_); rintro e w' ⟨o, m6, rfl, ho, rfl⟩; first | (have qo : FloatKind.f64.format.order o o = none := order_nan (ans_none (ho.2.trans HN.out.symm))) | ((have qn : nan o = false := (ans_some (ho.2.trans HN.out.symm)).1); (have qo : FloatKind.f64.format.order o o = some .eq := order_num qn); (have qg := HO.out o ho qn); clear qn))
      | (go_at_call 24; (with_reducible refine (lmax_any (ao := A) (RA.drewN _) hs1).mono ?_); rintro e w' ⟨m7, rfl, rfl⟩; rw [← HMX.out])
      | ((have _ := (st : Stg 1)); go_at_call 15; (with_reducible refine (lconj_any (RA.drewN _) hs1).mono ?_); rintro e w5 ⟨gd, zd, rfl, LD, hb⟩; clear st; (have st : Stg 2 := ⟨trivial⟩); (replace hb := und hb); (replace RA := RA.below hb); (replace RB := RB.below hb); (replace BB := BB.trans (hb.mono BB.size)); clear hb)
      | (go_at_call 22; (with_reducible refine (lnorm_any LD hs1).mono ?_); rintro e w' ⟨o2, m8, rfl, ho2, rfl⟩; (have HS2 : Hid (smB o o2 = true) := smB_of ho (by (rw [← nrm_conj HX.out LD.rep n (Nat.le_refl _)]; exact ho2))); clear ho2)
      | (go_at_call 21; (with_reducible refine (ksameR_any o o2 _).mono ?_); rintro e w' ⟨rfl, hw'⟩; subst w'; rw [HS2.out])
      | ((have _ := (st : Stg 2)); go_at_call 15; (with_reducible refine (lconj_any (RA.drewN _) hs1).mono ?_); rintro e w6 ⟨ge, ze, rfl, LE, hb⟩; clear st; (have st : Stg 3 := ⟨trivial⟩); (replace hb := und hb); (replace RA := RA.below hb); (replace RB := RB.below hb); (replace BB := BB.trans (hb.mono BB.size)); clear hb LD)
      | (go_at_call 24; (with_reducible refine (lmax_any LE hs1).mono ?_); rintro e w' ⟨m9, rfl, rfl⟩; rw [nmx_conj HX.out LE.rep n (Nat.le_refl _), ← HMX.out]; clear LE)
      | (go_at_call 21; (with_reducible refine (ksameR_any mx mx _).mono ?_); rintro e w' ⟨rfl, hw'⟩; subst w'; rw [smB_self])
      | (go_at_call 11; (with_reducible refine (eadd A B C D _ hb1 hb2 he HE1.out).mono ?_); rintro e w' ⟨rfl, rfl⟩)
      | (go_at_call 11; (with_reducible refine (eadd B A D C _ hb2 hb1 he HE2.out).mono ?_); rintro e w' ⟨rfl, rfl⟩)
      | (go_at_call 43; (with_reducible refine (fin_none _).mono ?_); rintro e w' ⟨m10, rfl, rfl⟩)
      | (go_at_call 40; (with_reducible refine (equal_none _).mono ?_); rintro e w' ⟨m11, rfl, rfl⟩)
      | (go_at_call 43; (with_reducible refine (lfin_any (ao := A) (RA.drewN _) hs1).mono ?_); rintro e w' ⟨m12, rfl, rfl⟩; rw [← HFA.out])
      | (go_at_call 12; (with_reducible refine (lsub_ok (ao := A) (bo := A) (RA.drewN _) (RA.drewN _) hm).mono ?_); rintro e w9 ⟨gz, zz, rfl, LZ, hb⟩; (replace hb := und hb); (replace RA := RA.below hb); (replace BB := BB.trans (hb.mono BB.size)); clear hb)
      | (go_at_call 40; (with_reducible refine (lequal_yes (LZ.below (ba (below_self w9) (.cells (madeCells #[.complex .f64 0 0] n) 29))) (lst_al w9 n _) hs1 ?hq).mono ?_); (case hq => exact sub_zero_all (by (rw [← HFA.out]; assumption)) LZ.rep rfl); rintro e w' ⟨m13, rfl, rfl⟩; (replace RA := RA.below (ba (below_self w9) (.cells (madeCells #[.complex .f64 0 0] n) 29))); (replace BB := ba BB (.cells (madeCells #[.complex .f64 0 0] n) 29)); clear LZ)
      | (go_at_call 33; refine (lscale_any (ao := A) (RA.drewN _) hs1 (4607182418800017408, 0) (by unfold okz; decide)).mono ?_; rintro e w11 ⟨gs, zs, rfl, LS, hb⟩; (replace hb := und hb); (replace RA := RA.below hb); (replace BB := BB.trans (hb.mono BB.size)); clear hb)
      | (go_at_call 40; (with_reducible refine (lequal_yes LS RA hs1 ?hq).mono ?_); (case hq => exact one_mul HX.out (by (rw [← HFA.out]; assumption)) LS.rep); rintro e w' ⟨m14, rfl, rfl⟩; clear LS))
    all_goals
      go_ret
      first | exact ⟨rfl, BB⟩ | exact ⟨rfl, below_drewN BB _⟩
end Go.Proofs.Ytlpfjaldmokdfaa
