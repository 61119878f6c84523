/-
  The walk of VectorMirror where both lists have as many numbers, at most 65,536: it hands back true and only lays new memory.
-/
import Derived.Test.YtlpfjaldmokdfaaVl
namespace Go.Proofs.Ytlpfjaldmokdfaa
open Fl RowKit

structure Stg (n : Nat) : Prop where
  t : True
theorem und {w w' : World} {m : Nat} (h : Below (w.drewN m).heap.size (w.drewN m) w') : Below w.heap.size w w' := ⟨h.os, h.tape, h.output, h.size, h.block⟩
theorem lnumbers {ao : Option Addr} {cap n : Nat} {xs : List Cw} {w : World} (hn : xs.length = n) (hsz : n * 16 ≤ 140737488355328) (hx : okl xs) (hc : Rz w ao xs) :
    Calls Try.prog 9 #[.slice ao n cap] w fun e w' => ∃ A C, e = .returned (.slice A n C) ∧ Lst w' A n (fun j => anz (zat xs j)) xs ∧ Below w.heap.size w w' := by
  subst hn
  refine (numbers_any ao cap xs w hsz hc).mono ?_
  rintro e w' ⟨v, rfl, ho, hb⟩
  obtain ⟨A, C, rfl, _, _, hr⟩ := own_rc rfl ho
  exact ⟨A, C, rfl, lst_self rfl hx hr, hb⟩
theorem lconj1 (s t : Nat) (w : World) : Calls Try.prog 42 #[.complex .f64 s t] w fun e w' => e = .returned (.complex .f64 s (Op.negFloat .f64 t)) ∧ w' = w := by
  go_enter Try.func42, Try.ntmps42
  go_wp2
  go_ret
  exact ⟨rfl, rfl⟩
theorem smBB {o : Cn} {s t a b : Nat} (h : repz o (s, t)) (k : repz o (a, b)) : (smB s a && smB t b) = true := by
  rw [smB_of h.1 k.1, smB_of h.2 k.2]; rfl
theorem one_mul {xs zs : List Cw} {n : Nat} (hx : okl xs) (hf : finF (fun j => anz (zat xs j)) n = true) (h : repl (fun j => mulZ (anz (4607182418800017408, 0)) (anz (zat xs j))) n zs) : ∀ j, j < n → eqB (zat zs j).1 (zat xs j).1 = true ∧ eqB (zat zs j).2 (zat xs j).2 = true := by
  intro j hj
  have hc := finF_at hf j hj
  unfold finC at hc
  rw [Bool.and_eq_true] at hc
  have f1 : fin (zat xs j).1 := fin_of (by rw [finA_of (rep_ans (hx j).1)]; exact hc.1)
  have f2 : fin (zat xs j).2 := fin_of (by rw [finA_of (rep_ans (hx j).2)]; exact hc.2)
  have k := h j hj
  have e1 : (mulZ (anz (4607182418800017408, 0)) (anz (zat xs j))).1 = mulRe (ans (zat xs j).1) (ans (zat xs j).2) (some 4607182418800017408) (some 0) := by
    show subA (mulA (some 4607182418800017408) (ans (zat xs j).1)) (mulA (some 0) (ans (zat xs j).2)) = subA (mulA (ans (zat xs j).1) (some 4607182418800017408)) (mulA (ans (zat xs j).2) (some 0))
    rw [mulA_comm (some 4607182418800017408), mulA_comm (some 0)]
  have e2 : (mulZ (anz (4607182418800017408, 0)) (anz (zat xs j))).2 = mulIm (ans (zat xs j).1) (ans (zat xs j).2) (some 4607182418800017408) (some 0) := by
    show addA (mulA (some 4607182418800017408) (ans (zat xs j).2)) (mulA (some 0) (ans (zat xs j).1)) = addA (mulA (ans (zat xs j).1) (some 0)) (mulA (ans (zat xs j).2) (some 4607182418800017408))
    rw [mulA_comm (some 4607182418800017408), mulA_comm (some 0), addA_comm]
  exact times_one f1 f2 (hx j).1 (hx j).2 (by rw [← e1]; exact k.1) (by rw [← e2]; exact k.2)
theorem sub_zero_all {xs zs ms : List Cw} {n : Nat} (hf : finF (fun j => anz (zat xs j)) n = true) (h : repl (zipF subZ (fun j => anz (zat xs j)) (fun j => anz (zat xs j))) n zs) (hm : ms = List.replicate n (0, 0)) : ∀ j, j < n → eqB (zat zs j).1 (zat ms j).1 = true ∧ eqB (zat zs j).2 (zat ms j).2 = true := by
  intro j hj
  have hc := finF_at hf j hj
  unfold finC at hc
  rw [Bool.and_eq_true] at hc
  have k := h j hj
  have e : zat ms j = (0, 0) := by subst hm; simp [zat, List.getD_eq_getElem?_getD, hj]
  rw [e]
  exact ⟨sub_self_zero hc.1 k.1, sub_self_zero hc.2 k.2⟩
theorem run_mkC (n : Nat) (hn : n ≤ 65536) (w : World) : (Instr.makeSlice 23 (.int .i64 (n : Int)) (.int .i64 (n : Int))).run Try.prog w = .ok (.slice (some ⟨w.heap.size, 0, none⟩) n n) (w.alloc (.cells (madeCells #[.complex .f64 0 0] n) 29)) := by
  obtain ⟨i0, hi, hz0, hz1, hz2⟩ := info_parts Try.infoC
  have h := run_make (P := Try.prog) w 23 29 i0 (.complex .f64 0 0) Try.underlying23 hi hz0 .i64 .i64 n n (by omega) (Int.le_refl _) (by rw [hz2]; omega) (by omega)
  simp only [Int.toNat_natCast, hz1, Nat.mul_one] at h
  exact h
theorem lst_al (w : World) (n : Nat) (t : TypeId) : Lst (w.alloc (.cells (madeCells #[.complex .f64 0 0] n) t)) (some ⟨w.heap.size, 0, none⟩) n (fun _ => (some 0, some 0)) (List.replicate n (0, 0)) := by
  refine ⟨by simp, fun j hj => ?_, fun k hk => ⟨w.heap.size, 0, rfl, by rw [size_al]; omega, ?_⟩⟩
  · rw [show zat (List.replicate n ((0, 0) : Cw)) j = (0, 0) by simp [zat, List.getD_eq_getElem?_getD, hj]]
    exact ⟨rep_0, rep_0⟩
  · have hk' : k < n := by simpa using hk
    rw [Nat.zero_add, al_at w _ t _ k rfl, show zat (List.replicate n ((0, 0) : Cw)) k = (0, 0) by simp [zat, List.getD_eq_getElem?_getD, hk']]
    have := made_zeroC n
    rw [Nat.mul_one] at this
    have h2 := congrArg (fun l => l[k]?) this
    simp only [Array.getElem?_toList] at h2
    show (madeCells (Value.complex .f64 0 0).cells n)[k]? = _
    rw [h2]; simp [hk', cx]
theorem sum_in (xs ys : List Cw) (n : Nat) : sumZ (zipF innZ (fun j => anz (zat xs j)) (fun j => anz (zat ys j))) n = sumZ (dotF innZ xs ys) n := sumZ_congr (fun _ _ => rfl)

set_option maxHeartbeats 16000000 in
theorem vmirror_ok (ao bo : Option Addr) (ca cb n : Nat) (xs ys : List Cw) (w : World) (hn : xs.length = n) (hn2 : ys.length = n) (hm : n ≤ 65536) (hc : Rz w ao xs) (hd : Rz w bo ys) (hx : okl xs) (hy : okl ys) :
    Calls Try.prog 7 #[.slice ao n ca, .slice bo n cb] w fun e w' => e = .returned (.bool true) ∧ Below w.heap.size w w' := by
  have st : Stg 0 := ⟨trivial⟩
  obtain ⟨FI, hFI⟩ : ∃ FI, FI = finC (sumZ (dotF innZ xs ys) n) := ⟨_, rfl⟩
  obtain ⟨FX, hFX⟩ : ∃ FX, FX = finF (zipF addZ (fun j => anz (zat xs j)) (fun j => anz (zat ys j))) n := ⟨_, rfl⟩
  obtain ⟨FA, hFA⟩ : ∃ FA, FA = finF (fun j => anz (zat xs j)) n := ⟨_, rfl⟩
  obtain ⟨N, hN⟩ : ∃ N, N = nrm xs n := ⟨_, rfl⟩
  have HN : Hid (N = nrm xs n) := hN
  obtain ⟨mx, hmx⟩ : ∃ mx, mx = nmx xs n := ⟨_, rfl⟩
  have HFI : Hid (FI = finC (sumZ (dotF innZ xs ys) n)) := hFI
  have HFX : Hid (FX = finF (zipF addZ (fun j => anz (zat xs j)) (fun j => anz (zat ys j))) n) := hFX
  have HFA : Hid (FA = finF (fun j => anz (zat xs j)) n) := hFA
  have HMX : Hid (mx = nmx xs n) := hmx
  have HO : Hid (∀ s, rep (nrm xs n) s → nan s = false → (FloatKind.f64.format.order mx s == some .gt) = false) := by rw [hmx]; exact fun s h1 h2 => most_ord hx h1 h2
  have hs1 : n * 16 ≤ 140737488355328 := by omega
  have hmk := run_mkC n hm
  have hn65 : ¬ (65536 : Int) < (n : Int) := by omega
  have HX : Hid (okl xs) := hx
  have HY : Hid (okl ys) := hy
  clear hFI hFX hFA hmx hN
  cases FI <;> cases N
  all_goals
    go_enter Try.func7, Try.ntmps7
    go_wp2_with (first
      | (go_at_call 9; (with_reducible refine (lnumbers hn hs1 hx hc).mono ?_); rintro e w1 ⟨A, C, rfl, RA, BB⟩; (have hd := hd.below BB); clear hc)
      | (go_at_call 9; (with_reducible refine (lnumbers hn2 hs1 hy hd).mono ?_); rintro e w2 ⟨B, D, rfl, RB, hb⟩; (replace RA := RA.below hb); (replace BB := BB.trans (hb.mono BB.size)); clear hb hd)
      | (go_at_call 14; (with_reducible refine (linner_ok (ca := C) (cb := D) (ao := A) (bo := B) RA RB hm).mono ?_); rintro e w' ⟨s1, s2, m1, rfl, hs, rfl⟩; (have HI : Hid (repz (sumZ (dotF innZ xs ys) n) (s1, s2)) := by (rw [sum_in] at hs; exact hs)); clear hs)
      | ((have _ := (st : Stg 0)); go_at_call 15; (with_reducible refine (lconj_any (RA.drewN _) hs1).mono ?_); rintro e w3 ⟨gc, zc, rfl, LC, hb⟩; clear st; (have st : Stg 1 := ⟨trivial⟩); (replace hb := und hb); (replace RA := RA.below hb); (replace RB := RB.below hb); (replace BB := BB.trans (hb.mono BB.size)); clear hb)
      | (go_at_call 13; (with_reducible refine (ldot_ok LC RB hm).mono ?_); rintro e w' ⟨d1, d2, m2, rfl, hs, rfl⟩; (have HS : Hid ((smB s1 d1 && smB s2 d2) = true) := smBB HI.out (by (rw [show sumZ (dotF innZ xs ys) n = sumZ (zipF mulZ (fun j => conZ (anz (zat xs j))) (fun j => anz (zat ys j))) n from sumZ_congr (fun _ _ => rfl)]; exact hs))); clear hs LC)
      | (go_at_call 14; (with_reducible refine (linner_ok (RB.drewN _) (RA.drewN _) hm).mono ?_); rintro e w' ⟨t1, t2, m3, rfl, hs, rfl⟩; (have HT : Hid (repz (sumZ (dotF innZ ys xs) n) (t1, t2)) := by (rw [sum_in] at hs; exact hs)); clear hs)
      | (go_at_call 36; (with_reducible refine (awake_any _).mono ?_); rintro e w4 ⟨rfl, hb⟩; (replace hb := und hb); (replace RA := RA.below hb); (replace RB := RB.below hb); (replace BB := BB.trans (hb.mono BB.size)); clear hb)
      | (go_at_call 20; (with_reducible refine (ksame_any _ _ _ _ _).mono ?_); rintro e w' ⟨rfl, hw'⟩; subst w'; rw [HS.out])
      | (go_at_call 41; (with_reducible refine (kfinN_any _ _ _).mono ?_); rintro e w' ⟨m5, rfl, rfl⟩; rw [finC_of HI.out, ← HFI.out])
      | (go_at_call 42; (with_reducible refine (lconj1 _ _ _).mono ?_); rintro e w' ⟨rfl, rfl⟩; (have HQ := conj_back HX.out HY.out HI.out HT.out (by (have k := finC_of HI.out; rw [← HFI.out, Bool.and_eq_true] at k; exact k))); (have q1 := HQ.1); (have q2 := HQ.2); clear HQ)
      | (go_at_call 22; (with_reducible refine (lnorm_any (ao := A) (RA.drewN _) hs1).mono ?_); rintro e w' ⟨o, m6, rfl, ho, rfl⟩; first | (have qo : FloatKind.f64.format.order o o = none := order_nan (ans_none (ho.2.trans HN.out.symm))) | ((have qn : nan o = false := (ans_some (ho.2.trans HN.out.symm)).1); (have qo : FloatKind.f64.format.order o o = some .eq := order_num qn); (have qg := HO.out o ho qn); clear qn))
      | (go_at_call 24; (with_reducible refine (lmax_any (ao := A) (RA.drewN _) hs1).mono ?_); rintro e w' ⟨m7, rfl, rfl⟩; rw [← HMX.out])
      | ((have _ := (st : Stg 1)); go_at_call 15; (with_reducible refine (lconj_any (RA.drewN _) hs1).mono ?_); rintro e w5 ⟨gd, zd, rfl, LD, hb⟩; clear st; (have st : Stg 2 := ⟨trivial⟩); (replace hb := und hb); (replace RA := RA.below hb); (replace RB := RB.below hb); (replace BB := BB.trans (hb.mono BB.size)); clear hb)
      | (go_at_call 22; (with_reducible refine (lnorm_any LD hs1).mono ?_); rintro e w' ⟨o2, m8, rfl, ho2, rfl⟩; (have HS2 : Hid (smB o o2 = true) := smB_of ho (by (rw [← nrm_conj HX.out LD.rep n (Nat.le_refl _)]; exact ho2))); clear ho2)
      | (go_at_call 21; (with_reducible refine (ksameR_any o o2 _).mono ?_); rintro e w' ⟨rfl, hw'⟩; subst w'; rw [HS2.out])
      | ((have _ := (st : Stg 2)); go_at_call 15; (with_reducible refine (lconj_any (RA.drewN _) hs1).mono ?_); rintro e w6 ⟨ge, ze, rfl, LE, hb⟩; clear st; (have st : Stg 3 := ⟨trivial⟩); (replace hb := und hb); (replace RA := RA.below hb); (replace RB := RB.below hb); (replace BB := BB.trans (hb.mono BB.size)); clear hb LD)
      | (go_at_call 24; (with_reducible refine (lmax_any LE hs1).mono ?_); rintro e w' ⟨m9, rfl, rfl⟩; rw [nmx_conj HX.out LE.rep n (Nat.le_refl _), ← HMX.out]; clear LE)
      | (go_at_call 21; (with_reducible refine (ksameR_any mx mx _).mono ?_); rintro e w' ⟨rfl, hw'⟩; subst w'; rw [smB_self])
      | (go_at_call 11; (with_reducible refine (ladd_ok (ao := A) (bo := B) (RA.drewN _) (RB.drewN _) hm).mono ?_); rintro e w7 ⟨gx, zx, rfl, LX, hb⟩; (replace hb := und hb); (replace RA := RA.below hb); (replace RB := RB.below hb); (replace BB := BB.trans (hb.mono BB.size)); clear hb)
      | (go_at_call 11; (with_reducible refine (ladd_ok (ao := B) (bo := A) RB RA hm).mono ?_); rintro e w8 ⟨gy, zy, rfl, LY, hb⟩; (replace RA := RA.below hb); (replace LX := LX.below hb); (replace BB := BB.trans (hb.mono BB.size)); clear hb RB)
      | (go_at_call 43; (with_reducible refine (lfin_any LX hs1).mono ?_); rintro e w' ⟨m10, rfl, rfl⟩; rw [← HFX.out])
      | (go_at_call 40; (with_reducible refine (lequal_yes (LX.drewN _) (LY.drewN _) hs1 ?hq).mono ?_); (case hq => exact eq_sames LX.rep LY.rep (fun _ _ => addZ_comm _ _) (by (rw [← HFX.out]; first | rfl | assumption))); rintro e w' ⟨m11, rfl, rfl⟩)
      | (go_at_call 43; (with_reducible refine (lfin_any (ao := A) (RA.drewN _) hs1).mono ?_); rintro e w' ⟨m12, rfl, rfl⟩; rw [← HFA.out]; clear LX LY)
      | (go_at_call 12; (with_reducible refine (lsub_ok (ao := A) (bo := A) (RA.drewN _) (RA.drewN _) hm).mono ?_); rintro e w9 ⟨gz, zz, rfl, LZ, hb⟩; (replace hb := und hb); (replace RA := RA.below hb); (replace BB := BB.trans (hb.mono BB.size)); clear hb)
      | (go_at_call 40; (with_reducible refine (lequal_yes (LZ.below (ba (below_self w9) (.cells (madeCells #[.complex .f64 0 0] n) 29))) (lst_al w9 n _) hs1 ?hq).mono ?_); (case hq => exact sub_zero_all (by (rw [← HFA.out]; assumption)) LZ.rep rfl); rintro e w' ⟨m13, rfl, rfl⟩; (replace RA := RA.below (ba (below_self w9) (.cells (madeCells #[.complex .f64 0 0] n) 29))); (replace BB := ba BB (.cells (madeCells #[.complex .f64 0 0] n) 29)); clear LZ)
      | (go_at_call 33; refine (lscale_any (ao := A) (RA.drewN _) hs1 (4607182418800017408, 0) (by unfold okz; decide)).mono ?_; rintro e w11 ⟨gs, zs, rfl, LS, hb⟩; (replace hb := und hb); (replace RA := RA.below hb); (replace BB := BB.trans (hb.mono BB.size)); clear hb)
      | (go_at_call 40; (with_reducible refine (lequal_yes LS RA hs1 ?hq).mono ?_); (case hq => exact one_mul HX.out (by (rw [← HFA.out]; assumption)) LS.rep); rintro e w' ⟨m14, rfl, rfl⟩; clear LS))
    all_goals
      go_ret
      first | exact ⟨rfl, BB⟩ | exact ⟨rfl, below_drewN BB _⟩
end Go.Proofs.Ytlpfjaldmokdfaa
