/-
  SolveScales' walk.
-/
import Derived.Test.YtklbgibhbnijaaaWsc
import Derived.Deep.RegionHeldLaw
import Derived.Deep.DeepCutAuto
import Derived.Deep.CutBlock
namespace Go.Proofs.Ytklbgibhbnijaaa
open Fl RowKit
set_option linter.unusedVariables false

theorem rw_drew {w : World} {b n : Nat} {v : Value} {zs : List Cw} (h : Rw w b v n zs) : Rw w.drew b v n zs := ⟨h.len, h.own⟩
theorem v3_drew {p : Nat} {a b c : Value} {w : World} (h : V3 p a b c w) : V3 p a b c w.drew := ⟨h.lt, h.c0, h.c1, h.c2, h.f0, h.f1, h.f2⟩
set_option maxRecDepth 20000 in
set_option maxHeartbeats 16000000 in
theorem scales_walk (a by' : Int) (N T J n cap nb cb : Nat) (ao bo : Option Addr) (xs zs : List Cw) (w : World) (hN : N ≤ 2) (hT : T = N * N) (hJ : J < 201) (hn : xs.length = n) (hsz : n * 16 ≤ 140737488355328) (hnb : zs.length = nb) (hsb : nb * 16 ≤ 140737488355328) (hcb : nb ≤ cb) (hc : Rz w ao xs) (hd : Rz w bo zs) (hx : okl xs) (hz : okl zs)
    (HPK : ∀ w, Calls Try.prog 13 #[.int .i64 a, .int .i64 3] w fun e w' => e = .returned (.int .i64 (N : Int)) ∧ w' = w)
    (HPJ : ∀ w, Calls Try.prog 13 #[.int .i64 by', .int .i64 201] w fun e w' => e = .returned (.int .i64 (J : Int)) ∧ w' = w) :
    Calls Try.prog 7 #[.int .i64 a, .slice ao n cap, .slice bo nb cb, .int .i64 by'] w fun e w' => e = .returned (.bool true) ∧ Below w.heap.size w w' := by
  have SQ : Hid (∀ (w : World), Calls Try.prog 9 #[.int .i64 (N : Int), .slice none 0 0] w fun e w' => ∃ A c, e = .returned (.agg #[.int .i64 N, .int .i64 N, .slice A T c]) ∧ Rw w' w.heap.size (.slice A T c) T (ro T (fun _ => (0, 0))) ∧ Below w.heap.size w w') := fun W => by
    subst hT
    have := square_of (a := (N : Int)) (N := N) (by omega) (fun w => pick_same (j := N) (n := 65) (by omega) (by decide) w) none 0 0 [] W rfl (by decide) (fun k hk => absurd hk (by simp))
    refine Calls.mono this ?_
    rintro e w' ⟨A, c, rfl, hR, hb⟩
    refine ⟨A, c, rfl, ?_, hb⟩
    rw [ro_congr (g := zat []) (fun k _ => by simp [zat])]
    exact hR
  have hT4 : T ≤ 4 := by rw [hT]; exact Nat.mul_le_mul hN hN
  have HP := hid_o HPK
  have HC := hid_o hc
  have HD := hid_o hd
  have HX := hid_o hx
  have HZ := hid_o hz
  have HT := hid_o hT
  have HW := hid_o (fun (W : World) (h : Rz W ao xs) => whole10_any ao cap n xs W hn hsz h)
  have HPJ' := hid_o HPJ
  have HW2 := hid_o (fun (W : World) (hl : N ≤ nb) (h : Rz W bo zs) => whole10_any bo cb N (zs.take N) W (by rw [List.length_take]; omega) (by omega) (rz_take h N))
  clear HPK HPJ hc hd hx hz hT
  go_enter Try.func7, Try.ntmps7
  go_upto_block 0 with (first
    | (go_at_call 24; (with_reducible refine (awake10 _).mono ?_); rintro e w0 ⟨rfl, hb⟩; (have B0 := hid_o hb); clear hb)
    | (go_at_call 13; (with_reducible refine (HP.out _).mono ?_); rintro e w' ⟨rfl, hw⟩; subst w')
    | (go_at_call 9; (with_reducible refine (SQ.out _).mono ?_); rintro e w1 ⟨A, c, rfl, hR, hb⟩; (have L1 : Hid (∀ g, A = some ⟨g, 0, none⟩ → w0.heap.size ≤ g ∧ g < w1.heap.size) := fun g e => hR.own.lt g (by rw [e]; rfl)); (have R1 := hid_o (hR.below (bal _ (.cells #[.int .i64 N, .int .i64 N, .slice A T c] 26)))); (have V1 := hid_o (v3_new w1 (.int .i64 N) (.int .i64 N) (.slice A T c) 26)); (have B1 := hid_o (ba (bt B0.out hb) (.cells #[.int .i64 N, .int .i64 N, .slice A T c] 26))); clear hR hb)
    | (go_at_call 25; (with_reducible refine (HW.out _ (HC.out.below B1.out)).mono ?_); rintro e w2 ⟨AW, cW, rfl, hR, hb⟩; (have L2 : Hid (∀ g, AW = some ⟨g, 0, none⟩ → w1.heap.size + 1 ≤ g) := fun g e => by (have := (hR.own.lt g (by rw [e]; rfl)).1; simpa using this)); (have R2 := hid_o hR); (have B2 := hid_o hb); clear hR hb))
  have VM2 := hid_o (V1.out.below B2.out)
  have RM2 := hid_o (R1.out.below B2.out)
  have BW2 := hid_o (bt B1.out B2.out)
  have HS0 := hid_o B0.out.size
  clear R1 V1 B1 B2 SQ HP HW
  go_cut [35] (fun _iv wc => Rw wc w0.heap.size (.slice A T c) T (ro T (smF n xs)) ∧ V3 w1.heap.size (.int .i64 N) (.int .i64 N) (.slice A T c) wc ∧ Below w.heap.size w wc)
  case first =>
    go_wp2_with fail
    go_loopw [35] (fun iv wr => ∃ (i : Nat) (y : Nat → Cw), i ≤ n ∧ iv = .int .i64 i ∧ (∀ k, k < T → y k = if k < i then whZ (zat xs k) else (0, 0)) ∧ Rw wr w0.heap.size (.slice A T c) T (ro T y) ∧ V3 w1.heap.size (.int .i64 N) (.int .i64 N) (.slice A T c) wr ∧ Rw wr (w1.heap.size + 1) (.slice AW n cW) n (ro n fun k => whZ (zat xs k)) ∧ Below w.heap.size w wr) (fun iv _ => n - (intOf iv).toNat)
    case atStart => exact ⟨0, _, Nat.zero_le _, rfl, fun k _ => by rw [if_neg (by omega)], RM2.out, VM2.out, ⟨R2.out.len, own_base R2.out.own (by simp)⟩, BW2.out⟩
    case round =>
      clear RM2 VM2 BW2 R2
      obtain ⟨i, y, hin, rfl, hy, hR, hV, hRw, hbel⟩ := hrel
      have HY := hid_o hy
      have HR := hid_o hR
      have HV := hid_o hV
      have HRW := hid_o hRw
      have HBE := hid_o hbel
      by_cases hlt : i < n
      · obtain ⟨gw, rfl⟩ := rw_some hRw (by omega)
        have hgw := L2.out gw rfl
        have d1 := rw_cell hRw hlt
        obtain ⟨z, hze⟩ : ∃ z : Cw, z = whZ (zat xs i) := ⟨_, rfl⟩
        rw [← hze] at d1
        have HZE := hid_o hze
        have gwl := hid_o hRw.lt.2
        obtain ⟨vl, v0, v1, v2, _, _, _⟩ := hV
        unfold cx at d1
        by_cases hiT : i < T
        · obtain ⟨g, rfl⟩ := rw_some hR (by omega)
          have hg := hid_o (L1.out g rfl)
          have d2 := rw_cell hR hiT
          have fz := hR.own.frozenAt i
          have gl := hid_o hR.lt.2
          have hgwh := hid_o hgw
          unfold cx at d2
          clear hze hy hR hRw hbel hgw
          go_wp2
          go_roundw
          case measure => first | (simp [intOf]; done) | (simp [intOf]; omega)
          case rel =>
            refine ⟨i + 1, upz y i z, by omega, by go_num, fun k hk => ?_, rw_set HR.out i z, HV.out.other (q := ⟨g, i, none⟩) (by have := hg.out; show g ≠ w1.heap.size; omega) _, ⟨HRW.out.len, own_at HRW.out.own (fun q hq => by cases hq; exact Below.heap_setCell _ _ _ _ (by have := hg.out; have := hgwh.out; show gw ≠ g; omega))⟩, HBE.out.setCell (p := ⟨g, i, none⟩) (by have := hg.out; have := HS0.out; show w.heap.size ≤ g; omega) _⟩
            by_cases e : k = i
            · rw [e, upz_self, if_pos (by omega)]; exact HZE.out
            · rw [upz_ne _ _ e, HY.out k hk]
              by_cases c1 : k < i
              · rw [if_pos c1, if_pos (by omega)]
              · rw [if_neg c1, if_neg (by omega)]
        · clear hze hy hR hRw hbel hgw
          go_wp2
          go_roundw
          case measure => first | (simp [intOf]; done) | (simp [intOf]; omega)
          case rel =>
            refine ⟨i + 1, y, by omega, by go_num, fun k hk => ?_, HR.out, HV.out, HRW.out, HBE.out⟩
            rw [HY.out k hk, if_pos (by omega), if_pos (by omega)]
      · have e : i = n := by omega
        subst e
        have HF : Hid (Rw wr w0.heap.size (.slice A T c) T (ro T (smF i xs))) := by rw [ro_congr (f := smF i xs) (g := y) (fun k hk => (hy k hk).symm)]; exact hR
        clear hy hR hV hRw hbel
        go_wp2
        go_meet
        case rel => exact ⟨HF.out, HV.out, HBE.out⟩
  case rest =>
    obtain ⟨hRm, hVm, hbel⟩ := hcut
    have HRm := hid_o hRm
    have HVm := hid_o hVm
    have HBE := hid_o hbel
    clear L2 R2 RM2 VM2 BW2
    have hok : ∀ k, k < N * N → okz (smF n xs k) := fun k _ => (smF_fx n xs k).okz
    obtain ⟨vl, v0, v1, v2, _, _, _⟩ := hVm
    have hcA : T ≤ c := rw_cap hRm
    have HRc := hid_o (rw_rc hRm)
    rcases of_cases N (smF n xs) (by omega) hok with ⟨E, q, hE, hC, _⟩ | ⟨h2, h3, hC⟩
    · have HOF : Hid (∀ (W : World) (A : Option Addr) (c : Nat), T ≤ c → Rc W A (ro T (smF n xs)) → Calls Try.prog 14 #[.agg #[.int .i64 N, .int .i64 N, .slice A T c]] W fun e w' => e = .returned (.tuple #[.pointer none, .agg #[.int .i64 E, .int .i64 q]]) ∧ Below W.heap.size W w') := failsT HT.out hC
      clear hRm hbel hC hok
      go_wp2_with (first
        | (go_at_call 14; (with_reducible refine (HOF.out _ _ _ hcA HRc.out).mono ?_); rintro e w4 ⟨rfl, hb⟩; (have B4 := hid_o (ba (bt HBE.out hb) (.cells #[.int .i64 E, .int .i64 q] 35))); clear hb))
      go_ret
      exact ⟨rfl, B4.out⟩
    · have HOF : Hid (∀ (W : World) (A : Option Addr) (c : Nat), T ≤ c → Rc W A (ro T (smF n xs)) → Calls Try.prog 14 #[.agg #[.int .i64 N, .int .i64 N, .slice A T c]] W fun e w' => ∃ p, e = .returned (.tuple #[.pointer (some ⟨p, 0, none⟩), .agg #[.int .i64 0, .int .i64 0]]) ∧ Lhd w' (.pointer (some ⟨p, 0, none⟩)) N (elm N (mat9 N (smF n xs)) N).2.M (elm N (mat9 N (smF n xs)) N).2.o (elm N (mat9 N (smF n xs)) N).2.s ∧ Below W.heap.size W w') := by
        rw [HT.out]
        intro W A c k1 k2
        refine (hC W A c k1 k2).mono ?_
        rintro e w' ⟨p, gr, go, bl, rfl, hL, hb⟩
        exact ⟨p, rfl, hL.lh, hb⟩
      by_cases hlb : nb < N
      · clear hRm hbel hC hok h2 h3 HW2 HPJ'
        go_wp2_with (first
          | (go_at_call 14; (with_reducible refine (HOF.out _ _ _ hcA HRc.out).mono ?_); rintro e w4 ⟨p, rfl, hL, hb⟩; (have B4 := hid_o (ba (bt HBE.out hb) (.cells #[.int .i64 0, .int .i64 0] 35))); clear hL hb))
        go_ret
        exact ⟨rfl, B4.out⟩
      · obtain ⟨x, hxf, hS1, hS2, hMy⟩ := sc_con (N := N) (T := 2 * N) (k := J + 28) (f := smF n xs) (b := fun i => whZ (zat (zs.take N) i)) (p := (J : Int) - 100) hN rfl (smF_fx n xs) h2 h3 (by omega) (by omega) (by omega) (fun i => whZ_fx _)
        have HXF := hid_o hxf
        have HS1 := hid_o hS1
        have HS2 := hid_o hS2
        have HMY := hid_o hMy
        obtain ⟨T2, hT2⟩ : ∃ T2, T2 = 2 * N := ⟨_, rfl⟩
        rw [← hT2] at HMY
        obtain ⟨i0, hi, hz0, hz1, hz2⟩ := info_parts Try.infoC
        have hm : 2 * (N : Int) = (T2 : Int) := by omega
        have hT24 : T2 ≤ 4 := by omega
        have HT2 := hid_o hT2
        clear hT2
        have hpk : IntKind.i64.wrap ((J : Int) - 100) = (J : Int) - 100 := by rw [IntKind.wrap_i64]; omega
        clear hRm hbel hC hok h2 h3 hxf hS1 hS2 hMy
        go_upto_block 2 with (first
          | (go_at_call 14; (with_reducible refine (HOF.out _ _ _ hcA HRc.out).mono ?_); rintro e w4 ⟨p, rfl, hL, hb⟩; (have L4 := hid_o (hL.below (bal _ (.cells #[.int .i64 0, .int .i64 0] 35)))); (have B4 := hid_o (ba (bt HBE.out hb) (.cells #[.int .i64 0, .int .i64 0] 35))); clear hL hb)
          | (go_at_call 13; (with_reducible refine (HPJ'.out _).mono ?_); rintro e w' ⟨rfl, hw⟩; subst w')
          | (go_at_call 25; (with_reducible refine (HW2.out _ (by omega) (HD.out.below B4.out)).mono ?_); rintro e w5 ⟨BW, dW, rfl, hR, hb⟩; (have R5 := hid_o hR); (have B5 := hid_o hb); clear hR hb)
          | (at_make; (refine wpList_make_full _ rfl _ _ 24 rfl w5.heap.size 52 i0 (.complex .f64 0 0) 1 Try.underlying24 hi hz0 hz1 _ _ _ _ T2 rfl rfl (by first | rfl | exact hm | (rw [← hm]; rfl)) (by first | rfl | exact hm | (rw [← hm]; rfl)) (by rw [hz2]; omega) (by unfold maxLen; omega) (Nat.le_refl _) ?_); intro w6 hown hgrow; (have B6 := hid_o (show Below w5.heap.size w5 w6 from (Below.refl _ _).grown hgrow (Nat.le_refl _) (by intro k hk; simp at hk))); (rw [made_zeroC, ro_zero] at hown); (have R6 := hid_o (show Rw w6 w5.heap.size (.slice (some ⟨w5.heap.size, 0, none⟩) T2 T2) T2 (ro T2 (fun _ => (0, 0))) from ⟨ro_len _ _, hown⟩)); clear hown hgrow))
        have L5 := hid_o (L4.out.below B5.out)
        have BW5 := hid_o (bt B4.out B5.out)
        have hz5 : w5.heap.size < w6.heap.size := R6.out.lt.2
        obtain ⟨w7, hw7⟩ : ∃ w7, w7 = w6.alloc (.cells #[.int .i64 N, .int .i64 2, .slice (some ⟨w5.heap.size, 0, none⟩) T2 T2] 26) := ⟨_, rfl⟩
        have V7 : Hid (V3 w6.heap.size (.int .i64 N) (.int .i64 2) (.slice (some ⟨w5.heap.size, 0, none⟩) T2 T2) w7) := by rw [hw7]; exact v3_new _ _ _ _ _
        have R7 : Hid (Rw w7 w5.heap.size (.slice (some ⟨w5.heap.size, 0, none⟩) T2 T2) T2 (ro T2 (fun _ => (0, 0)))) := by rw [hw7]; exact R6.out.below (bal _ _)
        have B7 : Hid (Below w5.heap.size w5 w7) := by rw [hw7]; exact ba B6.out _
        have Z7 : Hid (w7.heap.size = w6.heap.size + 1) := by show w7.heap.size = _; rw [hw7]; simp
        rw [← hw7]
        clear hw7 R6 B6 L4 B4 B5 HOF HRc HPJ' HW2 HBE HVm HRm v0 v1 v2 vl
        go_cut [16] (fun fv wc => ∃ F c', fv = .slice F N c' ∧ Rc wc F (ro N fun i => shz ((J : Int) - 100) (whZ (zat (zs.take N) i))) ∧ Rw wc w5.heap.size (.slice (some ⟨w5.heap.size, 0, none⟩) T2 T2) T2 (ro T2 (dd (fun i => whZ (zat (zs.take N) i)) fun i => shz ((J : Int) - 100) (whZ (zat (zs.take N) i)))) ∧ V3 w6.heap.size (.int .i64 N) (.int .i64 2) (.slice (some ⟨w5.heap.size, 0, none⟩) T2 T2) wc ∧ Below w5.heap.size w5 wc)
        case first =>
          go_wp2_with fail
          go_loopw [16, 18] (fun fv iv wr => ∃ (i c' : Nat) (F : Option Addr) (y : Nat → Cw), i ≤ N ∧ iv = .int .i64 i ∧ fv = .slice F i c' ∧ (∀ k, k < 2 * i → y k = dd (fun i => whZ (zat (zs.take N) i)) (fun i => shz ((J : Int) - 100) (whZ (zat (zs.take N) i))) k) ∧ wr.ownsRow (w6.heap.size + 1) 52 1 (.slice F i c') i ((ro i fun i => shz ((J : Int) - 100) (whZ (zat (zs.take N) i))).map cx) ∧ Rw wr w5.heap.size (.slice (some ⟨w5.heap.size, 0, none⟩) T2 T2) T2 (ro T2 y) ∧ V3 w6.heap.size (.int .i64 N) (.int .i64 2) (.slice (some ⟨w5.heap.size, 0, none⟩) T2 T2) wr ∧ w6.heap.size < wr.heap.size ∧ Below w5.heap.size w5 wr) (fun _ iv _ => N - (intOf iv).toNat)
          case atStart => exact ⟨0, 0, none, _, Nat.zero_le _, rfl, rfl, fun k hk => absurd hk (by omega), World.ownsRow_nil _ _ _ _, R7.out, V7.out, by rw [Z7.out]; omega, B7.out⟩
          case round =>
            clear R7 V7 B7 Z7 L5
            obtain ⟨i, c', F, y, hin, rfl, rfl, hy, hown, hR, hV, hlt6, hbel⟩ := hrel
            have HY := hid_o hy
            have HR := hid_o hR
            have HV := hid_o hV
            have HBL := hid_o hbel
            by_cases hlt : i < N
            · obtain ⟨gb, rfl⟩ := rw_some R5.out (by omega)
              have R5r := hid_o (R5.out.below hbel)
              have d1 := rw_cell R5r.out hlt
              have hgb5 := hid_o R5.out.lt.2
              obtain ⟨z, hze⟩ : ∃ z : Cw, z = whZ (zat (zs.take N) i) := ⟨_, rfl⟩
              rw [← hze] at d1
              unfold cx at d1
              have hzf : FX 1074 1083 z := by rw [hze]; exact whZ_fx _
              have HZE := hid_o hze
              have gbl := R5r.out.lt.2
              have SA : Hid (∀ W, Below wr.heap.size wr W → W.cell? ⟨gb, i, none⟩ = some (.complex .f64 z.1 z.2)) := fun W hW => (hW.cell (p := ⟨gb, i, none⟩) gbl).trans d1
              have HL1 : Hid (∀ W, Calls Try.prog 26 #[.float .f64 z.1, .int .i64 ((J : Int) - 100)] W fun e w' => e = .returned (.float .f64 (ldx z.1 ((J : Int) - 100))) ∧ Below W.heap.size W w') := fun W => ldC hzf.a (by decide) (by decide) (k := J + 28) (by omega) (by omega) _ (by omega) W
              have HL2 : Hid (∀ W, Calls Try.prog 26 #[.float .f64 z.2, .int .i64 ((J : Int) - 100)] W fun e w' => e = .returned (.float .f64 (ldx z.2 ((J : Int) - 100))) ∧ Below W.heap.size W w') := fun W => ldC hzf.b (by decide) (by decide) (k := J + 28) (by omega) (by omega) _ (by omega) W
              have D0 : Hid (Below wr.heap.size wr wr.drew) := (Below.refl _ _).drew
              have HGL := hid_o gbl
              clear hze hy hR hV hbel hzf
              go_wp2
              go_cut [19] (fun zv wc => zv = .complex .f64 (ldx z.1 ((J : Int) - 100)) (ldx z.2 ((J : Int) - 100)) ∧ Below wr.heap.size wr wc)
              case first =>
                go_region_held_law (fun W => W.cell? ⟨gb, i, none⟩ = some (.complex .f64 z.1 z.2))
                  (first | with_reducible exact SA.out _ HB4.out | with_reducible exact SA.out _ HB3.out | with_reducible exact SA.out _ D0.out)
                  (first
                  | (go_at_call 26; (with_reducible refine (HL1.out _).mono ?_); rintro e w3 ⟨rfl, hb⟩; (have HB3 := hid_o (bt D0.out hb)); clear hb)
                  | (go_at_call 26; (with_reducible refine (HL2.out _).mono ?_); rintro e w4 ⟨rfl, hb⟩; (have HB4 := hid_o (bt HB3.out hb)); clear hb))
                all_goals
                  go_wp2_with fail
                  go_meet
                  case rel => exact ⟨rfl, HB4.out⟩
              case rest =>
                obtain ⟨rfl, hbc⟩ := hcut
                have HBC := hid_o hbc
                have hown' := own_below hown hbc
                have hS := hbc.size
                have O1 := hid_o hown'
                clear HL1 HL2 D0 d1
                go_wp2_with (at_builtin; refine wpList_append_lies _ (by rfl) _ _ 24 (by rfl) (w6.heap.size + 1) 52 i0 (.complex .f64 0 0) 1 16 Try.underlying24 hi hz0 hz1 hz2 (by rfl) (by decide) (.slice F i c') i ((ro i fun i => shz ((J : Int) - 100) (whZ (zat (zs.take N) i))).map cx) (by rfl) (hown'.alloc _) ⟨_, 0, none⟩ 1 1 [.complex .f64 (ldx z.1 ((J : Int) - 100)) (ldx z.2 ((J : Int) - 100))] (by rfl) (by rfl) (fun j u hj => by match j, hj with | 0, hj => (simp at hj; subst hj; simp [Addr.add])) (fun u hu => by simp at hu; subst hu; rfl) (by decide) (by unfold maxLen; omega) (by omega) (by simp; omega) _ rfl ?_; intro g cap1 w8 hown1 hgrow hat hlt1; (have R8 := hid_o (show Below (w6.heap.size + 1) wr w8 from ((hbc.mono (by omega)).alloc (by omega) _).grown hgrow (by simp; omega) (fun j hj => own_ge hown' hj))))
                have hg6 : w6.heap.size + 1 ≤ g := by
                  rcases hat with e | e
                  · exact own_ge hown' e
                  · rw [e]; simp; omega
                have V8 := hid_o (HV.out.later R8.out (by omega))
                have R8d := hid_o (show Rw w8 w5.heap.size (.slice (some ⟨w5.heap.size, 0, none⟩) T2 T2) T2 (ro T2 y) from ⟨ro_len _ _, own_at HR.out.own (fun q hq => by cases hq; exact R8.out.block w5.heap.size (by omega))⟩)
                have O8 : Hid (w8.ownsRow (w6.heap.size + 1) 52 1 (.slice (some ⟨g, 0, none⟩) (i + 1) cap1) (i + 1) ((ro (i + 1) fun i => shz ((J : Int) - 100) (whZ (zat (zs.take N) i))).map cx)) := by
                  rw [ro_snoc]
                  refine push_own ?_
                  rw [← HZE.out]
                  exact hown1
                have hs8 : w6.heap.size < w8.heap.size := Nat.lt_of_lt_of_le hlt6 R8.out.size
                have B8 := hid_o (show Below w5.heap.size w5 w8 from HBL.out.trans (R8.out.mono (by omega)))
                obtain ⟨m, hm2⟩ : ∃ m, m = 2 * i := ⟨_, rfl⟩
                have hmI : 2 * (i : Int) = (m : Int) := by omega
                have hmT : m + 1 < T2 := by have := HT2.out; omega
                have HM2 := hid_o hm2
                have dz : w8.cell? ⟨gb, i, none⟩ = some (.complex .f64 z.1 z.2) := (R8.out.cell (p := ⟨gb, i, none⟩) (by have := hgb5.out; show gb < _; omega)).trans (SA.out wr (Below.refl _ _))
                have dc := V8.out.c2
                have dv := rw_cell R8d.out (j := m) (by omega)
                have df := R8d.out.own.frozenAt m
                unfold cx at dv
                have l5 : w5.heap.size < w8.heap.size := by omega
                have lgb : gb < w8.heap.size := by have := hgb5.out; omega
                clear hown1 hgrow hat hown hown' hbc hS hm2 hs8 hlt1
                go_cut [] (fun wc => Rw wc w5.heap.size (.slice (some ⟨w5.heap.size, 0, none⟩) T2 T2) T2 (ro T2 (upz y m z)) ∧ V3 w6.heap.size (.int .i64 N) (.int .i64 2) (.slice (some ⟨w5.heap.size, 0, none⟩) T2 T2) wc ∧ wc.ownsRow (w6.heap.size + 1) 52 1 (.slice (some ⟨g, 0, none⟩) (i + 1) cap1) (i + 1) ((ro (i + 1) fun i => shz ((J : Int) - 100) (whZ (zat (zs.take N) i))).map cx) ∧ Below w5.heap.size w5 wc)
                case first =>
                  go_region
                  all_goals
                    go_wp2_with fail
                    go_meet
                    case rel => exact ⟨rw_drew (rw_set R8d.out m z), v3_drew (V8.out.other (q := ⟨w5.heap.size, m, none⟩) (by show w5.heap.size ≠ w6.heap.size; omega) _), own_at O8.out (fun q hq => by cases hq; exact Below.heap_setCell _ _ _ _ (by show g ≠ w5.heap.size; omega)), (B8.out.setCell (p := ⟨w5.heap.size, m, none⟩) (Nat.le_refl _) _).drew⟩
                case rest =>
                  obtain ⟨hRc, hVc, hOc, hBc⟩ := hcut
                  have HRc := hid_o hRc
                  have HVc := hid_o hVc
                  have HOc := hid_o hOc
                  have HBc := hid_o hBc
                  have ec := hVc.c2
                  have ev := rw_cell hRc (j := m + 1) (by omega)
                  have ef := hRc.own.frozenAt (m + 1)
                  unfold cx at ev
                  have l5c : w5.heap.size < wc.heap.size := hRc.lt.2
                  have l6c : w6.heap.size < wc.heap.size := hVc.lt
                  clear hRc hVc hOc hBc dz dc dv df R8 V8 R8d O8 B8
                  go_wp2
                  go_roundw
                  case measure => first | (simp [intOf]; done) | (simp [intOf]; omega)
                  case rel =>
                    refine ⟨i + 1, cap1, some ⟨g, 0, none⟩, upz (upz y m z) (m + 1) (shz ((J : Int) - 100) z), by omega, by go_num, rfl, fun k hk => ?_, own_at HOc.out (fun q hq => by cases hq; exact Below.heap_setCell _ _ _ _ (by show g ≠ w5.heap.size; omega)), rw_set HRc.out (m + 1) (shz ((J : Int) - 100) z), HVc.out.other (q := ⟨w5.heap.size, m + 1, none⟩) (by show w5.heap.size ≠ w6.heap.size; omega) _, by simpa using l6c, HBc.out.setCell (p := ⟨w5.heap.size, m + 1, none⟩) (Nat.le_refl _) _⟩
                    have e0 := HM2.out
                    by_cases k1 : k = m + 1
                    · rw [k1, upz_self, e0, dd1, ← HZE.out]
                    · rw [upz_ne _ _ k1]
                      by_cases k2 : k = m
                      · rw [k2, upz_self, e0, dd0]; exact HZE.out
                      · rw [upz_ne _ _ k2]; exact HY.out k (by omega)
            · have e : i = N := by omega
              subst e
              have HF : Hid (Rw wr w5.heap.size (.slice (some ⟨w5.heap.size, 0, none⟩) T2 T2) T2 (ro T2 (dd (fun k => whZ (zat (zs.take i) k)) fun k => shz ((J : Int) - 100) (whZ (zat (zs.take i) k))))) := by rw [ro_congr (g := y) (fun k hk => (hy k (by have := HT2.out; omega)).symm)]; exact hR
              have HO := hid_o (rw_rc (b := w6.heap.size + 1) ⟨ro_len _ _, hown⟩)
              clear hy hR hV hbel hown
              go_wp2
              go_meet
              case rel => exact ⟨F, c', rfl, HO.out, HF.out, HV.out, HBL.out⟩
        case rest =>
          obtain ⟨F, c', rfl, hF, hD, hV, hB⟩ := hcut
          have HF := hid_o hF
          have HDD := hid_o hD.rc
          have HV := hid_o hV
          have HBL := hid_o hB
          have LC := hid_o (L5.out.below hB)
          have RB := hid_o (rw_rc (R5.out.below hB))
          clear hF hD hV hB R7 V7 B7 Z7 L5 R5 hz5
          go_upto_block 4 with (first
            | (go_at_call 27; (with_reducible refine (HS1.out _ _ _ _ LC.out RB.out).mono ?_); rintro e w8 ⟨SB, sd, rfl, hr, hb⟩; (have RS8 := hid_o hr); (have B8 := hid_o hb); clear hr hb)
            | (go_at_call 27; (with_reducible refine (HS2.out _ _ _ _ (LC.out.below B8.out) (HF.out.below B8.out)).mono ?_); rintro e w9 ⟨TB, td, rfl, hr, hb⟩; (have RT9 := hid_o hr); (have RS9 := hid_o (RS8.out.below hb)); (have B9 := hid_o (bt B8.out hb)); (have V9 := HV.out.below B9.out); (have k0 := V9.c0); (have k1 := V9.c1); (have k2 := V9.c2); (have kl := V9.lt); clear hr hb V9)
            | (go_at_call 28; (with_reducible refine (HMY.out _ _ _ _ (LC.out.below B9.out) (Nat.le_refl _) (.inr ⟨_, _, rfl⟩) (HDD.out.below B9.out)).mono ?_); rintro e w10 ⟨gC, rfl, hr, hb⟩; (have RC10 := hid_o hr); (have RT10 := hid_o (RT9.out.below hb)); (have RS10 := hid_o (RS9.out.below hb)); (have B10 := hid_o (bt B9.out hb)); (have VC := v3_new w10 (.int .i64 N) (.int .i64 2) (.slice (some ⟨gC, 0, none⟩) T2 T2) 26); (have j0 := VC.c0); (have j1 := VC.c1); (have j2 := VC.c2); (have jl := VC.lt); clear hr hb VC))
          obtain ⟨w11, hw11⟩ : ∃ w11, w11 = w10.alloc (.cells #[.int .i64 N, .int .i64 2, .slice (some ⟨gC, 0, none⟩) T2 T2] 26) := ⟨_, rfl⟩
          have V11 : Hid (V3 w10.heap.size (.int .i64 N) (.int .i64 2) (.slice (some ⟨gC, 0, none⟩) T2 T2) w11) := by rw [hw11]; exact v3_new _ _ _ _ _
          have RC11 : Hid (Rc w11 (some ⟨gC, 0, none⟩) (ro T2 (dd x fun i => shz ((J : Int) - 100) (x i)))) := by rw [hw11]; exact RC10.out.below (bal _ _)
          have RT11 : Hid (Rc w11 TB (ro N fun i => shz ((J : Int) - 100) (x i))) := by rw [hw11]; exact RT10.out.below (bal _ _)
          have RS11 : Hid (Rc w11 SB (ro N x)) := by rw [hw11]; exact RS10.out.below (bal _ _)
          have B11 : Hid (Below w.heap.size w w11) := by rw [hw11]; exact ba (bt (bt BW5.out HBL.out) B10.out) _
          rw [← hw11]
          clear hw11 RC10 RT10 RS10 B10 B9 B8 RS9 RS8 RT9 HS1 HS2 HMY LC RB HF HDD HV HBL k0 k1 k2 kl j0 j1 j2 jl BW5
          go_wp2_with fail
          go_loopw [26] (fun iv wr => ∃ i : Nat, i ≤ N ∧ iv = .int .i64 i ∧ Below w11.heap.size w11 wr) (fun iv _ => N - (intOf iv).toNat)
          case atStart => exact ⟨0, Nat.zero_le _, rfl, Below.refl _ _⟩
          case round =>
            obtain ⟨i, hin, rfl, hbel⟩ := hrel
            have HBE := hid_o hbel
            by_cases hlt : i < N
            · have hT := HT2.out
              have hxf := HXF.out i hlt
              have hsh := shz_fin hxf (J + 28) (by decide) (by decide) (by omega) (by omega)
              have ep : ((J + 28 : Nat) : Int) - 128 = (J : Int) - 100 := by omega
              rw [ep] at hsh
              obtain ⟨gs, os, rfl, ls, cs⟩ := (RS11.out.below hbel) i (by rw [ro_len]; exact hlt)
              obtain ⟨gt, ot, rfl, lt, ct⟩ := (RT11.out.below hbel) i (by rw [ro_len]; exact hlt)
              obtain ⟨gc, oc, hce, lc, cc0⟩ := (RC11.out.below hbel) (2 * i) (by rw [ro_len]; omega)
              injection hce with hce; injection hce with e1 e2 e3; subst e1; subst e2
              obtain ⟨gc, oc, hce, _, cc1⟩ := (RC11.out.below hbel) (2 * i + 1) (by rw [ro_len]; omega)
              injection hce with hce; injection hce with e1 e2 e3; subst e1; subst e2
              rw [ro_at _ hlt] at cs ct
              rw [ro_at _ (by omega), dd0, Nat.zero_add] at cc0
              rw [ro_at _ (by omega), dd1, Nat.zero_add] at cc1
              have cv := (V11.out.below hbel).c2
              have lv := (V11.out.below hbel).lt
              obtain ⟨q, hq⟩ : ∃ q, q = x i := ⟨_, rfl⟩
              rw [← hq] at hxf hsh cs ct cc0 cc1
              have HL1 : Hid (∀ W, Calls Try.prog 26 #[.float .f64 q.1, .int .i64 ((J : Int) - 100)] W fun e w' => e = .returned (.float .f64 (shz ((J : Int) - 100) q).1) ∧ Below W.heap.size W w') := fun W => ldC hxf.a (by decide) (by decide) (k := J + 28) (by omega) (by omega) _ (by omega) W
              have HL2 : Hid (∀ W, Calls Try.prog 26 #[.float .f64 q.2, .int .i64 ((J : Int) - 100)] W fun e w' => e = .returned (.float .f64 (shz ((J : Int) - 100) q).2) ∧ Below W.heap.size W w') := fun W => ldC hxf.b (by decide) (by decide) (k := J + 28) (by omega) (by omega) _ (by omega) W
              obtain ⟨r, hr⟩ : ∃ r, r = shz ((J : Int) - 100) q := ⟨_, rfl⟩
              rw [← hr] at HL1 HL2 hsh ct cc1
              obtain ⟨m, hm2⟩ : ∃ m, m = 2 * i := ⟨_, rfl⟩
              have hmI : 2 * (i : Int) = (m : Int) := by omega
              have hmT : m < T2 := by omega
              obtain ⟨m1, hm3⟩ : ∃ m1, m1 = m + 1 := ⟨_, rfl⟩
              have hmJ : (m : Int) + 1 = (m1 : Int) := by omega
              have hmT1 : m1 < T2 := by omega
              have hw1 : IntKind.i64.wrap (2 * (i : Int)) = (m : Int) := by rw [IntKind.wrap_i64]; omega
              have hw2 : IntKind.i64.wrap ((m : Int) + 1) = (m1 : Int) := by rw [IntKind.wrap_i64]; omega
              have hw3 : IntKind.i64.wrap (m : Int) = (m : Int) := by rw [IntKind.wrap_i64]; omega
              have hw4 : IntKind.i64.wrap (m1 : Int) = (m1 : Int) := by rw [IntKind.wrap_i64]; omega
              have hn0 : ¬ (m : Int) < 0 := by omega
              have hn1 : (m : Int) < (T2 : Int) := by omega
              have hn2 : ¬ (m1 : Int) < 0 := by omega
              have hn3 : (m1 : Int) < (T2 : Int) := by omega
              have hn4 : ¬ (T2 : Int) ≤ (m : Int) := by omega
              have hn5 : ¬ (T2 : Int) ≤ (m1 : Int) := by omega
              have hn6 : ¬ T2 ≤ m := by omega
              have hn7 : ¬ T2 ≤ m1 := by omega
              have lC : gC < wr.heap.size := lc
              rw [← hm2] at cc0 cc1
              rw [← hm3] at cc1
              unfold cx at cs ct cc0 cc1
              have SM1 : Hid (∀ W, Calls Try.prog 29 #[.complex .f64 q.1 q.2, .complex .f64 q.1 q.2] W fun e w' => e = .returned (.bool true) ∧ w' = W) := fun W => by
                have := same_any (a := q.1) (b := q.2) (c := q.1) (d := q.2) (w := W)
                rw [smB_self, smB_self] at this
                exact this
              have SM2 : Hid (∀ W, Calls Try.prog 29 #[.complex .f64 r.1 r.2, .complex .f64 r.1 r.2] W fun e w' => e = .returned (.bool true) ∧ w' = W) := fun W => by
                have := same_any (a := r.1) (b := r.2) (c := r.1) (d := r.2) (w := W)
                rw [smB_self, smB_self] at this
                exact this
              have SA : Hid (∀ W, Below wr.heap.size wr W → W.cell? ⟨gs, os + i, none⟩ = some (.complex .f64 q.1 q.2) ∧ W.cell? ⟨gt, ot + i, none⟩ = some (.complex .f64 r.1 r.2) ∧ W.cell? ⟨gC, m, none⟩ = some (.complex .f64 q.1 q.2) ∧ W.cell? ⟨gC, m1, none⟩ = some (.complex .f64 r.1 r.2) ∧ W.cell? ⟨w10.heap.size, 2, none⟩ = some (.slice (some ⟨gC, 0, none⟩) T2 T2)) := fun W hW => ⟨(hW.cell (p := ⟨gs, os + i, none⟩) ls).trans cs, (hW.cell (p := ⟨gt, ot + i, none⟩) lt).trans ct, (hW.cell (p := ⟨gC, m, none⟩) lc).trans cc0, (hW.cell (p := ⟨gC, m1, none⟩) lc).trans cc1, (hW.cell (p := ⟨w10.heap.size, 2, none⟩) lv).trans cv⟩
              have D0 : Hid (Below wr.heap.size wr wr.drew) := (Below.refl _ _).drew
              have q1 : eqB r.1 r.1 = true := eqB_val (fin_of (finZ_1 hsh.2)) (fin_of (finZ_1 hsh.2)) rfl
              have q2 : eqB r.2 r.2 = true := eqB_val (fin_of (finZ_2 hsh.2)) (fin_of (finZ_2 hsh.2)) rfl
              unfold eqB at q1 q2
              clear hT hxf hsh ep hq hr hm2 hm3 hbel ls lt lc lv
              go_wp2
              go_region_held_law (fun W => W.cell? ⟨gs, os + i, none⟩ = some (.complex .f64 q.1 q.2) ∧ W.cell? ⟨gt, ot + i, none⟩ = some (.complex .f64 r.1 r.2) ∧ W.cell? ⟨gC, m, none⟩ = some (.complex .f64 q.1 q.2) ∧ W.cell? ⟨gC, m1, none⟩ = some (.complex .f64 r.1 r.2) ∧ W.cell? ⟨w10.heap.size, 2, none⟩ = some (.slice (some ⟨gC, 0, none⟩) T2 T2))
                (first | with_reducible exact SA.out _ HB4.out | with_reducible exact SA.out _ HB3.out | with_reducible exact SA.out _ D0.out)
                (first
                | (go_at_call 26; (with_reducible refine (HL1.out _).mono ?_); rintro e w3 ⟨rfl, hb⟩; (have HB3 := hid_o (bt D0.out hb)); clear hb)
                | (go_at_call 26; (with_reducible refine (HL2.out _).mono ?_); rintro e w4 ⟨rfl, hb⟩; (have HB4 := hid_o (bt HB3.out hb)); clear hb)
                | (go_at_call 29; (with_reducible refine (SM1.out _).mono ?_); rintro e w' ⟨rfl, hw⟩; subst w')
                | (go_at_call 29; (with_reducible refine (SM2.out _).mono ?_); rintro e w' ⟨rfl, hw⟩; subst w'))
              all_goals
                rename_i hHeld
                clear hHeld
                go_wp2_with fail
                go_roundw
                case rel => exact ⟨i + 1, by omega, by go_num, bt HBE.out HB4.out⟩
                case measure => first | (simp [intOf]; done) | (simp [intOf]; omega)
            · clear RC11 RT11 RS11 V11 HXF
              go_wp2
              go_ret
              exact ⟨rfl, bt B11.out HBE.out⟩

end Go.Proofs.Ytklbgibhbnijaaa
