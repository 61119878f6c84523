/-
  SolveMeans' walk, where all is reckoned.
-/
import Derived.Test.YtpaljgbhladceaaSmo
import Derived.Test.YtpaljgbhladceaaWSM2
import Derived.Deep.RegionWith
import Derived.Deep.RegionHeldLaw
import Derived.Deep.DeepCutAuto
namespace Go.Proofs.Ytpaljgbhladceaa
open Fl RowKit

theorem div_zz {W : World} {x y : Cw} {X : Cn} (hx : repz X x) (hy : okz y) : Calls Try.prog 24 #[.complex .f64 x.1 x.2, .complex .f64 y.1 y.2] W fun e w' => ∃ (r : Cw) (n : Nat), e = .returned (.complex .f64 r.1 r.2) ∧ repz (divZ X (anz y)) r ∧ w' = W.drewN n := says_div x y X W hx hy
theorem keep_al {w : World} {o : Obj} {m : Nat} {a b : Addr} {v : Value} (u : Value) (h : a ≠ b) (hc : w.cell? b = some v) (hb : b.block < w.heap.size) : (((w.alloc o).drewN m).setCell a u).cell? b = some v := (other_cell _ h).trans (cell_al hc hb)
set_option maxRecDepth 20000 in
set_option maxHeartbeats 16000000 in
theorem means_main (a : Int) (j : Nat) (HPK : ∀ w, Calls Try.prog 13 #[.int .i64 a, .int .i64 17] w fun e w' => e = .returned (.int .i64 (j : Int)) ∧ w' = w) (N T : Nat) (S : Es) (ao bo : Option Addr) (cap n cb : Nat) (xs zs : List Cw) (w : World) (hn : xs.length = n) (hsz : n * 16 ≤ 140737488355328) (hc : Rz w ao xs) (hnb : zs.length = N) (hd : Rz w bo zs) (hz : okl zs) (hfz : finL zs N = true)
    (hN : N ≤ 64) (hT : T = N * N) (hS : Eok N S) (hin : inO N S.o)
    (SQ : ∀ (ao : Option Addr) (cap n : Nat) (xs : List Cw) (w : World), xs.length = n → n * 16 ≤ 140737488355328 → Rz w ao xs → Calls Try.prog 12 #[.int .i64 (j : Int), .slice ao n cap] w fun e w' => ∃ A c, e = .returned (.agg #[.int .i64 N, .int .i64 N, .slice A T c]) ∧ T ≤ c ∧ Rc w' A (ro T (zat xs)) ∧ Below w.heap.size w w')
    (O1 : ∀ (W : World) (A : Option Addr) (c : Nat), T ≤ c → Rc W A (ro T (zat xs)) → Calls Try.prog 11 #[.agg #[.int .i64 N, .int .i64 N, .slice A T c]] W fun e w' => ∃ p, e = .returned (.tuple #[.pointer (some ⟨p, 0, none⟩), .agg #[.int .i64 0, .int .i64 0]]) ∧ Lhd w' (.pointer (some ⟨p, 0, none⟩)) N S.M S.o S.s ∧ Below W.heap.size W w') :
    Calls Try.prog 4 #[.int .i64 a, .slice ao n cap, .slice bo N cb] w fun e w' => e = .returned (.bool true) ∧ Below w.heap.size w w' := by
  obtain ⟨i0, hi, hz0, hz1, hz2⟩ := info_parts Try.infoC
  have hsne : ¬ S.s = 0 := by rcases hS.pm with h | h <;> rw [h] <;> decide
  have hr0 : rfS N S.s N zs = 0 := by unfold rfS; rw [if_neg hsne, if_neg (by omega), if_pos hfz]
  obtain ⟨E1, hE1⟩ : ∃ E1, E1 = sE N S.s N zs (solK N S.M S.o zs) := ⟨_, rfl⟩
  have HE1 : Hid (E1 = if solK N S.M S.o zs = true then 0 else 6) := by show E1 = _; rw [hE1]; unfold sE; rw [if_pos hr0]
  have HCS : Hid (∀ (W : World) (v : Value) (A : Option Addr) (c : Nat), Lhd W v N S.M S.o S.s → Rc W A (ro N (zat zs)) → Calls Try.prog 14 #[v, .slice A N c] W fun e w' => ∃ A c y, e = .returned (.tuple #[.slice A (nS10 N E1) c, .int .i64 E1]) ∧ Rc w' A (ro (nS10 N E1) y) ∧ (∀ k, k < nS10 N E1 → repz (solX N S.M S.o zs k) (y k)) ∧ Below W.heap.size W w') := fun W v A c h1 h2 => solveC h1 hnb (by omega) hN (by rw [← ro_of hnb] at h2; exact h2) hz hS.ok hin E1 hE1
  have HSQ := hid_o SQ
  have HO1 := hid_o O1
  have HC := hid_o hc
  have HP := hid_o HPK
  have HDz := hid_o hd
  have HZ : Hid (∀ k, k < N → okz (zat zs k)) := fun k _ => hz k
  have HZl := hid_o hz
  have HFZ := hid_o hfz
  have HOK := hid_o hS.ok
  have HIN := hid_o hin
  have hsb : zs.length * 16 ≤ 140737488355328 := by omega
  have HT := hid_o hT
  have h4 : T ≤ 4096 := by rw [hT]; exact le_4096 hN hN
  have HFN : Hid (∀ (A : Option Addr) (c : Nat) (W : World), Rc W A (ro N (zat zs)) → Calls Try.prog 16 #[.slice A N c] W fun e w' => ∃ n, e = .returned (.bool true) ∧ w' = W.drewN n) := fun A c W h => by
    rw [← ro_of hnb] at h
    have := kfinL_any A c zs W hsb h
    rw [hnb, hfz] at this
    exact this
  clear SQ O1 hc HPK hd hz hfz hE1 hS hin hT hsne hr0
  go_enter Try.func4, Try.ntmps4
  go_wp2_with (first
    | (go_at_call 9; (with_reducible refine (awake10 _).mono ?_); rintro e w0 ⟨rfl, hb⟩; (have B0 := hid_o hb); clear hb)
    | (go_at_call 13; (with_reducible refine (HP.out _).mono ?_); rintro e w' ⟨rfl, rfl⟩)
    | (go_at_call 12; (refine (HSQ.out _ _ _ _ _ hn hsz (HC.out.below B0.out)).mono ?_); rintro e w1 ⟨A, c, rfl, hcap, hR, hb⟩; (have R1 := hid_o hR); (have B1 := hid_o (bt B0.out hb)); clear hR hb)
    | (go_at_call 11; (refine (HO1.out _ _ _ hcap R1.out).mono ?_); rintro e w2 ⟨px, rfl, hLx, hb⟩; (have X2 := hid_o (hLx.below (bal _ (.cells #[.int .i64 0, .int .i64 0] 35)))); (have B2 := hid_o (ba (bt B1.out hb) (.cells #[.int .i64 0, .int .i64 0] 35))); clear hb R1 B1 hLx)
    | (go_at_call 8; (with_reducible refine (nums_any _ _ _ zs _ hnb hsb (HDz.out.below B2.out)).mono ?_); rintro e w5 ⟨AV, cV, rfl, hr, hb⟩; (have RV := hid_o hr); (have X5 := hid_o (X2.out.below hb)); (have B5 := hid_o (bt B2.out hb)); clear hb hr X2 B2)
    | (go_at_call 14; (with_reducible refine (HCS.out _ _ _ _ X5.out RV.out).mono ?_); rintro e w6 ⟨As, cs, ys, rfl, hR, hy, hb⟩; (have RS := hid_o hR); (have YS := hid_o hy); (replace RV := hid_o (RV.out.below hb)); (have X6 := hid_o (X5.out.below hb)); (have B6 := hid_o (bt B5.out hb)); clear hb hR hy X5 B5)
    | (go_at_call 15; (with_reducible refine (lh_size X6.out).mono ?_); rintro e w7 ⟨rfl, hb⟩; (replace RV := hid_o (RV.out.below hb)); (replace RS := hid_o (RS.out.below hb)); (have X7 := hid_o (X6.out.below hb)); (have B7 := hid_o (bt B6.out hb)); clear hb X6 B6)
    | (go_at_call 16; (with_reducible refine (HFN.out _ _ _ RV.out).mono ?_); rintro e w8 ⟨m8, rfl, hw⟩; subst w8; (replace RV := hid_o (RV.out.drewN m8)); (replace RS := hid_o (RS.out.drewN m8)); (have X8 := hid_o (X7.out.below (below_drewN (Below.refl _ _) m8))); (have B8 := hid_o (below_drewN B7.out m8)); clear X7 B7)
    | (go_at_call 17; (with_reducible refine (hlT X8.out hN HT.out).mono ?_); rintro e w9 ⟨g9, rfl, hR, hb⟩; (have RL := hid_o hR); (replace RV := hid_o (RV.out.below hb)); (replace RS := hid_o (RS.out.below hb)); (have X9 := hid_o (X8.out.below hb)); (have B9 := hid_o (bt B8.out hb)); clear hb hR X8 B8)
    | (go_at_call 18; (with_reducible refine (huT X9.out hN HT.out).mono ?_); rintro e w10 ⟨g10, rfl, hR, hb⟩; (have RU := hid_o hR); (replace RL := hid_o (RL.out.below hb)); (replace RV := hid_o (RV.out.below hb)); (replace RS := hid_o (RS.out.below hb)); (have X10 := hid_o (X9.out.below hb)); (have B10 := hid_o (bt B9.out hb)); clear hb hR X9 B9)
    | (go_at_call 19; (with_reducible refine (lh_order X10.out hN).mono ?_); rintro e w11 ⟨g11, rfl, hO, hb⟩; (have RO := hid_o hO.qi); (replace RU := hid_o (RU.out.below hb)); (replace RL := hid_o (RL.out.below hb)); (replace RV := hid_o (RV.out.below hb)); (replace RS := hid_o (RS.out.below hb)); (have B11 := hid_o (bt B10.out hb)); clear hb hO X10 B10)
    | (at_make; refine wpList_make_full _ rfl _ _ 23 rfl _ 48 i0 (.complex .f64 0 0) 1 Try.underlying23 hi hz0 hz1 _ _ _ _ N rfl rfl rfl rfl (by rw [hz2]; omega) (by unfold maxLen; omega) (Nat.le_refl _) ?_; intro w12 hown hgrow))
  obtain ⟨wb, hwb⟩ : ∃ wb, wb = (w11.alloc (Obj.cells #[Value.int IntKind.i64 ↑N, Value.int IntKind.i64 ↑N, Value.slice (some ⟨g9, 0, none⟩) T T] 39)).alloc (Obj.cells #[Value.int IntKind.i64 ↑N, Value.int IntKind.i64 ↑N, Value.slice (some ⟨g10, 0, none⟩) T T] 39) := ⟨_, rfl⟩
  have hs2 : wb.heap.size = w11.heap.size + 1 + 1 := by rw [hwb]; simp
  have VD : Hid (V3 w11.heap.size (.int .i64 N) (.int .i64 N) (.slice (some ⟨g9, 0, none⟩) T T) wb) := by rw [hwb]; exact (v3_new w11 _ _ _ _).below (bal _ _)
  have VU : Hid (V3 (w11.heap.size + 1) (.int .i64 N) (.int .i64 N) (.slice (some ⟨g10, 0, none⟩) T T) wb) := by rw [hwb]; exact v3_at _ _ _ _ _ (by simp)
  have Bb : Hid (Below w11.heap.size w11 wb) := by rw [hwb]; exact (bal _ _).trans ((bal _ _).mono (by simp))
  rw [← hwb] at hown hgrow
  have hB12 : Below wb.heap.size wb w12 := (Below.refl _ _).grown hgrow (Nat.le_refl _) (by intro k hk; simp at hk)
  rw [made_zeroC, ro_zero] at hown
  have RW0 : Hid (Rw w12 wb.heap.size (.slice (some ⟨wb.heap.size, 0, none⟩) N N) N (ro N (fun _ => (0, 0)))) := ⟨ro_len _ _, hown⟩
  have HB12 := hid_o hB12
  have HRO := hid_o (RO.out.below Bb.out)
  have HRU := hid_o (RU.out.below Bb.out)
  have HRL := hid_o (RL.out.below Bb.out)
  have HRV := hid_o (RV.out.below Bb.out)
  have HRS := hid_o (RS.out.below Bb.out)
  have HBb := hid_o (bt B11.out Bb.out)
  obtain ⟨gv, hgv⟩ : ∃ gv, gv = wb.heap.size := ⟨_, rfl⟩
  have hgv2 : w11.heap.size + 1 + 1 = gv := by omega
  rw [hgv2]
  rw [← hgv] at RW0 HB12
  have HGV := hid_o hgv
  have HGV2 := hid_o hgv2
  clear hown hgrow hB12 hwb hs2 RO RU RL RV RS B11 Bb hgv hgv2 HCS HSQ HO1 HP HDz HFN
  obtain ⟨c, hcd⟩ : ∃ c : Nat → Cn, c = fun i => anz (zat zs (S.o i)) := ⟨_, rfl⟩
  have HCD := hid_o hcd
  clear hcd
  go_loopw [18, 19] (fun fv iv wr => ∃ (i : Nat) (v : Nat → Cw), i ≤ N ∧ iv = .int .i64 i ∧ fv = .bool (finS (fwS (mzL S.M) fstZ c i) i) ∧ (∀ j, j < i → repz (fwS (mzL S.M) fstZ c i j) (v j)) ∧ Rw wr gv (.slice (some ⟨gv, 0, none⟩) N N) N (ro N v) ∧ Below gv wb wr) (fun _ iv _ => N - (intOf iv).toNat)
  case atStart => exact ⟨0, _, Nat.zero_le _, rfl, rfl, fun j hj => absurd hj (by omega), RW0.out, HB12.out⟩
  case round =>
    clear RW0 HB12
    obtain ⟨i, v, hiN, rfl, rfl, hv, hrw, hbel⟩ := hrel
    have hwbr : wb.heap.size ≤ wr.heap.size := hbel.size
    by_cases hlt : i < N
    · have HBW : Hid (Below wb.heap.size wb wr) := by rw [← HGV.out]; exact hbel
      obtain ⟨b1, o1, e1, hb1, hc1⟩ := (HRO.out.below HBW.out) i (by rw [ri_len]; exact hlt)
      cases e1
      have hoi := HIN.out.1 i hlt
      rw [ri_at _ hlt, Nat.zero_add] at hc1
      obtain ⟨b2, o2, rfl, hb2, hc2⟩ := (HRV.out.below HBW.out) (S.o i) (by rw [ro_len]; exact hoi)
      rw [ro_at _ hoi] at hc2
      obtain ⟨r, hr⟩ : ∃ r, r = S.o i := ⟨_, rfl⟩
      have HR : Hid (c i = anz (zat zs r)) := by show _ = _; rw [HCD.out, hr]
      rw [← hr] at hc1 hc2 hoi
      obtain ⟨x, hx⟩ : ∃ x, x = zat zs r := ⟨_, rfl⟩
      have HXo : Hid (okz x) := by rw [hx]; exact HZ.out r hoi
      have HXf : Hid (finN (c i) = true) := by
        show _ = _
        rw [HR.out, ← fin_repz (repz_anz (HZ.out r hoi))]
        exact finL_iff.1 HFZ.out r hoi
      rw [← hx] at hc2 HR
      have d1 := rw_cell hrw hlt
      have fz := hrw.own.frozenAt i
      have gl := hrw.lt.2
      have HV := hid_o hv
      have HRW := hid_o hrw
      have HBE := hid_o hbel
      unfold cx at hc2 d1
      clear hr hx hv hrw hbel HBW hwbr
      go_wp2
      go_loopw [18, 20] (fun fv kv wr => ∃ (k : Nat) (v : Nat → Cw), k ≤ i ∧ kv = .int .i64 k ∧ fv = .bool (redF (c i) (mzL S.M i) (fwS (mzL S.M) fstZ c i) (finS (fwS (mzL S.M) fstZ c i) i) k) ∧ (∀ j, j < i → repz (fwS (mzL S.M) fstZ c i j) (v j)) ∧ repz (redS (c i) (mzL S.M i) (fwS (mzL S.M) fstZ c i) k) (v i) ∧ Rw wr gv (.slice (some ⟨gv, 0, none⟩) N N) N (ro N v) ∧ Below gv wb wr) (fun _ kv _ => i - (intOf kv).toNat)
      case atStart => exact ⟨0, upz v i x, Nat.zero_le _, rfl, rfl, fun j hj => by rw [upz_ne _ _ (by omega)]; exact HV.out j hj, by rw [upz_self, HR.out]; exact repz_anz HXo.out, rw_set HRW.out i x, HBE.out.setCell (p := ⟨gv, i, none⟩) (Nat.le_refl _) _⟩
      case round =>
        clear hc1 hc2 d1 fz gl HV HRW HBE HR HXo
        obtain ⟨k, v, hki, rfl, rfl, hv, hvi, hrw, hbel⟩ := hrel
        by_cases hkl : k < i
        · have HBW : Hid (Below wb.heap.size wb wr) := by rw [← HGV.out]; exact hbel
          have hkN : k < N := by omega
          have HAT := hid_o (fun (W : World) (hW : Below wb.heap.size wb W) => at10_any hN HT.out (HRL.out.below hW) hlt hkN)
          have HXL : Hid (mzL S.M i k = anz (flw N (lE S.M) (i * N + k))) := by show _ = _; rw [flw_at hkN]; rfl
          have HXo : Hid (okz (flw N (lE S.M) (i * N + k))) := flL_ok HOK.out _ (place_lt hlt hkN)
          obtain ⟨x, hx⟩ : ∃ x, x = flw N (lE S.M) (i * N + k) := ⟨_, rfl⟩
          rw [← hx] at HAT HXL HXo
          have d1 := rw_cell hrw hlt
          have d2 := rw_cell hrw hkN
          have fz := hrw.own.frozenAt i
          have gl := hrw.lt.2
          obtain ⟨v0, v1, v2, v3, _, _, _⟩ := VD.out.below HBW.out
          have HVI := hid_o hvi
          have HVK := hid_o (hv k hkl)
          have HV := hid_o hv
          have HRW := hid_o hrw
          have HBE := hid_o hbel
          obtain ⟨y, hy⟩ : ∃ y, y = v i := ⟨_, rfl⟩
          obtain ⟨z, hz'⟩ : ∃ z, z = v k := ⟨_, rfl⟩
          rw [← hy] at d1 HVI
          rw [← hz'] at d2 HVK
          unfold cx at d1 d2
          have hne : gv ≠ w11.heap.size := by have := HGV2.out; omega
          obtain ⟨F, hF⟩ : ∃ F, F = redF (c i) (mzL S.M i) (fwS (mzL S.M) fstZ c i) (finS (fwS (mzL S.M) fstZ c i) i) k := ⟨_, rfl⟩
          have HF := hid_o hF
          rw [← hF]
          clear hF hx hy hz' hv hvi hrw hbel
          have nk : (⟨gv, i, none⟩ : Addr) ≠ ⟨gv, k, none⟩ := fun e => by injection e with _ e2 _; omega
          have n0 : (⟨gv, i, none⟩ : Addr) ≠ ⟨w11.heap.size, 0, none⟩ := fun e => by injection e with e2 _ _; exact hne e2
          have n1 : (⟨gv, i, none⟩ : Addr) ≠ ⟨w11.heap.size, 1, none⟩ := fun e => by injection e with e2 _ _; exact hne e2
          have n2 : (⟨gv, i, none⟩ : Addr) ≠ ⟨w11.heap.size, 2, none⟩ := fun e => by injection e with e2 _ _; exact hne e2
          go_wp2
          go_cut [] (fun wc => ∃ (q : Cw) (m : Nat), repz (subZ (redS (c i) (mzL S.M i) (fwS (mzL S.M) fstZ c i) k) (mulZ (anz x) (fwS (mzL S.M) fstZ c i k))) q ∧ wc = ((wr.alloc (.cells #[.int .i64 N, .int .i64 N, .slice (some ⟨g9, 0, none⟩) T T] 39)).drewN m).setCell ⟨gv, i, none⟩ (.complex .f64 q.1 q.2))
          case first =>
            go_region_with (first
            | (go_at_call 22; (with_reducible refine (HAT.out _ (HBW.out.drew)).mono ?_); rintro e w' ⟨rfl, rfl⟩)
            | (go_at_call 21; (with_reducible refine (mul_zz (repz_anz HXo.out) HVK.out).mono ?_); rintro e w' ⟨p, m1, rfl, hp, rfl⟩; have HPp := hid_o hp; clear hp)
            | (go_at_call 20; (with_reducible refine (sub_zz HVI.out HPp.out).mono ?_); rintro e w' ⟨q, m2, rfl, hq, rfl⟩; have HQ := hid_o hq; clear hq))
            all_goals
              go_wp2_with fail
              go_meet
              case rel => exact ⟨q, _, HQ.out, rfl⟩
          case rest =>
            obtain ⟨q, m, hq, rfl⟩ := hcut
            have HQ := hid_o hq
            clear hq
            have R2 := rw_set ((HRW.out.below (bal wr (.cells #[.int .i64 N, .int .i64 N, .slice (some ⟨g9, 0, none⟩) T T] 39))).drewN m) i q
            have d3 := rw_cell R2 hlt
            rw [upz_self] at d3
            unfold cx at d3
            have HR2 := hid_o R2
            have HB2 := hid_o ((below_drewN (HBE.out.alloc (Nat.le_of_lt gl) (.cells #[.int .i64 N, .int .i64 N, .slice (some ⟨g9, 0, none⟩) T T] 39)) m).setCell (p := ⟨gv, i, none⟩) (Nat.le_refl _) (.complex .f64 q.1 q.2))
            have HQ2 : Hid (repz (redS (c i) (mzL S.M i) (fwS (mzL S.M) fstZ c i) (k + 1)) q) := by
              show repz (subZ _ (mulZ _ _)) q
              rw [HXL.out]
              exact HQ.out
            have HFQ := hid_o (fin_repz HQ2.out)
            have hqo := HQ2.out.ok
            clear R2 d1 d2
            cases F
            · go_wp2
              go_roundw
              case measure => first | (simp [intOf]; done) | (simp [intOf]; omega)
              case rel => exact ⟨k + 1, upz v i q, by omega, by go_num, by show Value.bool false = Value.bool (redF _ _ _ _ k && _); rw [← HF.out]; rfl, fun j hj => by rw [upz_ne _ _ (by omega)]; exact HV.out j hj, by rw [upz_self]; exact HQ2.out, HR2.out, HB2.out⟩
            · go_wp2_with (go_at_call 23; (with_reducible refine (fin_walk hqo).mono ?_); rintro e w' ⟨rfl, rfl⟩)
              go_roundw
              case measure => first | (simp [intOf]; done) | (simp [intOf]; omega)
              case rel => exact ⟨k + 1, upz v i q, by omega, by go_num, by show Value.bool (finZ q) = Value.bool (redF _ _ _ _ k && _); rw [← HF.out, HFQ.out]; rfl, fun j hj => by rw [upz_ne _ _ (by omega)]; exact HV.out j hj, by rw [upz_self]; exact HQ2.out, HR2.out, HB2.out⟩
        · have e : k = i := by omega
          subst e
          have HV := hid_o hv
          have HVI := hid_o hvi
          have HRW := hid_o hrw
          have HBE := hid_o hbel
          have HFL := hid_o (fl_next (m := mzL S.M) HXf.out)
          clear hv hvi hrw hbel
          go_wp2
          go_roundw
          case measure => first | (simp [intOf]; done) | (simp [intOf]; omega)
          case rel =>
            refine ⟨k + 1, v, by omega, by go_num, by rw [HFL.out], fun j hj => ?_, HRW.out, HBE.out⟩
            by_cases e : j = k
            · rw [e, fwS_new]; exact HVI.out
            · rw [fwS_suc (by omega)]; exact HV.out j (by omega)
    · have e : i = N := by omega
      subst e
      have HYS : Hid (∀ j, j < i → repz (frw i (mzL S.M) c j) (v j)) := hv
      have HRW := hid_o hrw
      have HBE := hid_o hbel
      obtain ⟨F0, hF0⟩ : ∃ F0, F0 = finS (fwS (mzL S.M) fstZ c i) i := ⟨_, rfl⟩
      have HF0 : Hid (F0 = finS (frw i (mzL S.M) c) i) := hF0
      rw [← hF0]
      obtain ⟨y, hy⟩ : ∃ y : Nat → Cn, y = frw i (mzL S.M) c := ⟨_, rfl⟩
      have HY := hid_o hy
      rw [← hy] at HYS HF0
      clear hv hrw hbel hF0 hy hlt hwbr HRO HRL HRV VD HFZ HZ HZl
      go_wp2
      go_loopw [18, 21] (fun fv iv wr => ∃ (t : Nat) (v : Nat → Cw), t ≤ i ∧ iv = .int .i64 ((i : Int) - 1 - t) ∧ fv = .bool (finS y i && gT (bwS i (mzU S.M) divZ y t) i t) ∧ (∀ j, j < i → repz (bwS i (mzU S.M) divZ y t j) (v j)) ∧ Rw wr gv (.slice (some ⟨gv, 0, none⟩) i i) i (ro i v) ∧ Below gv wb wr) (fun _ iv _ => (intOf iv + 1).toNat)
      case atStart => exact ⟨0, v, Nat.zero_le _, congrArg (Value.int IntKind.i64) (by simp), by rw [HF0.out]; show _ = Value.bool (_ && true); rw [Bool.and_true], HYS.out, HRW.out, HBE.out⟩
      case round =>
        clear HYS HRW HBE
        obtain ⟨t, v, hti, hiv, rfl, hv, hrw, hbel⟩ := hrel
        by_cases hlt : t < i
        · obtain ⟨r, hr⟩ : ∃ r : Nat, r + 1 + t = i := ⟨i - 1 - t, by omega⟩
          have hri : r < i := by omega
          have hit : (i : Int) - 1 - t = (r : Int) := by omega
          rw [hit] at hiv
          subst hiv
          have HBR : Hid (repz (y r) (v r)) := by have := hv r hri; rw [bwS_le t (by omega) r (by omega)] at this; exact this
          have HV := hid_o hv
          have HRW := hid_o hrw
          have HBE := hid_o hbel
          have HRT := hid_o hr
          obtain ⟨F, hF⟩ : ∃ F, F = (finS y i && gT (bwS i (mzU S.M) divZ y t) i t) := ⟨_, rfl⟩
          have HF := hid_o hF
          rw [← hF]
          clear hv hrw hbel hF hit
          go_wp2
          go_loopw [18, 22] (fun fv kv wr => ∃ (s : Nat) (v : Nat → Cw), s ≤ t ∧ kv = .int .i64 ((r + 1 + s : Nat) : Int) ∧ fv = .bool (redF (y r) (fun k => mzU S.M r (r + 1 + k)) (fun k => bwS i (mzU S.M) divZ y t (r + 1 + k)) F s) ∧ (∀ j, j < i → j ≠ r → repz (bwS i (mzU S.M) divZ y t j) (v j)) ∧ repz (redS (y r) (fun k => mzU S.M r (r + 1 + k)) (fun k => bwS i (mzU S.M) divZ y t (r + 1 + k)) s) (v r) ∧ Rw wr gv (.slice (some ⟨gv, 0, none⟩) i i) i (ro i v) ∧ Below gv wb wr) (fun _ kv _ => i - (intOf kv).toNat)
          case atStart => exact ⟨0, v, Nat.zero_le _, by go_num, rfl, fun j hj _ => HV.out j hj, HBR.out, HRW.out, HBE.out⟩
          case round =>
            clear HV HRW HBE HBR
            obtain ⟨s, v, hst, rfl, rfl, hv, hvi, hrw, hbel⟩ := hrel
            by_cases hkl : s < t
            · have HBW : Hid (Below wb.heap.size wb wr) := by rw [← HGV.out]; exact hbel
              obtain ⟨k, hk⟩ : ∃ k, k = r + 1 + s := ⟨_, rfl⟩
              have hkN : k < i := by omega
              have hkr : k ≠ r := by omega
              have HAT := hid_o (fun (W : World) (hW : Below wb.heap.size wb W) => at10_any hN HT.out (HRU.out.below hW) hri hkN)
              have HXL : Hid (mzU S.M r (r + 1 + s) = anz (flw i (uE S.M) (r * i + k))) := by show _ = _; rw [flw_at hkN, hk]; rfl
              have HXo : Hid (okz (flw i (uE S.M) (r * i + k))) := flU_ok HOK.out _ (place_lt hri hkN)
              obtain ⟨x, hx⟩ : ∃ x, x = flw i (uE S.M) (r * i + k) := ⟨_, rfl⟩
              rw [← hx] at HAT HXL HXo
              have d1 := rw_cell hrw hri
              have d2 := rw_cell hrw hkN
              have fz := hrw.own.frozenAt r
              have gl := hrw.lt.2
              obtain ⟨v0, v1, v2, v3, _, _, _⟩ := VU.out.below HBW.out
              have HVI := hid_o hvi
              have HVK : Hid (repz (bwS i (mzU S.M) divZ y t (r + 1 + s)) (v k)) := by rw [hk]; exact hv _ (by omega) (by omega)
              have HV := hid_o hv
              have HRW := hid_o hrw
              have HBE := hid_o hbel
              obtain ⟨yy, hy⟩ : ∃ yy, yy = v r := ⟨_, rfl⟩
              obtain ⟨z, hz'⟩ : ∃ z, z = v k := ⟨_, rfl⟩
              rw [← hy] at d1 HVI
              rw [← hz'] at d2 HVK
              unfold cx at d1 d2
              have hne : gv ≠ w11.heap.size + 1 := by have := HGV2.out; omega
              obtain ⟨F1, hF1⟩ : ∃ F1, F1 = redF (y r) (fun k => mzU S.M r (r + 1 + k)) (fun k => bwS i (mzU S.M) divZ y t (r + 1 + k)) F s := ⟨_, rfl⟩
              have HF1 := hid_o hF1
              have HK := hid_o hk
              have HS := hid_o hkl
              rw [← hF1, ← hk]
              clear hF1 hx hy hz' hv hvi hrw hbel hk hkl hst hr
              have nk : (⟨gv, r, none⟩ : Addr) ≠ ⟨gv, k, none⟩ := fun e => by injection e with _ e2 _; omega
              have n0 : (⟨gv, r, none⟩ : Addr) ≠ ⟨w11.heap.size + 1, 0, none⟩ := fun e => by injection e with e2 _ _; exact hne e2
              have n1 : (⟨gv, r, none⟩ : Addr) ≠ ⟨w11.heap.size + 1, 1, none⟩ := fun e => by injection e with e2 _ _; exact hne e2
              have n2 : (⟨gv, r, none⟩ : Addr) ≠ ⟨w11.heap.size + 1, 2, none⟩ := fun e => by injection e with e2 _ _; exact hne e2
              go_wp2
              go_cut [] (fun wc => ∃ (q : Cw) (m : Nat), repz (subZ (redS (y r) (fun k => mzU S.M r (r + 1 + k)) (fun k => bwS i (mzU S.M) divZ y t (r + 1 + k)) s) (mulZ (anz x) (bwS i (mzU S.M) divZ y t (r + 1 + s)))) q ∧ wc = ((wr.alloc (.cells #[.int .i64 i, .int .i64 i, .slice (some ⟨g10, 0, none⟩) T T] 39)).drewN m).setCell ⟨gv, r, none⟩ (.complex .f64 q.1 q.2))
              case first =>
                go_region_with (first
                | (go_at_call 22; (with_reducible refine (HAT.out _ (HBW.out.drew)).mono ?_); rintro e w' ⟨rfl, rfl⟩)
                | (go_at_call 21; (with_reducible refine (mul_zz (repz_anz HXo.out) HVK.out).mono ?_); rintro e w' ⟨p, m1, rfl, hp, rfl⟩; have HPp := hid_o hp; clear hp)
                | (go_at_call 20; (with_reducible refine (sub_zz HVI.out HPp.out).mono ?_); rintro e w' ⟨q, m2, rfl, hq, rfl⟩; have HQ := hid_o hq; clear hq))
                all_goals
                  go_wp2_with fail
                  go_meet
                  case rel => exact ⟨q, _, HQ.out, rfl⟩
              case rest =>
                obtain ⟨q, m, hq, rfl⟩ := hcut
                have HQ := hid_o hq
                clear hq
                have R2 := rw_set ((HRW.out.below (bal wr (.cells #[.int .i64 i, .int .i64 i, .slice (some ⟨g10, 0, none⟩) T T] 39))).drewN m) r q
                have d3 := rw_cell R2 hri
                rw [upz_self] at d3
                unfold cx at d3
                have HR2 := hid_o R2
                have HB2 := hid_o ((below_drewN (HBE.out.alloc (Nat.le_of_lt gl) (.cells #[.int .i64 i, .int .i64 i, .slice (some ⟨g10, 0, none⟩) T T] 39)) m).setCell (p := ⟨gv, r, none⟩) (Nat.le_refl _) (.complex .f64 q.1 q.2))
                have HQ2 : Hid (repz (redS (y r) (fun k => mzU S.M r (r + 1 + k)) (fun k => bwS i (mzU S.M) divZ y t (r + 1 + k)) (s + 1)) q) := by
                  show repz (subZ _ (mulZ (mzU S.M r (r + 1 + s)) _)) q
                  rw [HXL.out]
                  exact HQ.out
                have HFQ := hid_o (fin_repz HQ2.out)
                have hqo := HQ2.out.ok
                clear R2 d1 d2
                cases F1
                · go_wp2
                  go_roundw
                  case measure => first | (simp [intOf]; done) | (simp [intOf]; omega)
                  case rel => exact ⟨s + 1, upz v r q, by have := HS.out; omega, by have := HK.out; go_num, by show Value.bool false = Value.bool (redF _ _ _ _ s && _); rw [← HF1.out]; rfl, fun j hj hjr => by rw [upz_ne _ _ hjr]; exact HV.out j hj hjr, by rw [upz_self]; exact HQ2.out, HR2.out, HB2.out⟩
                · go_wp2_with (go_at_call 23; (with_reducible refine (fin_walk hqo).mono ?_); rintro e w' ⟨rfl, rfl⟩)
                  go_roundw
                  case measure => first | (simp [intOf]; done) | (simp [intOf]; omega)
                  case rel => exact ⟨s + 1, upz v r q, by have := HS.out; omega, by have := HK.out; go_num, by show Value.bool (finZ q) = Value.bool (redF _ _ _ _ s && _); rw [← HF1.out, HFQ.out]; rfl, fun j hj hjr => by rw [upz_ne _ _ hjr]; exact HV.out j hj hjr, by rw [upz_self]; exact HQ2.out, HR2.out, HB2.out⟩
            · have e : s = t := by omega
              subst e
              have HBW : Hid (Below wb.heap.size wb wr) := by rw [← HGV.out]; exact hbel
              have HAT := hid_o (fun (W : World) (hW : Below wb.heap.size wb W) => at10_any hN HT.out (HRU.out.below hW) hri hri)
              have HXL : Hid (mzU S.M r r = anz (flw i (uE S.M) (r * i + r))) := by show _ = _; rw [flw_at hri]; rfl
              have HXo : Hid (okz (flw i (uE S.M) (r * i + r))) := flU_ok HOK.out _ (place_lt hri hri)
              obtain ⟨x, hx⟩ : ∃ x, x = flw i (uE S.M) (r * i + r) := ⟨_, rfl⟩
              rw [← hx] at HAT HXL HXo
              have d1 := rw_cell hrw hri
              have fz := hrw.own.frozenAt r
              have gl := hrw.lt.2
              obtain ⟨v0, v1, v2, v3, _, _, _⟩ := VU.out.below HBW.out
              have HVI := hid_o hvi
              have HV := hid_o hv
              have HRW := hid_o hrw
              have HBE := hid_o hbel
              obtain ⟨yy, hy⟩ : ∃ yy, yy = v r := ⟨_, rfl⟩
              rw [← hy] at d1 HVI
              unfold cx at d1
              have hne : gv ≠ w11.heap.size + 1 := by have := HGV2.out; omega
              obtain ⟨F1, hF1⟩ : ∃ F1, F1 = redF (y r) (fun k => mzU S.M r (r + 1 + k)) (fun k => bwS i (mzU S.M) divZ y s (r + 1 + k)) F s := ⟨_, rfl⟩
              have HF1 := hid_o hF1
              have HBL := hid_o (bl_next (m := mzU S.M) (f := y) HRT.out)
              rw [← hF1, hr]
              clear hF1 hx hy hv hvi hrw hbel hkl hst hr
              go_wp2
              go_cut [] (fun wc => ∃ (q : Cw) (m : Nat), repz (divZ (redS (y r) (fun k => mzU S.M r (r + 1 + k)) (fun k => bwS i (mzU S.M) divZ y s (r + 1 + k)) s) (anz x)) q ∧ wc = ((wr.alloc (.cells #[.int .i64 i, .int .i64 i, .slice (some ⟨g10, 0, none⟩) T T] 39)).drewN m).setCell ⟨gv, r, none⟩ (.complex .f64 q.1 q.2))
              case first =>
                go_region_with (first
                | (go_at_call 22; (with_reducible refine (HAT.out _ (HBW.out.drew)).mono ?_); rintro e w' ⟨rfl, rfl⟩)
                | (go_at_call 24; (with_reducible refine (div_zz HVI.out HXo.out).mono ?_); rintro e w' ⟨q, m1, rfl, hq, rfl⟩; have HQ := hid_o hq; clear hq))
                all_goals
                  go_wp2_with fail
                  go_meet
                  case rel => exact ⟨q, _, HQ.out, rfl⟩
              case rest =>
                obtain ⟨q, m, hq, rfl⟩ := hcut
                have HQ := hid_o hq
                clear hq
                have R2 := rw_set ((HRW.out.below (bal wr (.cells #[.int .i64 i, .int .i64 i, .slice (some ⟨g10, 0, none⟩) T T] 39))).drewN m) r q
                have d3 := rw_cell R2 hri
                rw [upz_self] at d3
                unfold cx at d3
                have HR2 := hid_o R2
                have HB2 := hid_o ((below_drewN (HBE.out.alloc (Nat.le_of_lt gl) (.cells #[.int .i64 i, .int .i64 i, .slice (some ⟨g10, 0, none⟩) T T] 39)) m).setCell (p := ⟨gv, r, none⟩) (Nat.le_refl _) (.complex .f64 q.1 q.2))
                have HQ2 : Hid (repz (bwS i (mzU S.M) divZ y (s + 1) r) q) := by
                  show repz _ q
                  rw [bwS_new HRT.out, HXL.out]
                  exact HQ.out
                have HFQ := hid_o (fin_repz HQ2.out)
                have hqo := HQ2.out.ok
                have HVn : Hid (∀ j, j < i → repz (bwS i (mzU S.M) divZ y (s + 1) j) (upz v r q j)) := fun j hj => by
                  by_cases e : j = r
                  · rw [e, upz_self]; exact HQ2.out
                  · rw [upz_ne _ _ e, bwS_suc (by have := HRT.out; omega)]; exact HV.out j hj e
                have HBL2 : Hid ((F1 && finZ q) = (finS y i && gT (bwS i (mzU S.M) divZ y (s + 1)) i (s + 1))) := by show _ = _; rw [HF1.out, HFQ.out, HF.out]; exact HBL.out
                clear R2 d1
                cases F1
                · go_wp2
                  go_roundw
                  case measure => first | (simp [intOf]; done) | (simp [intOf]; omega)
                  case rel => exact ⟨s + 1, upz v r q, by omega, by have := HRT.out; go_num, by rw [← HBL2.out]; rfl, HVn.out, HR2.out, HB2.out⟩
                · go_wp2_with (go_at_call 23; (with_reducible refine (fin_walk hqo).mono ?_); rintro e w' ⟨rfl, rfl⟩)
                  go_roundw
                  case measure => first | (simp [intOf]; done) | (simp [intOf]; omega)
                  case rel => exact ⟨s + 1, upz v r q, by omega, by have := HRT.out; go_num, by rw [← HBL2.out]; rfl, HVn.out, HR2.out, HB2.out⟩
        · have e : t = i := by omega
          subst e
          have hit : (t : Int) - 1 - t = -1 := by omega
          rw [hit] at hiv
          subst hiv
          have HB9 : Hid (Below w.heap.size w wr) := bt HBb.out (by rw [← HGV.out]; exact hbel)
          have HX9 : Hid (∀ j, j < t → repz (solX t S.M S.o zs j) (v j)) := fun j hj => by
            have := hv j hj
            rw [HY.out, HCD.out] at this
            exact this
          have HK9 : Hid ((finS y t && gT (bwS t (mzU S.M) divZ y t) t t) = solK t S.M S.o zs) := by
            show _ = _
            rw [gT_all, HY.out, HCD.out]
            rfl
          have HRS9 := hid_o (HRS.out.below (by rw [← HGV.out]; exact hbel))
          have HRV9 := hid_o hrw.rc
          rw [HK9.out]
          clear hv hrw hbel hit VU HRU HRS
          cases hK : solK t S.M S.o zs
          · have e6 : E1 = 6 := by rw [HE1.out, hK]; rfl
            subst e6
            clear hK
            go_wp2
            go_ret
            exact ⟨rfl, HB9.out⟩
          · have e0 : E1 = 0 := by rw [HE1.out, hK]; rfl
            subst e0
            have hnS : nS10 t 0 = t := if_pos rfl
            rw [hnS] at HRS9 YS ⊢
            have HSM : Hid (∀ k, k < t → smB (zat (ro t ys) k).1 (zat (ro t v) k).1 = true ∧ smB (zat (ro t ys) k).2 (zat (ro t v) k).2 = true) := fun k hk => by
              rw [ro_at _ hk, ro_at _ hk]
              have a := YS.out k hk
              have b := HX9.out k hk
              exact ⟨smB_of a.1 b.1, smB_of a.2 b.2⟩
            have HKS := hid_o (fun (W : World) (c1 c2 : Nat) (h1 : Rc W As (ro t ys)) (h2 : Rc W (some ⟨gv, 0, none⟩) (ro t v)) => ksameL_len As (some ⟨gv, 0, none⟩) c1 c2 t (ro t ys) (ro t v) W (by omega) (ro_len _ _) (ro_len _ _) h1 h2 HSM.out)
            clear hK
            go_wp2_with (go_at_call 25; (with_reducible refine (HKS.out _ _ _ HRS9.out HRV9.out).mono ?_); rintro e w' ⟨mm, rfl, hw⟩; subst w'; have HB10 := hid_o (below_drewN HB9.out mm))
            go_ret
            exact ⟨rfl, HB10.out⟩

end Go.Proofs.Ytpaljgbhladceaa
