/-
  The walk of LowerMirror, where both are eliminated: the law itself.
-/
import Derived.Test.YtiddmcbecoopoaaWLMs
namespace Go.Proofs.Ytiddmcbecoopoaa
open Fl RowKit

theorem add_wt {z : Cw} (h : finZ z = true) : addO (mg z.1) (mg z.2) = some (wt z) := by
  have := wt_siz h
  unfold sizZ anz at this
  rw [ans_num (fin_nan (finZ_1 h)), ans_num (fin_nan (finZ_2 h))] at this
  exact this
theorem addV_of {x y s : Nat} (h : addO x y = some s) (W : World) : addV W x y = s := by unfold addV fV; rw [h]
theorem mt9_new {w : World} {p n : Nat} {o : Nat → Nat} (h : w.ownsRow p 4 1 (.slice (some ⟨p, 0, none⟩) n n) n (madeCells (Value.bool false).cells (n * 1)).toList) : Mt9 w p n o 0 := by
  refine ⟨(h.lt p rfl).2, fun j hj => ?_, fun j => h.frozenAt j⟩
  rw [h.cellAt j (by omega)]
  simp [madeCells, hj, Value.cells, Nat.mod_one, hitB]
set_option maxRecDepth 20000 in
set_option maxHeartbeats 8000000 in
theorem mirror_ok (a : Int) (N T : Nat) (S S1 : Es) (ao : Option Addr) (cap n : Nat) (xs : List Cw) (w : World) (hn : xs.length = n) (hsz : n * 16 ≤ 140737488355328) (hc : Rz w ao xs) (hx : okl xs) (hN : N ≤ 64) (hT : T = N * N) (h4 : T ≤ 4096) (hS : Eok N S) (hS1 : Eok N S1) (hC : Cj N S S1) (hin : inO N S.o) (hfst : 0 < N → ∀ i, i < N → wt (zat xs (i * N)) ≤ wt (zat xs (S.o 0 * N)) ∧ finZ (zat xs (i * N)) = true)
    (SQ : ∀ (ao : Option Addr) (cap n : Nat) (xs : List Cw) (w : World), xs.length = n → n * 16 ≤ 140737488355328 → Rz w ao xs → Calls Try.prog 10 #[.int .i64 a, .slice ao n cap] w fun e w' => ∃ A c, e = .returned (.agg #[.int .i64 N, .int .i64 N, .slice A T c]) ∧ T ≤ c ∧ Rc w' A (ro T (zat xs)) ∧ Below w.heap.size w w')
    (O1 : ∀ (W : World) (A : Option Addr) (c : Nat), T ≤ c → Rc W A (ro T (zat xs)) → Calls Try.prog 15 #[.agg #[.int .i64 N, .int .i64 N, .slice A T c]] W fun e w' => ∃ p, e = .returned (.tuple #[.pointer (some ⟨p, 0, none⟩), .agg #[.int .i64 0, .int .i64 0]]) ∧ (∃ b gr go bl, Lo w' b p N gr go bl S.M S.o S.s) ∧ Below W.heap.size W w')
    (O2 : ∀ (W : World) (A : Option Addr) (c : Nat), T ≤ c → Rc W A (ro T (fun k => cjw (zat xs k))) → Calls Try.prog 15 #[.agg #[.int .i64 N, .int .i64 N, .slice A T c]] W fun e w' => ∃ p, e = .returned (.tuple #[.pointer (some ⟨p, 0, none⟩), .agg #[.int .i64 0, .int .i64 0]]) ∧ (∃ b gr go bl, Lo w' b p N gr go bl S1.M S1.o S1.s) ∧ Below W.heap.size W w') :
    Calls Try.prog 7 #[.int .i64 a, .slice ao n cap] w fun e w' => e = .returned (.bool true) ∧ Below w.heap.size w w' := by
  obtain ⟨i0, hi, hz0, hz1, hz2⟩ := info_parts Try.infoBl
  have HSQ := hid_o SQ
  have HO1 := hid_o O1
  have HO2 := hid_o O2
  have HC := hid_o hc
  have HX := hid_o hx
  have HLok : Hid (∀ k, k < T → okz (flw N (lE S.M) k)) := by rw [hT]; exact lE_ok hS
  have HUok : Hid (∀ k, k < T → okz (flw N (uE S.M) k)) := by rw [hT]; exact uE_ok hS
  have HLe : Hid (∀ k, k < T → eqB (zat (ro T (fun k => cjw (flw N (lE S.M) k))) k).1 (zat (ro T (flw N (lE S1.M))) k).1 = true ∧ eqB (zat (ro T (fun k => cjw (flw N (lE S.M) k))) k).2 (zat (ro T (flw N (lE S1.M))) k).2 = true) := by rw [hT]; exact l_con hS hS1 hC
  have HUe : Hid (∀ k, k < T → eqB (zat (ro T (fun k => cjw (flw N (uE S.M) k))) k).1 (zat (ro T (flw N (uE S1.M))) k).1 = true ∧ eqB (zat (ro T (fun k => cjw (flw N (uE S.M) k))) k).2 (zat (ro T (flw N (uE S1.M))) k).2 = true) := by rw [hT]; exact u_con hS hS1 hC
  have HCo := hid_o hC.o
  have HCs := hid_o hC.s
  have HIN := hid_o hin
  have HFST := hid_o hfst
  have h65 : T ≤ 65536 := by omega
  have h8 : N * 8 ≤ 140737488355328 := by omega
  have HT := hid_o hT
  have st : Stg 0 := ⟨trivial⟩
  clear SQ O1 O2 hc hx hS hS1 hC hin hfst hT
  go_enter Try.func7, Try.ntmps7
  go_wp2_with (first
    | (go_at_call 10; (refine (HSQ.out _ _ _ _ _ hn hsz HC.out).mono ?_); rintro e w1 ⟨A, c, rfl, hcap, hR, hb⟩; (have V1 := hid_o (v3_new w1 (.int .i64 N) (.int .i64 N) (.slice A T c) 26)); (have R1 := hid_o (hR.below (bal _ (.cells #[.int .i64 N, .int .i64 N, .slice A T c] 26)))); (have B1 := hid_o (ba hb (.cells #[.int .i64 N, .int .i64 N, .slice A T c] 26))); clear hR hb)
    | (go_at_call 15; (refine (HO1.out _ _ _ hcap R1.out).mono ?_); rintro e w2 ⟨px, rfl, hLx, hb⟩; (have V2 := (V1.out.below hb).below (bal _ (.cells #[.int .i64 0, .int .i64 0] 35))); (have kc0 := V2.c0); (have kc1 := V2.c1); (have kc2 := V2.c2); (have HV2 := hid_o V2); (have F2 := hid_o (v2_new w2 (.int .i64 0) (.int .i64 0) 35)); (have R2 := hid_o ((R1.out.below hb).below (bal _ (.cells #[.int .i64 0, .int .i64 0] 35)))); (have X2 : Hid (Lh (w2.alloc (.cells #[.int .i64 0, .int .i64 0] 35)) px N S) := Lh.below hLx (bal _ _)); (have B2 := hid_o (ba (bt B1.out hb) (.cells #[.int .i64 0, .int .i64 0] 35))); clear V2 hb R1 V1 B1 hLx)
    | ((have _ := (st : Stg 0)); go_at_call 31; (refine (conjT _ _ _ _ _ (zat xs) _ h4 R2.out (fun k _ => HX.out k)).mono ?_); rintro e w3 ⟨A1, c1, rfl, hcap1, hR, hb⟩; (have R3 := hid_o hR); (have F3 := hid_o (F2.out.below hb)); (have X3 := hid_o (X2.out.below hb)); (have V3a := hid_o (HV2.out.below hb)); (have D3 := hid_o (R2.out.below hb)); (have B3 := hid_o (bt B2.out hb)); clear hR hb R2 F2 B2 kc0 kc1 kc2 X2 HV2 st; (have st : Stg 1 := ⟨trivial⟩))
    | (go_at_call 15; (refine (HO2.out _ _ _ hcap1 R3.out).mono ?_); rintro e w4 ⟨py, rfl, hLy, hb⟩; (have F4 := (F3.out.below hb).below (bal _ (.cells #[.int .i64 0, .int .i64 0] 35))); (have d0 := F4.c0); (have d1 := F4.c1); (have M4c : Mc9 w N T w1.heap.size px py c A (zat xs) S S1 (w4.alloc (.cells #[.int .i64 0, .int .i64 0] 35)) := ⟨(V3a.out.below hb).below (bal _ _), (D3.out.below hb).below (bal _ _), (X3.out.below hb).below (bal _ _), Lh.below hLy (bal _ _), ba (bt B3.out hb) _⟩); (have HM := hid_o M4c); clear hb F4 F3 B3 R3 X3 V3a D3 M4c hLy)
    | (go_at_call 13; (refine (awake9 _).mono ?_); rintro e w5 ⟨rfl, hb⟩; (replace HM := hid_o (HM.out.below hb)); clear hb d0 d1)
    | (go_at_call 17; (refine (hl_any HM.out.x hN HT.out).mono ?_); rintro e w6 ⟨gl, rfl, hR, hb⟩; (have RL := hid_o hR); (replace HM := hid_o (HM.out.below hb)); clear hb hR)
    | ((have _ := (st : Stg 1)); go_at_call 31; (refine (conjT _ _ _ _ _ (flw N (lE S.M)) _ h4 RL.out HLok.out).mono ?_); rintro e w7 ⟨A2, c2, rfl, _, hR, hb⟩; (have RC := hid_o hR); (replace HM := hid_o (HM.out.below hb)); clear hR hb RL st; (have st : Stg 2 := ⟨trivial⟩))
    | (go_at_call 17; (refine (hl_any HM.out.y hN HT.out).mono ?_); rintro e w8 ⟨gl2, rfl, hR, hb⟩; (have RL := hid_o hR); (replace RC := hid_o (RC.out.below hb)); (replace HM := hid_o (HM.out.below hb)); clear hb hR)
    | ((have _ := (st : Stg 2)); go_at_call 24; (refine (keqM N N (ro_len _ _) (ro_len _ _) RC.out RL.out h65 HLe.out).mono ?_); rintro e w9 ⟨rfl, hb⟩; (replace HM := hid_o (HM.out.below hb)); clear hb RL RC st; (have st : Stg 3 := ⟨trivial⟩))
    | (go_at_call 18; (refine (hu_any HM.out.x hN HT.out).mono ?_); rintro e w10 ⟨gu, rfl, hR, hb⟩; (have RU := hid_o hR); (replace HM := hid_o (HM.out.below hb)); clear hb hR)
    | ((have _ := (st : Stg 3)); go_at_call 31; (refine (conjT _ _ _ _ _ (flw N (uE S.M)) _ h4 RU.out HUok.out).mono ?_); rintro e w11 ⟨A3, c3, rfl, _, hR, hb⟩; (have RD := hid_o hR); (replace HM := hid_o (HM.out.below hb)); clear hR hb RU st; (have st : Stg 4 := ⟨trivial⟩))
    | (go_at_call 18; (refine (hu_any HM.out.y hN HT.out).mono ?_); rintro e w12 ⟨gu2, rfl, hR, hb⟩; (have RU := hid_o hR); (replace RD := hid_o (RD.out.below hb)); (replace HM := hid_o (HM.out.below hb)); clear hb hR)
    | ((have _ := (st : Stg 4)); go_at_call 24; (refine (keqM N N (ro_len _ _) (ro_len _ _) RD.out RU.out h65 HUe.out).mono ?_); rintro e w13 ⟨rfl, hb⟩; (replace HM := hid_o (HM.out.below hb)); clear hb RU RD st; (have st : Stg 5 := ⟨trivial⟩))
    | ((have _ := (st : Stg 5)); go_at_call 19; (refine (ho_any HM.out.x hN).mono ?_); rintro e w14 ⟨go1, rfl, hQ, hb⟩; (have Q1 := hid_o hQ); (replace HM := hid_o (HM.out.below hb)); clear hb hQ st; (have st : Stg 6 := ⟨trivial⟩))
    | ((have _ := (st : Stg 6)); go_at_call 19; (refine (ho_any HM.out.y hN).mono ?_); rintro e w15 ⟨go2, rfl, hQ, hb⟩; (have Q2 := hid_o hQ); (replace Q1 := hid_o (Q1.out.below hb)); (replace HM := hid_o (HM.out.below hb)); clear hb hQ; (rw [HCo.out] at Q2))
    | (go_at_call 23; (refine (ksameI _ _ _ _ N (ri N S.o) _ (ri_len _ _) h8 Q1.out Q2.out).mono ?_); rintro e w16 ⟨m16, rfl, hw⟩; subst w16; (replace HM := hid_o (HM.out.drewN m16)); clear Q1 Q2 st; (have st : Stg 7 := ⟨trivial⟩))
    | ((have _ := (st : Stg 7)); go_at_call 20; (refine (hs_any HM.out.x).mono ?_); rintro e w17 ⟨rfl, hb⟩; (replace HM := hid_o (HM.out.below hb)); clear hb)
    | ((have _ := (st : Stg 7)); go_at_call 20; (refine (hs_any HM.out.y).mono ?_); rintro e w18 ⟨rfl, hb⟩; (rw [HCs.out]); (replace HM := hid_o (HM.out.below hb)); clear hb st; (have st : Stg 8 := ⟨trivial⟩))
    | ((have _ := (st : Stg 8)); go_at_call 19; (refine (ho_any HM.out.x hN).mono ?_); rintro e w19 ⟨go3, rfl, hQ, hb⟩; (have Q3 := hid_o hQ); (replace HM := hid_o (HM.out.below hb)); (have e0 := HM.out.m.c0); clear hb hQ st)
    | (at_make; (refine wpList_make_full _ rfl _ _ 65 rfl w19.heap.size 4 i0 (.bool false) 1 Try.underlying65 hi hz0 hz1 _ _ _ _ N rfl rfl rfl rfl (by rw [hz2]; omega) (by unfold maxLen; omega) (Nat.le_refl _) ?_); intro w20 hown hgrow; (have BB : Below w19.heap.size w19 w20 := (Below.refl _ _).grown hgrow (Nat.le_refl _) (by intro k hk; simp at hk)); (have HT9 := hid_o (mt9_new (o := S.o) hown)); (have HB20 := hid_o BB); clear hown hgrow BB e0))
  clear HSQ HO1 HO2 HC HLok HUok HLe HUe HCo HCs
  go_loopw [12] (fun iv wr => ∃ (k : Nat), k ≤ N ∧ iv = .int .i64 k ∧ Mt9 wr w19.heap.size N S.o k ∧ Below w19.heap.size w19 wr) (fun iv _ => N - (intOf iv).toNat)
  case atStart => exact ⟨0, Nat.zero_le _, rfl, HT9.out, HB20.out⟩
  case round =>
    clear HT9 HB20
    obtain ⟨k, hk, rfl, hMt, hbel⟩ := hrel
    by_cases hlt : k < N
    · have hv := HIN.out.1 k hlt
      obtain ⟨_, _, eq1, _, q1⟩ := (Q3.out.below hbel) k (by rw [ri_len]; exact hlt)
      cases eq1
      rw [Nat.zero_add, ri_at _ hlt] at q1
      have m0 := (HM.out.below hbel).m.c0
      have t0 := hMt.cell _ hv
      rw [hit_no HIN.out hlt] at t0
      have t1 := hMt.frozen (S.o k)
      have tl := hMt.lt
      have NX := hid_o (fun m => (hMt.drewN m).next)
      have HBE := hid_o hbel
      obtain ⟨v, hve⟩ : ∃ v, v = S.o k := ⟨_, rfl⟩
      rw [← hve] at hv q1 t0 t1 NX
      clear hve hMt hbel
      go_wp2
      go_quiet (fail)
      all_goals
        go_wp2_with fail
        go_roundw
        case measure => simp [intOf]; omega
        case rel => exact ⟨k + 1, by omega, by go_num, NX.out _, (below_drewN HBE.out _).setCell (p := ⟨w19.heap.size, v, none⟩) (Nat.le_refl _) _⟩
    · have e : k = N := by omega
      subst e
      have HM2 := hid_o (HM.out.below hbel)
      have Q4 := hid_o (Q3.out.below hbel)
      clear hMt hbel HM Q3
      go_wp2
      go_loopw [13] (fun iv wx => ∃ (j m : Nat), j ≤ k ∧ iv = .int .i64 j ∧ wx = wr.drewN m) (fun iv _ => k - (intOf iv).toNat)
      case atStart => exact ⟨0, 0, Nat.zero_le _, rfl, rfl⟩
      case round =>
        obtain ⟨j, m, hj, rfl, hw⟩ := hrel
        have HM3 := HM2.out.drewN m
        rw [← hw] at HM3
        have m0 := HM3.m.c0
        have m1 := HM3.m.c1
        have m2 := HM3.m.c2
        by_cases hlt2 : j < k
        · have hk0 : 0 < k := by omega
          have hv := HIN.out.1 0 hk0
          obtain ⟨_, _, eq1, _, q1⟩ := (Q4.out.drewN m) 0 (by rw [ri_len]; exact hk0)
          cases eq1
          rw [Nat.zero_add, ri_at _ hk0, ← hw] at q1
          have hp1 : S.o 0 * k < T := by rw [HT.out]; have := place_lt (R := k) (C := k) hv hk0; omega
          have hp2 : j * k < T := by rw [HT.out]; have := place_lt (R := k) (C := k) hlt2 hk0; omega
          obtain ⟨b1, o1, eA, _, x1⟩ := HM3.d (S.o 0 * k) (by rw [ro_len]; exact hp1)
          obtain ⟨b2, o2, eA2, _, x2⟩ := HM3.d (j * k) (by rw [ro_len]; exact hp2)
          subst eA
          cases eA2
          rw [ro_at _ hp1] at x1
          rw [ro_at _ hp2] at x2
          have hF := HFST.out hk0 j hlt2
          have hF0 := HFST.out hk0 (S.o 0) hv
          have ox1 := HX.out (S.o 0 * k)
          have ox2 := HX.out (j * k)
          obtain ⟨v, hve⟩ : ∃ v, v = S.o 0 := ⟨_, rfl⟩
          rw [← hve] at hv q1 hp1 x1 hF hF0 ox1
          have W1 : Hid (IntKind.i64.wrap ((v : Int) * (k : Int)) = ((v * k : Nat) : Int)) := by show _ = _; rw [← Int.natCast_mul, IntKind.wrap_i64]; omega
          have W2 : Hid (IntKind.i64.wrap ((j : Int) * (k : Int)) = ((j * k : Nat) : Int)) := by show _ = _; rw [← Int.natCast_mul, IntKind.wrap_i64]; omega
          obtain ⟨u, hu⟩ : ∃ u, u = v * k := ⟨_, rfl⟩
          obtain ⟨t, ht⟩ : ∃ t, t = j * k := ⟨_, rfl⟩
          rw [← hu] at hp1 x1 hF ox1 W1 hF0
          rw [← ht] at hp2 x2 hF ox2 W2
          obtain ⟨z1, hz1e⟩ : ∃ z1, z1 = zat xs u := ⟨_, rfl⟩
          obtain ⟨z2, hz2e⟩ : ∃ z2, z2 = zat xs t := ⟨_, rfl⟩
          rw [← hz1e] at x1 hF ox1 hF0
          rw [← hz2e] at x2 hF ox2
          have a1 := add_wt hF0.2
          have a2 := add_wt hF.2
          have av1 := addV_of a1
          have av2 := addV_of a2
          have g0 := ord_ngt (wt_le z2) (wt_le z1) (Nat.not_lt.2 hF.1)
          have n1 := ox1.1
          have n2 := ox1.2
          have n3 := ox2.1
          have n4 := ox2.2
          have HW := hid_o hw
          unfold cx at x1 x2
          clear hve hu ht hz1e hz2e hw HM3 hF hF0
          have w1' := W1.out
          have w2' := W2.out
          clear W1 W2
          go_wp2
          go_quiet (fail)
          all_goals
            go_wp2_with (go_at_call 32; (with_reducible refine (absf9 _ _ (by assumption)).mono ?_); rintro e wa ⟨rfl, hwa⟩; subst wa)
            exact ⟨⟨j + 1, _, by omega, by go_num, by rw [HW.out]; simp only [World.drewN_drewN]; rfl⟩, by simp [intOf]; omega⟩
        · have e : j = k := by omega
          subst e
          have BF := hid_o HM3.b
          clear HM3 hw HM2 Q4 HIN HFST
          go_wp2
          go_ret
          exact ⟨rfl, BF.out⟩

end Go.Proofs.Ytiddmcbecoopoaa
