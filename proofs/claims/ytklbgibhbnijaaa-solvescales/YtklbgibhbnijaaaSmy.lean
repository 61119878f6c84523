/-
  What solve's Many hands back, where nothing is refused ahead.
-/
import Derived.Test.YtklbgibhbnijaaaSlq
import Derived.Test.YtklbgibhbnijaaaSlg
import Derived.Test.YtklbgibhbnijaaaBnc
import Derived.Deep.RegionWith
import Derived.Deep.DeepCutAuto
namespace Go.Proofs.Ytklbgibhbnijaaa
open Fl RowKit

/-- the unknowns of a column -/
def colX (N C : Nat) (M : Nat → Nat → Cw) (o : Nat → Nat) (D : Nat → Cw) (j : Nat) : Nat → Cn := slS N (mzL M) (mzU M) (fun i => anz (D (o i * C + j)))
def colK (N C : Nat) (M : Nat → Nat → Cw) (o : Nat → Nat) (D : Nat → Cw) (j : Nat) : Bool := okS N (mzL M) (mzU M) (fun i => anz (D (o i * C + j)))
theorem got_yes {w w' : World} {n : Nat} {x : Nat → Cn} {v : Value} {E : Int} (h : Got w w' n true x v E) : E = 0 ∧ ∃ g y, v = .slice (some ⟨g, 0, none⟩) n n ∧ (∀ j, j < n → repz (x j) (y j)) ∧ Rw w' w.heap.size (.slice (some ⟨g, 0, none⟩) n n) n (ro n y) := by
  rcases h with ⟨_, h1, h2⟩ | ⟨h0, _⟩
  · exact ⟨h1, h2⟩
  · cases h0
theorem place_inj {C a b i j : Nat} (hb : b < C) (hj : j < C) (e : a * C + b = i * C + j) : a = i ∧ b = j := by
  have h1 : (a * C + b) / C = a := by rw [Nat.add_comm, Nat.add_mul_div_right _ _ (by omega), Nat.div_eq_of_lt hb, Nat.zero_add]
  have h2 : (i * C + j) / C = i := by rw [Nat.add_comm, Nat.add_mul_div_right _ _ (by omega), Nat.div_eq_of_lt hj, Nat.zero_add]
  rw [e, h2] at h1
  subst h1
  exact ⟨rfl, by omega⟩
theorem got_no {w w' : World} {n : Nat} {x : Nat → Cn} {v : Value} {E : Int} (h : Got w w' n false x v E) : E = 6 ∧ v = .slice none 0 0 := by
  rcases h with ⟨h0, _⟩ | ⟨_, h1, h2⟩
  · cases h0
  · exact ⟨h1, h2⟩
set_option maxRecDepth 20000 in
set_option maxHeartbeats 8000000 in
theorem many_any {w : World} {v : Value} {N C ca : Nat} {M : Nat → Nat → Cw} {o : Nat → Nat} {s : Int} {A : Option Addr} {D : Nat → Cw} (h : Lhd w v N M o s) (hs : ¬ s = 0) (hN : N ≤ 64) (hC : C ≤ 64) (hM : okM N M) (ho : inO N o) (hca : N * C ≤ ca) (hA : A = none ∧ N * C = 0 ∨ ∃ g off, A = some ⟨g, off, none⟩) (hD : Rc w A (ro (N * C) D)) (hok : ∀ k, k < N * C → okz (D k)) (hf : finL (ro (N * C) D) (N * C) = true) :
    Calls Try.prog 28 #[v, .agg #[.int .i64 N, .int .i64 C, .slice A (N * C) ca]] w fun e w' =>
      (((∀ j, j < C → colK N C M o D j = true) ∧ ∃ g y, e = .returned (.tuple #[.agg #[.int .i64 N, .int .i64 C, .slice (some ⟨g, 0, none⟩) (N * C) (N * C)], .int .i64 0]) ∧ (∀ i j, i < N → j < C → repz (colX N C M o D j i) (y (i * C + j))) ∧ Rw w' w.heap.size (.slice (some ⟨g, 0, none⟩) (N * C) (N * C)) (N * C) (ro (N * C) y)) ∨
       ((∃ j, j < C ∧ colK N C M o D j = false) ∧ e = .returned (.tuple #[.agg #[.int .i64 0, .int .i64 0, .slice none 0 0], .int .i64 6]))) ∧ Below w.heap.size w w' := by
  obtain ⟨i0, hi, hz0, hz1, hz2⟩ := info_parts Try.infoC
  have h4 := le_4096 hN hC
  have hmb : mb (N : Int) (C : Int) (N * C) = true := mb_of hN hC rfl
  obtain ⟨T, hT⟩ : ∃ T, T = N * C := ⟨_, rfl⟩
  have HMx : Hid (Mx w N C A ca (fun k => anz (D k)) (ro (N * C) D)) := ⟨ro_len _ _, hN, hC, fun k hk => by rw [ro_at _ hk]; exact repz_anz (hok k hk), ⟨hD, by rw [ro_len]; exact hA, by rw [ro_len]; exact hca⟩⟩
  have HCOL : Hid (∀ (W : World), Below w.heap.size w W → ∀ (j : Nat), j < C → Calls Try.prog 63 #[.agg #[.int .i64 N, .int .i64 C, .slice A (N * C) ca], .int .i64 j] W fun e w' => ∃ g, e = .returned (.tuple #[.slice (some ⟨g, 0, none⟩) N N, .int .i64 0]) ∧ Rc w' (some ⟨g, 0, none⟩) (ro N (fun k => D (k * C + j))) ∧ Below W.heap.size W w') := fun W hW j hj => by
    refine (mcolc (HMx.out.below hW) hj).mono ?_
    rintro e w' ⟨g, zs, rfl, hNw, hb⟩
    have hr := (show Rw w' W.heap.size (.slice (some ⟨g, 0, none⟩) N N) N zs from ⟨hNw.len, hNw.own⟩).rc
    have e : zs = ro N (fun k => D (k * C + j)) := by
      rw [ro_of hNw.len]
      refine ro_congr (fun k hk => ?_)
      have hp := place_lt hk hj
      have ff := finL_iff.1 hf (k * C + j) hp
      rw [ro_at _ hp] at ff
      exact repz_fin (repz_anz (hok _ hp)) (hNw.rep k hk) (fin_of (finZ_1 ff)) (fin_of (finZ_2 ff))
    rw [e] at hr
    exact ⟨g, rfl, hr, hb⟩
  rw [← hT] at h4 hmb hca hD hok hf HCOL ⊢
  have HCK : Hid (∀ W, Calls Try.prog 41 #[.agg #[.int .i64 N, .int .i64 C, .slice A T ca]] W fun e w' => e = .returned (.int .i64 0) ∧ Below W.heap.size W w') := fun W => by
    have := mcheck (N : Int) (C : Int) A T ca W (by omega)
    rw [hmb] at this
    exact this
  have HFL := hid_o (fun (W : World) (hW : Below w.heap.size w W) => allfin_any A ca T (ro T D) W (ro_len _ _) (by omega) (hD.below hW) (ro_ok hok))
  rw [hf] at HFL
  have HH := hid_o h
  have HOK := hid_o hok
  have HM := hid_o hM
  have HO := hid_o ho
  have HT := hid_o hT
  have HNone : Hid (false = decide (s = 0)) := (decide_eq_false hs).symm
  clear h hs hM ho hD hok hf hT hA hmb hca
  go_enter Try.func28, Try.ntmps28
  obtain ⟨W0, hW0⟩ : ∃ W0, W0 = (w.alloc (.cells #[.int .i64 N, .int .i64 C, .slice A T ca] 26)).alloc (.cells #[.int .i64 0, .int .i64 0, .slice none 0 0] 26) := ⟨_, rfl⟩
  have VM : Hid (V3 w.heap.size (.int .i64 N) (.int .i64 C) (.slice A T ca) W0) := by rw [hW0]; exact (v3_new w _ _ _ _).below (bal _ _)
  have VR : Hid (V3 (w.heap.size + 1) (.int .i64 0) (.int .i64 0) (.slice none 0 0) W0) := by rw [hW0]; exact v3_at _ _ _ _ _ (by simp)
  have B0 : Hid (Below w.heap.size w W0) := by rw [hW0]; exact (bal _ _).trans ((bal _ _).mono (by simp))
  have HNN : Hid (∀ W, Below w.heap.size w W → Calls Try.prog 60 #[v] W fun e w' => e = .returned (.bool false) ∧ Below W.heap.size W w') := fun W hW => isnone_any (HH.out.below hW) false HNone.out
  have HSZ : Hid (∀ W, Below w.heap.size w W → Calls Try.prog 61 #[v] W fun e w' => e = .returned (.int .i64 N) ∧ Below W.heap.size W w') := fun W hW => lh_size (HH.out.below hW)
  go_wp2_with (go_at_call 60; (rw [← hW0]); (with_reducible refine (HNN.out _ B0.out).mono ?_); rintro e w1 ⟨rfl, hb⟩; have B1 := hid_o hb; clear hb)
  have V1 := VM.out.below B1.out
  have c0 := V1.c0
  have c1 := V1.c1
  have c2 := V1.c2
  have vl := V1.lt
  clear V1
  go_cut [21] (fun bv wc => bv = .bool false ∧ Below W0.heap.size W0 wc)
  case first =>
    go_region_with (first
      | (go_at_call 41; (with_reducible refine (HCK.out _).mono ?_); rintro e w2 ⟨rfl, hb⟩; (have B2 : Below W0.heap.size W0 w2 := bt B1.out.drew hb); (have V2 := VM.out.below B2); (have k0 := V2.c0); (have kl := V2.lt); (have HB2 := hid_o B2); clear hb V2 B2)
      | (go_at_call 61; (with_reducible refine (HSZ.out _ (bt B0.out HB2.out)).mono ?_); rintro e w3 ⟨rfl, hb⟩; (have HB3 := hid_o (bt HB2.out hb)); (have V9 := VM.out.below HB3.out); (have kk0 := V9.c0); (have kkl := V9.lt); clear hb V9))
    all_goals
      go_wp2_with fail
      go_meet
      case rel => exact ⟨rfl, HB3.out⟩
  case rest =>
    obtain ⟨rfl, hb3⟩ := hcut
    have B3 := hid_o hb3
    have V3' := VM.out.below hb3
    have k2 := V3'.c2
    have kl := V3'.lt
    clear c0 c1 c2 vl hb3 V3' B1
    go_wp2_with (first
      | (go_at_call 62; (with_reducible refine (HFL.out _ (bt B0.out B3.out)).mono ?_); rintro e w' ⟨rfl, rfl⟩)
      | (go_at_call 18; (with_reducible refine (lh_order (HH.out.below (bt B0.out B3.out)) hN).mono ?_); rintro e w4 ⟨g4, rfl, hO, hb⟩; (have RO := hid_o hO.qi); (have B4 := hid_o (bt B3.out hb)); clear hb hO)
      | (go_at_call 16; (with_reducible refine (lh_l (HH.out.below (bt B0.out B4.out)) hN).mono ?_); rintro e w5 ⟨g5, rfl, hR, hb⟩; (have RL := hid_o hR.rc); (replace RO := hid_o (RO.out.below hb)); (have B5 := hid_o (bt B4.out hb)); clear hb hR)
      | (go_at_call 17; (with_reducible refine (lh_u (HH.out.below (bt B0.out B5.out)) hN).mono ?_); rintro e w6 ⟨g6, rfl, hR, hb⟩; (have RU := hid_o hR.rc); (replace RL := hid_o (RL.out.below hb)); (replace RO := hid_o (RO.out.below hb)); (have B6 := hid_o (bt B5.out hb)); (have V6 := VM.out.below B6.out); (have c61 := V6.c1); (have c62 := V6.c2); (have c6l := V6.lt); clear hb hR V6)
      | (at_make; refine wpList_make_full _ rfl _ _ 24 rfl _ 52 i0 (.complex .f64 0 0) 1 Try.underlying24 hi hz0 hz1 _ _ _ _ T rfl rfl rfl rfl (by rw [hz2]; omega) (by unfold maxLen; omega) (Nat.le_refl _) ?_; intro w7 hown hgrow; (have V7 := (((VM.out.below B6.out).below (bal _ _)).below (bal _ _)).below ((Below.refl _ _).grown hgrow (Nat.le_refl _) (by intro k hk; simp at hk))); (have c71 := V7.c1); (have c7l := V7.lt); clear V7))
    obtain ⟨wb, hwb⟩ : ∃ wb, wb = (w6.alloc (Obj.cells #[Value.int IntKind.i64 ↑N, Value.int IntKind.i64 ↑N, Value.slice (some ⟨g5, 0, none⟩) (N * N) (N * N)] 26)).alloc (Obj.cells #[Value.int IntKind.i64 ↑N, Value.int IntKind.i64 ↑N, Value.slice (some ⟨g6, 0, none⟩) (N * N) (N * N)] 26) := ⟨_, rfl⟩
    have hs2 : wb.heap.size = w6.heap.size + 1 + 1 := by rw [hwb]; simp
    have VL : Hid (V3 w6.heap.size (.int .i64 N) (.int .i64 N) (.slice (some ⟨g5, 0, none⟩) (N * N) (N * N)) wb) := by rw [hwb]; exact (v3_new w6 _ _ _ _).below (bal _ _)
    have VU : Hid (V3 (w6.heap.size + 1) (.int .i64 N) (.int .i64 N) (.slice (some ⟨g6, 0, none⟩) (N * N) (N * N)) wb) := by rw [hwb]; exact v3_at _ _ _ _ _ (by simp)
    have Bb : Hid (Below w6.heap.size w6 wb) := by rw [hwb]; exact (bal _ _).trans ((bal _ _).mono (by simp))
    rw [← hwb] at hown hgrow
    have hB7 : Below wb.heap.size wb w7 := (Below.refl _ _).grown hgrow (Nat.le_refl _) (by intro k hk; simp at hk)
    rw [made_zeroC, ro_zero] at hown
    have RW0 : Hid (Rw w7 wb.heap.size (.slice (some ⟨wb.heap.size, 0, none⟩) T T) T (ro T (fun _ => (0, 0)))) := ⟨ro_len _ _, hown⟩
    have HB7 := hid_o hB7
    have HRO := hid_o (RO.out.below Bb.out)
    have HRU := hid_o (RU.out.below Bb.out)
    have HRL := hid_o (RL.out.below Bb.out)
    have HBb := hid_o (bt B6.out Bb.out)
    have HVM := hid_o (VM.out.below HBb.out)
    have HVR := hid_o (VR.out.below HBb.out)
    have HBw := hid_o (bt B0.out HBb.out)
    obtain ⟨gv, hgv⟩ : ∃ gv, gv = wb.heap.size := ⟨_, rfl⟩
    have hgv2 : w6.heap.size + 1 + 1 = gv := by omega
    rw [hgv2]
    rw [← hgv] at RW0 HB7
    have HGV := hid_o hgv
    have HGV2 := hid_o hgv2
    clear hown hgrow hB7 hwb hs2 RO RU RL Bb hgv hgv2 HSZ HNN HCK HFL c61 c62 c6l k2 kl
    clear c71 c7l
    go_loopw [51] (fun jv wr => ∃ (j : Nat) (y : Nat → Cw), j ≤ C ∧ jv = .int .i64 j ∧ (∀ b, b < j → colK N C M o D b = true) ∧ (∀ i b, i < N → b < j → repz (colX N C M o D b i) (y (i * C + b))) ∧ Rw wr gv (.slice (some ⟨gv, 0, none⟩) T T) T (ro T y) ∧ Below gv wb wr) (fun jv _ => C - (intOf jv).toNat)
    case atStart => exact ⟨0, _, Nat.zero_le _, rfl, fun b hb => absurd hb (by omega), fun i b _ hb => absurd hb (by omega), RW0.out, HB7.out⟩
    case round =>
      clear RW0 HB7
      obtain ⟨j, y, hjC, rfl, hk, hy, hrw, hbel⟩ := hrel
      have HBW : Hid (Below wb.heap.size wb wr) := by rw [← HGV.out]; exact hbel
      have VMr := HVM.out.below HBW.out
      have a0 := VMr.c0
      have a1 := VMr.c1
      have a2 := VMr.c2
      have al := VMr.lt
      clear VMr
      by_cases hlt : j < C
      · have HCj := hid_o (HCOL.out wr (bt HBw.out HBW.out) j hlt)
        have VLr := VL.out.below HBW.out
        have VUr := VU.out.below HBW.out
        have HK := hid_o hk
        have HY := hid_o hy
        have HRW := hid_o hrw
        have HBE := hid_o hbel
        clear hk hy hrw hbel
        have HUN : Hid (∀ (W : World), Below wb.heap.size wb W → ∀ (g cb : Nat), Rc W (some ⟨g, 0, none⟩) (ro N (fun k => D (k * C + j))) → Calls Try.prog 59 #[.slice (some ⟨g4, 0, none⟩) N N, .agg #[.int .i64 N, .int .i64 N, .slice (some ⟨g5, 0, none⟩) (N * N) (N * N)], .agg #[.int .i64 N, .int .i64 N, .slice (some ⟨g6, 0, none⟩) (N * N) (N * N)], .slice (some ⟨g, 0, none⟩) N cb] W fun e w' => ∃ u E, e = .returned (.tuple #[u, .int .i64 E]) ∧ Got W w' N (colK N C M o D j) (colX N C M o D j) u E ∧ Below W.heap.size W w') := fun W hW g cb hr => by
          refine (unknowns_any hN HO.out.1 (HRO.out.below hW) (HRL.out.below hW) (flL_ok HM.out) (HRU.out.below hW) (flU_ok HM.out) hr (fun k hk => HOK.out _ (by rw [HT.out]; exact place_lt hk hlt))).mono ?_
          rintro e w' ⟨u, E, rfl, hG, hb⟩
          rw [(sol_eq N M _).1, (sol_eq N M _).2] at hG
          exact ⟨u, E, rfl, hG, hb⟩
        cases hcK : colK N C M o D j
        · rw [hcK] at HUN
          have HCK2 := hid_o hcK
          clear hcK
          go_wp2_with (first
            | (go_at_call 63; (with_reducible refine HCj.out.mono ?_); rintro e w8 ⟨g8, rfl, hr, hb⟩; (have R8 := hid_o hr); (have B8 : Below wb.heap.size wb w8 := bt HBW.out hb); (have HB8 := hid_o B8); (have Va := VL.out.below B8); (have p0 := Va.c0); (have p1 := Va.c1); (have p2 := Va.c2); (have pl := Va.lt); (have Vb := VU.out.below B8); (have q0 := Vb.c0); (have q1 := Vb.c1); (have q2 := Vb.c2); (have ql := Vb.lt); clear hr hb B8 Va Vb VLr VUr)
            | (go_at_call 59; (with_reducible refine (HUN.out _ HB8.out _ _ R8.out).mono ?_); rintro e w9 ⟨u, E, rfl, hG, hb⟩; (obtain ⟨rfl, rfl⟩ := got_no hG); (have B9 : Below wb.heap.size wb w9 := bt HB8.out hb); (have HB9 := hid_o B9); (have Vr := HVR.out.below B9); (have HVr := hid_o Vr); (obtain ⟨rl, r0, r1, r2, r3, r4, r5⟩ := Vr); clear hb hG p0 p1 p2 pl q0 q1 q2 ql B9))
          obtain ⟨m0, m1, m2⟩ := HVr.out.reads
          refine bodyPost_ret (by simp [results, Try.results28, go_sem, m0, m1, m2]; try rfl) rfl ?_
          exact ⟨.inr ⟨⟨j, hlt, HCK2.out⟩, rfl⟩, below_set3 (bt HBw.out HB9.out) (by omega) _ _ _⟩
        · rw [hcK] at HUN
          have HCK2 := hid_o hcK
          clear hcK
          go_wp2_with (first
            | (go_at_call 63; (with_reducible refine HCj.out.mono ?_); rintro e w8 ⟨g8, rfl, hr, hb⟩; (have R8 := hid_o hr); (have HRW8 := hid_o (HRW.out.below hb)); (have B8 : Below wb.heap.size wb w8 := bt HBW.out hb); (have HB8 := hid_o B8); (have Va := VL.out.below B8); (have p0 := Va.c0); (have p1 := Va.c1); (have p2 := Va.c2); (have pl := Va.lt); (have Vb := VU.out.below B8); (have q0 := Vb.c0); (have q1 := Vb.c1); (have q2 := Vb.c2); (have ql := Vb.lt); clear hr hb B8 Va Vb VLr VUr)
            | (go_at_call 59; (with_reducible refine (HUN.out _ HB8.out _ _ R8.out).mono ?_); rintro e w9 ⟨u, E, rfl, hG, hb⟩; (obtain ⟨rfl, gx, xw, rfl, hx, hxr⟩ := got_yes hG); (have HX := hid_o hx); (have HXR := hid_o hxr); (have HRW9 := hid_o (HRW8.out.below hb)); (have HB9 : Hid (Below gv wb w9) := by (rw [HGV.out]; exact bt HB8.out hb)); (have HGX : Hid (gv < gx) := Nat.lt_of_lt_of_le HRW8.out.lt.2 hxr.lt.1); clear hb hG hx hxr p0 p1 p2 pl q0 q1 q2 ql))
          clear a0 a1 a2 al
          go_loopw [74] (fun iv wr => ∃ (i : Nat) (y : Nat → Cw), i ≤ N ∧ iv = .int .i64 i ∧ (∀ a b, a < N → b < j → repz (colX N C M o D b a) (y (a * C + b))) ∧ (∀ a, a < i → repz (colX N C M o D j a) (y (a * C + j))) ∧ Rw wr gv (.slice (some ⟨gv, 0, none⟩) T T) T (ro T y) ∧ Rw wr gv (.slice (some ⟨gx, 0, none⟩) N N) N (ro N xw) ∧ Below gv wb wr) (fun iv _ => N - (intOf iv).toNat)
          case atStart => exact ⟨0, y, Nat.zero_le _, rfl, HY.out, fun a ha => absurd ha (by omega), HRW9.out, ⟨HXR.out.len, own_base HXR.out.own (by have := HRW8.out.lt; omega)⟩, HB9.out⟩
          case round =>
            clear HRW9 HXR HB9 HY
            obtain ⟨i, y, hiN, rfl, hy, hyj, hrw, hrx, hbel⟩ := hrel
            have HBW2 : Hid (Below wb.heap.size wb wr) := by rw [← HGV.out]; exact hbel
            have HY := hid_o hy
            have HYJ := hid_o hyj
            have HRW2 := hid_o hrw
            have HRX := hid_o hrx
            have HBE2 := hid_o hbel
            by_cases hil : i < N
            · have hp := place_lt hil hlt
              rw [← HT.out] at hp
              have hm := hid_o (wrap_mul (i := i) (C := C) (by omega) (by omega))
              have V2 := HVM.out.below HBW2.out
              have b1 := V2.c1
              have d1 := rw_cell hrx hil
              have d2 := rw_cell hrw hp
              have fz := hrw.own.frozenAt (i * C + j)
              have glv := hid_o hrw.lt.2
              have glx := hid_o hrx.lt.2
              have glm := hid_o V2.lt
              obtain ⟨x, hxe⟩ : ∃ x, x = xw i := ⟨_, rfl⟩
              rw [← hxe] at d1
              have HXE := hid_o hxe
              obtain ⟨k, hke⟩ : ∃ k, k = i * C := ⟨_, rfl⟩
              have HKE := hid_o hke
              rw [← hke] at hm d2 fz hp
              unfold cx at d1 d2
              clear hxe hke hy hyj hrw hrx hbel V2
              have hmm := hm.out
              go_wp2
              go_roundw
              case measure => first | (simp [intOf]; done) | (simp [intOf]; omega)
              case rel =>
                refine ⟨i + 1, upz y (k + j) x, by omega, by go_num, fun a b ha hb => ?_, fun a ha => ?_, rw_set HRW2.out (k + j) x, ⟨HRX.out.len, own_at HRX.out.own (fun q hq => by cases hq; exact Below.heap_setCell _ _ _ _ (show gx ≠ gv by have := HGX.out; omega))⟩, HBE2.out.setCell (p := ⟨gv, k + j, none⟩) (Nat.le_refl _) _⟩
                · rw [upz_ne _ _ (fun e => by have := (place_inj (C := C) (by omega) hlt (e.trans (by rw [HKE.out]))).2; omega)]
                  exact HY.out a b ha hb
                · by_cases e : a = i
                  · rw [e, HKE.out, upz_self, HXE.out]
                    exact HX.out i hil
                  · rw [upz_ne _ _ (fun e2 => e (place_inj (C := C) hlt hlt (e2.trans (by rw [HKE.out]))).1)]
                    exact HYJ.out a (by omega)
            · have e : i = N := by omega
              subst e
              clear hy hyj hrw hrx hbel
              go_wp2
              go_roundw
              case measure => first | (simp [intOf]; done) | (simp [intOf]; omega)
              case rel =>
                refine ⟨j + 1, y, by omega, by go_num, fun b hb => ?_, fun a b ha hb => ?_, HRW2.out, HBE2.out⟩
                · by_cases e : b = j
                  · rw [e]; exact HCK2.out
                  · exact HK.out b (by omega)
                · by_cases e : b = j
                  · rw [e]; exact HYJ.out a ha
                  · exact HY.out a b ha (by omega)
      · have e : j = C := by omega
        subst e
        have HK := hid_o hk
        have HY := hid_o hy
        have HRW := hid_o hrw
        have Vr := HVR.out.below HBW.out
        have HVr := hid_o Vr
        have HGR : Hid (w.heap.size + 1 < gv) := by have := HVR.out.lt; rw [← HGV.out] at this; exact this
        obtain ⟨rl, r0, r1, r2, r3, r4, r5⟩ := Vr
        clear hk hy hrw hbel
        go_wp2
        obtain ⟨m0, m1, m2⟩ := HVr.out.reads
        refine bodyPost_ret (by simp [results, Try.results28, go_sem, m0, m1, m2]; try rfl) rfl ?_
        refine ⟨.inl ⟨HK.out, gv, y, rfl, fun i b hi hb => HY.out i b hi hb, HRW.out.len, ?_⟩, below_set3 (bt HBw.out HBW.out) (by omega) _ _ _⟩
        exact own_at (own_base HRW.out.own (by have := HGR.out; omega)) (fun q hq => by cases hq; exact set3_block (show w.heap.size + 1 ≠ gv by have := HGR.out; omega))

end Go.Proofs.Ytklbgibhbnijaaa
