/-
  What the document's Of hands back of a square matrix.
-/
import Derived.Test.YtklbgibhbnijaaaLrb
import Derived.Test.YtklbgibhbnijaaaLrl
namespace Go.Proofs.Ytklbgibhbnijaaa
open Fl RowKit

theorem pr_new (W : World) (b N : Nat) (t : TypeId) (bl cp : Nat → Nat) (M : Nat → Nat → Cw) (hb : b ≤ W.heap.size) : Pr (W.alloc (.cells #[.int .i64 N, .slice none 0 0, .slice none 0 0, .bool false, .bool false, .bool true] t)) b W.heap.size N 0 0 (.slice none 0 0) (.slice none 0 0) bl cp M := by
  have hh := heap_alloc_new W (.cells #[.int .i64 N, .slice none 0 0, .slice none 0 0, .bool false, .bool false, .bool true] t)
  refine ⟨⟨by simp, ?_, ?_, ?_, ?_, ?_, ?_, fun j => ?_⟩, World.ownsRow_nil _ _ _ _, fun r hr => absurd hr (by omega), ⟨rfl, World.ownsRow_nil _ _ _ _⟩, hb, fun r s hr => absurd hr (by omega), fun r hr => absurd hr (by omega), ⟨by simp [Value.ownBlock], by simp [Value.ownBlock]⟩, fun g hg => by simp [Value.ownBlock] at hg⟩
  all_goals first | (unfold World.cell?; rw [hh]; rfl) | (unfold World.frozen?; rw [hh]; simp)
theorem ro_snk (n : Nat) (f : Nat → Cw) : (ro (n + 1) f).map cx = (ro n f).map cx ++ [.complex .f64 (f n).1 (f n).2] := by
  unfold ro; rw [List.range_succ, List.map_append, List.map_append]; rfl
theorem pr_mid1 {w X w3 : World} {b p n i j : Nat} {vr vo : Value} {bl cp : Nat → Nat} {M : Nat → Nat → Cw} (h : Pr w b p n i j vr vo bl cp M) (U : Below w.heap.size w X) (hg : X.grownBy w3 vr.ownBlock) : V6 p (.int .i64 n) vr vo (.bool false) (.bool false) (.bool true) w3 :=
  h.v.at (Nat.le_trans U.size hg.size) ((hg.block p (Nat.lt_of_lt_of_le h.v.lt U.size) (fun e => h.ap2.1 e.symm)).trans (U.block p h.v.lt))
theorem pr_mid2 {w X w3 : World} {b p n i j : Nat} {vr vo : Value} {bl cp : Nat → Nat} {M : Nat → Nat → Cw} (h : Pr w b p n i j vr vo bl cp M) (U : Below w.heap.size w X) (hg : X.grownBy w3 vo.ownBlock) : V6 p (.int .i64 n) vr vo (.bool false) (.bool false) (.bool true) w3 :=
  h.v.at (Nat.le_trans U.size hg.size) ((hg.block p (Nat.lt_of_lt_of_le h.v.lt U.size) (fun e => h.ap2.2 e.symm)).trans (U.block p h.v.lt))
theorem vcell1 (w : World) (v : Value) (t : TypeId) : (w.alloc (.cells #[v] t)).cell? ⟨w.heap.size, 0, none⟩ = some v := new_cell w 0 v t
theorem vcell2 (w : World) (a : Addr) (u v : Value) (t : TypeId) : ((w.setCell a u).alloc (.cells #[v] t)).cell? ⟨w.heap.size, 0, none⟩ = some v := by
  have := vcell1 (w.setCell a u) v t
  simpa using this
theorem lr_base {w : World} {b b' p n gr go cr co : Nat} {bl cp : Nat → Nat} {M : Nat → Nat → Cw} {o : Nat → Nat} {odd ties : Bool} (h : Lr w b p n gr go cr co bl cp M o odd ties) (hb : b' ≤ b) : Lr w b' p n gr go cr co bl cp M o odd ties :=
  ⟨h.v, own_base h.rows hb, fun i hi => rw_base (h.row i hi) hb, ⟨h.ord.len, own_base h.ord.own hb⟩, Nat.le_trans hb h.ge, h.inj, h.ap, h.ap2⟩
/-- a matrix by its places in a list -/
def mxs (N : Nat) (xs : List Cw) (i j : Nat) : Cw := zat xs (i * N + j)
theorem info_rows : (Try.prog.info? 24).map (fun i => (i.zero, i.size, i.bytes)) = some (some (.slice none 0 0), 1, 24) := by kernel_rfl
theorem info_int : (Try.prog.info? 3).map (fun i => (i.zero, i.size, i.bytes)) = some (some (.int .i64 0), 1, 8) := by kernel_rfl
set_option maxRecDepth 4000 in
set_option maxHeartbeats 8000000 in
theorem rof_any (N Q c : Nat) (A : Option Addr) (xs : List Cw) (w : World) (hN : N ≤ 64) (h0 : 0 < N) (hQ : Q = N * N) (hl : xs.length = Q) (hc : Rc w A xs) (hx : okl xs) (hf : finL xs Q = true) :
    Calls Try.prog 11 #[.agg #[.int .i64 N, .int .i64 N, .slice A Q c]] w fun e w' => ((elm N (mxs N xs) N).1.1 = 0 → ∃ p gr go cr co bl cp odd ties, e = .returned (.tuple #[.pointer (some ⟨p, 0, none⟩), .agg #[.int .i64 0, .int .i64 0]]) ∧ Lr w' w.heap.size p N gr go cr co bl cp (elm N (mxs N xs) N).2.M (elm N (mxs N xs) N).2.o odd ties ∧ sgO odd = (elm N (mxs N xs) N).2.s) ∧ (¬ (elm N (mxs N xs) N).1.1 = 0 → e = .returned (.tuple #[.pointer none, .agg #[.int .i64 (elm N (mxs N xs) N).1.1, .int .i64 ((elm N (mxs N xs) N).1.2 : Nat)]])) ∧ Below w.heap.size w w' := by
  obtain ⟨i0, hi, hz0, hz1, hz2⟩ := info_parts Try.infoC
  obtain ⟨i1, gi, gz0, gz1, gz2⟩ := info_parts info_rows
  obtain ⟨i2, ki, kz0, kz1, kz2⟩ := info_parts info_int
  have h4 : Q ≤ 4096 := by rw [hQ]; exact le_4096 hN hN
  have HC := hid_o hc.rcb
  have HX := hid_o hx
  have HF := hid_o hf
  have HQ := hid_o hQ
  have HL := hid_o hl
  have V0 := hid_o (v3_new w (.int .i64 N) (.int .i64 N) (.slice A Q c) 26)
  clear hc hx hf hQ hl
  go_enter Try.func11, Try.ntmps11
  go_wp2_with (go_at_call 35; (with_reducible refine (rshaped_any N Q c A _ hN HQ.out).mono ?_); rintro e w1 ⟨rfl, hb1⟩; have HB1 := hid_o ((ba (bal w _) (.cells #[.int .i64 0, .int .i64 0] 35)).trans (hb1.mono (by simp; omega))); have HV1 := hid_o ((V0.out.below (bal _ _)).below hb1); have HU1 := hid_o ((v2_new (w.alloc (.cells #[.int .i64 N, .int .i64 N, .slice A Q c] 26)) (.int .i64 0) (.int .i64 0) 35).below hb1); clear hb1 V0)
  go_loopw [4] (fun iv wr => ∃ (q m : Nat), q ≤ Q ∧ iv = .int .i64 q ∧ wr = w1.drewN m) (fun iv _ => Q - (intOf iv).toNat)
  case atStart => exact ⟨0, 0, Nat.zero_le _, rfl, rfl⟩
  case round =>
    obtain ⟨q, m, hq, rfl, rfl⟩ := hrel
    have c2 := HV1.out.c2
    by_cases hlt : q < Q
    · obtain ⟨b1, o1, rfl, hb1, hc1⟩ := (HC.out.later HB1.out) q (by rw [HL.out]; exact hlt)
      have hfz := finL_iff.1 HF.out q hlt
      obtain ⟨x, hxe⟩ : ∃ x, x = zat xs q := ⟨_, rfl⟩
      rw [← hxe] at hc1 hfz
      unfold cx at hc1
      have HFZ := hid_o hfz
      have d2 : ∀ k, (w1.drewN k).cell? ⟨w.heap.size, 2, none⟩ = some (.slice (some ⟨b1, o1, none⟩) Q c) := fun k => c2
      have d1 : ∀ k, (w1.drewN k).cell? ⟨b1, o1 + q, none⟩ = some (.complex .f64 x.1 x.2) := fun k => hc1
      clear hfz hxe
      go_wp2_with (go_at_call 36; (with_reducible refine (rfin_z x).mono ?_); rintro e w8 ⟨m8, rfl, rfl⟩; rw [HFZ.out])
      go_roundw
      case measure => simp [intOf]; omega
      case rel => exact ⟨q + 1, m + m8, by omega, by go_num, by first | rfl | simp only [World.drewN_drewN]⟩
    · obtain ⟨W2, hW2⟩ : ∃ W2, W2 = w1.drewN m := ⟨_, rfl⟩
      have HB2 : Hid (Below w.heap.size w W2) := by rw [hW2]; exact below_drewN HB1.out m
      have HV2 : Hid (V3 w.heap.size (.int .i64 N) (.int .i64 N) (.slice A Q c) W2) := by rw [hW2]; exact HV1.out.drewN m
      have hu2 : V2 (w.heap.size + 1) (.int .i64 0) (.int .i64 0) W2 := by rw [hW2]; simpa using HU1.out.drewN m
      have HU2 := hid_o hu2
      clear hu2
      rw [← hW2]
      have c0 := HV2.out.c0
      clear c2 HB1 HV1 HU1 hW2
      have c2 := HV2.out.c2
      have HP0 := hid_o (pr_new W2 (w.heap.size + 2) N 40 (fun _ => 0) (fun _ => 0) (mxs N xs) HU2.out.lt)
      have HB3 := hid_o (HB2.out.alloc HB2.out.size (.cells #[.int .i64 N, .slice none 0 0, .slice none 0 0, .bool false, .bool false, .bool true] 40))
      have HV3 := hid_o (HV2.out.below (bal W2 (.cells #[.int .i64 N, .slice none 0 0, .slice none 0 0, .bool false, .bool false, .bool true] 40)))
      have HU3 := hid_o (HU2.out.below (bal W2 (.cells #[.int .i64 N, .slice none 0 0, .slice none 0 0, .bool false, .bool false, .bool true] 40)))
      clear HB2 HV2 HU2
      go_wp2
      clear c0 c2
      obtain ⟨p, hp⟩ : ∃ p, p = W2.heap.size := ⟨_, rfl⟩
      rw [← hp] at HP0 ⊢
      clear hp hq hlt
      go_loopw [7] (fun iv wr => ∃ (i : Nat) (vr vo : Value) (bl cp : Nat → Nat), i ≤ N ∧ iv = .int .i64 i ∧ Pr wr (w.heap.size + 2) p N i i vr vo bl cp (mxs N xs) ∧ V3 w.heap.size (.int .i64 N) (.int .i64 N) (.slice A Q c) wr ∧ V2 (w.heap.size + 1) (.int .i64 0) (.int .i64 0) wr ∧ Below w.heap.size w wr) (fun iv _ => N - (intOf iv).toNat)
      case atStart => exact ⟨0, _, _, _, _, Nat.zero_le _, rfl, HP0.out, HV3.out, HU3.out, HB3.out⟩
      case round =>
        clear HP0 HV3 HU3 HB3
        obtain ⟨i, vr, vo, bl, cp, hiN, rfl, hP, hV, hU, hB⟩ := hrel
        by_cases hlt2 : i < N
        · have HP := hid_o hP
          have HV := hid_o hV
          have HU := hid_o hU
          have HB := hid_o hB
          have hws := hid_o hB.size
          clear hP hV hU hB
          obtain ⟨W0, hW0⟩ : ∃ W0, W0 = wr := ⟨_, rfl⟩
          subst hW0
          go_wp2
          go_loopw [8, 9] (fun rv jv wx => ∃ j : Nat, j ≤ N ∧ jv = .int .i64 j ∧ wx.ownsRow W0.heap.size 52 1 rv j ((ro j (mxs N xs i)).map cx) ∧ Below W0.heap.size W0 wx) (fun _ jv _ => N - (intOf jv).toNat)
          case atStart => exact ⟨0, Nat.zero_le _, rfl, World.ownsRow_nil _ _ _ _, Below.refl _ _⟩
          case round =>
            obtain ⟨j, hjN, rfl, hown, hbel⟩ := hrel
            have HV' := hid_o (HV.out.below hbel)
            by_cases hlt3 : j < N
            · have hkj : i * N + j < Q := by rw [HQ.out]; exact place_lt hlt2 hlt3
              obtain ⟨b1, o1, rfl, hb1, hc1⟩ := (HC.out.later (HB.out.trans (hbel.mono hws.out))) (i * N + j) (by rw [HL.out]; exact hkj)
              have c2 := HV'.out.c2
              have HM : Hid (mxs N xs i j = zat xs (i * N + j)) := rfl
              obtain ⟨x, hxe⟩ : ∃ x, x = zat xs (i * N + j) := ⟨_, rfl⟩
              rw [← hxe] at hc1 HM
              unfold cx at hc1
              have HOW := hid_o hown
              have HBL := hid_o hbel
              have b64 : (j + 1) * 16 ≤ 140737488355328 := by omega
              have b65 : j + 1 ≤ maxLen := by unfold maxLen; omega
              have B64 := hid_o b64
              have B65 := hid_o b65
              have hbs := hid_o hbel.size
              have hal : Hid (∀ o, W0.heap.size ≤ (wr.alloc o).heap.size) := fun o => by have := hbel.size; simp; omega
              have m1 : N - (j + 1) < N - j := by omega
              have m2 : j + 1 ≤ N := by omega
              have M1 := hid_o m1
              have M2 := hid_o m2
              clear m1 m2 hjN hb1
              have k1 : i ≤ 1000 := by omega
              have k2 : N ≤ 1000 := by omega
              have hm := wrap_mul k1 k2
              obtain ⟨k, hke⟩ : ∃ k, k = i * N := ⟨_, rfl⟩
              rw [← hke] at hm hkj hc1
              have HMM := hid_o hm
              clear hm
              clear hxe hke k1 k2 hown hbel b64 b65
              have HZ1 := hid_o hz1
              have HZ2 := hid_o hz2
              go_upto_region 17 with fail
              have HLT2 := hid_o hlt2
              have HIN := hid_o hiN
              have HLT3 := hid_o hlt3
              have HNN := hid_o hN
              have H00 := hid_o h0
              clear hlt2 hiN hlt3 hN h0 hz1 hz2 gz1 gz2 kz1 kz2
              have hm := HMM.out
              go_wp2_with (at_builtin; refine wpList_append_lies _ rfl _ _ 24 rfl W0.heap.size 52 i0 (.complex .f64 0 0) 1 16 Try.underlying24 hi hz0 HZ1.out HZ2.out rfl (by decide) _ j _ rfl (HOW.out.alloc _) ⟨_, 0, none⟩ 1 1 [.complex .f64 x.1 x.2] rfl rfl (fun j u hj => by match j, hj with | 0, hj => (simp at hj; subst hj; exact vcell1 _ _ _)) (fun u hu => by simp at hu; subst hu; rfl) (by decide) B65.out B64.out (hal.out _) _ rfl ?_; intro g1 k1 wz own1 grow1 at1 lt1; have HB1 := hid_o (((HBL.out.alloc hbs.out _).grown grow1 (hal.out _) (fun q hq => own_ge HOW.out hq))); have HO1 := hid_o own1; clear own1 grow1 at1 lt1)
              clear hm hkj
              go_roundw
              case measure => simp [intOf]; have := M1.out; omega
              case rel =>
                refine ⟨j + 1, M2.out, by go_num, ?_, HB1.out⟩
                rw [ro_snk, HM.out]
                exact HO1.out
            · have e : j = N := by omega
              rw [e] at hown
              obtain ⟨g8, c8, hrv, h8b, h8l⟩ := hown.form h0
              subst hrv
              have hP1 := HP.out.below hbel
              have hPl := HP.out.v.lt
              have hUl := HU.out.lt
              have hp2 := HP.out.ge
              have h8 : Rw wr (w.heap.size + 2) (.slice (some ⟨g8, 0, none⟩) N c8) N (ro N (mxs N xs i)) := ⟨ro_len _ _, own_base hown (by omega)⟩
              have n1 : g8 ≠ p := by omega
              have n2 : vr.ownBlock ≠ some g8 := fun e => by have := (HP.out.rows.lt _ e).2; omega
              have n3 : vo.ownBlock ≠ some g8 := fun e => by have := (HP.out.ord.own.lt _ e).2; omega
              have n4 : ∀ r, r < i → bl r ≠ g8 := fun r hr e => by have h9 : bl r < W0.heap.size := ((HP.out.row r hr).own.lt (bl r) rfl).2; rw [e] at h9; omega
              have hal : Hid (∀ o, w.heap.size + 2 ≤ (wr.alloc o).heap.size) := fun o => by have := hbel.size; simp; omega
              have b1 : Hid ((i + 1) * 24 ≤ 140737488355328) := (by omega : (i + 1) * 24 ≤ 140737488355328)
              have b2 : Hid ((i + 1) * 8 ≤ 140737488355328) := (by omega : (i + 1) * 8 ≤ 140737488355328)
              have b3 : Hid (i + 1 ≤ maxLen) := (by unfold maxLen; omega : i + 1 ≤ maxLen)
              have HVV := hid_o HV'.out
              have HUU := hid_o (HU.out.below hbel)
              have HBB := hid_o (HB.out.trans (hbel.mono hws.out))
              obtain ⟨Ar, Cr, rfl⟩ := own_form HP.out.rows
              obtain ⟨Ao, Co, rfl⟩ := own_form HP.out.ord.own
              have c1 := hP1.v.c1
              have pl1 := hP1.v.lt
              have HP1 := hid_o hP1
              have H8 := hid_o h8
              have N1 := hid_o n1
              have N2 := hid_o n2
              have N3 := hid_o n3
              have N4 := hid_o n4
              clear hown hbel h8b h8l hP1 hPl hUl hp2 h8 n1 n2 n3 n4 e
              go_wp2_with (first
                | (at_builtin; refine wpList_append_lies _ rfl _ _ 38 rfl (w.heap.size + 2) 24 i1 (.slice none 0 0) 1 24 Try.underlying38 gi gz0 gz1 gz2 rfl (by decide) _ i _ rfl (HP1.out.rows.alloc _) ⟨_, 0, none⟩ 1 1 [.slice (some ⟨g8, 0, none⟩) N c8] rfl rfl (fun j u hj => by match j, hj with | 0, hj => (simp at hj; subst hj; exact vcell1 _ _ _)) (fun u hu => by simp at hu; subst hu; rfl) (by decide) b3.out b1.out (hal.out _) _ rfl ?_; intro g1 k1 wz own1 grow1 at1 lt1; obtain ⟨PP, BP⟩ := HP1.out.pushRow H8.out N1.out N2.out N3.out N4.out (bal _ _) grow1 at1 rfl own1; have Vz := pr_mid1 HP1.out (bal _ _) grow1; have z1 := Vz.c1; have z2 := Vz.c2; have zf := Vz.fz; have zl := Vz.lt; have HPP := hid_o PP; have HBP := hid_o BP; clear own1 grow1 at1 lt1 PP BP Vz c1)
                | (at_builtin; refine wpList_append_lies _ rfl _ _ 31 rfl (w.heap.size + 2) 3 i2 (.int .i64 0) 1 8 Try.underlying31 ki kz0 kz1 kz2 rfl (by decide) _ i _ rfl (HPP.out.ord.own.alloc _) ⟨_, 0, none⟩ 1 1 [.int .i64 i] rfl rfl (fun j u hj => by match j, hj with | 0, hj => (simp at hj; subst hj; exact vcell2 _ _ _ _ _)) (fun u hu => by simp at hu; subst hu; rfl) (by decide) b3.out b2.out (by have := HPP.out.ge; have := HPP.out.v.lt; simp at *; omega) _ rfl ?_; intro g2 k2 wy own2 grow2 at2 lt2; obtain ⟨PQ, BQ⟩ := HPP.out.pushOrd (bal _ _) grow2 at2 rfl own2; have Vy := pr_mid2 HPP.out (bal _ _) grow2; have y1 := Vy.c2; have yf := Vy.fz; have yl := Vy.lt; have HPQ := hid_o PQ; have HBQ := hid_o BQ; clear own2 grow2 at2 lt2 PQ BQ Vy z1 z2 zf zl))
              go_roundw
              case measure => simp [intOf]; omega
              case rel =>
                have hb2 := HBP.out.trans HBQ.out
                exact ⟨i + 1, _, _, _, _, by omega, by go_num, HPQ.out, HVV.out.later hb2 (by omega), HUU.out.later hb2 (by omega), HBB.out.trans (hb2.mono (by omega))⟩
        · have e : i = N := by omega
          rw [e] at hP
          obtain ⟨gr, go, cr, co, rfl, rfl, hLr⟩ := hP.lr h0
          have HL0 : Hid (Lr wr (w.heap.size + 2) p N gr go cr co bl cp (elm N (mxs N xs) 0).2.M (elm N (mxs N xs) 0).2.o false false) := hLr
          have HU := hid_o hU
          have HB := hid_o hB
          have okM0 : Hid (okM N (mxs N xs)) := fun i j _ _ => HX.out _
          have fiM0 : Hid (finM N (mxs N xs)) := fun i j hi hj => finL_iff.1 HF.out _ (by rw [HQ.out]; exact place_lt hi hj)
          clear hP hLr hV hU hB e HC HX HF
          go_wp2
          go_loopw [10] (fun kv wr => ∃ (k : Nat) (bl cp : Nat → Nat) (odd ties : Bool), k ≤ N ∧ kv = .int .i64 k ∧ (elm N (mxs N xs) k).1.1 = 0 ∧ Lr wr (w.heap.size + 2) p N gr go cr co bl cp (elm N (mxs N xs) k).2.M (elm N (mxs N xs) k).2.o odd ties ∧ sgO odd = (elm N (mxs N xs) k).2.s ∧ V2 (w.heap.size + 1) (.int .i64 0) (.int .i64 0) wr ∧ Below w.heap.size w wr) (fun kv _ => N - (intOf kv).toNat)
          case atStart => exact ⟨0, bl, cp, false, false, Nat.zero_le _, rfl, rfl, HL0.out, rfl, HU.out, HB.out⟩
          case round =>
            clear HL0 HU HB
            obtain ⟨k, bl, cp, odd, ties, hkN, rfl, h1, hL, hsg, hU, hB⟩ := hrel
            by_cases hk : k < N
            · have hE := elm_eok okM0.out fiM0.out k (by omega) h1
              have hC := rcol_any (w.heap.size + 2) p N gr go cr co bl cp _ _ odd ties k wr hN hk hL hE.ok hE.fin
              rw [show (⟨(elm N (mxs N xs) k).2.M, (elm N (mxs N xs) k).2.o, sgO odd⟩ : Es) = (elm N (mxs N xs) k).2 by rw [hsg]] at hC
              have hsucc := elm_succ (n := N) (M0 := mxs N xs) h1
              obtain ⟨T, hT⟩ : ∃ T, T = stp N k (elm N (mxs N xs) k).2 := ⟨_, rfl⟩
              rw [← hT] at hC hsucc
              have HU := hid_o hU
              have HB := hid_o hB
              have HS := hid_o hsucc
              by_cases hT0 : T.1 = 0
              · have HCC := hid_o (hC.mono (R' := fun e w' => e = .returned (.int .i64 0) ∧ (∃ bl' cp' odd', Lr w' (w.heap.size + 2) p N gr go cr co bl' cp' T.2.M T.2.o odd' (ties || ti (elm N (mxs N xs) k).2.M k N (N - k)) ∧ sgO odd' = T.2.s) ∧ Below (w.heap.size + 2) wr w') (by rintro e w' ⟨rfl, h2, h3⟩; exact ⟨by rw [hT0], h2 hT0, h3⟩))
                have H0 := hid_o hT0
                clear hC hT hsucc hE hL hsg hU hB h1 hT0
                go_wp2_with (go_at_call 37; (with_reducible refine HCC.out.mono ?_); rintro e w5 ⟨rfl, ⟨bl', cp', odd', hL5, hs5⟩, hb5⟩; have HL5 := hid_o hL5; have HS5 := hid_o hs5; have HB5 := hid_o hb5; clear hL5 hs5 hb5)
                go_roundw
                case measure => simp [intOf]; omega
                case rel =>
                  refine ⟨k + 1, bl', cp', odd', (ties || ti (elm N (mxs N xs) k).2.M k N (N - k)), by omega, by go_num, ?_, ?_, ?_, HU.out.later HB5.out (by omega), HB.out.trans (HB5.out.mono (by omega))⟩
                  · rw [HS.out]; exact H0.out
                  · rw [HS.out]; exact HL5.out
                  · rw [HS.out]; exact HS5.out
              · have e1 : ¬ (elm N (mxs N xs) (k + 1)).1.1 = 0 := by rw [hsucc]; exact hT0
                have e2 := elm_stay e1 N (by omega)
                rw [hsucc, if_neg hT0] at e2
                have FIN : Hid ((elm N (mxs N xs) N).1 = (T.1, k)) := by rw [e2]; rfl
                have HCC := hid_o (hC.mono (R' := fun e w' => e = .returned (.int .i64 T.1) ∧ Below (w.heap.size + 2) wr w') (by rintro e w' ⟨rfl, _, h3⟩; exact ⟨rfl, h3⟩))
                obtain ⟨E, hEe⟩ : ∃ E, E = T.1 := ⟨_, rfl⟩
                rw [← hEe] at hT0 FIN HCC
                clear hC hT hsucc hE hL hsg hU hB h1 e1 e2 HS hEe
                go_wp2_with (go_at_call 37; (with_reducible refine HCC.out.mono ?_); rintro e w5 ⟨rfl, hb5⟩; have HB5 := hid_o hb5; have U5 := HU.out.later hb5 (by omega); have q0 := U5.c0; have q1 := U5.c1; have q2 := U5.f0; have q3 := U5.f1; have ql := U5.lt; have rr := U5.reads; clear hb5 U5)
                refine bodyPost_ret (by simp [results, Try.results11, go_sem, rr.1, rr.2]; try rfl) rfl ?_
                exact ⟨fun h => absurd h (by rw [FIN.out]; exact hT0), fun _ => by rw [FIN.out], below_set2 (HB.out.trans (HB5.out.mono (by omega))) (by omega) _ _⟩
            · have e : k = N := by omega
              rw [e] at h1 hL hsg
              have q0 := hU.c0
              have q1 := hU.c1
              have q2 := hU.f0
              have q3 := hU.f1
              have ql := hU.lt
              have rr := hU.reads
              have H1 := hid_o h1
              have HL := hid_o hL
              have HSG := hid_o hsg
              have HB := hid_o hB
              clear h1 hL hsg hU hB e
              go_wp2
              refine bodyPost_ret (by simp [results, Try.results11, go_sem, rr.1, rr.2]; try rfl) rfl ?_
              refine ⟨fun _ => ⟨p, gr, go, cr, co, bl, cp, odd, ties, rfl, ?_, HSG.out⟩, fun h => absurd H1.out h, below_set2 HB.out (by omega) _ _⟩
              have hh := HL.out.ge
              refine lr_base ((HL.out.at (by simp) (fun g hg _ => ?_)) : Lr _ (w.heap.size + 2) p N gr go cr co bl cp _ _ odd ties) (by omega)
              rw [Below.heap_setCell _ _ _ g (by show g ≠ w.heap.size + 1; omega), Below.heap_setCell _ _ _ g (by show g ≠ w.heap.size + 1; omega)]
end Go.Proofs.Ytklbgibhbnijaaa
