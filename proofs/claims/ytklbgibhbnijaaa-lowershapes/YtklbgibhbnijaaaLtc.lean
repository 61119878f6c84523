/-
  The statements' told: all that a Lower tells is what the document's tells.
-/
import Derived.Test.YtklbgibhbnijaaaLtb
import Derived.Deep.RegionHeldLaw
import Derived.Deep.DeepCutAuto
namespace Go.Proofs.Ytklbgibhbnijaaa
open Fl RowKit
set_option linter.unusedVariables false

set_option maxRecDepth 20000 in
set_option maxHeartbeats 16000000 in
theorem told_any {w0 : World} {lv rv : Value} {N T : Nat} {M : Nat → Nat → Cw} {o : Nat → Nat} {s : Int} (HL0 : Lhd w0 lv N M o s) (hN : N ≤ 64) (hT0 : T = N * N) (okL0 : okl (ro T (flw N (lE M)))) (okU0 : okl (ro T (flw N (uE M)))) (okP0 : okl (ro N fun i => M i i))
    (RS0 : ∀ W, Below w0.heap.size w0 W → Calls Try.prog 67 #[rv] W fun e w' => e = .returned (.int .i64 (N : Int)) ∧ Below W.heap.size W w')
    (RG0 : ∀ W, Below w0.heap.size w0 W → Calls Try.prog 68 #[rv] W fun e w' => e = .returned (.int .i64 s) ∧ Below W.heap.size W w')
    (RL0 : ∀ W, Below w0.heap.size w0 W → Calls Try.prog 69 #[rv] W fun e w' => ∃ A c, e = .returned (.agg #[.int .i64 N, .int .i64 N, .slice A T c]) ∧ Lst w' A T (fun j => anz (zat (ro T (flw N (lE M))) j)) (ro T (flw N (lE M))) ∧ Below W.heap.size W w')
    (RU0 : ∀ W, Below w0.heap.size w0 W → Calls Try.prog 70 #[rv] W fun e w' => ∃ A c, e = .returned (.agg #[.int .i64 N, .int .i64 N, .slice A T c]) ∧ Lst w' A T (fun j => anz (zat (ro T (flw N (uE M))) j)) (ro T (flw N (uE M))) ∧ Below W.heap.size W w')
    (RP0 : ∀ W, Below w0.heap.size w0 W → Calls Try.prog 71 #[rv] W fun e w' => ∃ A c, e = .returned (.slice A N c) ∧ Lst w' A N (fun j => anz (zat (ro N fun i => M i i) j)) (ro N fun i => M i i) ∧ Below W.heap.size W w')
    (RO0 : ∀ W, Below w0.heap.size w0 W → Calls Try.prog 72 #[rv] W fun e w' => ∃ A c, e = .returned (.slice A N c) ∧ Qi w' A (ri N o) ∧ Below W.heap.size W w') :
    Calls Try.prog 33 #[lv, rv] w0 fun e w' => e = .returned (.bool true) ∧ Below w0.heap.size w0 w' := by
  have HT4 : Hid (T ≤ 4096) := by rw [hT0]; exact le_4096 hN hN
  have HL := hid_o HL0
  have hT := hid_o hT0
  have okL := hid_o okL0
  have okU := hid_o okU0
  have okP := hid_o okP0
  have RS := hid_o RS0
  have RG := hid_o RG0
  have RL := hid_o RL0
  have RU := hid_o RU0
  have RP := hid_o RP0
  have RO := hid_o RO0
  clear HL0 hT0 okL0 okU0 okP0 RS0 RG0 RL0 RU0 RP0 RO0
  go_enter Try.func33, Try.ntmps33
  go_upto_region 5 with (first
    | (go_at_call 16; (with_reducible refine (t_l HL.out hN hT.out (Below.refl _ w0)).mono ?_); rintro e w1 ⟨ga, rfl, hr, hb⟩; (have Ra1 := hid_o hr); (have B1 := hid_o hb); (have La1 := hid_o hr.lt); clear hr hb)
    | (go_at_call 17; (with_reducible refine (t_u HL.out hN hT.out B1.out).mono ?_); rintro e w2 ⟨gb, rfl, hr, hb⟩; (have Ra2 := hid_o (Ra1.out.below hb)); (have Rb2 := hid_o (rw_base hr B1.out.size)); (have B2 := hid_o (bt B1.out hb)); (have Lb2 := hid_o hr.lt); (have Q2 := hid_o hb.size); clear hr hb)
    | (go_at_call 16; (with_reducible refine (t_l HL.out hN hT.out (ba (ba B2.out _) _)).mono ?_); rintro e w3 ⟨gc, rfl, hr, hb⟩; (have K3 : Below w2.heap.size w2 w3 := bt (ba (bal _ _) _) hb); (have Ra3 := hid_o (Ra2.out.below K3)); (have Rb3 := hid_o (Rb2.out.below K3)); (have B3 := hid_o (bt B2.out K3)); (have Rc3 := hid_o (rw_base (b' := w0.heap.size) hr (by rw [size_al, size_al]; have := B2.out.size; omega))); (have Lc3 : Hid (w2.heap.size ≤ gc ∧ gc < w3.heap.size) := ⟨by have := hr.lt.1; rw [size_al, size_al] at this; omega, hr.lt.2⟩); (have Va3 := hid_o (((v3_new w2 (.int .i64 N) (.int .i64 N) (.slice (some ⟨ga, 0, none⟩) T T) 26).below (bal _ _)).below hb)); (have Vb3 := hid_o ((v3_at (w2.alloc (.cells #[.int .i64 N, .int .i64 N, .slice (some ⟨ga, 0, none⟩) T T] 26)) (.int .i64 N) (.int .i64 N) (.slice (some ⟨gb, 0, none⟩) T T) 26 (size_al _ _)).below hb)); clear hr hb K3)
    | (go_at_call 17; (with_reducible refine (t_u HL.out hN hT.out B3.out).mono ?_); rintro e w4 ⟨gd, rfl, hr, hb⟩; (have Ra4 := hid_o (Ra3.out.below hb)); (have Rb4 := hid_o (Rb3.out.below hb)); (have Rc4 := hid_o (Rc3.out.below hb)); (have Rd4 := hid_o (rw_base hr B3.out.size)); (have B4 := hid_o (bt B3.out hb)); (have Ld4 := hid_o hr.lt); (have Va4 := hid_o (Va3.out.below hb)); (have Vb4 := hid_o (Vb3.out.below hb)); clear hr hb)
    | (go_at_call 21; (with_reducible refine (t_piv HL.out hN (ba (ba B4.out _) _)).mono ?_); rintro e w5 ⟨gp, rfl, hr, hb⟩; (have K5 : Below w4.heap.size w4 w5 := bt (ba (bal _ _) _) hb); (have Ra5 := hid_o (Ra4.out.below K5)); (have Rb5 := hid_o (Rb4.out.below K5)); (have Rc5 := hid_o (Rc4.out.below K5)); (have Rd5 := hid_o (Rd4.out.below K5)); (have Va5 := hid_o (Va4.out.below K5)); (have Vb5 := hid_o (Vb4.out.below K5)); (have B5 := hid_o (bt B4.out K5)); (have Rp5 := hid_o (rw_base (b' := w0.heap.size) hr (by rw [size_al, size_al]; have := B4.out.size; omega))); (have Lp5 : Hid (w4.heap.size ≤ gp ∧ gp < w5.heap.size) := ⟨by have := hr.lt.1; rw [size_al, size_al] at this; omega, hr.lt.2⟩); (have Vc5 := hid_o (((v3_new w4 (.int .i64 N) (.int .i64 N) (.slice (some ⟨gc, 0, none⟩) T T) 26).below (bal _ _)).below hb)); (have Vd5 := hid_o ((v3_at (w4.alloc (.cells #[.int .i64 N, .int .i64 N, .slice (some ⟨gc, 0, none⟩) T T] 26)) (.int .i64 N) (.int .i64 N) (.slice (some ⟨gd, 0, none⟩) T T) 26 (size_al _ _)).below hb)); clear hr hb K5)
    | (go_at_call 21; (with_reducible refine (t_piv HL.out hN B5.out).mono ?_); rintro e w6 ⟨gq, rfl, hr, hb⟩; (have K6 := hid_o hb); (have Rq6 := hid_o (rw_base hr B5.out.size)); (have B6 := hid_o (bt B5.out hb)); (have Lq6 := hid_o hr.lt); clear hr hb)
    | (go_at_call 18; (with_reducible refine (t_ord HL.out hN B6.out).mono ?_); rintro e w7 ⟨go, rfl, hr, hb⟩; (have K7 := hid_o (bt K6.out hb)); (have Rq7 := hid_o (Rq6.out.below hb)); (have Io7 := hid_o (hr.base B6.out.size)); (have B7 := hid_o (bt B6.out hb)); (have Lo7 : Hid (w6.heap.size ≤ go ∧ go < w7.heap.size) := hr.own.lt go rfl); clear hr hb)
    | (go_at_call 18; (with_reducible refine (t_ord HL.out hN B7.out).mono ?_); rintro e w8 ⟨gs, rfl, hr, hb⟩; (have K8 := hid_o (bt K7.out hb)); (have Rq8 := hid_o (Rq7.out.below hb)); (have Io8 := hid_o (Io7.out.below hb)); (have Js8 := hid_o (hr.base B7.out.size)); (have B8 := hid_o (bt B7.out hb)); (have Ls8 : Hid (w7.heap.size ≤ gs ∧ gs < w8.heap.size) := hr.own.lt gs rfl); clear hr hb))
  have T0 : Tc w0 N T w2.heap.size (w2.heap.size + 1) w4.heap.size (w4.heap.size + 1) ga gb gc gd gp gq go gs (ro T (flw N (lE M))) (ro T (flw N (uE M))) (ro N fun i => M i i) (ri N o) w8 := by
    have K := K8.out
    refine ⟨B8.out, Va5.out.below K, Vb5.out.below K, Vc5.out.below K, Vd5.out.below K, Ra5.out.below K, Rb5.out.below K, Rc5.out.below K, Rd5.out.below K, Rp5.out.below K, Rq8.out, Io8.out, Js8.out, ?_⟩
    have h1 := La1.out; have h2 := Lb2.out; have h3 := Lc3.out; have h4 := Ld4.out; have h5 := Lp5.out; have h6 := Lq6.out; have h7 := Lo7.out; have h8 := Ls8.out
    omega
  clear Ra1 Ra2 Ra3 Ra4 Ra5 Rb2 Rb3 Rb4 Rb5 Rc3 Rc4 Rc5 Rd4 Rd5 Rp5 Rq6 Rq7 Rq8 Io7 Io8 Js8 Va3 Va4 Va5 Vb3 Vb4 Vb5 Vc5 Vd5 K6 K7 K8 B1 B2 B3 B4 B5 B6 B7 B8 La1 Lb2 Lc3 Ld4 Lp5 Lq6 Lo7 Ls8 Q2
  obtain ⟨pa, hpa⟩ : ∃ p, p = w2.heap.size := ⟨_, rfl⟩
  obtain ⟨pc, hpc⟩ : ∃ p, p = w4.heap.size := ⟨_, rfl⟩
  rw [← hpa, ← hpc] at T0 ⊢
  obtain ⟨pb, hpb⟩ : ∃ p, p = pa + 1 := ⟨_, rfl⟩
  obtain ⟨pd, hpd⟩ : ∃ p, p = pc + 1 := ⟨_, rfl⟩
  rw [← hpb, ← hpd] at T0 ⊢
  clear hpa hpb hpc hpd
  have gN : ((N : Int) != (N : Int)) = false := by simp
  have gS : (s != s) = false := by simp
  go_cut [92] from 29 to 92 (fun a V => a = .bool false ∧ Tc w0 N T pa pb pc pd ga gb gc gd gp gq go gs (ro T (flw N (lE M))) (ro T (flw N (uE M))) (ro N fun i => M i i) (ri N o) V)
  case first =>
    go_region_held_law (fun V => (V.cell? ⟨pa, 0, none⟩ = some (.int .i64 N) ∧ V.cell? ⟨pa, 1, none⟩ = some (.int .i64 N) ∧ V.cell? ⟨pa, 2, none⟩ = some (.slice (some ⟨ga, 0, none⟩) T T)) ∧ (V.cell? ⟨pb, 0, none⟩ = some (.int .i64 N) ∧ V.cell? ⟨pb, 1, none⟩ = some (.int .i64 N) ∧ V.cell? ⟨pb, 2, none⟩ = some (.slice (some ⟨gb, 0, none⟩) T T)) ∧ (V.cell? ⟨pc, 0, none⟩ = some (.int .i64 N) ∧ V.cell? ⟨pc, 1, none⟩ = some (.int .i64 N) ∧ V.cell? ⟨pc, 2, none⟩ = some (.slice (some ⟨gc, 0, none⟩) T T)) ∧ (V.cell? ⟨pd, 0, none⟩ = some (.int .i64 N) ∧ V.cell? ⟨pd, 1, none⟩ = some (.int .i64 N) ∧ V.cell? ⟨pd, 2, none⟩ = some (.slice (some ⟨gd, 0, none⟩) T T)))
      (first | with_reducible exact T16.s | with_reducible exact T15.s | with_reducible exact T14.s | with_reducible exact T13.s | with_reducible exact T12.s | with_reducible exact T11.s | with_reducible exact T10.s | with_reducible exact T9.s | with_reducible exact T8.s | with_reducible exact T7.s | with_reducible exact T6.s | with_reducible exact T5.s | with_reducible exact T4.s | with_reducible exact T3.s | with_reducible exact T2.s | with_reducible exact T1.s | with_reducible exact T0.s | with_reducible exact T0.dr.s | go_keep)
      (first
      | (go_at_call 61; (with_reducible refine (t_size HL.out (by first | exact T0.bel | exact T0.dr.bel)).mono ?_); rintro e y1 ⟨rfl, hb⟩; (have T1 := T0.below (by first | exact hb | exact undrew hb)); clear hb)
      | (go_at_call 67; (with_reducible refine (RS.out _ T1.bel).mono ?_); rintro e y2 ⟨rfl, hb⟩; (have T2 := T1.below (by first | exact hb | exact undrew hb)); clear hb)
      | (go_at_call 19; (with_reducible refine (t_sign HL.out T2.bel).mono ?_); rintro e y3 ⟨rfl, hb⟩; (have T3 := T2.below (by first | exact hb | exact undrew hb)); clear hb)
      | (go_at_call 68; (with_reducible refine (RG.out _ T3.bel).mono ?_); rintro e y4 ⟨rfl, hb⟩; (have T4 := T3.below (by first | exact hb | exact undrew hb)); clear hb)
      | (go_at_call 69; (with_reducible refine (RL.out _ T4.bel).mono ?_); rintro e y5 ⟨A5, c5, rfl, hr5, hb⟩; (have T5 := T4.below (by first | exact hb | exact undrew hb)); clear hb)
      | (go_at_call 15; (with_reducible refine (ksameM (N : Int) (N : Int) (rw_ls T5.ra okL.out) hr5 (by have := HT4.out; omega)).mono ?_); rintro e y6 ⟨rfl, hb⟩; (have T6 := T5.below (by first | exact hb | exact undrew hb)); clear hb)
      | (go_at_call 70; (with_reducible refine (RU.out _ T6.bel).mono ?_); rintro e y7 ⟨A7, c7, rfl, hr7, hb⟩; (have T7 := T6.below (by first | exact hb | exact undrew hb)); clear hb)
      | (go_at_call 15; (with_reducible refine (ksameM (N : Int) (N : Int) (rw_ls T7.rb okU.out) hr7 (by have := HT4.out; omega)).mono ?_); rintro e y8 ⟨rfl, hb⟩; (have T8 := T7.below (by first | exact hb | exact undrew hb)); clear hb)
      | (go_at_call 15; (with_reducible refine (ksameM (N : Int) (N : Int) (rw_ls T8.rc okL.out) (rw_ls T8.ra okL.out) (by have := HT4.out; omega)).mono ?_); rintro e y9 ⟨rfl, hb⟩; (have T9 := T8.below (by first | exact hb | exact undrew hb)); clear hb)
      | (go_at_call 15; (with_reducible refine (ksameM (N : Int) (N : Int) (rw_ls T9.rd okU.out) (rw_ls T9.rb okU.out) (by have := HT4.out; omega)).mono ?_); rintro e y10 ⟨rfl, hb⟩; (have T10 := T9.below (by first | exact hb | exact undrew hb)); clear hb)
      | (go_at_call 71; (with_reducible refine (RP.out _ T10.bel).mono ?_); rintro e y11 ⟨A11, c11, rfl, hr11, hb⟩; (have T11 := T10.below (by first | exact hb | exact undrew hb)); clear hb)
      | (go_at_call 45; (with_reducible refine (sn_w (rw_ls T11.rp okP.out) hr11 (by omega)).mono ?_); rintro e y12 ⟨rfl, hb⟩; (have T12 := T11.below (by first | exact hb | exact undrew hb)); clear hb)
      | (go_at_call 45; (with_reducible refine (sn_w (rw_ls T12.rq okP.out) (rw_ls T12.rp okP.out) (by omega)).mono ?_); rintro e y13 ⟨rfl, hb⟩; (have T13 := T12.below (by first | exact hb | exact undrew hb)); clear hb)
      | (go_at_call 72; (with_reducible refine (RO.out _ T13.bel).mono ?_); rintro e y14 ⟨A14, c14, rfl, hr14, hb⟩; (have T14 := T13.below (by first | exact hb | exact undrew hb)); clear hb)
      | (go_at_call 39; (with_reducible refine (si_w _ _ _ _ N (ri N o) _ (ri_len _ _) (by omega) T14.io.qi hr14).mono ?_); rintro e y15 ⟨rfl, hb⟩; (have T15 := T14.below (by first | exact hb | exact undrew hb)); clear hb)
      | (go_at_call 39; (with_reducible refine (si_w _ _ _ _ N (ri N o) _ (ri_len _ _) (by omega) T15.js.qi T15.io.qi).mono ?_); rintro e y16 ⟨rfl, hb⟩; (have T16 := T15.below (by first | exact hb | exact undrew hb)); clear hb))
    all_goals rename_i hHeld
    all_goals clear hHeld
    all_goals go_wp2_with fail
    all_goals go_meet
    all_goals exact ⟨rfl, T16⟩
  case rest =>
    obtain ⟨rfl, T1⟩ := hcut
    clear T0
    obtain ⟨⟨c1, c2, c3⟩, ⟨d1, d2, d3⟩, ⟨f1, f2, f3⟩, ⟨k1, k2, k3⟩⟩ := T1.s
    have HT1 := hid_o T1
    clear T1
    go_wp2_with (first
      | (go_at_call 73; (with_reducible refine (HT1.out.apartN HT4.out hN).mono ?_); rintro e x1 ⟨rfl, hb, hi, hj⟩; (have B1 := hid_o hb); (have I1 := hid_o hi); (have J1 := hid_o hj); clear hb hi hj)
      | (go_at_call 74; (with_reducible refine (apartI B1.out I1.out J1.out HT1.out.ap.2.2.2.2.2.2 hN).mono ?_); rintro e x2 ⟨rfl, hb⟩; (have B2 := hid_o hb); clear hb)
      | (go_at_call 16; (with_reducible refine (t_l HL.out hN hT.out B2.out).mono ?_); rintro e x3 ⟨g3, rfl, hr, hb⟩; (have B3 := hid_o (bt B2.out hb)); (have R3 := hid_o hr); clear hr hb)
      | (go_at_call 69; (with_reducible refine (RL.out _ B3.out).mono ?_); rintro e x4 ⟨A4, c4, rfl, hr, hb⟩; (have B4 := hid_o (bt B3.out hb)); (have R4 := hid_o (R3.out.below hb)); (have Q4 := hid_o hr); clear hr hb)
      | (go_at_call 15; (with_reducible refine (ksameM (N : Int) (N : Int) (rw_ls R4.out okL.out) Q4.out (by have := HT4.out; omega)).mono ?_); rintro e x5 ⟨rfl, hb⟩; (have B5 := hid_o (bt B4.out hb)); clear hb)
      | (go_at_call 17; (with_reducible refine (t_u HL.out hN hT.out B5.out).mono ?_); rintro e x6 ⟨g6, rfl, hr, hb⟩; (have B6 := hid_o (bt B5.out hb)); (have R6 := hid_o hr); clear hr hb)
      | (go_at_call 70; (with_reducible refine (RU.out _ B6.out).mono ?_); rintro e x7 ⟨A7, c7, rfl, hr, hb⟩; (have B7 := hid_o (bt B6.out hb)); (have R7 := hid_o (R6.out.below hb)); (have Q7 := hid_o hr); clear hr hb)
      | (go_at_call 15; (with_reducible refine (ksameM (N : Int) (N : Int) (rw_ls R7.out okU.out) Q7.out (by have := HT4.out; omega)).mono ?_); rintro e x8 ⟨rfl, hb⟩; (have B8 := hid_o (bt B7.out hb)); clear hb)
      | (go_at_call 18; (with_reducible refine (t_ord HL.out hN B8.out).mono ?_); rintro e x9 ⟨g9, rfl, hr, hb⟩; (have B9 := hid_o (bt B8.out hb)); (have R9 := hid_o hr); clear hr hb)
      | (go_at_call 72; (with_reducible refine (RO.out _ B9.out).mono ?_); rintro e x10 ⟨A10, c10, rfl, hr, hb⟩; (have B10 := hid_o (bt B9.out hb)); (have R10 := hid_o (R9.out.below hb)); (have Q10 := hid_o hr); clear hr hb)
      | (go_at_call 39; (with_reducible refine (si_w _ _ _ _ N (ri N o) _ (ri_len _ _) (by omega) R10.out.qi Q10.out).mono ?_); rintro e x11 ⟨rfl, hb⟩; (have B11 := hid_o (bt B10.out hb)); clear hb))
    go_ret
    exact ⟨rfl, B11.out⟩
end Go.Proofs.Ytklbgibhbnijaaa
