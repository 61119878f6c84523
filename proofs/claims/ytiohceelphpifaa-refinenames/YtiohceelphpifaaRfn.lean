/-
  What refine's Until hands back.
-/
import Derived.Test.YtiohceelphpifaaRfm
import Derived.Test.YtiohceelphpifaaSlh
namespace Go.Proofs.Ytiohceelphpifaa
open Fl RowKit

theorem unt_stop {N : Nat} {data bs : List Cw} {M : Nat → Nat → Cw} {o : Nat → Nat} {f : Nat} {xs ls : List Cw} (h : stK N data bs M o xs ls = false) : unt N data bs M o f xs ls = (xs, 0) := by
  cases f with
  | zero => rfl
  | succ f => unfold unt; rw [if_neg (by rw [h]; decide)]
theorem unt_go {N : Nat} {data bs : List Cw} {M : Nat → Nat → Cw} {o : Nat → Nat} {f : Nat} {xs ls : List Cw} (h : stK N data bs M o xs ls = true) : unt N data bs M o (f + 1) xs ls = ((unt N data bs M o f (btL N M o xs ls) (lfL N data (btL N M o xs ls) bs)).1, (unt N data bs M o f (btL N M o xs ls) (lfL N data (btL N M o xs ls) bs)).2 + 1) := by
  conv => lhs; unfold unt
  rw [if_pos h]
section rnd
variable {N : Nat} {data bs : List Cw} {M : Nat → Nat → Cw} {o : Nat → Nat} {s : Int} {A B : Option Addr} {v : Value} {b p most n gx gl Q ca : Nat} {x0 l0 xs ls : List Cw} {w0 w : World}
theorem Rnd.ends (h : Rnd N data bs M o s A B v b p most n gx gl Q ca x0 l0 xs ls w0 w) (hk : stK N data bs M o xs ls = false ∨ n = most) : (unt N data bs M o most x0 l0) = (xs, n) := by
  have h1 := h.un1
  have h2 := h.un2
  have e : unt N data bs M o (most - n) xs ls = (xs, 0) := by
    rcases hk with hk | hk
    · exact unt_stop hk
    · rw [hk, Nat.sub_self]; rfl
  rw [e] at h1 h2
  exact Prod.ext h1.symm (by simp only [] at h2 ⊢; omega)
theorem Rnd.next (h : Rnd N data bs M o s A B v b p most n gx gl Q ca x0 l0 xs ls w0 w) (hk : stK N data bs M o xs ls = true) (hn : n < most) {gx' gl' : Nat} {w' : World} (hb : Below w.heap.size w w') (hbb : b ≤ w.heap.size)
    (rx : Rw w' b (.slice (some ⟨gx', 0, none⟩) N N) N (btL N M o xs ls)) (rl : Rw w' b (.slice (some ⟨gl', 0, none⟩) N N) N (lfL N data (btL N M o xs ls) bs)) (g1 : Gd N (btL N M o xs ls)) (g2 : Gd N (lfL N data (btL N M o xs ls) bs)) :
    Rnd N data bs M o s A B v b p most (n + 1) gx' gl' Q ca x0 l0 (btL N M o xs ls) (lfL N data (btL N M o xs ls) bs) w0 w' := by
  have h0 := h.below hb hbb
  have h1 := h.un1
  have h2 := h.un2
  rw [show most - n = (most - (n + 1)) + 1 by omega, unt_go hk] at h1 h2
  exact ⟨h0.lh, h0.rd, h0.rb, rx, rl, g1, g2, h0.v3, h1, by simp only [] at h2; omega, h0.be⟩
end rnd
theorem stK_0 {N : Nat} {data bs : List Cw} {M : Nat → Nat → Cw} {o : Nat → Nat} {xs ls : List Cw} (h : btK N M o xs ls = false) : stK N data bs M o xs ls = false := by unfold stK; rw [h]; rfl
theorem stK_1 {N : Nat} {data bs : List Cw} {M : Nat → Nat → Cw} {o : Nat → Nat} {xs ls : List Cw} (h : lfK N data (btL N M o xs ls) bs = false) : stK N data bs M o xs ls = false := by unfold stK; rw [h]; simp
theorem stK_2 {N : Nat} {data bs : List Cw} {M : Nat → Nat → Cw} {o : Nat → Nat} {xs ls : List Cw} (h : lsK N (lfL N data (btL N M o xs ls) bs) ls = false) : stK N data bs M o xs ls = false := by unfold stK; rw [h]; simp
theorem stK_3 {N : Nat} {data bs : List Cw} {M : Nat → Nat → Cw} {o : Nat → Nat} {xs ls : List Cw} (h0 : btK N M o xs ls = true) (h1 : lfK N data (btL N M o xs ls) bs = true) (h2 : lsK N (lfL N data (btL N M o xs ls) bs) ls = true) : stK N data bs M o xs ls = true := by unfold stK; rw [h0, h1, h2]; rfl
section leftq
variable {N Q ca cx' cb : Nat} {A X B : Option Addr} {data xs bs : List Cw} {w : World} (hQ : Q = N * N) (hN : N ≤ 64) (hcap : Q ≤ ca) (hA : A = none ∧ ca = 0 ∨ ∃ g off, A = some ⟨g, off, none⟩) (hd : Gd Q data) (hx : Gd N xs) (hb : Gd N bs) (rd : Rc w A data) (rx : Rc w X xs) (rb : Rc w B bs)
include hQ hN hcap hA hd hx hb rd rx rb
theorem left_yQ (hk : lfK N data xs bs = true) : Calls Try.prog 12 #[.agg #[.int .i64 N, .int .i64 N, .slice A Q ca], .slice X N cx', .slice B N cb] w fun e w' => ∃ g, e = .returned (.tuple #[.slice (some ⟨g, 0, none⟩) N N, .int .i64 0]) ∧ Rw w' w.heap.size (.slice (some ⟨g, 0, none⟩) N N) N (lfL N data xs bs) ∧ Gd N (lfL N data xs bs) ∧ Below w.heap.size w w' := by
  subst hQ; exact left_y hN hcap hA hd hx hb rd rx rb hk
theorem left_nQ (hk : lfK N data xs bs = false) : Calls Try.prog 12 #[.agg #[.int .i64 N, .int .i64 N, .slice A Q ca], .slice X N cx', .slice B N cb] w fun e w' => e = .returned (.tuple #[.slice none 0 0, .int .i64 6]) ∧ Below w.heap.size w w' := by
  subst hQ; exact left_n hN hcap hA hd hx hb rd rx rb hk
end leftq
set_option maxRecDepth 4000 in
set_option maxHeartbeats 8000000 in
theorem until_any {N ca cx' cb most : Nat} {A X B : Option Addr} {data xs bs : List Cw} {M : Nat → Nat → Cw} {o : Nat → Nat} {s : Int} {v : Value} {w : World} (h : Lhd w v N M o s) (hs : ¬ s = 0) (hM : okM N M) (ho : ∀ i, i < N → o i < N) (hN : N ≤ 64) (hcap : N * N ≤ ca) (hA : A = none ∧ ca = 0 ∨ ∃ g off, A = some ⟨g, off, none⟩) (hd : Gd (N * N) data) (hx : Gd N xs) (hb : Gd N bs) (rd : Rc w A data) (rx : Rc w X xs) (rb : Rc w B bs) (hk : lfK N data xs bs = true) (hm : most ≤ 64) :
    Calls Try.prog 20 #[.agg #[.int .i64 N, .int .i64 N, .slice A (N * N) ca], v, .slice X N cx', .slice B N cb, .int .i64 most] w fun e w' => ∃ g, e = .returned (.tuple #[.slice (some ⟨g, 0, none⟩) N N, .int .i64 ((unt N data bs M o most xs (lfL N data xs bs)).2 : Nat), .int .i64 0]) ∧ Rw w' w.heap.size (.slice (some ⟨g, 0, none⟩) N N) N (unt N data bs M o most xs (lfL N data xs bs)).1 ∧ Below w.heap.size w w' := by
  obtain ⟨i0, hi, hz0, hz1, hz2⟩ := info_parts Try.infoC
  have HU : Hid (∀ W : World, Below w.heap.size w W → Lhd W v N M o s) := fun W hW => h.below hW
  have HS := hid_o hs
  have HMM := hid_o hM
  have HOO := hid_o ho
  have HC := hid_o hcap
  have HAA := hid_o hA
  have HD := hid_o hd
  have HX := hid_o hx
  have HB := hid_o hb
  have RD := hid_o rd
  have RX := hid_o rx
  have RB := hid_o rb
  have HK := hid_o hk
  have V0 := hid_o (v3_new w (.int .i64 N) (.int .i64 N) (.slice A (N * N) ca) 28)
  have hm0 : (0 : Int) ≤ most := by omega
  have hm64 : (most : Int) ≤ 64 := by omega
  obtain ⟨ls0, hls0⟩ : ∃ l, l = lfL N data xs bs := ⟨_, rfl⟩
  have HLS := hid_o hls0
  rw [← hls0]
  clear hls0
  obtain ⟨Q, hQ⟩ : ∃ Q, Q = N * N := ⟨_, rfl⟩
  rw [← hQ] at V0 HC HD ⊢
  have HQ := hid_o hQ
  clear h hs hM ho hcap hA hd hx hb rd rx rb hk hQ
  go_enter Try.func20, Try.ntmps20
  go_wp2_with (first
    | (go_at_call 44; refine (unfit_ok (HU.out _ (bal w _)) HS.out A Q ca).mono ?_; rintro e w1 ⟨rfl, hb1⟩; have V1 := V0.out.below hb1; have HV1 := hid_o V1; have B1 := hid_o ((bal w _).trans (hb1.mono (by simp))); obtain ⟨ql, q0, q1, q2, q3, q4, q5⟩ := V1; clear hb1 V0)
    | (go_at_call 12; refine (left_yQ HQ.out hN HC.out HAA.out HD.out HX.out HB.out (RD.out.below B1.out) (RX.out.below B1.out) (RB.out.below B1.out) HK.out).mono ?_; rintro e w2 ⟨gl, rfl, hrl, hgl, hb2⟩; rw [← HLS.out] at hrl hgl; have HRL := hid_o hrl; have HGL := hid_o hgl; have V2 := hid_o (HV1.out.below hb2); have B2 := hid_o (B1.out.trans (hb2.mono B1.out.size)); clear hrl hgl hb2 HV1 q0 q1 q2 q3 q4 q5)
    | (at_make; (refine wpList_make_full _ rfl _ _ 26 rfl w2.heap.size 56 i0 (.complex .f64 0 0) 1 Try.underlying26 hi hz0 hz1 _ _ _ _ N rfl rfl rfl rfl (by rw [hz2]; omega) (by unfold maxLen; omega) (Nat.le_refl _) ?_); intro w3 hown hgrow; (have BB : Below w2.heap.size w2 w3 := (Below.refl _ _).grown hgrow (Nat.le_refl _) (by intro k hk; simp at hk)); (have HB3 := hid_o BB); (obtain ⟨cur, hcur, hcs⟩ := made_curC hown); clear hown hgrow BB)
    | (refine wpList_copy_splice rfl _ _ _ _ rfl 56 Try.underlying26 Try.infoCs _ _ _ _ _ _ rfl rfl w2.heap.size 0 cur _ hcur (xs.map cx) (by simp [HX.out.len]) (fun h0 => ⟨rfl, srcZ_at ((RX.out.below B2.out).below HB3.out) h0⟩) (by rw [List.length_map, hcs, HX.out.len]; omega) one_cx w2.heap.size w2 HB3.out (Nat.le_refl _) ?_; intro w4 hb4 BB4; (rw [splice_all (by rw [hcs, List.length_map, HX.out.len])] at hb4); (have HR4 : Hid (Rw w4 w2.heap.size (.slice (some ⟨w2.heap.size, 0, none⟩) N N) N xs) := rw_of HX.out.len (by unfold maxLen; omega) (Nat.le_refl _) hb4.out); (have HB4 := hid_o BB4); clear hcur hb4 hcs HB3 BB4))
  have hws : w.heap.size ≤ w2.heap.size := B2.out.size
  have B4 : Below w.heap.size w w4 := B2.out.trans (HB4.out.mono hws)
  have HR0 : Hid (Rnd N data bs M o s A B v w.heap.size w.heap.size most 0 w2.heap.size gl Q ca xs ls0 xs ls0 w w4) :=
    ⟨HU.out _ B4, RD.out.below B4, RB.out.below B4, rw_base HR4.out hws, rw_base (HRL.out.below HB4.out) B1.out.size, HX.out, HGL.out, V2.out.below HB4.out, rfl, rfl, B4⟩
  clear hws B4 HR4 HB4 HRL HGL V2 B2 B1 ql RD RX RB HU HX HK
  go_loopw [14, 16, 17] (fun lv bv nv wr => ∃ (n gx gl : Nat) (ys ls : List Cw), n ≤ most ∧ lv = .slice (some ⟨gl, 0, none⟩) N N ∧ bv = .slice (some ⟨gx, 0, none⟩) N N ∧ nv = .int .i64 n ∧ Rnd N data bs M o s A B v w.heap.size w.heap.size most n gx gl Q ca xs ls0 ys ls w wr) (fun _ _ nv _ => most - (intOf nv).toNat)
  case atStart => exact ⟨0, _, _, xs, ls0, Nat.zero_le _, rfl, rfl, rfl, HR0.out⟩
  case round =>
    clear HR0
    obtain ⟨n, gx, gl, ys, ls, hnm, rfl, rfl, rfl, hR⟩ := hrel
    have HR := hid_o hR
    have hsz := hid_o hR.be.size
    clear hR
    by_cases hlt : n < most
    · cases k0 : btK N M o ys ls
      · have HE := hid_o (HR.out.ends (.inl (stK_0 k0)))
        have HBT := hid_o (fun (c1 c2 : Nat) => better_n (cx' := c1) (cl := c2) HR.out.lh HS.out hN HR.out.gx HR.out.gl HR.out.rx.rc HR.out.rl.rc HMM.out HOO.out k0)
        have HRR := hid_o HR.out.rx
        have HBE := hid_o HR.out.be
        clear k0 HR
        go_wp2_with (go_at_call 45; (with_reducible refine (HBT.out _ _).mono ?_); rintro e w5 ⟨rfl, hb5⟩; have HB5 := hid_o hb5; clear hb5)
        go_ret3
        refine ⟨gx, by rw [HE.out]; rfl, ?_, HBE.out.trans (HB5.out.mono hsz.out)⟩
        rw [HE.out]
        exact HRR.out.below HB5.out
      · have HBT := hid_o (fun (c1 c2 : Nat) => better_y (cx' := c1) (cl := c2) HR.out.lh HS.out hN HR.out.gx HR.out.gl HR.out.rx.rc HR.out.rl.rc HMM.out HOO.out k0)
        cases k1 : lfK N data (btL N M o ys ls) bs
        · have HE := hid_o (HR.out.ends (.inl (stK_1 k1)))
          have K1 := hid_o k1
          clear k0 k1
          go_wp2_with (first
            | (go_at_call 45; (with_reducible refine (HBT.out _ _).mono ?_); rintro e w5 ⟨g5, rfl, hr5, hg5, hb5⟩; have HR5 := hid_o (HR.out.below hb5 hsz.out); have HN5 := hid_o hr5; have HG5 := hid_o hg5; have V5 := HR5.out.v3; obtain ⟨ql, q0, q1, q2, q3, q4, q5⟩ := V5; clear hr5 hg5 hb5 HBT HR)
            | (go_at_call 12; (with_reducible refine (left_nQ HQ.out hN HC.out HAA.out HD.out HG5.out HB.out HR5.out.rd HN5.out.rc HR5.out.rb K1.out).mono ?_); rintro e w6 ⟨rfl, hb6⟩; have HB6 := hid_o hb6; clear hb6))
          go_ret3
          refine ⟨gx, by rw [HE.out]; rfl, ?_, HR5.out.be.trans (HB6.out.mono HR5.out.be.size)⟩
          rw [HE.out]
          exact HR5.out.rx.below HB6.out
        · cases k2 : lsK N (lfL N data (btL N M o ys ls) bs) ls
          · have HE := hid_o (HR.out.ends (.inl (stK_2 k2)))
            have K1 := hid_o k1
            have K2 := hid_o k2
            clear k0 k1 k2
            go_wp2_with (first
              | (go_at_call 45; (with_reducible refine (HBT.out _ _).mono ?_); rintro e w5 ⟨g5, rfl, hr5, hg5, hb5⟩; have HR5 := hid_o (HR.out.below hb5 hsz.out); have HN5 := hid_o hr5; have HG5 := hid_o hg5; have V5 := HR5.out.v3; obtain ⟨ql, q0, q1, q2, q3, q4, q5⟩ := V5; clear hr5 hg5 hb5 HBT HR)
              | (go_at_call 12; (with_reducible refine (left_yQ HQ.out hN HC.out HAA.out HD.out HG5.out HB.out HR5.out.rd HN5.out.rc HR5.out.rb K1.out).mono ?_); rintro e w6 ⟨g6, rfl, hr6, hg6, hb6⟩; have HR6 := hid_o (HR5.out.below hb6 HR5.out.be.size); have HN6 := hid_o hr6; have HG6 := hid_o hg6; clear hr6 hg6 hb6 HR5 q0 q1 q2 q3 q4 q5 ql)
              | (go_at_call 19; (with_reducible refine (vnorm_n _ _ _ _ _ HG6.out.len (by omega) HN6.out.rc HG6.out.ok).mono ?_); rintro e w7 ⟨t1, m1, rfl, ht1, rfl⟩; have HT1 := hid_o ht1; clear ht1)
              | (go_at_call 19; (with_reducible refine (vnorm_n _ _ _ _ _ HR6.out.gl.len (by omega) (HR6.out.rl.rc.drewN m1) HR6.out.gl.ok).mono ?_); rintro e w8 ⟨t2, m2, rfl, ht2, rfl⟩; (have ho2 : (FloatKind.f64.format.order t1 t2 == some .lt) = false := by rw [ordA_of HT1.out ht2]; exact K2.out); clear ht2))
            go_ret3
            refine ⟨gx, by rw [HE.out]; rfl, ?_, below_drewN HR6.out.be _⟩
            rw [HE.out]
            exact HR6.out.rx.drewN _
          · have HST := hid_o (stK_3 k0 k1 k2)
            have K1 := hid_o k1
            have K2 := hid_o k2
            have HRW := hid_o (fun (gx' gl' : Nat) (W : World) (hb : Below _ _ W) => HR.out.next HST.out hlt (gx' := gx') (gl' := gl') hb hsz.out)
            clear k0 k1 k2
            go_wp2_with (first
              | (go_at_call 45; (with_reducible refine (HBT.out _ _).mono ?_); rintro e w5 ⟨g5, rfl, hr5, hg5, hb5⟩; have HB5 := hid_o hb5; have HR5 := hid_o (HR.out.below hb5 hsz.out); have HN5 := hid_o hr5; have HG5 := hid_o hg5; have V5 := HR5.out.v3; obtain ⟨ql, q0, q1, q2, q3, q4, q5⟩ := V5; clear hr5 hg5 hb5 HBT HR)
              | (go_at_call 12; (with_reducible refine (left_yQ HQ.out hN HC.out HAA.out HD.out HG5.out HB.out HR5.out.rd HN5.out.rc HR5.out.rb K1.out).mono ?_); rintro e w6 ⟨g6, rfl, hr6, hg6, hb6⟩; have HB6 := hid_o hb6; have HR6 := hid_o (HR5.out.below hb6 HR5.out.be.size); have HN6 := hid_o hr6; have HG6 := hid_o hg6; clear hr6 hg6 hb6 q0 q1 q2 q3 q4 q5 ql)
              | (go_at_call 19; (with_reducible refine (vnorm_n _ _ _ _ _ HG6.out.len (by omega) HN6.out.rc HG6.out.ok).mono ?_); rintro e w7 ⟨t1, m1, rfl, ht1, rfl⟩; have HT1 := hid_o ht1; clear ht1)
              | (go_at_call 19; (with_reducible refine (vnorm_n _ _ _ _ _ HR6.out.gl.len (by omega) (HR6.out.rl.rc.drewN m1) HR6.out.gl.ok).mono ?_); rintro e w8 ⟨t2, m2, rfl, ht2, rfl⟩; (have ho2 : (FloatKind.f64.format.order t1 t2 == some .lt) = true := by rw [ordA_of HT1.out ht2]; exact K2.out); clear ht2))
            go_roundw
            case measure => simp [intOf]; omega
            case rel =>
              refine ⟨n + 1, g5, g6, _, _, by omega, rfl, rfl, by go_num, HRW.out g5 g6 _ (below_drewN (HB5.out.trans (HB6.out.mono HB5.out.size)) _) ?_ ?_ HG5.out HG6.out⟩
              · exact rw_base ((HN5.out.below HB6.out).drewN _) hsz.out
              · exact rw_base (HN6.out.drewN _) HR5.out.be.size
    · have e : n = most := by omega
      have HE := hid_o (HR.out.ends (.inr e))
      go_wp2
      go_ret3
      refine ⟨gx, by rw [HE.out]; rfl, ?_, HR.out.be⟩
      rw [HE.out]
      exact HR.out.rx
end Go.Proofs.Ytiohceelphpifaa
