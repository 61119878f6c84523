/-
  What the statement's times hands back: true.
-/
import Derived.Test.YtibehhckaoookaaMt
namespace Go.Proofs.Ytibehhckaoookaa
open Fl RowKit

theorem hid_of {p : Prop} (h : p) : Hid p := h
theorem le_dn {w : World} {k m : Nat} (h : k ≤ w.heap.size) : k ≤ (w.drewN m).heap.size := h
theorem fin_words {xs : List Cw} {n : Nat} (hx : okl xs) (h : finF (fun k => anz (zat xs k)) n = true) : ∀ k, k < n → fin (zat xs k).1 ∧ fin (zat xs k).2 := by
  intro k hk
  have hc := finF_at h k hk
  unfold finC at hc
  rw [Bool.and_eq_true] at hc
  exact ⟨fin_of (by rw [finA_of (rep_ans (hx k).1)]; exact hc.1), fin_of (by rw [finA_of (rep_ans (hx k).2)]; exact hc.2)⟩
theorem sub_words {xs zs : List Cw} {n : Nat} (h : finF (fun k => anz (zat xs k)) n = true) (hz : repl (zipF subZ (fun k => anz (zat xs k)) (fun k => anz (zat xs k))) n zs) : ∀ k, k < n → FloatKind.f64.format.order (zat zs k).1 0 = some .eq ∧ FloatKind.f64.format.order (zat zs k).2 0 = some .eq := by
  intro k hk
  have hc := finF_at h k hk
  unfold finC at hc
  rw [Bool.and_eq_true] at hc
  have h1 := sub_self_zero hc.1 (hz k hk).1
  have h2 := sub_self_zero hc.2 (hz k hk).2
  unfold eqB at h1 h2
  exact ⟨eq_of_beq h1, eq_of_beq h2⟩
set_option maxRecDepth 20000 in
set_option maxHeartbeats 4000000 in
theorem times_any {w : World} {r s c : Nat} {A : Option Addr} {xs : List Cw} (MX : Mx w r s A c (fun k => anz (zat xs k)) xs) (hox : okl xs) :
    Calls Try.prog 52 #[.agg #[.int .i64 r, .int .i64 s, .slice A (r * s) c]] w fun e w' => e = .returned (.bool true) ∧ Below w.heap.size w w' := by
  have hr := MX.hR
  have hs := MX.hC
  have h4 := le_4096 hr hs
  have h16 : r * s * 16 ≤ 140737488355328 := by omega
  cases hfin : finF (fun k => anz (zat xs k)) (r * s)
  · go_enter Try.func52, Try.ntmps52
    go_wp2_with (go_at_call 97; (refine (lfin_any (MX.lst.below (bal _ _)) h16).mono ?_); (rintro e w0 ⟨m0, rfl, hw0⟩); (subst w0); (rw [hfin]))
    go_ret
    exact ⟨rfl, below_drewN (bal _ _) _⟩
  · have HF : Hid (∀ k, k < r * s → fin (zat xs k).1 ∧ fin (zat xs k).2) := fin_words hox hfin
    have HS : Hid (∀ zs, repl (zipF subZ (fun k => anz (zat xs k)) (fun k => anz (zat xs k))) (r * s) zs → ∀ k, k < r * s → FloatKind.f64.format.order (zat zs k).1 0 = some .eq ∧ FloatKind.f64.format.order (zat zs k).2 0 = some .eq) := fun zs => sub_words hfin
    go_enter Try.func52, Try.ntmps52
    go_wp2_with (first
      | (go_at_call 97; (refine (lfin_any (MX.lst.below (bal _ _)) h16).mono ?_); (rintro e w0 ⟨m0, rfl, hw0⟩); (subst w0); (rw [hfin]))
      | (go_at_call 39; (with_reducible refine (midentity _ hr).mono ?_); (rintro e w1 ⟨gl, zl, rfl, hN, hb⟩); (have Bw1 : Below w.heap.size w w1 := b_of (by repeat first | with_reducible exact below_self _ | with_reducible refine ba ?_ _ | with_reducible refine below_drewN ?_ _ | with_reducible refine Below.drew ?_) hb (by repeat first | with_reducible exact Nat.le_refl _ | with_reducible assumption | with_reducible refine le_al ?_ | with_reducible refine le_dr ?_ | with_reducible refine le_dn ?_)); (have Vx : V3 (w.heap.size) (.int .i64 r) (.int .i64 s) (.slice A (r * s) c) w1 := V3.below (by repeat first | exact v3_at _ _ _ _ _ (by first | rfl | (simp only [size_al]; first | done | omega)) | with_reducible refine V3.drewN ?_ _ | refine V3.below ?_ (bal _ _)) hb); (replace MX := MX.below Bw1); (have BX := Bw1); clear hb Bw1; (have ML := new_mx hN hr hr); clear hN; (try clear lx x0 x1 x2); (obtain ⟨lx, x0, x1, x2, _, _, _⟩ := id Vx))
      | (go_at_call 39; (with_reducible refine (midentity _ hs).mono ?_); (rintro e w2 ⟨gr, zr, rfl, hN, hb⟩); (have Bw2 : Below w1.heap.size w1 w2 := b_of (by repeat first | with_reducible exact below_self _ | with_reducible refine ba ?_ _ | with_reducible refine below_drewN ?_ _ | with_reducible refine Below.drew ?_) hb (by repeat first | with_reducible exact Nat.le_refl _ | with_reducible assumption | with_reducible refine le_al ?_ | with_reducible refine le_dr ?_ | with_reducible refine le_dn ?_)); (have Vl : V3 w1.heap.size (.int .i64 r) (.int .i64 r) (.slice (some ⟨gl, 0, none⟩) (r * r) (r * r)) w2 := V3.below (by repeat first | exact v3_at _ _ _ _ _ (by first | rfl | (simp only [size_al]; first | done | omega)) | with_reducible refine V3.drewN ?_ _ | refine V3.below ?_ (bal _ _)) hb); (replace MX := MX.below Bw2); (replace Vx := Vx.below Bw2); (replace ML := ML.below Bw2); (replace BX := b_of BX Bw2 BX.size); clear hb Bw2; (have MR := new_mx hN hs hs); clear hN; (try clear lx x0 x1 x2); (obtain ⟨lx, x0, x1, x2, _, _, _⟩ := id Vx); (try clear ll l0 l1 l2); (obtain ⟨ll, l0, l1, l2, _, _, _⟩ := id Vl))
      | (go_at_call 11; (with_reducible refine (mmul (ML.below (by repeat first | with_reducible exact below_self _ | with_reducible refine ba ?_ _ | with_reducible refine below_drewN ?_ _ | with_reducible refine Below.drew ?_)) (MX.below (by repeat first | with_reducible exact below_self _ | with_reducible refine ba ?_ _ | with_reducible refine below_drewN ?_ _ | with_reducible refine Below.drew ?_))).mono ?_); (rintro e w3 ⟨ga, za, rfl, hN, hb⟩); (have Bw3 : Below w2.heap.size w2 w3 := b_of (by repeat first | with_reducible exact below_self _ | with_reducible refine ba ?_ _ | with_reducible refine below_drewN ?_ _ | with_reducible refine Below.drew ?_) hb (by repeat first | with_reducible exact Nat.le_refl _ | with_reducible assumption | with_reducible refine le_al ?_ | with_reducible refine le_dr ?_ | with_reducible refine le_dn ?_)); (have Vr : V3 w2.heap.size (.int .i64 s) (.int .i64 s) (.slice (some ⟨gr, 0, none⟩) (s * s) (s * s)) w3 := V3.below (by repeat first | exact v3_at _ _ _ _ _ (by first | rfl | (simp only [size_al]; first | done | omega)) | with_reducible refine V3.drewN ?_ _ | refine V3.below ?_ (bal _ _)) hb); (replace MX := MX.below Bw3); (replace Vx := Vx.below Bw3); (replace MR := MR.below Bw3); (replace BX := b_of BX Bw3 BX.size); clear hb Bw3; (have MA := new_mx hN hr hs); (have QA := id_left hox HF.out hN.rep); clear hN; (try clear lx x0 x1 x2); (obtain ⟨lx, x0, x1, x2, _, _, _⟩ := id Vx); (try clear lr r0 r1 r2); (obtain ⟨lr, r0, r1, r2, _, _, _⟩ := id Vr))
      | (go_at_call 11; (with_reducible refine (mmul (MX.below (by repeat first | with_reducible exact below_self _ | with_reducible refine ba ?_ _ | with_reducible refine below_drewN ?_ _ | with_reducible refine Below.drew ?_)) (MR.below (by repeat first | with_reducible exact below_self _ | with_reducible refine ba ?_ _ | with_reducible refine below_drewN ?_ _ | with_reducible refine Below.drew ?_))).mono ?_); (rintro e w4 ⟨gb, zb, rfl, hN, hb⟩); (have Bw4 : Below w3.heap.size w3 w4 := b_of (by repeat first | with_reducible exact below_self _ | with_reducible refine ba ?_ _ | with_reducible refine below_drewN ?_ _ | with_reducible refine Below.drew ?_) hb (by repeat first | with_reducible exact Nat.le_refl _ | with_reducible assumption | with_reducible refine le_al ?_ | with_reducible refine le_dr ?_ | with_reducible refine le_dn ?_)); (have Va : V3 w3.heap.size (.int .i64 r) (.int .i64 s) (.slice (some ⟨ga, 0, none⟩) (r * s) (r * s)) w4 := V3.below (by repeat first | exact v3_at _ _ _ _ _ (by first | rfl | (simp only [size_al]; first | done | omega)) | with_reducible refine V3.drewN ?_ _ | refine V3.below ?_ (bal _ _)) hb); (replace MX := MX.below Bw4); (replace Vx := Vx.below Bw4); (replace MA := MA.below Bw4); (replace BX := b_of BX Bw4 BX.size); clear hb Bw4; (have MB := new_mx hN hr hs); (have QB := id_right hox HF.out hN.rep); clear hN; (try clear lx x0 x1 x2); (obtain ⟨lx, x0, x1, x2, _, _, _⟩ := id Vx); (try clear la a0 a1 a2); (obtain ⟨la, a0, a1, a2, _, _, _⟩ := id Va))
      | (go_at_call 10; (with_reducible refine (msub (MX.below (by repeat first | with_reducible exact below_self _ | with_reducible refine ba ?_ _ | with_reducible refine below_drewN ?_ _ | with_reducible refine Below.drew ?_)) (MX.below (by repeat first | with_reducible exact below_self _ | with_reducible refine ba ?_ _ | with_reducible refine below_drewN ?_ _ | with_reducible refine Below.drew ?_))).mono ?_); (rintro e w5 ⟨gc, zc, rfl, hN, hb⟩); (have Bw5 : Below w4.heap.size w4 w5 := b_of (by repeat first | with_reducible exact below_self _ | with_reducible refine ba ?_ _ | with_reducible refine below_drewN ?_ _ | with_reducible refine Below.drew ?_) hb (by repeat first | with_reducible exact Nat.le_refl _ | with_reducible assumption | with_reducible refine le_al ?_ | with_reducible refine le_dr ?_ | with_reducible refine le_dn ?_)); (have Vb : V3 w4.heap.size (.int .i64 r) (.int .i64 s) (.slice (some ⟨gb, 0, none⟩) (r * s) (r * s)) w5 := V3.below (by repeat first | exact v3_at _ _ _ _ _ (by first | rfl | (simp only [size_al]; first | done | omega)) | with_reducible refine V3.drewN ?_ _ | refine V3.below ?_ (bal _ _)) hb); (replace MX := MX.below Bw5); (replace Vx := Vx.below Bw5); (replace MA := MA.below Bw5); (replace MB := MB.below Bw5); (replace Va := Va.below Bw5); (replace BX := b_of BX Bw5 BX.size); clear hb Bw5; (have MC := new_mx hN hr hs); (have QC := hid_of (HS.out zc hN.rep)); clear hN; (try clear lx x0 x1 x2); (obtain ⟨lx, x0, x1, x2, _, _, _⟩ := id Vx); (try clear la a0 a1 a2); (obtain ⟨la, a0, a1, a2, _, _, _⟩ := id Va); (try clear lb b0 b1 b2); (obtain ⟨lb, b0, b1, b2, _, _, _⟩ := id Vb))
      | (go_at_call 24; (with_reducible refine (mequal (MA.below (by repeat first | with_reducible exact below_self _ | with_reducible refine ba ?_ _ | with_reducible refine below_drewN ?_ _ | with_reducible refine Below.drew ?_)) (MX.below (by repeat first | with_reducible exact below_self _ | with_reducible refine ba ?_ _ | with_reducible refine below_drewN ?_ _ | with_reducible refine Below.drew ?_))).mono ?_); (rintro e w6 ⟨rfl, hb⟩); (have Bw6 : Below w5.heap.size w5 w6 := b_of (by repeat first | with_reducible exact below_self _ | with_reducible refine ba ?_ _ | with_reducible refine below_drewN ?_ _ | with_reducible refine Below.drew ?_) hb (by repeat first | with_reducible exact Nat.le_refl _ | with_reducible assumption | with_reducible refine le_al ?_ | with_reducible refine le_dr ?_ | with_reducible refine le_dn ?_)); (have Vc : V3 w5.heap.size (.int .i64 r) (.int .i64 s) (.slice (some ⟨gc, 0, none⟩) (r * s) (r * s)) w6 := V3.below (by repeat first | exact v3_at _ _ _ _ _ (by first | rfl | (simp only [size_al]; first | done | omega)) | with_reducible refine V3.drewN ?_ _ | refine V3.below ?_ (bal _ _)) hb); (replace MX := MX.below Bw6); (replace Vx := Vx.below Bw6); (replace MB := MB.below Bw6); (replace Vb := Vb.below Bw6); (replace MC := MC.below Bw6); (replace BX := b_of BX Bw6 BX.size); clear hb Bw6; (rw [allB_mk QA]); (try clear lx x0 x1 x2); (obtain ⟨lx, x0, x1, x2, _, _, _⟩ := id Vx); (try clear lb b0 b1 b2); (obtain ⟨lb, b0, b1, b2, _, _, _⟩ := id Vb); (try clear lc c0 c1 c2); (obtain ⟨lc, c0, c1, c2, _, _, _⟩ := id Vc))
      | (go_at_call 24; (with_reducible refine (mequal (MB.below (by repeat first | with_reducible exact below_self _ | with_reducible refine ba ?_ _ | with_reducible refine below_drewN ?_ _ | with_reducible refine Below.drew ?_)) (MX.below (by repeat first | with_reducible exact below_self _ | with_reducible refine ba ?_ _ | with_reducible refine below_drewN ?_ _ | with_reducible refine Below.drew ?_))).mono ?_); (rintro e w7 ⟨rfl, hb⟩); (have Bw7 : Below w6.heap.size w6 w7 := b_of (by repeat first | with_reducible exact below_self _ | with_reducible refine ba ?_ _ | with_reducible refine below_drewN ?_ _ | with_reducible refine Below.drew ?_) hb (by repeat first | with_reducible exact Nat.le_refl _ | with_reducible assumption | with_reducible refine le_al ?_ | with_reducible refine le_dr ?_ | with_reducible refine le_dn ?_)); (replace Vx := Vx.below Bw7); (replace MC := MC.below Bw7); (replace Vc := Vc.below Bw7); (replace BX := b_of BX Bw7 BX.size); clear hb Bw7; (rw [allB_mk QB]); (try clear lx x0 x1 x2); (obtain ⟨lx, x0, x1, x2, _, _, _⟩ := id Vx); (try clear lc c0 c1 c2); (obtain ⟨lc, c0, c1, c2, _, _, _⟩ := id Vc)))
    have HMC := hid_of MC
    have HBX := hid_of BX
    have HVx := hid_of Vx
    have HVc := hid_of Vc
    clear MC BX Vx Vc lx x0 x1 x2 lc c0 c1 c2
    go_loopw [13] (fun iv wr => ∃ k : Nat, k ≤ r * s ∧ iv = .int .i64 k ∧ wr = w7) (fun iv _ => r * s - (intOf iv).toNat)
    case atStart => exact ⟨0, Nat.zero_le _, rfl, rfl⟩
    case round =>
      obtain ⟨k, hk, rfl, hw⟩ := hrel
      subst wr
      obtain ⟨lx, x0, x1, x2, _, _, _⟩ := id HVx.out
      obtain ⟨lc, c0, c1, c2, _, _, _⟩ := id HVc.out
      by_cases hlt : k < r * s
      · obtain ⟨b, off, hA, hb, hcx⟩ := HMC.out.sl.rd k (by rw [HMC.out.len]; exact hlt)
        cases hA
        obtain ⟨q1, q2⟩ := QC.out k hlt
        obtain ⟨z, hze⟩ : ∃ z, z = zat zc k := ⟨_, rfl⟩
        rw [← hze] at hcx q1 q2
        unfold cx at hcx
        rw [Nat.zero_add] at hcx
        obtain ⟨m, hm⟩ : ∃ m, m = r * s := ⟨_, rfl⟩
        rw [← hm] at c2 x2 hlt hk h4 ⊢
        have HM := hid_of hm
        clear hze hm h16
        go_wp2
        go_roundw
        case measure => simp [intOf]; omega
        case rel => exact ⟨k + 1, by omega, by go_num, by first | rfl | trivial⟩
      · have e : k = r * s := by omega
        rw [e]
        obtain ⟨m, hm⟩ : ∃ m, m = r * s := ⟨_, rfl⟩
        rw [← hm] at c2 x2 h4 ⊢
        clear hm h16 hlt hk e
        go_wp2
        go_ret
        exact ⟨rfl, HBX.out⟩

end Go.Proofs.Ytibehhckaoookaa
