/-
  What solve's backward hands back.
-/
import Derived.Test.YtklbgibhbnijaaaSlb0
import Derived.Deep.RegionWith
import Derived.Deep.RegionHeldLaw
import Derived.Deep.DeepCutAuto
namespace Go.Proofs.Ytklbgibhbnijaaa
open Fl RowKit

set_option maxHeartbeats 4000000 in
theorem backward_any (F : FuncId) (L : Cn → Cn → Cn) {b g n : Nat} {A : Option Addr} {E y0 : Nat → Cw} {f0 : Nat → Cn} {w : World} (hEn : Ent F) (hF : SaysF F L) (hn : n ≤ 64) (hM : Rc w A (ro (n * n) E)) (hAg : ∀ B off, 0 < n → A = some ⟨B, off, none⟩ → B ≠ g) (hW : ∀ k, k < n * n → okz (E k))
    (hR : Rw w b (.slice (some ⟨g, 0, none⟩) n n) n (ro n y0)) (hy : ∀ j, j < n → repz (f0 j) (y0 j)) :
    Calls Try.prog 94 #[.agg #[.int .i64 n, .int .i64 n, .slice A (n * n) (n * n)], .slice (some ⟨g, 0, none⟩) n n, .func (.func F) #[] #[]] w fun e w' => ∃ y : Nat → Cw, e = .returned (.bool (finL (ro n y) n)) ∧ (∀ j, j < n → repz (bwS n (mz n E) L f0 n j) (y j)) ∧ Rw w' b (.slice (some ⟨g, 0, none⟩) n n) n (ro n y) ∧ Below b w w' := by
  have h4 := le_4096 hn hn
  obtain ⟨N, hne⟩ : ∃ N, N = n * n := ⟨_, rfl⟩
  rw [← hne] at h4 hM hW ⊢
  have HN := hid_o hne
  have hbs : b ≤ w.heap.size := by have := hR.lt; omega
  have V0 : V3 w.heap.size (.int .i64 n) (.int .i64 n) (.slice A N N) (w.alloc (.cells #[.int .i64 n, .int .i64 n, .slice A N N] 26)) := v3_new w _ _ _ _
  have B0 : Below b w (w.alloc (.cells #[.int .i64 n, .int .i64 n, .slice A N N] 26)) := (bal _ _).mono hbs
  have R0 := hid_o (hR.below (bal w (.cells #[.int .i64 n, .int .i64 n, .slice A N N] 26)))
  have HGL := hid_o hR.lt
  have HV := hid_o V0
  have HB := hid_o B0
  have HM := hid_o (hM.below (bal w (.cells #[.int .i64 n, .int .i64 n, .slice A N N] 26)))
  have HAG := hid_o hAg
  have HW := hid_o hW
  have HF := hid_o hF
  have HEN := hid_o hEn
  have HY := hid_o hy
  have HBS := hid_o hbs
  clear hAg hne V0 B0 hM hW hF hEn hR hy hbs
  go_enter Try.func94, Try.ntmps94
  go_wp2
  go_loopw [7] (fun iv wr => ∃ (t : Nat) (y : Nat → Cw), t ≤ n ∧ iv = .int .i64 ((n : Int) - 1 - t) ∧ (∀ j, j < n → repz (bwS n (mz n E) L f0 t j) (y j)) ∧ Rw wr b (.slice (some ⟨g, 0, none⟩) n n) n (ro n y) ∧ V3 w.heap.size (.int .i64 n) (.int .i64 n) (.slice A N N) wr ∧ Below b w wr ∧ Rc wr A (ro N E)) (fun iv _ => (intOf iv + 1).toNat)
  case atStart => exact ⟨0, y0, Nat.zero_le _, congrArg (Value.int IntKind.i64) (by simp), HY.out, R0.out, HV.out, HB.out, HM.out⟩
  case round =>
    clear R0 HV HB HY HM
    obtain ⟨t, y, htn, hiv, hy, hrw, hV, hbel, hRc⟩ := hrel
    by_cases hlt : t < n
    · obtain ⟨i, hi⟩ : ∃ i : Nat, i + 1 + t = n := ⟨n - 1 - t, by omega⟩
      have hi' : i < n := by omega
      have hit : (n : Int) - 1 - t = (i : Int) := by omega
      rw [hit] at hiv
      subst hiv
      have hkN : i * n + n ≤ N := by rw [HN.out]; have := Nat.mul_le_mul_right n (show i + 1 ≤ n by omega); rw [Nat.succ_mul] at this; exact this
      have HM1 := hid_o (wrap_mul (i := i) (C := n) (by omega) (by omega))
      have HM2 : Hid (wrap64 (((i : Int) + 1) * (n : Int)) = ((i * n + n : Nat) : Int)) := by
        have hm2 := wrap_mul (i := i + 1) (C := n) (by omega) (by omega)
        rw [Nat.succ_mul, Int.natCast_add, Int.natCast_one] at hm2
        exact hm2
      have hn4 : n - (i + 1) ≤ 4096 := by omega
      have HRC := hid_o hRc
      obtain ⟨B, off, hA, hBl, hcell⟩ := hRc (i * n + i) (by rw [ro_len]; omega)
      have hsub := sub_rc hRc hA hBl (i * n + (i + 1)) (n - (i + 1)) (by omega)
      have hkn := sub_rc (hrw.rc) rfl hrw.lt.2 (i + 1) (n - (i + 1)) (by omega)
      have hEr : repl (fun k => mz n E i (i + 1 + k)) (n - (i + 1)) (ro (n - (i + 1)) (fun j => E (i * n + (i + 1) + j))) := ro_rep (n := n - (i + 1)) (fun j hj => by unfold mz; rw [← Nat.add_assoc (i * n)]; exact repz_anz (HW.out _ (by omega))) (Nat.le_refl _)
      have hKr : repl (fun k => bwS n (mz n E) L f0 t (i + 1 + k)) (n - (i + 1)) (ro (n - (i + 1)) (fun j => y (i + 1 + j))) := ro_rep (n := n - (i + 1)) (fun j hj => hy _ (by omega)) (Nat.le_refl _)
      have hd := HW.out (i * n + i) (by omega)
      have hmzd : mz n E i i = anz (E (i * n + i)) := rfl
      rw [ro_at _ (by omega)] at hcell
      obtain ⟨x, hxe⟩ : ∃ x, x = E (i * n + i) := ⟨_, rfl⟩
      rw [← hxe] at hcell hd hmzd
      obtain ⟨k, hke⟩ : ∃ k, k = i * n := ⟨_, rfl⟩
      have HK := hid_o hke
      rw [← hke] at HM1 HM2 hkN hcell hsub hEr
      rw [← Nat.add_assoc off] at hsub
      rw [Nat.zero_add] at hkn
      subst hA
      have cy := rw_cell hrw hi'
      have fz := hrw.own.frozenAt i
      have hyi := hy i hi'
      obtain ⟨u, hue⟩ : ∃ u, u = y i := ⟨_, rfl⟩
      rw [← hue] at cy hyi
      unfold cx at hcell cy
      rw [← Nat.add_assoc] at hcell
      have c0 := hV.c0
      have c1 := hV.c1
      have c2 := hV.c2
      have vl := hV.lt
      have gl := hrw.lt.2
      have HRD := hid_o (fun (S : Cn) (hS : repz S u) => reduced_any u S _ _ (N - k - (i + 1)) (n - (i + 1)) (n - (i + 1)) (n - (i + 1)) _ _ _ _ wr.drew hS (ro_len _ _) (ro_len _ _) (Nat.le_refl _) hn4 (hsub.drewN 1) (hkn.drewN 1) hEr hKr)
      have HFn := hid_o (fun (p : Cw) (P : Cn) (W : World) (hp : repz P p) => HF.out p x P W hp hd)
      have HE := HEN.out
      unfold Ent at HE
      have HYI := hid_o hyi
      have HRW := hid_o hrw
      have HVv := hid_o hV
      have HBE := hid_o hbel
      have HYY := hid_o hy
      have HD := hid_o hd
      have HMZ := hid_o hmzd
      have HI := hid_o hi
      have HLT := hid_o hlt
      have HTN := hid_o htn
      clear hlt htn hn4 hxe hke hue hsub hkn hEr hKr hRc hyi hrw hV hbel hy hd hmzd hi hit
      have HVL := hid_o vl
      have HGLL := hid_o gl
      have HBLL := hid_o hBl
      clear vl gl hBl
      have hm := HM1.out
      have hm2 := HM2.out
      go_wp2
      simp only [Nat.add_sub_cancel_left]
      clear hm hm2 c0 c1 c2
      have vl := HVL.out
      have gl := HGLL.out
      have hBl := HBLL.out
      have hwr : IntKind.i64.wrap ((i : Int) + 1) = (i : Int) + 1 := by rw [IntKind.wrap_i64]; omega
      rcases Nat.eq_zero_or_pos t with ht0 | ht0
      · have hik0 : n = i + 1 := by have := HI.out; omega
        have HNN := HN.out
        have HKE := HK.out
        have hik4 : N - k = n := by rw [HNN, HKE, hik0, Nat.succ_mul]; omega
        have hik5 : i + 1 = n := hik0.symm
        clear HNN HKE hik0
        have hik6 : (0 : Int) ≤ (i : Int) + 1 := by omega
        have hik7 : (i : Int) + 1 ≤ (n : Int) := by omega
        have HRE := hid_o (fun (ao bo : Option Addr) (l1 c1 l2 c2 : Nat) (e1 : l1 = 0) (e2 : l2 = 0) => (by subst e1 e2; exact reduced_any u _ ao bo c1 c2 0 0 (fun k => mz n E i (i + 1 + k)) (fun k => bwS n (mz n E) L f0 t (i + 1 + k)) [] [] wr.drew HYI.out rfl rfl (Nat.le_refl _) (by omega) (Rc.nil _ _) (Rc.nil _ _) (fun j hj => absurd hj (by omega)) (fun j hj => absurd hj (by omega)) : Calls Try.prog 121 #[.complex .f64 u.1 u.2, .slice ao l1 c1, .slice bo l2 c2] wr.drew fun e w' => ∃ (r : Cw) (m : Nat), e = .returned (.complex .f64 r.1 r.2) ∧ repz (redS (bwS n (mz n E) L f0 t i) (fun k => mz n E i (i + 1 + k)) (fun k => bwS n (mz n E) L f0 t (i + 1 + k)) 0) r ∧ w' = wr.drew.drewN m))
        clear HRD
        go_region_with (first
          | (go_at_call 121; (with_reducible refine (HRE.out _ _ _ _ _ _ (by omega) (by omega)).mono ?_); rintro e w' ⟨r, m1, rfl, hr, rfl⟩; have HR := hid_o hr; clear hr)
          | ((with_reducible refine (HFn.out _ _ _ HR.out).mono ?_); rintro e w' ⟨q, m2, rfl, hq, rfl⟩; have HQ := hid_o hq; clear hq))
        all_goals
          go_wp2_with fail
          go_roundw
          case measure => first | (simp [intOf]; done) | (simp [intOf]; omega)
          case rel =>
            refine ⟨t + 1, upz y i q, by have := HLT.out; omega, by have := HI.out; go_num, ?_, rw_set (HRW.out.drewN _) i q, (HVv.out.drewN _).other (q := ⟨g, i, none⟩) (by have := HGL.out; show g ≠ w.heap.size; omega) _, (below_drewN HBE.out _).setCell (p := ⟨g, i, none⟩) HGL.out.1 _, rc_set (HRC.out.drewN _) (fun B off e => HAG.out B off (by omega) e) i _⟩
            have e1 : n - 1 - t = i := by have := HI.out; omega
            have e2 : n - 1 - i = 0 := by have := HI.out; omega
            show ∀ j, j < n → repz (stB n (mz n E) L (n - 1 - t) (bwS n (mz n E) L f0 t) j) _
            rw [e1]
            unfold stB
            rw [e2]
            exact repz_up HYY.out (by rw [HMZ.out]; exact HQ.out)
      · have hik : i + 1 < n := by have := HI.out; omega
        have hik2 : i + 1 < N - k := by omega
        have hik3 : n ≤ N - k := by omega
        have hik4 : ¬ (N - k = i + 1) := by omega
        have hik5 : ¬ (n = i + 1) := by omega
        have hik6 : (0 : Int) ≤ (i : Int) + 1 := by omega
        have hik7 : (i : Int) + 1 ≤ (n : Int) := by omega
        go_region_with (first
          | (go_at_call 121; (with_reducible refine (HRD.out _ HYI.out).mono ?_); rintro e w' ⟨r, m1, rfl, hr, rfl⟩; have HR := hid_o hr; clear hr)
          | ((with_reducible refine (HFn.out _ _ _ HR.out).mono ?_); rintro e w' ⟨q, m2, rfl, hq, rfl⟩; have HQ := hid_o hq; clear hq))
        all_goals
          go_wp2_with fail
          go_roundw
          case measure => first | (simp [intOf]; done) | (simp [intOf]; omega)
          case rel =>
            refine ⟨t + 1, upz y i q, by have := HLT.out; omega, by have := HI.out; go_num, ?_, rw_set (HRW.out.drewN _) i q, (HVv.out.drewN _).other (q := ⟨g, i, none⟩) (by have := HGL.out; show g ≠ w.heap.size; omega) _, (below_drewN HBE.out _).setCell (p := ⟨g, i, none⟩) HGL.out.1 _, rc_set (HRC.out.drewN _) (fun B off e => HAG.out B off (by omega) e) i _⟩
            have e1 : n - 1 - t = i := by have := HI.out; omega
            have e2 : n - 1 - i = n - (i + 1) := by omega
            show ∀ j, j < n → repz (stB n (mz n E) L (n - 1 - t) (bwS n (mz n E) L f0 t) j) _
            rw [e1]
            unfold stB
            rw [e2]
            exact repz_up HYY.out (by rw [HMZ.out]; exact HQ.out)
    · have e : t = n := by omega
      subst e
      have hit : (t : Int) - 1 - t = -1 := by omega
      rw [hit] at hiv
      subst hiv
      clear hRc
      have hRc := hrw.rc
      have HRW := hid_o hrw
      have HBE := hid_o hbel
      have HYY := hid_o hy
      have HAF := hid_o (allfin_any (some ⟨g, 0, none⟩) t t (ro t y) wr (ro_len _ _) (by omega) hRc (ro_okl hy))
      clear hRc hrw hbel hy hV HW HF HEN hit
      go_wp2_with (go_at_call 62; (with_reducible refine HAF.out.mono ?_); rintro e w' ⟨rfl, rfl⟩)
      go_ret
      exact ⟨y, rfl, HYY.out, HRW.out, HBE.out⟩

end Go.Proofs.Ytklbgibhbnijaaa
