/-
  What solve's forward hands back.
-/
import Derived.Test.YtklbgibhbnijaaaSlb0
import Derived.Deep.RegionWith
import Derived.Deep.RegionHeldLaw
import Derived.Deep.DeepCutAuto
namespace Go.Proofs.Ytklbgibhbnijaaa
open Fl RowKit

set_option maxHeartbeats 4000000 in
theorem forward_any (F : FuncId) (L : Cn → Cn → Cn) {b g c n ca : Nat} {A : Option Addr} {E y0 : Nat → Cw} {f0 : Nat → Cn} {w : World} (hEn : Ent F) (hF : SaysF F L) (hn : n ≤ 64) (hca : n * n ≤ ca) (hM : Rc w A (ro (n * n) E)) (hAg : ∀ B off, 0 < n → A = some ⟨B, off, none⟩ → B ≠ g) (hW : ∀ k, k < n * n → okz (E k))
    (hR : Rw w b (.slice (some ⟨g, 0, none⟩) n c) n (ro n y0)) (hc : n ≤ c) (hy : ∀ j, j < n → repz (f0 j) (y0 j)) :
    Calls Try.prog 91 #[.agg #[.int .i64 n, .int .i64 n, .slice A (n * n) ca], .slice (some ⟨g, 0, none⟩) n c, .func (.func F) #[] #[]] w fun e w' => ∃ y : Nat → Cw, e = .returned (.bool (finL (ro n y) n)) ∧ (∀ j, j < n → repz (fwS (mz n E) L f0 n j) (y j)) ∧ Rw w' b (.slice (some ⟨g, 0, none⟩) n c) n (ro n y) ∧ Below b w w' := by
  have h4 := le_4096 hn hn
  obtain ⟨N, hne⟩ : ∃ N, N = n * n := ⟨_, rfl⟩
  rw [← hne] at h4 hca hM hW ⊢
  have HN := hid_o hne
  have hbs : b ≤ w.heap.size := by have := hR.lt; omega
  have V0 : V3 w.heap.size (.int .i64 n) (.int .i64 n) (.slice A N ca) (w.alloc (.cells #[.int .i64 n, .int .i64 n, .slice A N ca] 26)) := v3_new w _ _ _ _
  have B0 : Below b w (w.alloc (.cells #[.int .i64 n, .int .i64 n, .slice A N ca] 26)) := (bal _ _).mono hbs
  have R0 := hid_o (hR.below (bal w (.cells #[.int .i64 n, .int .i64 n, .slice A N ca] 26)))
  have HGL := hid_o hR.lt
  have HV := hid_o V0
  have HB := hid_o B0
  have HM := hid_o (hM.below (bal w (.cells #[.int .i64 n, .int .i64 n, .slice A N ca] 26)))
  have HAG := hid_o hAg
  have HW := hid_o hW
  have HF := hid_o hF
  have HEN := hid_o hEn
  have HY := hid_o hy
  have HBS := hid_o hbs
  clear hAg hne V0 B0 hM hW hF hEn hR hy hbs
  go_enter Try.func91, Try.ntmps91
  go_wp2
  go_loopw [11] (fun iv wr => ∃ (i : Nat) (y : Nat → Cw), i ≤ n ∧ iv = .int .i64 i ∧ (∀ j, j < n → repz (fwS (mz n E) L f0 i j) (y j)) ∧ Rw wr b (.slice (some ⟨g, 0, none⟩) n c) n (ro n y) ∧ V3 w.heap.size (.int .i64 n) (.int .i64 n) (.slice A N ca) wr ∧ Below b w wr ∧ Rc wr A (ro N E)) (fun iv _ => n - (intOf iv).toNat)
  case atStart => exact ⟨0, y0, Nat.zero_le _, rfl, HY.out, R0.out, HV.out, HB.out, HM.out⟩
  case round =>
    clear R0 HV HB HY HM
    obtain ⟨i, y, hin, rfl, hy, hrw, hV, hbel, hRc⟩ := hrel
    by_cases hlt : i < n
    · have hkN : i * n + n ≤ N := by rw [HN.out]; have := Nat.mul_le_mul_right n (show i + 1 ≤ n by omega); rw [Nat.succ_mul] at this; exact this
      have hm := wrap_mul (i := i) (C := n) (by omega) (by omega)
      have hm2 := wrap_mul (i := i + 1) (C := n) (by omega) (by omega)
      rw [Nat.succ_mul, Int.natCast_add, Int.natCast_one] at hm2
      have HRC := hid_o hRc
      obtain ⟨B, off, hA, hBl, hcell⟩ := hRc (i * n + i) (by rw [ro_len]; omega)
      have hsub := sub_rc hRc hA hBl (i * n) i (by omega)
      have hkn : Rc wr (some ⟨g, 0, none⟩) (ro i (fun j => y (0 + j))) := sub_rc (hrw.rc) rfl hrw.lt.2 0 i (by omega)
      have hEr : repl (mz n E i) i (ro i (fun j => E (i * n + j))) := ro_rep (n := i) (fun j hj => repz_anz (HW.out _ (by omega))) (Nat.le_refl _)
      have hKr : repl (fwS (mz n E) L f0 i) i (ro i (fun j => y (0 + j))) := ro_rep (n := n) (fun j hj => by rw [Nat.zero_add]; exact hy j hj) hin
      have hd := HW.out (i * n + i) (by omega)
      have hmzd : mz n E i i = anz (E (i * n + i)) := rfl
      rw [ro_at _ (by omega)] at hcell
      obtain ⟨x, hxe⟩ : ∃ x, x = E (i * n + i) := ⟨_, rfl⟩
      rw [← hxe] at hcell hd hmzd
      obtain ⟨k, hke⟩ : ∃ k, k = i * n := ⟨_, rfl⟩
      rw [← hke] at hm hm2 hkN hcell hsub hEr
      subst hA
      have cy := rw_cell hrw hlt
      have fz := hrw.own.frozenAt i
      have hyi := hy i hlt
      obtain ⟨u, hue⟩ : ∃ u, u = y i := ⟨_, rfl⟩
      rw [← hue] at cy hyi
      unfold cx at hcell cy
      rw [← Nat.add_assoc] at hcell
      have c0 := hV.c0
      have c1 := hV.c1
      have c2 := hV.c2
      have vl := hV.lt
      have gl := hrw.lt.2
      have HRD := hid_o (fun (S : Cn) (hS : repz S u) => reduced_any u S _ _ (ca - k) c i i _ _ _ _ wr.drew hS (ro_len _ _) (ro_len _ _) (Nat.le_refl _) (by omega) (hsub.drewN 1) (hkn.drewN 1) hEr hKr)
      have HFn := hid_o (fun (p : Cw) (P : Cn) (W : World) (hp : repz P p) => HF.out p x P W hp hd)
      have HE := HEN.out
      unfold Ent at HE
      have HYI := hid_o hyi
      have HRW := hid_o hrw
      have HVv := hid_o hV
      have HBE := hid_o hbel
      have HYY := hid_o hy
      have HD := hid_o hd
      have HMZ := hid_o hmzd
      clear hxe hke hue hsub hkn hEr hKr hRc hyi hrw hV hbel hy hd hmzd
      go_wp2
      simp only [Nat.add_sub_cancel_left]
      clear hm hm2 c0 c1 c2
      have hik : i ≤ ca - k := by omega
      go_region_with (first
        | (go_at_call 121; (with_reducible refine (HRD.out _ HYI.out).mono ?_); rintro e w' ⟨r, m1, rfl, hr, rfl⟩; have HR := hid_o hr; clear hr)
        | ((with_reducible refine (HFn.out _ _ _ HR.out).mono ?_); rintro e w' ⟨q, m2, rfl, hq, rfl⟩; have HQ := hid_o hq; clear hq))
      all_goals
        go_wp2_with fail
        go_roundw
        case measure => simp [intOf]; omega
        case rel =>
          refine ⟨i + 1, upz y i q, by omega, by go_num, ?_, rw_set (HRW.out.drewN _) i q, (HVv.out.drewN _).other (q := ⟨g, i, none⟩) (by have := HGL.out; show g ≠ w.heap.size; omega) _, (below_drewN HBE.out _).setCell (p := ⟨g, i, none⟩) HGL.out.1 _, rc_set (HRC.out.drewN _) (fun B off e => HAG.out B off (by omega) e) i _⟩
          show ∀ j, j < n → repz (upC _ i _ j) _
          exact repz_up HYY.out (by rw [HMZ.out]; exact HQ.out)
    · have e : i = n := by omega
      subst e
      clear hRc
      have hRc := hrw.rc
      have HO := hid_o (ro_okl hy)
      have HRW := hid_o hrw
      have HBE := hid_o hbel
      have HYY := hid_o hy
      have HAF := hid_o (allfin_any (some ⟨g, 0, none⟩) c i (ro i y) wr (ro_len _ _) (by omega) hRc (ro_okl hy))
      clear hRc hrw hbel hy hV HW HF HEN
      go_wp2_with (go_at_call 62; (with_reducible refine HAF.out.mono ?_); rintro e w' ⟨rfl, rfl⟩)
      go_ret
      exact ⟨y, rfl, HYY.out, HRW.out, HBE.out⟩

end Go.Proofs.Ytklbgibhbnijaaa
