/-
  Several texts in one: Slc Lwj Sld.
-/
import Derived.Test.YtmpkcioeodlbcaaGreatDoorK44
import Derived.Deep.RegionWith
import Derived.Deep.RegionHeldLaw
import Derived.Deep.DeepCutAuto
import Derived.Test.YtmpkcioeodlbcaaGreatDoorK32
namespace Go.Proofs.YtmpkcioeodlbcaaGreatDoor
open Fl RowKit
set_option maxHeartbeats 4000000 in
theorem backward_any (F : FuncId) (L : Cn → Cn → Cn) {b g n : Nat} {A : Option Addr} {E y0 : Nat → Cw} {f0 : Nat → Cn} {w : World} (hEn : Ent F) (hF : SaysF F L) (hn : n ≤ 64) (hM : Rc w A (ro (n * n) E)) (hAg : ∀ B off, 0 < n → A = some ⟨B, off, none⟩ → B ≠ g) (hW : ∀ k, k < n * n → okz (E k))
    (hR : Rw w b (.slice (some ⟨g, 0, none⟩) n n) n (ro n y0)) (hy : ∀ j, j < n → repz (f0 j) (y0 j)) :
    Calls Tryz.prog 187 #[.agg #[.int .i64 n, .int .i64 n, .slice A (n * n) (n * n)], .slice (some ⟨g, 0, none⟩) n n, .func (.func F) #[] #[]] w fun e w' => ∃ y : Nat → Cw, e = .returned (.bool (finL (ro n y) n)) ∧ (∀ j, j < n → repz (bwS n (mz n E) L f0 n j) (y j)) ∧ Rw w' b (.slice (some ⟨g, 0, none⟩) n n) n (ro n y) ∧ Below b w w' := by
  have h4 := le_4096 hn hn
  obtain ⟨N, hne⟩ : ∃ N, N = n * n := ⟨_, rfl⟩
  rw [← hne] at h4 hM hW ⊢
  have HN := hid_o hne
  have hbs : b ≤ w.heap.size := by have := hR.lt; omega
  have V0 : V3 w.heap.size (.int .i64 n) (.int .i64 n) (.slice A N N) (w.alloc (.cells #[.int .i64 n, .int .i64 n, .slice A N N] 120)) := v3_new w _ _ _ _
  have B0 : Below b w (w.alloc (.cells #[.int .i64 n, .int .i64 n, .slice A N N] 120)) := (bal _ _).mono hbs
  have R0 := hid_o (hR.below (bal w (.cells #[.int .i64 n, .int .i64 n, .slice A N N] 120)))
  have HGL := hid_o hR.lt
  have HV := hid_o V0
  have HB := hid_o B0
  have HM := hid_o (hM.below (bal w (.cells #[.int .i64 n, .int .i64 n, .slice A N N] 120)))
  have HAG := hid_o hAg
  have HW := hid_o hW
  have HF := hid_o hF
  have HEN := hid_o hEn
  have HY := hid_o hy
  have HBS := hid_o hbs
  clear hAg hne V0 B0 hM hW hF hEn hR hy hbs
  go_enter Tryz.func187, Tryz.ntmps187
  go_wp2
  go_loopw [7] (fun iv wr => ∃ (t : Nat) (y : Nat → Cw), t ≤ n ∧ iv = .int .i64 ((n : Int) - 1 - t) ∧ (∀ j, j < n → repz (bwS n (mz n E) L f0 t j) (y j)) ∧ Rw wr b (.slice (some ⟨g, 0, none⟩) n n) n (ro n y) ∧ V3 w.heap.size (.int .i64 n) (.int .i64 n) (.slice A N N) wr ∧ Below b w wr ∧ Rc wr A (ro N E)) (fun iv _ => (intOf iv + 1).toNat)
  case atStart => exact ⟨0, y0, Nat.zero_le _, congrArg (Value.int IntKind.i64) (by simp), HY.out, R0.out, HV.out, HB.out, HM.out⟩
  case round =>
    clear R0 HV HB HY HM
    obtain ⟨t, y, htn, hiv, hy, hrw, hV, hbel, hRc⟩ := hrel
    by_cases hlt : t < n
    · obtain ⟨i, hi⟩ : ∃ i : Nat, i + 1 + t = n := ⟨n - 1 - t, by omega⟩
      have hi' : i < n := by omega
      have hit : (n : Int) - 1 - t = (i : Int) := by omega
      rw [hit] at hiv
      subst hiv
      have hkN : i * n + n ≤ N := by rw [HN.out]; have := Nat.mul_le_mul_right n (show i + 1 ≤ n by omega); rw [Nat.succ_mul] at this; exact this
      have HM1 := hid_o (wrap_mul (i := i) (C := n) (by omega) (by omega))
      have HM2 : Hid (wrap64 (((i : Int) + 1) * (n : Int)) = ((i * n + n : Nat) : Int)) := by
        have hm2 := wrap_mul (i := i + 1) (C := n) (by omega) (by omega)
        rw [Nat.succ_mul, Int.natCast_add, Int.natCast_one] at hm2
        exact hm2
      have hn4 : n - (i + 1) ≤ 4096 := by omega
      have HRC := hid_o hRc
      obtain ⟨B, off, hA, hBl, hcell⟩ := hRc (i * n + i) (by rw [ro_len]; omega)
      have hsub := sub_rc hRc hA hBl (i * n + (i + 1)) (n - (i + 1)) (by omega)
      have hkn := sub_rc (hrw.rc) rfl hrw.lt.2 (i + 1) (n - (i + 1)) (by omega)
      have hEr : repl (fun k => mz n E i (i + 1 + k)) (n - (i + 1)) (ro (n - (i + 1)) (fun j => E (i * n + (i + 1) + j))) := ro_rep (n := n - (i + 1)) (fun j hj => by unfold mz; rw [← Nat.add_assoc (i * n)]; exact repz_anz (HW.out _ (by omega))) (Nat.le_refl _)
      have hKr : repl (fun k => bwS n (mz n E) L f0 t (i + 1 + k)) (n - (i + 1)) (ro (n - (i + 1)) (fun j => y (i + 1 + j))) := ro_rep (n := n - (i + 1)) (fun j hj => hy _ (by omega)) (Nat.le_refl _)
      have hd := HW.out (i * n + i) (by omega)
      have hmzd : mz n E i i = anz (E (i * n + i)) := rfl
      rw [ro_at _ (by omega)] at hcell
      obtain ⟨x, hxe⟩ : ∃ x, x = E (i * n + i) := ⟨_, rfl⟩
      rw [← hxe] at hcell hd hmzd
      obtain ⟨k, hke⟩ : ∃ k, k = i * n := ⟨_, rfl⟩
      have HK := hid_o hke
      rw [← hke] at HM1 HM2 hkN hcell hsub hEr
      rw [← Nat.add_assoc off] at hsub
      rw [Nat.zero_add] at hkn
      subst hA
      have cy := rw_cell hrw hi'
      have fz := hrw.own.frozenAt i
      have hyi := hy i hi'
      obtain ⟨u, hue⟩ : ∃ u, u = y i := ⟨_, rfl⟩
      rw [← hue] at cy hyi
      unfold cx at hcell cy
      rw [← Nat.add_assoc] at hcell
      have c0 := hV.c0
      have c1 := hV.c1
      have c2 := hV.c2
      have vl := hV.lt
      have gl := hrw.lt.2
      have HRD := hid_o (fun (S : Cn) (hS : repz S u) => reduced_any u S _ _ (N - k - (i + 1)) (n - (i + 1)) (n - (i + 1)) (n - (i + 1)) _ _ _ _ wr.drew hS (ro_len _ _) (ro_len _ _) (Nat.le_refl _) hn4 (hsub.drewN 1) (hkn.drewN 1) hEr hKr)
      have HFn := hid_o (fun (p : Cw) (P : Cn) (W : World) (hp : repz P p) => HF.out p x P W hp hd)
      have HE := HEN.out
      unfold Ent at HE
      have HYI := hid_o hyi
      have HRW := hid_o hrw
      have HVv := hid_o hV
      have HBE := hid_o hbel
      have HYY := hid_o hy
      have HD := hid_o hd
      have HMZ := hid_o hmzd
      have HI := hid_o hi
      have HLT := hid_o hlt
      have HTN := hid_o htn
      clear hlt htn hn4 hxe hke hue hsub hkn hEr hKr hRc hyi hrw hV hbel hy hd hmzd hi hit
      have HVL := hid_o vl
      have HGLL := hid_o gl
      have HBLL := hid_o hBl
      clear vl gl hBl
      have hm := HM1.out
      have hm2 := HM2.out
      go_wp2
      simp only [Nat.add_sub_cancel_left]
      clear hm hm2 c0 c1 c2
      have vl := HVL.out
      have gl := HGLL.out
      have hBl := HBLL.out
      have hwr : IntKind.i64.wrap ((i : Int) + 1) = (i : Int) + 1 := by rw [IntKind.wrap_i64]; omega
      rcases Nat.eq_zero_or_pos t with ht0 | ht0
      · have hik0 : n = i + 1 := by have := HI.out; omega
        have HNN := HN.out
        have HKE := HK.out
        have hik4 : N - k = n := by rw [HNN, HKE, hik0, Nat.succ_mul]; omega
        have hik5 : i + 1 = n := hik0.symm
        clear HNN HKE hik0
        have hik6 : (0 : Int) ≤ (i : Int) + 1 := by omega
        have hik7 : (i : Int) + 1 ≤ (n : Int) := by omega
        have HRE := hid_o (fun (ao bo : Option Addr) (l1 c1 l2 c2 : Nat) (e1 : l1 = 0) (e2 : l2 = 0) => (by subst e1 e2; exact reduced_any u _ ao bo c1 c2 0 0 (fun k => mz n E i (i + 1 + k)) (fun k => bwS n (mz n E) L f0 t (i + 1 + k)) [] [] wr.drew HYI.out rfl rfl (Nat.le_refl _) (by omega) (Rc.nil _ _) (Rc.nil _ _) (fun j hj => absurd hj (by omega)) (fun j hj => absurd hj (by omega)) : Calls Tryz.prog 216 #[.complex .f64 u.1 u.2, .slice ao l1 c1, .slice bo l2 c2] wr.drew fun e w' => ∃ (r : Cw) (m : Nat), e = .returned (.complex .f64 r.1 r.2) ∧ repz (redS (bwS n (mz n E) L f0 t i) (fun k => mz n E i (i + 1 + k)) (fun k => bwS n (mz n E) L f0 t (i + 1 + k)) 0) r ∧ w' = wr.drew.drewN m))
        clear HRD
        go_region_with (first
          | (go_at_call 216; (with_reducible refine (HRE.out _ _ _ _ _ _ (by omega) (by omega)).mono ?_); rintro e w' ⟨r, m1, rfl, hr, rfl⟩; have HR := hid_o hr; clear hr)
          | ((with_reducible refine (HFn.out _ _ _ HR.out).mono ?_); rintro e w' ⟨q, m2, rfl, hq, rfl⟩; have HQ := hid_o hq; clear hq))
        all_goals
          go_wp2_with fail
          go_roundw
          case measure => first | (simp [intOf]; done) | (simp [intOf]; omega)
          case rel =>
            refine ⟨t + 1, upz y i q, by have := HLT.out; omega, by have := HI.out; go_num, ?_, rw_set (HRW.out.drewN _) i q, (HVv.out.drewN _).other (q := ⟨g, i, none⟩) (by have := HGL.out; show g ≠ w.heap.size; omega) _, (below_drewN HBE.out _).setCell (p := ⟨g, i, none⟩) HGL.out.1 _, rc_set (HRC.out.drewN _) (fun B off e => HAG.out B off (by omega) e) i _⟩
            have e1 : n - 1 - t = i := by have := HI.out; omega
            have e2 : n - 1 - i = 0 := by have := HI.out; omega
            show ∀ j, j < n → repz (stB n (mz n E) L (n - 1 - t) (bwS n (mz n E) L f0 t) j) _
            rw [e1]
            unfold stB
            rw [e2]
            exact repz_up HYY.out (by rw [HMZ.out]; exact HQ.out)
      · have hik : i + 1 < n := by have := HI.out; omega
        have hik2 : i + 1 < N - k := by omega
        have hik3 : n ≤ N - k := by omega
        have hik4 : ¬ (N - k = i + 1) := by omega
        have hik5 : ¬ (n = i + 1) := by omega
        have hik6 : (0 : Int) ≤ (i : Int) + 1 := by omega
        have hik7 : (i : Int) + 1 ≤ (n : Int) := by omega
        go_region_with (first
          | (go_at_call 216; (with_reducible refine (HRD.out _ HYI.out).mono ?_); rintro e w' ⟨r, m1, rfl, hr, rfl⟩; have HR := hid_o hr; clear hr)
          | ((with_reducible refine (HFn.out _ _ _ HR.out).mono ?_); rintro e w' ⟨q, m2, rfl, hq, rfl⟩; have HQ := hid_o hq; clear hq))
        all_goals
          go_wp2_with fail
          go_roundw
          case measure => first | (simp [intOf]; done) | (simp [intOf]; omega)
          case rel =>
            refine ⟨t + 1, upz y i q, by have := HLT.out; omega, by have := HI.out; go_num, ?_, rw_set (HRW.out.drewN _) i q, (HVv.out.drewN _).other (q := ⟨g, i, none⟩) (by have := HGL.out; show g ≠ w.heap.size; omega) _, (below_drewN HBE.out _).setCell (p := ⟨g, i, none⟩) HGL.out.1 _, rc_set (HRC.out.drewN _) (fun B off e => HAG.out B off (by omega) e) i _⟩
            have e1 : n - 1 - t = i := by have := HI.out; omega
            have e2 : n - 1 - i = n - (i + 1) := by omega
            show ∀ j, j < n → repz (stB n (mz n E) L (n - 1 - t) (bwS n (mz n E) L f0 t) j) _
            rw [e1]
            unfold stB
            rw [e2]
            exact repz_up HYY.out (by rw [HMZ.out]; exact HQ.out)
    · have e : t = n := by omega
      subst e
      have hit : (t : Int) - 1 - t = -1 := by omega
      rw [hit] at hiv
      subst hiv
      clear hRc
      have hRc := hrw.rc
      have HRW := hid_o hrw
      have HBE := hid_o hbel
      have HYY := hid_o hy
      have HAF := hid_o (allfin_any (some ⟨g, 0, none⟩) t t (ro t y) wr (ro_len _ _) (by omega) hRc (ro_okl hy))
      clear hRc hrw hbel hy hV HW HF HEN hit
      go_wp2_with (go_at_call 184; (with_reducible refine HAF.out.mono ?_); rintro e w' ⟨rfl, rfl⟩)
      go_ret
      exact ⟨y, rfl, HYY.out, HRW.out, HBE.out⟩

end Go.Proofs.YtmpkcioeodlbcaaGreatDoor
namespace Go.Proofs.YtmpkcioeodlbcaaGreatDoor
open Fl RowKit
def lF (i j : Nat) (z : Cw) : Cw := if j < i then z else if j = i then (4607182418800017408, 0) else (0, 0)
def uF (i j : Nat) (z : Cw) : Cw := if j < i then (0, 0) else z
theorem says_l (n : Nat) (_hn : n ≤ 64) : Says3 190 n lF := by
  intro i j z W hi hj
  by_cases h1 : j < i
  · have e : lF i j z = z := if_pos h1
    rw [e]
    clear e
    go_enter Tryz.func190, Tryz.ntmps190
    go_wp2
    go_ret
    exact ⟨rfl, rfl⟩
  · by_cases h2 : j = i
    · have e : lF i j z = (4607182418800017408, 0) := by unfold lF; rw [if_neg h1, if_pos h2]
      rw [e]
      subst h2
      clear e h1
      go_enter Tryz.func190, Tryz.ntmps190
      go_wp2
      go_ret
      exact ⟨rfl, rfl⟩
    · have e : lF i j z = (0, 0) := by unfold lF; rw [if_neg h1, if_neg h2]
      rw [e]
      clear e
      go_enter Tryz.func190, Tryz.ntmps190
      go_wp2
      go_ret
      exact ⟨rfl, rfl⟩
theorem says_u (n : Nat) (_hn : n ≤ 64) : Says3 191 n uF := by
  intro i j z W hi hj
  by_cases h1 : j < i
  · have e : uF i j z = (0, 0) := if_pos h1
    rw [e]
    clear e
    go_enter Tryz.func191, Tryz.ntmps191
    go_wp2
    go_ret
    exact ⟨rfl, rfl⟩
  · have e : uF i j z = z := if_neg h1
    rw [e]
    clear e
    go_enter Tryz.func191, Tryz.ntmps191
    go_wp2
    go_ret
    exact ⟨rfl, rfl⟩
theorem ent_l : Ent 190 := by unfold Ent; intro args w; go_simp
theorem ent_u : Ent 191 := by unfold Ent; intro args w; go_simp
def lE (M : Nat → Nat → Cw) (i j : Nat) : Cw := lF i j (M i j)
def uE (M : Nat → Nat → Cw) (i j : Nat) : Cw := uF i j (M i j)
section call
variable {v : Value} {A B : Option Addr} {n c m d : Nat} {s : Int} {M : Nat → Nat → Cw} {w : World} (hn : n ≤ 64) (h : Hs w v A n c B m d s) (hR : Rws w A n M)
include hn h hR
set_option maxHeartbeats 1000000 in
theorem l_any : Calls Tryz.prog 143 #[v] w fun e w' => ∃ g, e = .returned (.agg #[.int .i64 n, .int .i64 n, .slice (some ⟨g, 0, none⟩) (n * n) (n * n)]) ∧ Rw w' w.heap.size (.slice (some ⟨g, 0, none⟩) (n * n) (n * n)) (n * n) (ro (n * n) (flw n (lE M))) ∧ Below w.heap.size w w' := by
  have V0 : V3 w.heap.size (.int .i64 0) (.int .i64 0) (.slice none 0 0) (w.alloc (.cells #[.int .i64 0, .int .i64 0, .slice none 0 0] 120)) := v3_new w _ _ _ _
  have B0 : Below w.heap.size w (w.alloc (.cells #[.int .i64 0, .int .i64 0, .slice none 0 0] 120)) := bal _ _
  have LA := hid_o (laid_any 190 lF hn ent_l (says_l n hn) (h.below B0) (hR.below B0))
  have HV := hid_o V0
  have HB := hid_o B0
  clear h hR V0 B0
  go_enter Tryz.func143, Tryz.ntmps143
  go_wp2_with (go_at_call 189; (with_reducible refine LA.out.mono ?_); rintro e w1 ⟨g, rfl, hrw, hb⟩; (have V1 := HV.out.below hb); (have q0 := V1.c0); (have q1 := V1.c1); (have q2 := V1.c2); (have q3 := V1.f0); (have q4 := V1.f1); (have q5 := V1.f2); (have ql := V1.lt); (have HV1 := hid_o V1); (have HRW := hid_o hrw); (have HB1 := hid_o (HB.out.trans (hb.mono (by simp)))); clear hb hrw V1 LA)
  obtain ⟨m0, m1, m2⟩ := HV1.out.reads
  refine bodyPost_ret (by simp [results, Tryz.results143, go_sem, m0, m1, m2]; try rfl) rfl ?_
  have hge := HRW.out.lt
  simp only [size_al] at hge
  refine ⟨g, rfl, ⟨HRW.out.len, own_at (own_base HRW.out.own (by simp)) (fun q hq => by cases hq; exact set3_block (show w.heap.size ≠ g by omega))⟩, below_set3 HB1.out (Nat.le_refl _) _ _ _⟩
set_option maxHeartbeats 1000000 in
theorem u_any : Calls Tryz.prog 144 #[v] w fun e w' => ∃ g, e = .returned (.agg #[.int .i64 n, .int .i64 n, .slice (some ⟨g, 0, none⟩) (n * n) (n * n)]) ∧ Rw w' w.heap.size (.slice (some ⟨g, 0, none⟩) (n * n) (n * n)) (n * n) (ro (n * n) (flw n (uE M))) ∧ Below w.heap.size w w' := by
  have V0 : V3 w.heap.size (.int .i64 0) (.int .i64 0) (.slice none 0 0) (w.alloc (.cells #[.int .i64 0, .int .i64 0, .slice none 0 0] 120)) := v3_new w _ _ _ _
  have B0 : Below w.heap.size w (w.alloc (.cells #[.int .i64 0, .int .i64 0, .slice none 0 0] 120)) := bal _ _
  have LA := hid_o (laid_any 191 uF hn ent_u (says_u n hn) (h.below B0) (hR.below B0))
  have HV := hid_o V0
  have HB := hid_o B0
  clear h hR V0 B0
  go_enter Tryz.func144, Tryz.ntmps144
  go_wp2_with (go_at_call 189; (with_reducible refine LA.out.mono ?_); rintro e w1 ⟨g, rfl, hrw, hb⟩; (have V1 := HV.out.below hb); (have q0 := V1.c0); (have q1 := V1.c1); (have q2 := V1.c2); (have q3 := V1.f0); (have q4 := V1.f1); (have q5 := V1.f2); (have ql := V1.lt); (have HV1 := hid_o V1); (have HRW := hid_o hrw); (have HB1 := hid_o (HB.out.trans (hb.mono (by simp)))); clear hb hrw V1 LA)
  obtain ⟨m0, m1, m2⟩ := HV1.out.reads
  refine bodyPost_ret (by simp [results, Tryz.results144, go_sem, m0, m1, m2]; try rfl) rfl ?_
  have hge := HRW.out.lt
  simp only [size_al] at hge
  refine ⟨g, rfl, ⟨HRW.out.len, own_at (own_base HRW.out.own (by simp)) (fun q hq => by cases hq; exact set3_block (show w.heap.size ≠ g by omega))⟩, below_set3 HB1.out (Nat.le_refl _) _ _ _⟩
end call
end Go.Proofs.YtmpkcioeodlbcaaGreatDoor
namespace Go.Proofs.YtmpkcioeodlbcaaGreatDoor
open Fl RowKit
/-- a Lower that is held, or none (n, s are 0 then) -/
structure Lhd (w : World) (v : Value) (n : Nat) (M : Nat → Nat → Cw) (o : Nat → Nat) (s : Int) : Prop where
  ex : ∃ A c B d, Hs w v A n c B n d s ∧ Rws w A n M ∧ Qi w B (ri n o)
theorem Lhd.below {w w' : World} {v : Value} {n : Nat} {M : Nat → Nat → Cw} {o : Nat → Nat} {s : Int} (h : Lhd w v n M o s) (hb : Below w.heap.size w w') : Lhd w' v n M o s := by
  obtain ⟨A, c, B, d, h1, h2, h3⟩ := h.ex
  exact ⟨A, c, B, d, h1.below hb, h2.below hb, h3.below hb⟩
section held
variable {w : World} {v : Value} {n : Nat} {M : Nat → Nat → Cw} {o : Nat → Nat} {s : Int} (h : Lhd w v n M o s)
include h
theorem lh_size : Calls Tryz.prog 125 #[v] w fun e w' => e = .returned (.int .i64 n) ∧ Below w.heap.size w w' := by
  obtain ⟨A, c, B, d, h1, _, _⟩ := h.ex
  exact lsize_any h1
theorem lh_sign : Calls Tryz.prog 124 #[v] w fun e w' => e = .returned (.int .i64 s) ∧ Below w.heap.size w w' := by
  obtain ⟨A, c, B, d, h1, _, _⟩ := h.ex
  exact lsign_any h1
theorem lh_order (hn : n ≤ 64) : Calls Tryz.prog 142 #[v] w fun e w' => ∃ g, e = .returned (.slice (some ⟨g, 0, none⟩) n n) ∧ Ir w' w.heap.size (.slice (some ⟨g, 0, none⟩) n n) n (ri n o) ∧ Below w.heap.size w w' := by
  obtain ⟨A, c, B, d, h1, _, h3⟩ := h.ex
  exact lorder_any (ri n o) (ri_len _ _) (by omega) h1 h3
theorem lh_l (hn : n ≤ 64) : Calls Tryz.prog 143 #[v] w fun e w' => ∃ g, e = .returned (.agg #[.int .i64 n, .int .i64 n, .slice (some ⟨g, 0, none⟩) (n * n) (n * n)]) ∧ Rw w' w.heap.size (.slice (some ⟨g, 0, none⟩) (n * n) (n * n)) (n * n) (ro (n * n) (flw n (lE M))) ∧ Below w.heap.size w w' := by
  obtain ⟨A, c, B, d, h1, h2, _⟩ := h.ex
  exact l_any hn h1 h2
theorem lh_u (hn : n ≤ 64) : Calls Tryz.prog 144 #[v] w fun e w' => ∃ g, e = .returned (.agg #[.int .i64 n, .int .i64 n, .slice (some ⟨g, 0, none⟩) (n * n) (n * n)]) ∧ Rw w' w.heap.size (.slice (some ⟨g, 0, none⟩) (n * n) (n * n)) (n * n) (ro (n * n) (flw n (uE M))) ∧ Below w.heap.size w w' := by
  obtain ⟨A, c, B, d, h1, h2, _⟩ := h.ex
  exact u_any hn h1 h2
theorem isnone_any (N : Bool) (hN : N = decide (s = 0)) : Calls Tryz.prog 183 #[v] w fun e w' => e = .returned (.bool N) ∧ Below w.heap.size w w' := by
  have HH := hid_o h
  have HN := hid_o hN
  clear h hN
  go_enter Tryz.func183, Tryz.ntmps183
  go_wp2_with (go_at_call 124; (with_reducible refine (lh_sign HH.out).mono ?_); rintro e w1 ⟨rfl, hb⟩; have HB := hid_o hb; clear hb)
  go_ret
  refine ⟨?_, HB.out⟩
  rw [HN.out]
  first | rfl | (congr 2; rw [Bool.eq_iff_iff]; simp)
/-- the code of what is wrong with a Lower and a right side -/
def rfS (n : Nat) (s : Int) (l : Nat) (xs : List Cw) : Int := if s = 0 then 1 else if l ≠ n then 4 else if finL xs l = true then 0 else 5
set_option maxHeartbeats 1000000 in
theorem refused_any' (ao : Option Addr) (l cap : Nat) (xs : List Cw) (hl : xs.length = l) (hsz : l ≤ 1000000000000000) (hn : n ≤ 64) (hc : Rc w ao xs) (hx : okl xs) :
    Calls Tryz.prog 140 #[v, .slice ao l cap] w fun e w' => e = .returned (.int .i64 (rfS n s l xs)) ∧ Below w.heap.size w w' := by
  have HH := hid_o h
  have HC := hid_o hc
  have HX := hid_o hx
  have HL := hid_o hl
  clear h hc hx hl
  unfold rfS
  by_cases h0 : s = 0
  · rw [if_pos h0]
    have HN : Hid (true = decide (s = 0)) := (decide_eq_true h0).symm
    clear h0
    go_enter Tryz.func140, Tryz.ntmps140
    go_wp2_with (go_at_call 183; (with_reducible refine (isnone_any HH.out true HN.out).mono ?_); rintro e w1 ⟨rfl, hb⟩; have HB := hid_o hb; clear hb)
    go_ret
    exact ⟨rfl, HB.out⟩
  · rw [if_neg h0]
    have HN : Hid (false = decide (s = 0)) := (decide_eq_false h0).symm
    clear h0
    by_cases h1 : l = n
    · rw [if_neg (by omega)]
      subst h1
      cases hf : finL xs l
      · rw [if_neg (by simp)]
        have HF := hid_o hf
        clear hf
        go_enter Tryz.func140, Tryz.ntmps140
        go_wp2_with (first
          | (go_at_call 183; (with_reducible refine (isnone_any HH.out false HN.out).mono ?_); rintro e w1 ⟨rfl, hb⟩; have HB := hid_o hb; clear hb)
          | (go_at_call 125; (with_reducible refine (lh_size (HH.out.below HB.out)).mono ?_); rintro e w2 ⟨rfl, hb⟩; have HB2 := hid_o (HB.out.trans (hb.mono HB.out.size)); clear hb)
          | (go_at_call 184; (with_reducible refine (allfin_any _ _ _ xs _ HL.out hsz (HC.out.below HB2.out) HX.out).mono ?_); rintro e w3 ⟨rfl, rfl⟩; rw [HF.out]))
        go_ret
        exact ⟨rfl, HB2.out⟩
      · rw [if_pos rfl]
        have HF := hid_o hf
        clear hf
        go_enter Tryz.func140, Tryz.ntmps140
        go_wp2_with (first
          | (go_at_call 183; (with_reducible refine (isnone_any HH.out false HN.out).mono ?_); rintro e w1 ⟨rfl, hb⟩; have HB := hid_o hb; clear hb)
          | (go_at_call 125; (with_reducible refine (lh_size (HH.out.below HB.out)).mono ?_); rintro e w2 ⟨rfl, hb⟩; have HB2 := hid_o (HB.out.trans (hb.mono HB.out.size)); clear hb)
          | (go_at_call 184; (with_reducible refine (allfin_any _ _ _ xs _ HL.out hsz (HC.out.below HB2.out) HX.out).mono ?_); rintro e w3 ⟨rfl, rfl⟩; rw [HF.out]))
        go_ret
        exact ⟨rfl, HB2.out⟩
    · rw [if_pos h1]
      have h1' : ¬ (l : Int) = (n : Int) := by omega
      go_enter Tryz.func140, Tryz.ntmps140
      go_wp2_with (first
        | (go_at_call 183; (with_reducible refine (isnone_any HH.out false HN.out).mono ?_); rintro e w1 ⟨rfl, hb⟩; have HB := hid_o hb; clear hb)
        | (go_at_call 125; (with_reducible refine (lh_size (HH.out.below HB.out)).mono ?_); rintro e w2 ⟨rfl, hb⟩; have HB2 := hid_o (HB.out.trans (hb.mono HB.out.size)); clear hb))
      go_ret
      exact ⟨rfl, HB2.out⟩
end held
end Go.Proofs.YtmpkcioeodlbcaaGreatDoor
