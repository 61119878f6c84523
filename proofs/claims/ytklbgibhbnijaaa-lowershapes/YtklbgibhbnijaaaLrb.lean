/-
  The document's column, of the document's Lower.
-/
import Derived.Test.YtklbgibhbnijaaaLrc
import Derived.Test.YtklbgibhbnijaaaLwd
import Derived.Deep.RegionHeldLaw
import Derived.Deep.RegionWith
import Derived.Deep.DeepCutAuto
import Derived.Deep.QuietTactic
import Derived.BigQuiet
namespace Go.Proofs.Ytklbgibhbnijaaa
open Fl RowKit

theorem bst_succ_0 {M : Nat → Nat → Cw} {k m : Nat} (h : wt (M (k + m) k) = 0) : bst M k (m + 1) = bst M k m := by
  unfold bst
  have : fstG (fun i => wt (M (k + i) k)) (m + 1) = fstG (fun i => wt (M (k + i) k)) m := if_neg (by show ¬ _ < wt (M (k + m) k); rw [h]; omega)
  rw [this]
theorem bst_none {M : Nat → Nat → Cw} {k m : Nat} (h : ¬ wt (M (k + m) k) = 0) (hb : bst M k m < 0) : bst M k (m + 1) = ((k + m : Nat) : Int) := by
  unfold bst at *
  by_cases h0 : (fstG (fun i => wt (M (k + i) k)) m).2 = 0
  · have : fstG (fun i => wt (M (k + i) k)) (m + 1) = (m, wt (M (k + m) k)) := if_pos (by show _ < wt (M (k + m) k); rw [h0]; omega)
    rw [this]
    exact if_neg h
  · rw [if_neg h0] at hb; omega
/-- the best so far is some row, and heavier than nought -/
theorem bst_some {M : Nat → Nat → Cw} {k m : Nat} (hb : ¬ bst M k m < 0) : ∃ q, bst M k m = ((k + q : Nat) : Int) ∧ q < m ∧ 0 < wt (M (k + q) k) ∧ (fstG (fun i => wt (M (k + i) k)) m) = (q, wt (M (k + q) k)) := by
  unfold bst at *
  by_cases h0 : (fstG (fun i => wt (M (k + i) k)) m).2 = 0
  · rw [if_pos h0] at hb; exact absurd (show (-1 : Int) < 0 by decide) hb
  · rcases fstG_at (fun i => wt (M (k + i) k)) m with ⟨h, _⟩ | ⟨h1, h2, h3, _⟩
    · exact absurd h h0
    · refine ⟨_, if_neg h0, h2, ?_, ?_⟩
      · have h3' : wt (M (k + (fstG (fun i => wt (M (k + i) k)) m).1) k) = (fstG (fun i => wt (M (k + i) k)) m).2 := h3
        omega
      · exact Prod.ext rfl h3.symm
theorem bst_gt {M : Nat → Nat → Cw} {k m q : Nat} (hf : fstG (fun i => wt (M (k + i) k)) m = (q, wt (M (k + q) k))) (h : wt (M (k + q) k) < wt (M (k + m) k)) : bst M k (m + 1) = ((k + m : Nat) : Int) := by
  unfold bst
  have : fstG (fun i => wt (M (k + i) k)) (m + 1) = (m, wt (M (k + m) k)) := if_pos (by rw [hf]; exact h)
  rw [this]
  exact if_neg (by show ¬ wt (M (k + m) k) = 0; omega)
theorem bst_le {M : Nat → Nat → Cw} {k m q : Nat} (hf : fstG (fun i => wt (M (k + i) k)) m = (q, wt (M (k + q) k))) (h : ¬ wt (M (k + q) k) < wt (M (k + m) k)) : bst M k (m + 1) = bst M k m := by
  unfold bst
  have : fstG (fun i => wt (M (k + i) k)) (m + 1) = fstG (fun i => wt (M (k + i) k)) m := if_neg (by rw [hf]; exact h)
  rw [this]
theorem wt_eq0 {z : Cw} : (eqB z.1 0 && eqB z.2 0) = decide (wt z = 0) := by
  rw [eqB_zero, eqB_zero]
  by_cases h : wt z = 0
  · obtain ⟨h1, h2⟩ := wt_0 h
    rw [decide_eq_true h]
    unfold zeB
    rw [h1, h2]; rfl
  · rw [decide_eq_false h]
    cases h1 : zeB z.1
    · rfl
    · cases h2 : zeB z.2
      · rfl
      · unfold zeB at h1 h2
        exact absurd (wt_z (of_decide_eq_true h1) (of_decide_eq_true h2)) h
/-- is a number that is not finite among those of a row that were reckoned, or one told before? -/
def ovr (k c n : Nat) (oa oc : Bool) (g : Nat → Cw) : Prop := (oc = false → oa = false ∧ ∀ j, k < j → j < k + 1 + c → finZ (g j) = true) ∧ (oc = true → oa = true ∨ ∃ j, k < j ∧ j < k + 1 + c ∧ j < n ∧ finZ (g j) = false)
theorem ovr_next {k c n : Nat} {oa oc : Bool} {g : Nat → Cw} (h : ovr k c n oa oc g) (hj : k + 1 + c < n) (r : Cw) : ovr k (c + 1) n oa (oc || !finZ r) (upz g (k + 1 + c) r) := by
  refine ⟨fun e => ?_, fun e => ?_⟩
  · rw [Bool.or_eq_false_iff] at e
    obtain ⟨h1, h2⟩ := h.1 e.1
    refine ⟨h1, fun j a b => ?_⟩
    by_cases c1 : j = k + 1 + c
    · rw [c1, upz_self]; simpa using e.2
    · rw [upz_ne _ _ c1]; exact h2 j a (by omega)
  · rw [Bool.or_eq_true] at e
    rcases e with e | e
    · rcases h.2 e with h1 | ⟨j, a, b, d, f⟩
      · exact .inl h1
      · exact .inr ⟨j, a, by omega, d, by rw [upz_ne _ _ (by omega)]; exact f⟩
    · exact .inr ⟨k + 1 + c, by omega, by omega, hj, by rw [upz_self]; simpa using e⟩
/-- the same of all rows below k that were worked -/
def ovR (k m n : Nat) (ob : Bool) (M : Nat → Nat → Cw) : Prop := (ob = false → ∀ r, k < r → r < k + 1 + m → ∀ j, k ≤ j → j < n → finZ (M r j) = true) ∧ (ob = true → ∃ r j, k < r ∧ r < k + 1 + m ∧ k ≤ j ∧ j < n ∧ finZ (M r j) = false)
theorem ovR_next {k m n : Nat} {ob oa oc : Bool} {M : Nat → Nat → Cw} {g : Nat → Cw} {f : Cw} {c : Nat} (h : ovR k m n ob M) (ha : oa = (ob || !finZ f)) (hg : ovr k c n oa oc g) (hc : k + 1 + c = n) (hk : k < n) : ovR k (m + 1) n oc (fun r => if r = k + 1 + m then upz g k f else M r) := by
  refine ⟨fun e => ?_, fun e => ?_⟩
  · obtain ⟨h1, h2⟩ := hg.1 e
    rw [ha, Bool.or_eq_false_iff] at h1
    intro r a b j d e2
    by_cases c1 : r = k + 1 + m
    · simp only [c1, if_true]
      by_cases c2 : j = k
      · rw [c2, upz_self]; simpa using h1.2
      · rw [upz_ne _ _ c2]; exact h2 j (by omega) (by omega)
    · simp only [c1, if_false]
      exact h.1 h1.1 r a (by omega) j d e2
  · rcases hg.2 e with h1 | ⟨j, a, b, d, e2⟩
    · rw [ha, Bool.or_eq_true] at h1
      rcases h1 with h1 | h1
      · obtain ⟨r, j, a, b, d, e2, e3⟩ := h.2 h1
        exact ⟨r, j, a, by omega, d, e2, by simp only [show ¬ r = k + 1 + m by omega, if_false]; exact e3⟩
      · exact ⟨k + 1 + m, k, by omega, by omega, Nat.le_refl _, hk, by simp only [if_true, upz_self]; simpa using h1⟩
    · exact ⟨k + 1 + m, j, by omega, by omega, by omega, d, by simp only [if_true]; rw [upz_ne _ _ (by omega)]; exact e2⟩
theorem Lr.red {w : World} {b p n gr go cr co k : Nat} {bl cp : Nat → Nat} {M M' : Nat → Nat → Cw} {o : Nat → Nat} {odd ties : Bool} (h : Lr w b p n gr go cr co bl cp M' o odd ties) (hle : ∀ r, r ≤ k → M' r = M r) (hM : ∀ r j, k < r → r < n → j < n → repz (redZ (M r) (M k) k j) (M' r j)) (hok : okM n M) (hfin : finM n M) (hg : goodB n M k = true) : Lr w b p n gr go cr co bl cp (redM M k) o odd ties := by
  refine h.congr (fun i j hi hj => ?_)
  unfold redM
  by_cases hk : i ≤ k
  · rw [if_pos hk, hle i hk]
  · rw [if_neg hk]
    have hr := hM i j (by omega) hi hj
    by_cases hjk : k ≤ j
    · exact (toW_rep hr (good_iff.1 hg i (by omega) hi j hjk hj)).symm
    · rw [redZ_lt (by omega)] at hr ⊢
      exact (toW_rep hr (by rw [← fin_repz (repz_anz (hok i j hi hj))]; exact hfin i j hi hj)).symm
theorem cin_next {M1 : Nat → Nat → Cw} {k i c n j : Nat} {g : Nat → Cw} {r : Cw} (hs : ∀ t, t ≤ k ∨ k + 1 + c ≤ t → g t = M1 i t) (hd : ∀ t, k < t → t < k + 1 + c → t < n → repz (redZ (M1 i) (M1 k) k t) (g t)) (hj : j = k + 1 + c) (hr : repz (redZ (M1 i) (M1 k) k j) r) :
    (∀ t, t ≤ k ∨ k + 1 + (c + 1) ≤ t → upz g j r t = M1 i t) ∧ (∀ t, k < t → t < k + 1 + (c + 1) → t < n → repz (redZ (M1 i) (M1 k) k t) (upz g j r t)) := by
  refine ⟨fun t ht => ?_, fun t h1 h2 h3 => ?_⟩
  · rw [upz_ne _ _ (by omega)]; exact hs t (by omega)
  · by_cases e : t = j
    · subst e; rw [upz_self]; exact hr
    · rw [upz_ne _ _ e]; exact hd t h1 (by omega) h3
theorem cout_next {M1 M' : Nat → Nat → Cw} {k i m c n : Nat} {g : Nat → Cw} {f : Cw} (hi : i = k + 1 + m) (hin : i < n) (hs : ∀ r, r ≤ k ∨ k + 1 + m ≤ r → M' r = M1 r) (hd : ∀ r j, k < r → r < k + 1 + m → r < n → j < n → repz (redZ (M1 r) (M1 k) k j) (M' r j))
    (gs : ∀ t, t ≤ k ∨ k + 1 + c ≤ t → g t = M1 i t) (gd : ∀ t, k < t → t < k + 1 + c → t < n → repz (redZ (M1 i) (M1 k) k t) (g t)) (hc : k + 1 + c = n) (hok : okM n M1) (_ : k < n) (hf : repz (redZ (M1 i) (M1 k) k k) f) :
    (∀ r, r ≤ k ∨ k + 1 + (m + 1) ≤ r → (fun r => if r = i then upz g k f else M' r) r = M1 r) ∧ (∀ r j, k < r → r < k + 1 + (m + 1) → r < n → j < n → repz (redZ (M1 r) (M1 k) k j) ((fun r => if r = i then upz g k f else M' r) r j)) := by
  refine ⟨fun r hr => ?_, fun r j h1 h2 h3 h4 => ?_⟩
  · show (if r = i then _ else _) = _
    rw [if_neg (by omega)]; exact hs r (by omega)
  · show repz _ ((if r = i then upz g k f else M' r) j)
    by_cases e : r = i
    · rw [if_pos e, e]
      by_cases e2 : j = k
      · rw [e2, upz_self]; exact hf
      · rw [upz_ne _ _ e2]
        by_cases e3 : k < j
        · exact gd j e3 (by omega) h4
        · rw [redZ_lt (by omega), gs j (by omega)]; exact repz_anz (hok i j hin h4)
    · rw [if_neg e]; exact hd r j h1 (by omega) h3 h4
theorem good_col {M1 M' : Nat → Nat → Cw} {k m n : Nat} {ob : Bool} (hov : ovR k m n ob M') (hm : k + 1 + m = n) (hd : ∀ r j, k < r → r < k + 1 + m → r < n → j < n → repz (redZ (M1 r) (M1 k) k j) (M' r j)) : goodB n M1 k = !ob := by
  cases ob
  · exact good_iff.2 (fun i h1 h2 j h3 h4 => by rw [← fin_repz (hd i j h1 (by omega) h2 h4)]; exact hov.1 rfl i h1 (by omega) j h3 h4)
  · cases h : goodB n M1 k
    · rfl
    · obtain ⟨r, j, h1, h2, h3, h4, h5⟩ := hov.2 rfl
      have := good_iff.1 h r h1 (by omega) j h3 h4
      rw [← fin_repz (hd r j h1 (by omega) (by omega) h4), h5] at this
      cases this
theorem rdiv_z {W : World} {x y : Cw} (hx : okz x) (hy : okz y) : Calls Try.prog 78 #[.complex .f64 x.1 x.2, .complex .f64 y.1 y.2] W fun e w' => ∃ (r : Cw) (n : Nat), e = .returned (.complex .f64 r.1 r.2) ∧ repz (divZ (anz x) (anz y)) r ∧ w' = W.drewN n :=
  (rdiv_any W (repz_anz hx).1 (repz_anz hx).2 (repz_anz hy).1 (repz_anz hy).2).mono (by rintro e w' ⟨re, im, n, rfl, h1, h2, rfl⟩; exact ⟨(re, im), n, rfl, ⟨h1, h2⟩, rfl⟩)
theorem rmul_z {W : World} {x y : Cw} {X : Cn} (hx : repz X x) (hy : okz y) : Calls Try.prog 80 #[.complex .f64 x.1 x.2, .complex .f64 y.1 y.2] W fun e w' => ∃ (r : Cw) (n : Nat), e = .returned (.complex .f64 r.1 r.2) ∧ repz (mulZ X (anz y)) r ∧ w' = W.drewN n :=
  (rmul_any W hx.1 hx.2 (repz_anz hy).1 (repz_anz hy).2).mono (by rintro e w' ⟨re, im, n, rfl, h1, h2, rfl⟩; exact ⟨(re, im), n, rfl, ⟨h1, h2⟩, rfl⟩)
theorem rsub_z {W : World} {x y : Cw} {Y : Cn} (hx : okz x) (hy : repz Y y) : Calls Try.prog 79 #[.complex .f64 x.1 x.2, .complex .f64 y.1 y.2] W fun e w' => ∃ (r : Cw) (n : Nat), e = .returned (.complex .f64 r.1 r.2) ∧ repz (subZ (anz x) Y) r ∧ w' = W.drewN n :=
  (rsub_any W (repz_anz hx).1 (repz_anz hx).2 hy.1 hy.2).mono (by rintro e w' ⟨re, im, n, rfl, h1, h2, rfl⟩; exact ⟨(re, im), n, rfl, ⟨h1, h2⟩, rfl⟩)
theorem rfin_z {W : World} (x : Cw) : Calls Try.prog 36 #[.complex .f64 x.1 x.2] W fun e w' => ∃ n, e = .returned (.bool (finZ x)) ∧ w' = W.drewN n := rfin_any x.1 x.2 W
def sgO (t : Bool) : Int := if t then -1 else 1
set_option maxRecDepth 20000 in
set_option maxHeartbeats 8000000 in
theorem rcol_any (b p n gr go cr co : Nat) (bl cp : Nat → Nat) (M : Nat → Nat → Cw) (o : Nat → Nat) (odd ties : Bool) (k : Nat) (w : World) (hn : n ≤ 64) (hk : k < n) (hL : Lr w b p n gr go cr co bl cp M o odd ties) (hok : okM n M) (hfin : finM n M) :
    Calls Try.prog 37 #[.pointer (some ⟨p, 0, none⟩), .int .i64 k] w fun e w' => e = .returned (.int .i64 (stp n k ⟨M, o, sgO odd⟩).1) ∧ ((stp n k ⟨M, o, sgO odd⟩).1 = 0 → ∃ bl' cp' odd', Lr w' b p n gr go cr co bl' cp' (stp n k ⟨M, o, sgO odd⟩).2.M (stp n k ⟨M, o, sgO odd⟩).2.o odd' (ties || ti M k n (n - k)) ∧ sgO odd' = (stp n k ⟨M, o, sgO odd⟩).2.s) ∧ Below b w w' := by
  obtain ⟨T, hT⟩ : ∃ T, T = stp n k ⟨M, o, sgO odd⟩ := ⟨_, rfl⟩
  have S7 : Hid ((pvt n M k).2 = 0 → T = (7, ⟨M, o, sgO odd⟩)) := fun h => by rw [hT]; exact stp_7 (S := ⟨M, o, sgO odd⟩) h
  have S6 : Hid (¬ (pvt n M k).2 = 0 → goodB n (swM M k (k + (pvt n M k).1)) k = false → T = (6, ⟨M, o, sgO odd⟩)) := fun h1 h2 => by rw [hT]; exact stp_6 (S := ⟨M, o, sgO odd⟩) h1 h2
  have S0 : Hid (¬ (pvt n M k).2 = 0 → goodB n (swM M k (k + (pvt n M k).1)) k = true → T = (0, ⟨redM (swM M k (k + (pvt n M k).1)) k, swO o k (k + (pvt n M k).1), if (pvt n M k).1 = 0 then sgO odd else -sgO odd⟩)) := fun h1 h2 => by rw [hT]; exact stp_0 (S := ⟨M, o, sgO odd⟩) h1 h2
  rw [← hT]
  clear hT
  have HL := hid_o hL
  have HOK := hid_o hok
  have HFIN := hid_o hfin
  clear hL hok hfin
  go_enter Try.func37, Try.ntmps37
  go_wp2
  go_loopw [5, 6] (fun bv iv wr => ∃ (m d : Nat), k + m ≤ n ∧ iv = .int .i64 ((k + m : Nat) : Int) ∧ bv = .int .i64 (bst M k m) ∧ wr = w.drewN d) (fun _ iv _ => n - (intOf iv).toNat)
  case atStart => exact ⟨0, 0, by omega, rfl, rfl, rfl⟩
  case round =>
    obtain ⟨m, d, hm, rfl, rfl, hw⟩ := hrel
    have hL' := HL.out.drewN d
    rw [← hw] at hL'
    have v0 := hL'.v.c0
    have v1 := hL'.v.c1
    have HW := hid_o hw
    clear hw
    by_cases hlt : k + m < n
    · as_aux_lemma =>
        have e1 := hL'.cell hlt
        have e2 := hL'.cellM hlt hk
        have ho := HOK.out _ _ hlt hk
        have hf := HFIN.out _ _ hlt hk
        have E0 := hid_o (bst_succ_0 (M := M) (k := k) (m := m))
        have E1 := hid_o (bst_none (M := M) (k := k) (m := m))
        have hz := wt_eq0 (z := M (k + m) k)
        obtain ⟨i, hie⟩ : ∃ i, i = k + m := ⟨_, rfl⟩
        rw [← hie] at hlt e1 e2 ho hf hz E0 E1 ⊢
        have HI := hid_o hie
        obtain ⟨x, hxe⟩ : ∃ x, x = M i k := ⟨_, rfl⟩
        rw [← hxe] at e2 ho hf hz E0 E1
        have HXE := hid_o hxe
        unfold cx at e2
        clear hie hxe
        obtain ⟨A, hA⟩ : ∃ A, (FloatKind.f64.format.order x.1 0 == some .eq) = A := ⟨_, rfl⟩
        obtain ⟨B, hB⟩ : ∃ B, (FloatKind.f64.format.order x.2 0 == some .eq) = B := ⟨_, rfl⟩
        have hAB : (A && B) = decide (wt x = 0) := by rw [← hA, ← hB]; exact hz
        clear hz
        by_cases hw0 : wt x = 0
        · rw [decide_eq_true hw0, Bool.and_eq_true] at hAB
          obtain ⟨rfl, rfl⟩ := hAB
          have E0' := hid_o (E0.out hw0)
          clear E0 E1 hL' hw0
          go_wp2
          go_roundw
          case measure => simp [intOf]; omega
          case rel => exact ⟨m + 1, d, by have := HI.out; omega, by rw [HI.out]; go_num, by rw [E0'.out], HW.out⟩
        · rw [decide_eq_false hw0] at hAB
          by_cases hb : bst M k m < 0
          · have E1' := hid_o (E1.out hw0 hb)
            obtain ⟨bv, hbv⟩ : ∃ bv, bv = bst M k m := ⟨_, rfl⟩
            rw [← hbv] at hb ⊢
            clear hbv E0 E1 hL'
            go_wp2
            go_quiet (fail)
            all_goals
              go_wp2_with fail
              exact ⟨⟨m + 1, _, by have := HI.out; omega, by rw [HI.out]; go_num, by rw [E1'.out], by rw [HW.out]; simp only [World.drewN_drewN]; rfl⟩, by simp [intOf]; omega⟩
          · obtain ⟨q, hq1, hq2, hq3, hq4⟩ := bst_some hb
            have hqn : k + q < n := by omega
            have r1 := hL'.cell hqn
            have r2 := hL'.cellM hqn hk
            have oq := HOK.out _ _ hqn hk
            have fq := HFIN.out _ _ hqn hk
            have G1 := hid_o (bst_gt hq4)
            have G2 := hid_o (bst_le hq4)
            have HQ1 := hid_o hq1
            rw [hq1]
            obtain ⟨j, hje⟩ : ∃ j, j = k + q := ⟨_, rfl⟩
            rw [← hje] at hqn r1 r2 oq fq G1 G2 HQ1 ⊢
            obtain ⟨y, hye⟩ : ∃ y, y = M j k := ⟨_, rfl⟩
            rw [← hye] at r2 oq fq G1 G2
            rw [← HI.out, ← HXE.out] at G1 G2
            unfold cx at r2
            have lx := wt_le x
            have ly := wt_le y
            clear hje hye hq1 hq2 hq3 hq4 E0 E1 hb hL' hw0
            have hj0 : ¬ ((j : Int) < 0) := by omega
            have hjd : decide ((j : Int) < 0) = false := decide_eq_false hj0
            have BN : ∃ bn : Int, bst M k (m + 1) = bn ∧ (FloatKind.f64.format.order (wt x) (wt y) == some .gt) = decide (wt y < wt x) ∧ bn = if wt y < wt x then (i : Int) else (j : Int) := by
              by_cases hgt : wt y < wt x
              · exact ⟨i, G1.out hgt, by rw [ord_gt lx ly hgt, decide_eq_true hgt]; rfl, by rw [if_pos hgt]⟩
              · exact ⟨j, by rw [G2.out hgt, HQ1.out], by rw [ord_ngt lx ly hgt, decide_eq_false hgt], by rw [if_neg hgt]⟩
            obtain ⟨bn, hbn, hord, hbv⟩ := BN
            obtain ⟨D, hD⟩ : ∃ D, D = decide (wt y < wt x) := ⟨_, rfl⟩
            have HBN := hid_o hbn
            have HBV : Hid (bn = if D = true then (i : Int) else (j : Int)) := by show bn = _; rw [hbv, hD]; by_cases c : wt y < wt x <;> simp [c]
            rw [← hD] at hord
            clear hbn hbv hD G1 G2 HQ1 lx ly
            go_wp2
            go_region_held_law (fun W => W.cell? ⟨p, 1, none⟩ = some (.slice (some ⟨gr, 0, none⟩) n cr) ∧ W.cell? ⟨gr, i, none⟩ = some (.slice (some ⟨bl i, 0, none⟩) n (cp i)) ∧ W.cell? ⟨bl i, k, none⟩ = some (.complex .f64 x.1 x.2) ∧ W.cell? ⟨gr, j, none⟩ = some (.slice (some ⟨bl j, 0, none⟩) n (cp j)) ∧ W.cell? ⟨bl j, k, none⟩ = some (.complex .f64 y.1 y.2)) (first | (with_reducible exact ⟨v1, e1, e2, r1, r2⟩) | go_keep)
              (first
              | (go_at_call 77; (with_reducible refine (rsize1_wt ho hf).mono ?_); rintro e w8 ⟨m8, rfl, rfl⟩)
              | (go_at_call 77; (with_reducible refine (rsize1_wt oq fq).mono ?_); rintro e w8 ⟨m8, rfl, rfl⟩))
            all_goals
              cases D
              all_goals
                go_wp2_with fail
                exact ⟨⟨m + 1, _, by have := HI.out; omega, by rw [HI.out]; go_num, by rw [HBN.out, HBV.out]; rfl, by rw [HW.out]; simp only [World.drewN_drewN]; rfl⟩, by simp [intOf]; omega⟩
    · have e : m = n - k := by omega
      have hpv : pvt n M k = fstG (fun i => wt (M (k + i) k)) m := by rw [e]; rfl
      by_cases hb : bst M k m < 0
      · as_aux_lemma =>
          have h7 : (pvt n M k).2 = 0 := by
            rw [hpv]
            by_cases c : (fstG (fun i => wt (M (k + i) k)) m).2 = 0
            · exact c
            · unfold bst at hb; rw [if_neg c] at hb; omega
          have HT := hid_o (S7.out h7)
          have HB : Hid (Below b w wr) := by rw [HW.out]; exact below_drewN (Below.refl _ _) d
          obtain ⟨bv, hbv⟩ : ∃ bv, bv = bst M k m := ⟨_, rfl⟩
          rw [← hbv] at hb ⊢
          clear hbv S6 S0 S7 h7 hpv e hL'
          go_wp2
          go_ret
          exact ⟨by rw [HT.out]; rfl, fun e => (by rw [HT.out] at e; exact absurd (show (7 : Int) = 0 from e) (by decide)), HB.out⟩
      · obtain ⟨t, hq1, hq2, hq3, hq4⟩ := bst_some hb
        rw [← hpv] at hq4
        have h7 : ¬ (pvt n M k).2 = 0 := by rw [hq4]; show ¬ wt _ = 0; omega
        have e1 : (pvt n M k).1 = t := by rw [hq4]
        have S6' := hid_o (S6.out h7)
        have S0' := hid_o (S0.out h7)
        rw [e1] at S6' S0'
        have est : (if t = 0 then sgO odd else -sgO odd) = if k + t = k then sgO odd else -sgO odd := by
          by_cases h : t = 0
          · rw [if_pos h, if_pos (by omega)]
          · rw [if_neg h, if_neg (by omega)]
        rw [est] at S0'
        have hqn : k + t < n := by omega
        have HB : Hid (Below b w wr) := by rw [HW.out]; exact below_drewN (Below.refl _ _) d
        rw [hq1]
        obtain ⟨q, hqe⟩ : ∃ q, q = k + t := ⟨_, rfl⟩
        rw [← hqe] at hqn S6' S0' ⊢
        have hq0 : ¬ ((q : Int) < 0) := by omega
        have hqd : decide ((q : Int) < 0) = false := decide_eq_false hq0
        have HL1 := hid_o hL'
        clear hqe hq1 hq2 hq3 hq4 h7 e1 est hpv S6 S0 S7 hb HW HL hL' hm e
        go_wp2
        go_loopw [7] (fun iv wr => ∃ (t : Nat) (tb : Bool), k + t ≤ n ∧ iv = .int .i64 ((k + t : Nat) : Int) ∧ tb = (ties || ti M k n t) ∧ Lr wr b p n gr go cr co bl cp M o odd tb ∧ Below b w wr) (fun iv _ => n - (intOf iv).toNat)
        case atStart => exact ⟨0, ties, by omega, rfl, by show ties = (ties || false); rw [Bool.or_false], HL1.out, HB.out⟩
        case round =>
          clear HL1 HB v0 v1
          obtain ⟨t, tb, htn, rfl, htb, hL1, hbel⟩ := hrel
          have v0 := hL1.v.c0
          by_cases hlt : k + t < n
          · have HTB := hid_o htb
            have HTI : Hid (ti M k n (t + 1) = (ti M k n t || tj M k (k + t) (n - (k + t + 1)))) := rfl
            have HL1 := hid_o hL1
            have HBE := hid_o hbel
            obtain ⟨i, hie⟩ : ∃ i, i = k + t := ⟨_, rfl⟩
            rw [← hie] at hlt HTI ⊢
            have HI := hid_o hie
            clear hie htb hL1 hbel htn
            go_wp2
            go_loopw [8] (fun jv wr => ∃ (m : Nat) (tb' : Bool), i + 1 + m ≤ n ∧ jv = .int .i64 ((i + 1 + m : Nat) : Int) ∧ tb' = (tb || tj M k i m) ∧ Lr wr b p n gr go cr co bl cp M o odd tb' ∧ Below b w wr) (fun jv _ => n - (intOf jv).toNat)
            case atStart => exact ⟨0, tb, by omega, by go_num, by show tb = (tb || false); rw [Bool.or_false], HL1.out, HBE.out⟩
            case round =>
              clear HL1 HBE v0
              obtain ⟨m, tb', hmn, rfl, htb', hL2, hbel⟩ := hrel
              have v0 := hL2.v.c0
              have v1 := hL2.v.c1
              have v4 := hL2.v.c4
              have fz := hL2.v.fz 4
              by_cases hlt2 : i + 1 + m < n
              · as_aux_lemma =>
                  have hin : i < n := by omega
                  have e1 := hL2.cell hin
                  have e2 := hL2.cellM hin hk
                  have r1 := hL2.cell hlt2
                  have r2 := hL2.cellM hlt2 hk
                  have ho := HOK.out _ _ hin hk
                  have hf := HFIN.out _ _ hin hk
                  have oq := HOK.out _ _ hlt2 hk
                  have fq := HFIN.out _ _ hlt2 hk
                  have HTJ : Hid (tj M k i (m + 1) = (tj M k i m || decide (wt (M i k) = wt (M (i + 1 + m) k)))) := rfl
                  have HTB' := hid_o htb'
                  have HL2 := hid_o hL2
                  have HBE := hid_o hbel
                  have hord := ord_eqb (wt_le (M i k)) (wt_le (M (i + 1 + m) k))
                  obtain ⟨j, hje⟩ : ∃ j, j = i + 1 + m := ⟨_, rfl⟩
                  rw [← hje] at hlt2 r1 r2 oq fq HTJ hord ⊢
                  have HJ := hid_o hje
                  obtain ⟨x, hxe⟩ : ∃ x, x = M i k := ⟨_, rfl⟩
                  obtain ⟨y, hye⟩ : ∃ y, y = M j k := ⟨_, rfl⟩
                  rw [← hxe] at e2 ho hf HTJ hord
                  rw [← hye] at r2 oq fq HTJ hord
                  obtain ⟨D, hD⟩ : ∃ D, D = decide (wt x = wt y) := ⟨_, rfl⟩
                  rw [← hD] at hord HTJ
                  unfold cx at e2 r2
                  clear hje hxe hye hD htb' hL2 hbel hmn
                  go_wp2
                  go_region_held_law (fun W => W.cell? ⟨p, 1, none⟩ = some (.slice (some ⟨gr, 0, none⟩) n cr) ∧ W.cell? ⟨gr, i, none⟩ = some (.slice (some ⟨bl i, 0, none⟩) n (cp i)) ∧ W.cell? ⟨bl i, k, none⟩ = some (.complex .f64 x.1 x.2) ∧ W.cell? ⟨gr, j, none⟩ = some (.slice (some ⟨bl j, 0, none⟩) n (cp j)) ∧ W.cell? ⟨bl j, k, none⟩ = some (.complex .f64 y.1 y.2)) (first | (with_reducible exact ⟨v1, e1, e2, r1, r2⟩) | go_keep)
                    (first
                    | (go_at_call 77; (with_reducible refine (rsize1_wt ho hf).mono ?_); rintro e w8 ⟨m8, rfl, rfl⟩)
                    | (go_at_call 77; (with_reducible refine (rsize1_wt oq fq).mono ?_); rintro e w8 ⟨m8, rfl, rfl⟩))
                  all_goals
                    cases D
                    all_goals
                      go_wp2_with fail
                      first
                      | exact ⟨⟨m + 1, tb', by have := HJ.out; omega, by rw [HJ.out]; go_num, by rw [HTJ.out, Bool.or_false]; exact HTB'.out, HL2.out.drewN _, below_drewN HBE.out _⟩, by simp [intOf]; omega⟩
                      | exact ⟨⟨m + 1, true, by have := HJ.out; omega, by rw [HJ.out]; go_num, by rw [HTJ.out, Bool.or_true, Bool.or_true], (HL2.out.drewN _).setTies true, (below_drewN HBE.out _).setCell (p := ⟨p, 4, none⟩) HL2.out.ge _⟩, by simp [intOf]; omega⟩
              · as_aux_lemma =>
                  have HE : Hid (tb' = (ties || ti M k n (t + 1))) := by
                    show tb' = _
                    rw [htb', HTI.out, HTB.out, Bool.or_assoc]
                    have : m = n - (i + 1) := by omega
                    rw [this]
                  have HL2 := hid_o hL2
                  have HBE := hid_o hbel
                  clear hL2 hbel htb' HTB HTI
                  go_wp2
                  exact ⟨⟨t + 1, tb', by have := HI.out; omega, by rw [HI.out]; go_num, HE.out, HL2.out, HBE.out⟩, by simp [intOf]; omega⟩
          · have etn : t = n - k := by omega
            have HE : Hid (tb = (ties || ti M k n (n - k))) := by rw [← etn]; exact htb
            have HL1 := hid_o hL1
            have HBE := hid_o hbel
            clear htb hL1 hbel etn
            obtain ⟨q7, hq7⟩ : ∃ q7 : Nat, q7 = k + t := ⟨_, rfl⟩
            rw [← hq7] at hlt htn ⊢
            clear hq7
            go_upto_if 110 with (fail)
            go_cut [] (fun wc => ∃ bl1 cp1 odd1, Lr wc b p n gr go cr co bl1 cp1 (swM M k q) (swO o k q) odd1 tb ∧ sgO odd1 = (if q = k then sgO odd else -sgO odd) ∧ Below b w wc)
            case first =>
              by_cases h0 : q = k
              · as_aux_lemma =>
                  have hd : ((q : Int) == (k : Int)) = true := by rw [h0]; exact beq_self_eq_true _
                  have FIN : Hid (∃ bl1 cp1 odd1, Lr wr b p n gr go cr co bl1 cp1 (swM M k q) (swO o k q) odd1 tb ∧ sgO odd1 = (if q = k then sgO odd else -sgO odd) ∧ Below b w wr) := ⟨bl, cp, odd, by rw [h0, swM_self, swO_self]; exact HL1.out, by rw [if_pos h0], HBE.out⟩
                  clear h0
                  go_wp2
                  go_meet
                  case rel => exact FIN.out
              · as_aux_lemma =>
                  have hne : k ≠ q := Ne.symm h0
                  have hne2 : ¬ (q : Int) = (k : Int) := by omega
                  have hL1 := HL1.out
                  have v1 := hL1.v.c1
                  have c1 := hL1.cell hk
                  have c2 := hL1.cell hqn
                  have f1 := hL1.rows.frozenAt k
                  have f2 := hL1.rows.frozenAt q
                  have HG := hid_o (hL1.rows.lt gr rfl).1
                  have d1 : ∀ m u, ((wr.drewN m).setCell ⟨gr, q, none⟩ u).cell? ⟨gr, k, none⟩ = some (.slice (some ⟨bl k, 0, none⟩) n (cp k)) := fun m u => by rw [World.cell?_setCell_other _ _ _ _ (by intro e; cases e; exact hne rfl)]; exact c1
                  clear hL1
                  go_wp2
                  go_cut [] (fun wd => ∃ m, wd = ((wr.drewN m).setCell ⟨gr, q, none⟩ (.slice (some ⟨bl k, 0, none⟩) n (cp k))).setCell ⟨gr, k, none⟩ (.slice (some ⟨bl q, 0, none⟩) n (cp q)))
                  case first =>
                    as_aux_lemma =>
                      go_region
                      all_goals
                        go_wp2_with fail
                        go_meet
                        case rel => first | exact ⟨_, rfl⟩ | exact ⟨0, rfl⟩ | exact ⟨1, rfl⟩
                  case rest =>
                    have L2 := HL1.out.swapRows hk hqn hne hcut
                    have B2 : Hid (Below b w wc) := by
                      obtain ⟨m, rfl⟩ := hcut
                      exact ((below_drewN HBE.out m).setCell (p := ⟨gr, q, none⟩) HG.out _).setCell (p := ⟨gr, k, none⟩) HG.out _
                    clear hcut v1 c1 c2 f1 f2 d1 HG HL1 HBE v0
                    have v2 := L2.v.c2
                    have o1 : wc.cell? ⟨go, k, none⟩ = some (.int .i64 (o k)) := by
                      obtain ⟨b', o', e1, _, e3⟩ := L2.ord.qi k (by rw [ri_len]; exact hk)
                      cases e1; rw [Nat.zero_add, ri_at _ hk] at e3; exact e3
                    have o2 : wc.cell? ⟨go, q, none⟩ = some (.int .i64 (o q)) := by
                      obtain ⟨b', o', e1, _, e3⟩ := L2.ord.qi q (by rw [ri_len]; exact hqn)
                      cases e1; rw [Nat.zero_add, ri_at _ hqn] at e3; exact e3
                    have f1 := L2.ord.own.frozenAt k
                    have f2 := L2.ord.own.frozenAt q
                    have HG := hid_o (L2.ord.own.lt go rfl).1
                    have d1 : ∀ u, (wc.setCell ⟨go, q, none⟩ u).cell? ⟨go, k, none⟩ = some (.int .i64 (o k)) := fun u => by rw [World.cell?_setCell_other _ _ _ _ (by intro e; cases e; exact hne rfl)]; exact o1
                    have HL2 := hid_o L2
                    obtain ⟨ok, hok⟩ : ∃ ok, ok = o k := ⟨_, rfl⟩
                    obtain ⟨oq, hoq⟩ : ∃ oq, oq = o q := ⟨_, rfl⟩
                    have HOO : Hid (ok = o k ∧ oq = o q) := ⟨hok, hoq⟩
                    rw [← hok] at o1 d1
                    rw [← hoq] at o2
                    clear L2 hok hoq
                    go_wp2
                    go_cut [] (fun wd => ∃ m, wd = ((wc.drewN m).setCell ⟨go, q, none⟩ (.int .i64 ok)).setCell ⟨go, k, none⟩ (.int .i64 oq))
                    case first =>
                      as_aux_lemma =>
                        go_region
                        all_goals
                          go_wp2_with fail
                          go_meet
                          case rel => first | exact ⟨_, rfl⟩ | exact ⟨0, rfl⟩ | exact ⟨1, rfl⟩
                    case rest =>
                      rw [HOO.out.1, HOO.out.2] at hcut
                      have L3 := HL2.out.swapOrd hcut
                      have B3 : Hid (Below b w wc) := by
                        obtain ⟨m, rfl⟩ := hcut
                        exact ((below_drewN B2.out m).setCell (p := ⟨go, q, none⟩) HG.out _).setCell (p := ⟨go, k, none⟩) HG.out _
                      have v3 := L3.v.c3
                      have fz := L3.v.fz 3
                      have pl := L3.v.lt
                      have FIN : Hid (∃ bl1 cp1 odd1, Lr (wc.setCell ⟨p, 3, none⟩ (.bool (!odd))) b p n gr go cr co bl1 cp1 (swM M k q) (swO o k q) odd1 tb ∧ sgO odd1 = (if q = k then sgO odd else -sgO odd) ∧ Below b w (wc.setCell ⟨p, 3, none⟩ (.bool (!odd)))) := ⟨_, _, !odd, L3.setOdd _, by rw [if_neg h0]; cases odd <;> rfl, B3.out.setCell (p := ⟨p, 3, none⟩) L3.ge _⟩
                      clear hcut v2 o1 o2 f1 f2 d1 HG HL2 HOO L3 B3 B2
                      go_wp2
                      go_meet
                      case rel => exact FIN.out
            case rest =>
              obtain ⟨bl1, cp1, odd1, hL4, hsg, hb4⟩ := hcut
              have hok1 := swM_ok HOK.out hk hqn
              have hfin1 := swM_fin HFIN.out hk hqn
              obtain ⟨M1, hM1⟩ : ∃ M1, M1 = swM M k q := ⟨_, rfl⟩
              obtain ⟨o1, ho1⟩ : ∃ o1, o1 = swO o k q := ⟨_, rfl⟩
              rw [← hM1] at S0' S6' hL4 hok1 hfin1
              rw [← ho1] at S0' hL4
              have HL4 := hid_o hL4
              have HB4 := hid_o hb4
              have HSG := hid_o hsg
              have HOK1 := hid_o hok1
              have HFIN1 := hid_o hfin1
              clear hM1 ho1 hL4 hsg hb4 hok1 hfin1 HOK HFIN HL1 HBE v0 hlt hq0 hqd hqn
              go_wp2
              go_loopw [9, 10] (fun ov iv wr => ∃ (m : Nat) (M' : Nat → Nat → Cw) (ob : Bool), k + 1 + m ≤ n ∧ iv = .int .i64 ((k + 1 + m : Nat) : Int) ∧ ov = .bool ob ∧ Lr wr b p n gr go cr co bl1 cp1 M' o1 odd1 tb ∧ (∀ r, r ≤ k ∨ k + 1 + m ≤ r → M' r = M1 r) ∧ (∀ r j, k < r → r < k + 1 + m → r < n → j < n → repz (redZ (M1 r) (M1 k) k j) (M' r j)) ∧ ovR k m n ob M' ∧ Below b w wr) (fun _ iv _ => n - (intOf iv).toNat)
              case atStart => exact ⟨0, M1, false, by omega, by go_num, rfl, HL4.out, fun _ _ => rfl, fun r j h1 h2 => by omega, ⟨fun _ r h1 h2 => by omega, fun h => by cases h⟩, HB4.out⟩
              case round =>
                clear HL4 HB4
                obtain ⟨m, M', ob, hmn, rfl, rfl, hL5, hsame, hdone, hov, hbel⟩ := hrel
                have v0 := hL5.v.c0
                have v1 := hL5.v.c1
                by_cases hlt : k + 1 + m < n
                · have e1 := hL5.cell hlt
                  have e2 := hL5.cellM hlt hk
                  have r1 := hL5.cell hk
                  have r2 := hL5.cellM hk hk
                  rw [hsame _ (.inr (Nat.le_refl _))] at e2
                  rw [hsame _ (.inl (Nat.le_refl _))] at r2
                  have ox := HOK1.out _ _ hlt hk
                  have oy := HOK1.out _ _ hk hk
                  have HDZ := hid_o (redZ_eq (M1 (k + 1 + m)) (M1 k) k)
                  have HL5 := hid_o hL5
                  have HSA := hid_o hsame
                  have HDO := hid_o hdone
                  have HOV := hid_o hov
                  have HBE := hid_o hbel
                  obtain ⟨i, hie⟩ : ∃ i, i = k + 1 + m := ⟨_, rfl⟩
                  rw [← hie] at hlt e1 e2 ox HDZ ⊢
                  have HI := hid_o hie
                  obtain ⟨x, hxe⟩ : ∃ x, x = M1 i k := ⟨_, rfl⟩
                  obtain ⟨y, hye⟩ : ∃ y, y = M1 k k := ⟨_, rfl⟩
                  rw [← hxe] at e2 ox HDZ
                  rw [← hye] at r2 oy HDZ
                  unfold cx at e2 r2
                  have HXDEF : Hid (x = M1 i k ∧ y = M1 k k) := ⟨hxe, hye⟩
                  clear hie hxe hye hL5 hsame hdone hov hbel hmn
                  go_wp2
                  go_cut [11] (fun fv wc => ∃ (f : Cw) (m3 : Nat), fv = .complex .f64 f.1 f.2 ∧ repz (divZ (anz x) (anz y)) f ∧ wc = wr.drewN m3)
                  case first =>
                    as_aux_lemma =>
                      go_region_held_law (fun W => W.cell? ⟨p, 1, none⟩ = some (.slice (some ⟨gr, 0, none⟩) n cr) ∧ W.cell? ⟨gr, i, none⟩ = some (.slice (some ⟨bl1 i, 0, none⟩) n (cp1 i)) ∧ W.cell? ⟨bl1 i, k, none⟩ = some (.complex .f64 x.1 x.2) ∧ W.cell? ⟨gr, k, none⟩ = some (.slice (some ⟨bl1 k, 0, none⟩) n (cp1 k)) ∧ W.cell? ⟨bl1 k, k, none⟩ = some (.complex .f64 y.1 y.2)) (first | (with_reducible exact ⟨v1, e1, e2, r1, r2⟩) | go_keep)
                        (first
                        | (go_at_call 78; (with_reducible refine (rdiv_z ox oy).mono ?_); rintro e w8 ⟨f, m8, rfl, hf8, rfl⟩))
                      all_goals
                        go_wp2_with fail
                        go_meet
                        case rel => exact ⟨f, _, rfl, hf8, by first | rfl | (simp only [World.drewN_drewN]; rfl)⟩
                  case rest =>
                    obtain ⟨f, m3, rfl, hf8, rfl⟩ := hcut
                    have HF8 := hid_o hf8
                    clear hf8
                    clear e1 e2 r1 r2 v1
                    have HMS := hid_o (HSA.out i (.inr (by rw [HI.out]; exact Nat.le_refl _)))
                    have HLC : Hid (Lr wr b p n gr go cr co bl1 cp1 (fun r => if r = i then M' i else M' r) o1 odd1 tb) := by
                      refine HL5.out.congr (fun r j _ _ => ?_)
                      by_cases e : r = i
                      · rw [if_pos e, e]
                      · rw [if_neg e]
                    obtain ⟨oa, hoa⟩ : ∃ oa, oa = (ob || !finZ f) := ⟨_, rfl⟩
                    have HOA := hid_o hoa
                    clear hoa
                    go_upto_region 27 with fail
                    go_cut [9] (fun ov wc => ov = .bool (ob || !finZ f) ∧ ∃ m8, wc = (wr.drewN m3).drewN m8)
                    case first =>
                      cases ob
                      all_goals
                        go_wp2_with (go_at_call 36; (with_reducible refine (rfin_z f).mono ?_); rintro e w8 ⟨m8, rfl, rfl⟩)
                        go_meet
                        case rel => first | exact ⟨by simp, _, rfl⟩ | exact ⟨by simp, 0, rfl⟩ | exact ⟨rfl, _, rfl⟩ | exact ⟨rfl, 0, rfl⟩ | exact ⟨by simp, m8, by simp only [World.drewN_drewN]⟩ | exact ⟨by simp, 0, by simp⟩
                    case rest =>
                      obtain ⟨rfl, m8, rfl⟩ := hcut
                      rw [← HOA.out]
                      clear v0
                      have v0 := HL5.out.v.c0
                      go_wp2
                      go_loopw [9, 12] (fun ov jv wx => ∃ (c : Nat) (g : Nat → Cw) (oc : Bool), k + 1 + c ≤ n ∧ jv = .int .i64 ((k + 1 + c : Nat) : Int) ∧ ov = .bool oc ∧ Lr wx b p n gr go cr co bl1 cp1 (fun r => if r = i then g else M' r) o1 odd1 tb ∧ (∀ j, j ≤ k ∨ k + 1 + c ≤ j → g j = M1 i j) ∧ (∀ j, k < j → j < k + 1 + c → j < n → repz (redZ (M1 i) (M1 k) k j) (g j)) ∧ ovr k c n oa oc g ∧ Below b w wx) (fun _ jv _ => n - (intOf jv).toNat)
                      case atStart => exact ⟨0, M' i, oa, by omega, by go_num, by first | rfl | trivial, HLC.out.drewN _, fun j _ => by rw [HMS.out], fun j h1 h2 => by omega, ⟨fun h => ⟨h, fun j h1 h2 => by omega⟩, fun h => .inl h⟩, below_drewN HBE.out _⟩
                      case round =>
                        obtain ⟨c, g, oc, hcn, rfl, rfl, hL6, hgs, hgd, hgo, hbel⟩ := hrel
                        clear v0
                        have v0 := hL6.v.c0
                        have v1 := hL6.v.c1
                        by_cases hlt2 : k + 1 + c < n
                        · as_aux_lemma =>
                            have hik : ¬ k = i := by have := HI.out; omega
                            have e1 := hL6.cell hlt
                            have r1 := hL6.cell hk
                            have x1 := hL6.cellM hlt hlt2
                            have x2 := hL6.cellM hk hlt2
                            simp only [if_true, hik, if_false] at x1 x2
                            rw [hgs _ (.inr (Nat.le_refl _))] at x1
                            rw [HSA.out k (.inl (Nat.le_refl _))] at x2
                            have oxx := HOK1.out _ _ hlt hlt2
                            have oyy := HOK1.out _ _ hk hlt2
                            have hRw := hL6.row i hlt
                            simp only [if_true] at hRw
                            have fz := hRw.own.frozenAt (k + 1 + c)
                            have HGE := hid_o (hRw.own.lt _ rfl).1
                            have HRZ := hid_o (redZ_gt (a := M1 i) (p := M1 k) (show k < k + 1 + c by omega))
                            have n1 := (hL6.ap i hlt).1
                            have n2 := (hL6.ap i hlt).2.1
                            have n3 : bl1 i ≠ bl1 k := fun e => hik (hL6.inj _ _ hlt hk e).symm
                            have HXD := HXDEF
                            have HOV2 := hid_o (fun r => ovr_next hgo hlt2 r)
                            have HL6 := hid_o hL6
                            have HGS := hid_o hgs
                            have HGD := hid_o hgd
                            have HBE6 := hid_o hbel
                            have HRW := hid_o hRw
                            obtain ⟨j, hje⟩ : ∃ j, j = k + 1 + c := ⟨_, rfl⟩
                            rw [← hje] at hlt2 x1 x2 oxx oyy fz HRZ HOV2 ⊢
                            have HJ := hid_o hje
                            obtain ⟨u, hue⟩ : ∃ u, u = M1 i j := ⟨_, rfl⟩
                            obtain ⟨v, hve⟩ : ∃ v, v = M1 k j := ⟨_, rfl⟩
                            rw [← hue] at x1 oxx HRZ
                            rw [← hve] at x2 oyy HRZ
                            rw [← HXD.out.1, ← HXD.out.2] at HRZ
                            unfold cx at x1 x2
                            have KP : Hid (∀ (m9 : Nat) (z : Value), ((wr.drewN m9).setCell ⟨bl1 i, j, none⟩ z).cell? ⟨p, 1, none⟩ = some (.slice (some ⟨gr, 0, none⟩) n cr) ∧ ((wr.drewN m9).setCell ⟨bl1 i, j, none⟩ z).cell? ⟨gr, i, none⟩ = some (.slice (some ⟨bl1 i, 0, none⟩) n (cp1 i)) ∧ ((wr.drewN m9).setCell ⟨bl1 i, j, none⟩ z).cell? ⟨gr, k, none⟩ = some (.slice (some ⟨bl1 k, 0, none⟩) n (cp1 k)) ∧ ((wr.drewN m9).setCell ⟨bl1 i, j, none⟩ z).cell? ⟨bl1 k, j, none⟩ = some (.complex .f64 v.1 v.2)) := by
                              intro m9 z
                              refine ⟨?_, ?_, ?_, ?_⟩
                              · rw [other_cell _ (by intro e; cases e; exact n1 rfl)]; exact v1
                              · rw [other_cell _ (by intro e; cases e; exact n2 rfl)]; exact e1
                              · rw [other_cell _ (by intro e; cases e; exact n2 rfl)]; exact r1
                              · rw [other_cell _ (by intro e; injection e with e1; exact n3 e1)]; exact x2
                            clear hje hue hve hL6 hgs hgd hgo hbel hRw hcn
                            go_wp2
                            go_cut [] (fun wd => ∃ (r : Cw) (m5 : Nat), repz (subZ (anz u) (mulZ (divZ (anz x) (anz y)) (anz v))) r ∧ wd = (wr.drewN m5).setCell ⟨bl1 i, j, none⟩ (.complex .f64 r.1 r.2))
                            case first =>
                              as_aux_lemma =>
                                refine wp_region_held_drew (S := (fun W => W.cell? ⟨p, 1, none⟩ = some (.slice (some ⟨gr, 0, none⟩) n cr) ∧ W.cell? ⟨gr, i, none⟩ = some (.slice (some ⟨bl1 i, 0, none⟩) n (cp1 i)) ∧ W.cell? ⟨gr, k, none⟩ = some (.slice (some ⟨bl1 k, 0, none⟩) n (cp1 k)) ∧ W.cell? ⟨bl1 k, j, none⟩ = some (.complex .f64 v.1 v.2))) (by kernel_rfl) ⟨v1, e1, r1, x2⟩ (fun hHeld => ?_)
                                refine wpAnyH_take (i := 0) (v := ?qv0) (by (simp only [List.getElem?_toArray, List.getElem?_cons_zero]; rfl)) (by kernel_rfl) (by kernel_rfl) (by kernel_rfl) ?qQ0 (Or.inl ⟨by rfl, ?qh0⟩) hHeld ?qr0
                                case qQ0 => exact fun _ _ _ h => h
                                case qh0 => (intro w hSw; (try dsimp only at hSw); go_simp; try with_reducible rfl)
                                try simp only [Act.put, List.setIfInBounds_toArray, List.set_cons_zero, List.set_cons_succ]
                                refine wpAnyH_take (i := 1) (v := ?qv1) (by (simp only [List.getElem?_toArray, List.getElem?_cons_zero, List.getElem?_cons_succ]; rfl)) (by kernel_rfl) (by kernel_rfl) (by kernel_rfl) ?qQ1 (Or.inl ⟨by rfl, ?qh1⟩) hHeld ?qr1
                                case qQ1 => exact fun _ _ _ h => h
                                case qh1 => (intro w hSw; (try dsimp only at hSw); go_simp; try with_reducible rfl)
                                try simp only [Act.put, List.setIfInBounds_toArray, List.set_cons_zero, List.set_cons_succ]
                                refine wpAnyH_take (i := 2) (v := ?qv2) (by (simp only [List.getElem?_toArray, List.getElem?_cons_zero, List.getElem?_cons_succ]; rfl)) (by kernel_rfl) (by kernel_rfl) (by kernel_rfl) ?qQ2 (Or.inl ⟨by rfl, ?qh2⟩) hHeld ?qr2
                                case qQ2 => exact fun _ _ _ h => h
                                case qh2 => (intro w hSw; (try dsimp only at hSw); go_simp; try with_reducible rfl)
                                try simp only [Act.put, List.setIfInBounds_toArray, List.set_cons_zero, List.set_cons_succ]
                                refine wpAnyH_take (i := 3) (v := ?qv3) (by (simp only [List.getElem?_toArray, List.getElem?_cons_zero, List.getElem?_cons_succ]; rfl)) (by kernel_rfl) (by kernel_rfl) (by kernel_rfl) ?qQ3 (Or.inl ⟨by rfl, ?qh3⟩) hHeld ?qr3
                                case qQ3 => exact fun _ _ _ h => h
                                case qh3 => (intro w hSw; (try dsimp only at hSw); go_simp; try with_reducible rfl)
                                try simp only [Act.put, List.setIfInBounds_toArray, List.set_cons_zero, List.set_cons_succ]
                                refine wpAnyH_take (i := 4) (v := ?qv4) (by (simp only [List.getElem?_toArray, List.getElem?_cons_zero, List.getElem?_cons_succ]; rfl)) (by kernel_rfl) (by kernel_rfl) (by kernel_rfl) ?qQ4 (Or.inl ⟨by rfl, ?qh4⟩) hHeld ?qr4
                                case qQ4 => exact fun _ _ _ h => h
                                case qh4 => (intro w hSw; (try dsimp only at hSw); go_simp; try with_reducible rfl)
                                try simp only [Act.put, List.setIfInBounds_toArray, List.set_cons_zero, List.set_cons_succ]
                                refine wpAnyH_take (i := 5) (v := ?qv5) (by (simp only [List.getElem?_toArray, List.getElem?_cons_zero, List.getElem?_cons_succ]; rfl)) (by kernel_rfl) (by kernel_rfl) (by kernel_rfl) ?qQ5 (Or.inl ⟨by rfl, ?qh5⟩) hHeld ?qr5
                                case qQ5 => exact fun _ _ _ h => h
                                case qh5 => (intro w hSw; (try dsimp only at hSw); go_simp; try with_reducible rfl)
                                try simp only [Act.put, List.setIfInBounds_toArray, List.set_cons_zero, List.set_cons_succ]
                                refine wpAnyH_take (i := 6) (v := ?qv6) (by (simp only [List.getElem?_toArray, List.getElem?_cons_zero, List.getElem?_cons_succ]; rfl)) (by kernel_rfl) (by kernel_rfl) (by kernel_rfl) ?qQ6 (Or.inl ⟨by rfl, ?qh6⟩) hHeld ?qr6
                                case qQ6 => exact fun _ _ _ h => h
                                case qh6 => (intro w hSw; (try dsimp only at hSw); go_simp; try with_reducible rfl)
                                try simp only [Act.put, List.setIfInBounds_toArray, List.set_cons_zero, List.set_cons_succ]
                                refine wpAnyH_take (i := 7) (v := ?qv7) (by (simp only [List.getElem?_toArray, List.getElem?_cons_zero, List.getElem?_cons_succ]; rfl)) (by kernel_rfl) (by kernel_rfl) (by kernel_rfl) ?qQ7 (Or.inl ⟨by rfl, ?qh7⟩) hHeld ?qr7
                                case qQ7 => exact fun _ _ _ h => h
                                case qh7 => (intro w hSw; (try dsimp only at hSw); go_simp; try with_reducible rfl)
                                try simp only [Act.put, List.setIfInBounds_toArray, List.set_cons_zero, List.set_cons_succ]
                                refine wpAnyH_take (i := 8) (v := ?qv8) (by (simp only [List.getElem?_toArray, List.getElem?_cons_zero, List.getElem?_cons_succ]; rfl)) (by kernel_rfl) (by kernel_rfl) (by kernel_rfl) ?qQ8 (Or.inl ⟨by rfl, ?qh8⟩) hHeld ?qr8
                                case qQ8 => exact fun _ _ _ h => h
                                case qh8 => (intro w hSw; (try dsimp only at hSw); go_simp; try with_reducible rfl)
                                try simp only [Act.put, List.setIfInBounds_toArray, List.set_cons_zero, List.set_cons_succ]
                                refine wpAnyH_take (i := 9) (v := ?qv9) (by (simp only [List.getElem?_toArray, List.getElem?_cons_zero, List.getElem?_cons_succ]; rfl)) (by kernel_rfl) (by kernel_rfl) (by kernel_rfl) ?qQ9 (Or.inl ⟨by rfl, ?qh9⟩) hHeld ?qr9
                                case qQ9 => exact fun _ _ _ h => h
                                case qh9 => (intro w hSw; (try dsimp only at hSw); go_simp; try with_reducible rfl)
                                try simp only [Act.put, List.setIfInBounds_toArray, List.set_cons_zero, List.set_cons_succ]
                                refine wpAnyH_take (i := 10) (v := ?qv10) (by (simp only [List.getElem?_toArray, List.getElem?_cons_zero, List.getElem?_cons_succ]; rfl)) (by kernel_rfl) (by kernel_rfl) (by kernel_rfl) ?qQ10 (Or.inl ⟨by rfl, ?qh10⟩) hHeld ?qr10
                                case qQ10 => exact fun _ _ _ h => h
                                case qh10 => (intro w hSw; (try dsimp only at hSw); go_simp; try with_reducible rfl)
                                try simp only [Act.put, List.setIfInBounds_toArray, List.set_cons_zero, List.set_cons_succ]
                                refine wpAnyH_take (i := 11) (v := ?qv11) (by (simp only [List.getElem?_toArray, List.getElem?_cons_zero, List.getElem?_cons_succ]; rfl)) (by kernel_rfl) (by kernel_rfl) (by kernel_rfl) ?qQ11 (Or.inl ⟨by rfl, ?qh11⟩) hHeld ?qr11
                                case qQ11 => exact fun _ _ _ h => h
                                case qh11 => (intro w hSw; (try dsimp only at hSw); go_simp; try with_reducible rfl)
                                try simp only [Act.put, List.setIfInBounds_toArray, List.set_cons_zero, List.set_cons_succ]
                                refine wpAnyH_take (i := 12) (v := ?qv12) (by (simp only [List.getElem?_toArray, List.getElem?_cons_zero, List.getElem?_cons_succ]; rfl)) (by kernel_rfl) (by kernel_rfl) (by kernel_rfl) ?qQ12 (Or.inl ⟨by rfl, ?qh12⟩) hHeld ?qr12
                                case qQ12 => exact fun _ _ _ h => h
                                case qh12 => (intro w hSw; (try dsimp only at hSw); go_simp; try with_reducible rfl)
                                try simp only [Act.put, List.setIfInBounds_toArray, List.set_cons_zero, List.set_cons_succ]
                                refine wpAnyH_take (i := 13) (v := ?qv13) (by (simp only [List.getElem?_toArray, List.getElem?_cons_zero, List.getElem?_cons_succ]; rfl)) (by kernel_rfl) (by kernel_rfl) (by kernel_rfl) ?qQ13 (Or.inl ⟨by rfl, ?qh13⟩) hHeld ?qr13
                                case qQ13 => exact fun _ _ _ h => h
                                case qh13 => (intro w hSw; (try dsimp only at hSw); go_simp; try with_reducible rfl)
                                try simp only [Act.put, List.setIfInBounds_toArray, List.set_cons_zero, List.set_cons_succ]
                                refine wpAnyH_take (i := 14) (v := ?qv14) (by (simp only [List.getElem?_toArray, List.getElem?_cons_zero, List.getElem?_cons_succ]; rfl)) (by kernel_rfl) (by kernel_rfl) (by kernel_rfl) ?qQ14 (Or.inl ⟨by rfl, ?qh14⟩) hHeld ?qr14
                                case qQ14 => exact fun _ _ _ h => h
                                case qh14 => (intro w hSw; (try dsimp only at hSw); go_simp; try with_reducible rfl)
                                try simp only [Act.put, List.setIfInBounds_toArray, List.set_cons_zero, List.set_cons_succ]
                                refine wpAnyH_take (i := 15) (v := ?qv15) (by (simp only [List.getElem?_toArray, List.getElem?_cons_zero, List.getElem?_cons_succ]; rfl)) (by kernel_rfl) (by kernel_rfl) (by kernel_rfl) ?qQ15 (Or.inl ⟨by rfl, ?qh15⟩) hHeld ?qr15
                                case qQ15 => exact fun _ _ _ h => h
                                case qh15 => (intro w hSw; (try dsimp only at hSw); go_simp; try with_reducible rfl)
                                try simp only [Act.put, List.setIfInBounds_toArray, List.set_cons_zero, List.set_cons_succ]
                                refine wpAnyH_take (i := 16) (v := ?qv16) (by (simp only [List.getElem?_toArray, List.getElem?_cons_zero, List.getElem?_cons_succ]; rfl)) (by kernel_rfl) (by kernel_rfl) (by kernel_rfl) ?qQ16 (Or.inl ⟨by rfl, ?qh16⟩) hHeld ?qr16
                                case qQ16 => exact fun _ _ _ h => h
                                case qh16 => (intro w hSw; (try dsimp only at hSw); go_simp; try with_reducible rfl)
                                try simp only [Act.put, List.setIfInBounds_toArray, List.set_cons_zero, List.set_cons_succ]
                                refine wpAnyH_take (i := 18) (v := ?qv18) (by (simp only [List.getElem?_toArray, List.getElem?_cons_zero, List.getElem?_cons_succ]; rfl)) (by kernel_rfl) (by kernel_rfl) (by kernel_rfl) ?qQ18 (Or.inl ⟨by rfl, ?qh18⟩) hHeld ?qr18
                                case qQ18 => exact fun _ _ _ h => h
                                case qh18 => (intro w hSw; (try dsimp only at hSw); go_simp; try with_reducible rfl)
                                try simp only [Act.put, List.setIfInBounds_toArray, List.set_cons_zero, List.set_cons_succ]
                                refine wpAnyH_take (i := 19) (v := ?qv19) (by (simp only [List.getElem?_toArray, List.getElem?_cons_zero, List.getElem?_cons_succ]; rfl)) (by kernel_rfl) (by kernel_rfl) (by kernel_rfl) ?qQ19 (Or.inl ⟨by rfl, ?qh19⟩) hHeld ?qr19
                                case qQ19 => exact fun _ _ _ h => h
                                case qh19 => (intro w hSw; (try dsimp only at hSw); go_simp; try with_reducible rfl)
                                try simp only [Act.put, List.setIfInBounds_toArray, List.set_cons_zero, List.set_cons_succ]
                                refine wpAnyH_take (i := 20) (v := ?qv20) (by (simp only [List.getElem?_toArray, List.getElem?_cons_zero, List.getElem?_cons_succ]; rfl)) (by kernel_rfl) (by kernel_rfl) (by kernel_rfl) ?qQ20 (Or.inl ⟨by rfl, ?qh20⟩) hHeld ?qr20
                                case qQ20 => exact fun _ _ _ h => h
                                case qh20 => (intro w hSw; (try dsimp only at hSw); go_simp; try with_reducible rfl)
                                try simp only [Act.put, List.setIfInBounds_toArray, List.set_cons_zero, List.set_cons_succ]
                                refine wpAnyH_take (i := 21) (v := ?qv21) (by (simp only [List.getElem?_toArray, List.getElem?_cons_zero, List.getElem?_cons_succ]; rfl)) (by kernel_rfl) (by kernel_rfl) (by kernel_rfl) ?qQ21 (Or.inl ⟨by rfl, ?qh21⟩) hHeld ?qr21
                                case qQ21 => exact fun _ _ _ h => h
                                case qh21 => (intro w hSw; (try dsimp only at hSw); go_simp; try with_reducible rfl)
                                try simp only [Act.put, List.setIfInBounds_toArray, List.set_cons_zero, List.set_cons_succ]
                                refine wpAnyH_take (i := 22) (v := ?qv22) (by (simp only [List.getElem?_toArray, List.getElem?_cons_zero, List.getElem?_cons_succ]; rfl)) (by kernel_rfl) (by kernel_rfl) (by kernel_rfl) ?qQ22 (Or.inl ⟨by rfl, ?qh22⟩) hHeld ?qr22
                                case qQ22 => exact fun _ _ _ h => h
                                case qh22 => (intro w hSw; (try dsimp only at hSw); go_simp; try with_reducible rfl)
                                try simp only [Act.put, List.setIfInBounds_toArray, List.set_cons_zero, List.set_cons_succ]
                                refine wpAnyH_take (i := 23) (v := ?qv23) (by (simp only [List.getElem?_toArray, List.getElem?_cons_zero, List.getElem?_cons_succ]; rfl)) (by kernel_rfl) (by kernel_rfl) (by kernel_rfl) ?qQ23 (Or.inl ⟨by rfl, ?qh23⟩) hHeld ?qr23
                                case qQ23 => exact fun _ _ _ h => h
                                case qh23 => (intro w hSw; (try dsimp only at hSw); go_simp; try with_reducible rfl)
                                try simp only [Act.put, List.setIfInBounds_toArray, List.set_cons_zero, List.set_cons_succ]
                                refine wpAnyH_take (i := 24) (v := ?qv24) (by (simp only [List.getElem?_toArray, List.getElem?_cons_zero, List.getElem?_cons_succ]; rfl)) (by kernel_rfl) (by kernel_rfl) (by kernel_rfl) ?qQ24 (Or.inl ⟨by rfl, ?qh24⟩) hHeld ?qr24
                                case qQ24 => exact fun _ _ _ h => h
                                case qh24 => (intro w hSw; (try dsimp only at hSw); go_simp; try with_reducible rfl)
                                try simp only [Act.put, List.setIfInBounds_toArray, List.set_cons_zero, List.set_cons_succ]
                                refine wpAnyH_take (i := 25) (v := ?qv25) (by (simp only [List.getElem?_toArray, List.getElem?_cons_zero, List.getElem?_cons_succ]; rfl)) (by kernel_rfl) (by kernel_rfl) (by kernel_rfl) ?qQ25 (Or.inl ⟨by rfl, ?qh25⟩) hHeld ?qr25
                                case qQ25 => exact fun _ _ _ h => h
                                case qh25 => (intro w hSw; (try dsimp only at hSw); go_simp; try with_reducible rfl)
                                try simp only [Act.put, List.setIfInBounds_toArray, List.set_cons_zero, List.set_cons_succ]
                                refine wpAnyH_take (i := 26) (v := ?qv26) (by (simp only [List.getElem?_toArray, List.getElem?_cons_zero, List.getElem?_cons_succ]; rfl)) (by kernel_rfl) (by kernel_rfl) (by kernel_rfl) ?qQ26 (Or.inl ⟨by rfl, ?qh26⟩) hHeld ?qr26
                                case qQ26 => exact fun _ _ _ h => h
                                case qh26 => (intro w hSw; (try dsimp only at hSw); go_simp; try with_reducible rfl)
                                try simp only [Act.put, List.setIfInBounds_toArray, List.set_cons_zero, List.set_cons_succ]
                                refine wpAnyH_take (i := 27) (v := ?qv27) (by (simp only [List.getElem?_toArray, List.getElem?_cons_zero, List.getElem?_cons_succ]; rfl)) (by kernel_rfl) (by kernel_rfl) (by kernel_rfl) ?qQ27 (Or.inl ⟨by rfl, ?qh27⟩) hHeld ?qr27
                                case qQ27 => exact fun _ _ _ h => h
                                case qh27 => (intro w hSw; (try dsimp only at hSw); go_simp; try with_reducible rfl)
                                try simp only [Act.put, List.setIfInBounds_toArray, List.set_cons_zero, List.set_cons_succ]
                                refine wpAnyH_take (i := 28) (v := ?qv28) (by (simp only [List.getElem?_toArray, List.getElem?_cons_zero, List.getElem?_cons_succ]; rfl)) (by kernel_rfl) (by kernel_rfl) (by kernel_rfl) ?qQ28 (Or.inl ⟨by rfl, ?qh28⟩) hHeld ?qr28
                                case qQ28 => exact fun _ _ _ h => h
                                case qh28 => (intro w hSw; (try dsimp only at hSw); go_simp; try with_reducible rfl)
                                try simp only [Act.put, List.setIfInBounds_toArray, List.set_cons_zero, List.set_cons_succ]
                                refine wpAnyH_ready (rs := [17, 29]) (by kernel_rfl) (by simp) ?_
                                refine AllReadyH.cons rfl (fun K hK => ?_) (AllReadyH.cons rfl (fun K hK => ?_) AllReadyH.nil)
                                · skip
                                  go_simp
                                  refine hK.out _ _ ⟨v1, e1, r1, x2⟩ (fun hHeld => ?_)
                                  clear hK K
                                  refine wpAnyH_ready (rs := [29]) (by kernel_rfl) (by simp) ?_
                                  refine AllReadyH.cons rfl (fun K hK => ?_) AllReadyH.nil
                                  go_simp
                                  go_wp2_with (go_at_call 80; (with_reducible refine (rmul_z HF8.out oyy).mono ?_); rintro e w8 ⟨tt, m8, rfl, ht8, rfl⟩)
                                  refine hK.out _ _ ⟨v1, e1, r1, x2⟩ (fun hHeld => ?_)
                                  clear hK K
                                  refine wpAnyH_ready (rs := [30]) (by kernel_rfl) (by simp) ?_
                                  refine AllReadyH.cons rfl (fun K hK => ?_) AllReadyH.nil
                                  go_simp
                                  go_wp2_with (go_at_call 79; (with_reducible refine (rsub_z oxx ht8).mono ?_); rintro e w8 ⟨rr, m9, rfl, hr8, rfl⟩)
                                  refine hK.out _ _ ⟨v1, e1, r1, x2⟩ (fun hHeld => ?_)
                                  clear hK K
                                  refine wpAnyH_take (i := 31) (v := ?qv31a) (by (simp only [List.getElem?_toArray, List.getElem?_cons_zero, List.getElem?_cons_succ]; rfl)) (by kernel_rfl) (by kernel_rfl) (by kernel_rfl) ?qQ31a (Or.inl ⟨by rfl, ?qh31a⟩) hHeld ?qr31a
                                  case qQ31a => exact fun _ _ _ h => h
                                  case qh31a => (intro w hSw; (try dsimp only at hSw); go_simp; try with_reducible rfl)
                                  try simp only [Act.put, List.setIfInBounds_toArray, List.set_cons_zero, List.set_cons_succ]
                                  refine wpAnyH_ready (rs := [32]) (by kernel_rfl) (by simp) ?_
                                  refine AllReadyH.cons rfl (fun K hK => ?_) AllReadyH.nil
                                  go_simp
                                  refine hK.out _ _ (KP.out _ _) (fun hHeld => ?_)
                                  clear hK K
                                  refine wpAnyH_done (by kernel_rfl) ?_ _
                                  go_wp2_with fail
                                  go_meet
                                  case rel => exact ⟨rr, _, hr8, by first | rfl | (simp only [World.drewN_drewN]; rfl)⟩
                                · skip
                                  go_simp
                                  go_wp2_with (go_at_call 80; (with_reducible refine (rmul_z HF8.out oyy).mono ?_); rintro e w8 ⟨tt, m8, rfl, ht8, rfl⟩)
                                  refine hK.out _ _ ⟨v1, e1, r1, x2⟩ (fun hHeld => ?_)
                                  clear hK K
                                  refine wpAnyH_ready (rs := [17]) (by kernel_rfl) (by simp) ?_
                                  refine AllReadyH.cons rfl (fun K hK => ?_) AllReadyH.nil
                                  go_simp
                                  refine hK.out _ _ ⟨v1, e1, r1, x2⟩ (fun hHeld => ?_)
                                  clear hK K
                                  refine wpAnyH_ready (rs := [30]) (by kernel_rfl) (by simp) ?_
                                  refine AllReadyH.cons rfl (fun K hK => ?_) AllReadyH.nil
                                  go_simp
                                  go_wp2_with (go_at_call 79; (with_reducible refine (rsub_z oxx ht8).mono ?_); rintro e w8 ⟨rr, m9, rfl, hr8, rfl⟩)
                                  refine hK.out _ _ ⟨v1, e1, r1, x2⟩ (fun hHeld => ?_)
                                  clear hK K
                                  refine wpAnyH_take (i := 31) (v := ?qv31b) (by (simp only [List.getElem?_toArray, List.getElem?_cons_zero, List.getElem?_cons_succ]; rfl)) (by kernel_rfl) (by kernel_rfl) (by kernel_rfl) ?qQ31b (Or.inl ⟨by rfl, ?qh31b⟩) hHeld ?qr31b
                                  case qQ31b => exact fun _ _ _ h => h
                                  case qh31b => (intro w hSw; (try dsimp only at hSw); go_simp; try with_reducible rfl)
                                  try simp only [Act.put, List.setIfInBounds_toArray, List.set_cons_zero, List.set_cons_succ]
                                  refine wpAnyH_ready (rs := [32]) (by kernel_rfl) (by simp) ?_
                                  refine AllReadyH.cons rfl (fun K hK => ?_) AllReadyH.nil
                                  go_simp
                                  refine hK.out _ _ (KP.out _ _) (fun hHeld => ?_)
                                  clear hK K
                                  refine wpAnyH_done (by kernel_rfl) ?_ _
                                  go_wp2_with fail
                                  go_meet
                                  case rel => exact ⟨rr, _, hr8, by first | rfl | (simp only [World.drewN_drewN]; rfl)⟩
                            case rest =>
                              obtain ⟨rr, m5, hr8, rfl⟩ := hcut
                              have L7 : Lr ((wr.drewN m5).setCell ⟨bl1 i, j, none⟩ (.complex .f64 rr.1 rr.2)) b p n gr go cr co bl1 cp1 (fun r => if r = i then upz g j rr else M' r) o1 odd1 tb := by
                                refine ((HL6.out.drewN m5).put hlt ((only_drewN _ _ 0).setCell _) (rw_set (HRW.out.drewN m5) j rr)).congr (fun r t _ _ => ?_)
                                by_cases e : r = i
                                · simp only [e, if_true]
                                · simp only [e, if_false]
                              have HL7 := hid_o L7
                              have HB7 : Hid (Below b w ((wr.drewN m5).setCell ⟨bl1 i, j, none⟩ (.complex .f64 rr.1 rr.2))) := (below_drewN HBE6.out _).setCell (p := ⟨bl1 i, j, none⟩) HGE.out _
                              have HR8 := hid_o hr8
                              have HPN := hid_o (cin_next HGS.out HGD.out HJ.out (show repz (redZ (M1 i) (M1 k) k j) rr by rw [HRZ.out]; exact HR8.out))
                              clear hr8 L7
                              obtain ⟨W7, hW7⟩ : ∃ W7, W7 = ((wr.drewN m5).setCell ⟨bl1 i, j, none⟩ (.complex .f64 rr.1 rr.2)) := ⟨_, rfl⟩
                              rw [← hW7] at HL7 HB7 ⊢
                              clear hW7 v0 v1 e1 r1 x1 x2 fz KP HL6 HRW HBE6 n1 n2 n3
                              have v0 := HL7.out.v.c0
                              have v1 := HL7.out.v.c1
                              have e1 := HL7.out.cell hlt
                              have x1 := HL7.out.cellM hlt hlt2
                              simp only [if_true, upz_self] at x1
                              unfold cx at x1
                              cases oc
                              · go_wp2_with (go_at_call 36; (with_reducible refine (rfin_z rr).mono ?_); rintro e w9 ⟨m9, rfl, rfl⟩)
                                clear v1 e1 x1
                                go_roundw
                                case measure => simp [intOf]; omega
                                case rel => exact ⟨c + 1, upz g j rr, !finZ rr, by have := HJ.out; omega, by rw [HJ.out]; go_num, rfl, HL7.out.drewN _, HPN.out.1, HPN.out.2, by have := HOV2.out rr; rw [Bool.false_or] at this; exact this, below_drewN HB7.out _⟩
                              · go_wp2
                                clear v1 e1 x1
                                go_roundw
                                case measure => simp [intOf]; omega
                                case rel => exact ⟨c + 1, upz g j rr, true, by have := HJ.out; omega, by rw [HJ.out]; go_num, rfl, HL7.out, HPN.out.1, HPN.out.2, by have := HOV2.out rr; rw [Bool.true_or] at this; exact this, HB7.out⟩
                        · as_aux_lemma =>
                            have hc2 : k + 1 + c = n := by omega
                            have e1 := hL6.cell hlt
                            have hRw := hL6.row i hlt
                            simp only [if_true] at hRw
                            have xk := rw_cell hRw hk
                            have fz := hRw.own.frozenAt k
                            unfold cx at xk
                            have HBX : Hid (Below b w (wr.setCell ⟨bl1 i, k, none⟩ (.complex .f64 f.1 f.2))) := hbel.setCell (p := ⟨bl1 i, k, none⟩) (hRw.own.lt _ rfl).1 _
                            have HLX : Hid (Lr (wr.setCell ⟨bl1 i, k, none⟩ (.complex .f64 f.1 f.2)) b p n gr go cr co bl1 cp1 (fun r => if r = i then upz g k f else M' r) o1 odd1 tb) := by
                              refine (hL6.put hlt ((only_drewN _ _ 0).setCell _) (rw_set hRw k f)).congr (fun r t _ _ => ?_)
                              by_cases e : r = i
                              · simp only [e, if_true]
                              · simp only [e, if_false]
                            have HNX := hid_o (cout_next HI.out hlt HSA.out HDO.out hgs hgd hc2 HOK1.out hk (show repz (redZ (M1 i) (M1 k) k k) f by rw [HDZ.out]; exact HF8.out))
                            have HOX := hid_o (ovR_next HOV.out HOA.out hgo hc2 hk)
                            rw [← HI.out] at HOX
                            clear hL6 hgs hgd hgo hbel hRw hcn hc2
                            go_wp2
                            refine ⟨⟨m + 1, (fun r => if r = i then upz g k f else M' r), oc, by have := HI.out; omega, by rw [HI.out]; go_num, rfl, HLX.out, HNX.out.1, HNX.out.2, HOX.out, HBX.out⟩, by simp [intOf]; omega⟩
                · as_aux_lemma =>
                    have hm2 : k + 1 + m = n := by omega
                    have hg := good_col hov hm2 hdone
                    cases ob
                    · have hT := S0'.out (by rw [hg]; rfl)
                      have FIN : Hid (T.1 = 0 ∧ Lr wr b p n gr go cr co bl1 cp1 T.2.M T.2.o odd1 (ties || ti M k n (n - k)) ∧ sgO odd1 = T.2.s) := by
                        rw [hT, ← HE.out]
                        exact ⟨rfl, hL5.red (fun r hr => hsame r (.inl hr)) (fun r j h1 h2 h3 => hdone r j h1 (by omega) h2 h3) HOK1.out HFIN1.out (by rw [hg]; rfl), HSG.out⟩
                      have HBE := hid_o hbel
                      clear hT hg hL5 hsame hdone hov hbel hm2 hmn
                      go_wp2
                      go_ret
                      exact ⟨by rw [FIN.out.1]; rfl, fun _ => ⟨bl1, cp1, odd1, FIN.out.2.1, FIN.out.2.2⟩, HBE.out⟩
                    · have hT := S6'.out (by rw [hg]; rfl)
                      have FIN : Hid (T.1 = 6) := by rw [hT]; rfl
                      have HBE := hid_o hbel
                      clear hT hg hL5 hsame hdone hov hbel hm2 hmn
                      go_wp2
                      go_ret
                      exact ⟨by rw [FIN.out]; rfl, fun e => absurd (FIN.out.symm.trans e) (by decide), HBE.out⟩

end Go.Proofs.Ytklbgibhbnijaaa
