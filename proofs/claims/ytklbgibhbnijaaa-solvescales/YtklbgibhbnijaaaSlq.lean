/-
  What solve's Det hands back.
-/
import Derived.Test.YtklbgibhbnijaaaSlp
namespace Go.Proofs.Ytklbgibhbnijaaa
open Fl RowKit

/-- the determinant behind k pivots -/
def detS (P : Nat → Cw) : Nat → Cw × Int
  | 0 => ((W1, 0), 0)
  | k + 1 => (hmW (toW (mulZ (anz (detS P k).1) (anz (hmW (P k))))), (detS P k).2 + hmP (P k) + hmP (toW (mulZ (anz (detS P k).1) (anz (hmW (P k))))))
def pvOk (n : Nat) (P : Nat → Cw) : Prop := ∀ k, k < n → okz (P k) ∧ fin (P k).1 ∧ fin (P k).2 ∧ 0 < gz (P k)
theorem hom_one : hom (W1, 0) := ⟨⟨by decide, by decide⟩, by decide, by decide⟩
theorem hmP_rng {z : Cw} (h1 : fin z.1) (h2 : fin z.2) (h0 : 0 < gz z) : -1074 ≤ hmP z ∧ hmP z ≤ 1023 := by
  have hg : gz z < 9218868437227405312 := Nat.max_lt.2 ⟨h1, h2⟩
  obtain ⟨r1, r2⟩ := nX_rng h0 hg
  unfold hmP
  omega
theorem mul_toW {z u : Cw} (hz : hom z) (hu : hom u) : repz (mulZ (anz z) (anz u)) (toW (mulZ (anz z) (anz u))) ∧ okz (toW (mulZ (anz z) (anz u))) ∧ fin (toW (mulZ (anz z) (anz u))).1 ∧ fin (toW (mulZ (anz z) (anz u))).2 ∧ 0 < gz (toW (mulZ (anz z) (anz u))) := by
  obtain ⟨r, h1, h2, h3, h4, h5⟩ := prod_ok hz hu
  have e : toW (mulZ (anz z) (anz u)) = r := by unfold toW; rw [h1]; rfl
  rw [e]
  refine ⟨?_, h2, h3, h4, h5⟩
  rw [h1]
  exact ⟨⟨h2.1, ans_fin h3⟩, ⟨h2.2, ans_fin h4⟩⟩
theorem repz_fin {Z : Cn} {x y : Cw} (hx : repz Z x) (hy : repz Z y) (h1 : fin x.1) (h2 : fin x.2) : y = x := by
  have a1 := hx.1.2
  have a2 := hx.2.2
  have b1 := hy.1.2
  have b2 := hy.2.2
  rw [ans_fin h1] at a1
  rw [ans_fin h2] at a2
  rw [← a1] at b1
  rw [← a2] at b2
  unfold ans at b1 b2
  split at b1
  · cases b1
  · split at b2
    · cases b2
    · exact Prod.ext (Option.some.inj b1) (Option.some.inj b2)
theorem det_inv {n : Nat} {P : Nat → Cw} (h : pvOk n P) : ∀ k, k ≤ n → hom (detS P k).1 ∧ -3000 * (k : Int) ≤ (detS P k).2 ∧ (detS P k).2 ≤ 3000 * (k : Int) := by
  intro k
  induction k with
  | zero => intro _; exact ⟨hom_one, by simp [detS], by simp [detS]⟩
  | succ k ih =>
    intro hk
    obtain ⟨i1, i2, i3⟩ := ih (by omega)
    obtain ⟨p1, p2, p3, p4⟩ := h k (by omega)
    obtain ⟨_, q2, q3, q4, q5⟩ := mul_toW i1 (hm_hom p4)
    have r1 := hmP_rng p2 p3 p4
    have r2 := hmP_rng q3 q4 q5
    refine ⟨hm_hom q5, ?_, ?_⟩
    · show _ ≤ (detS P k).2 + hmP (P k) + hmP _
      omega
    · show (detS P k).2 + hmP (P k) + hmP _ ≤ _
      omega
/-- the opposite -/
def ngZ (z : Cw) : Cw := (ngW z.1, ngW z.2)
def detR (s : Int) (n : Nat) (P : Nat → Cw) : Cw := if s = -1 then ngZ (detS P n).1 else (detS P n).1
section det
variable {w : World} {v : Value} {n : Nat} {M : Nat → Nat → Cw} {o : Nat → Nat} {s : Int} (h : Lhd w v n M o s)
include h
theorem det_none (hs : s = 0) : Calls Try.prog 54 #[v] w fun e w' => e = .returned (.tuple #[.complex .f64 0 0, .int .i64 0, .int .i64 1]) ∧ Below w.heap.size w w' := by
  have HI := hid_o (isnone_any h true (decide_eq_true hs).symm)
  clear h hs
  go_enter Try.func54, Try.ntmps54
  go_wp2_with (go_at_call 60; (with_reducible refine HI.out.mono ?_); rintro e w1 ⟨rfl, hb⟩; have HB := hid_o hb; clear hb)
  refine bodyPost_ret (by simp [results, Try.results54, go_sem]; try rfl) rfl ?_
  exact ⟨rfl, HB.out⟩
set_option maxHeartbeats 2000000 in
theorem det_any (hs : ¬ s = 0) (hn : n ≤ 64) (hP : pvOk n (fun i => M i i)) : Calls Try.prog 54 #[v] w fun e w' => e = .returned (.tuple #[.complex .f64 (detR s n (fun i => M i i)).1 (detR s n (fun i => M i i)).2, .int .i64 (detS (fun i => M i i) n).2, .int .i64 0]) ∧ Below w.heap.size w w' := by
  have HI := hid_o (isnone_any h false (decide_eq_false hs).symm)
  have HH := hid_o h
  have HP := hid_o hP
  have HD := hid_o (det_inv hP)
  clear h hP hs
  go_enter Try.func54, Try.ntmps54
  go_wp2_with (first
    | (go_at_call 60; (with_reducible refine HI.out.mono ?_); rintro e w1 ⟨rfl, hb⟩; have HB := hid_o hb; clear hb)
    | (go_at_call 21; (with_reducible refine (lh_piv (HH.out.below HB.out) hn).mono ?_); rintro e w2 ⟨g, rfl, hr, hb⟩; have HB2 := hid_o (HB.out.trans (hb.mono HB.out.size)); have HRC := hid_o hr.rc; clear hb hr))
  go_loopw [5, 6, 18] (fun dv ev iv wr => ∃ (k m : Nat), k ≤ n ∧ iv = .int .i64 k ∧ dv = .complex .f64 (detS (fun i => M i i) k).1.1 (detS (fun i => M i i) k).1.2 ∧ ev = .int .i64 (detS (fun i => M i i) k).2 ∧ wr = w2.drewN m) (fun _ _ iv _ => n - (intOf iv).toNat)
  case atStart => exact ⟨0, 0, Nat.zero_le _, rfl, rfl, rfl, rfl⟩
  case round =>
    obtain ⟨k, m, hk, rfl, rfl, rfl, rfl⟩ := hrel
    by_cases hlt : k < n
    · obtain ⟨b1, o1, e1, hb1, hc1⟩ := (HRC.out.drewN m) k (by rw [ro_len]; exact hlt)
      cases e1
      rw [ro_at _ hlt, Nat.zero_add] at hc1
      have hc2 : w2.cell? ⟨g, k, none⟩ = some (cx (M k k)) := hc1
      have hb2 : g < w2.heap.size := hb1
      clear hc1 hb1
      obtain ⟨i1, i2, i3⟩ := HD.out k (by omega)
      obtain ⟨p1, p2, p3, p4⟩ := HP.out k hlt
      obtain ⟨q1, q2, q3, q4, q5⟩ := mul_toW i1 (hm_hom p4)
      have r1 := hmP_rng p2 p3 p4
      have r2 := hmP_rng q3 q4 q5
      have e1 : (detS (fun i => M i i) (k + 1)).1 = hmW (toW (mulZ (anz (detS (fun i => M i i) k).1) (anz (hmW (M k k))))) := rfl
      have e2 : (detS (fun i => M i i) (k + 1)).2 = (detS (fun i => M i i) k).2 + hmP (M k k) + hmP (toW (mulZ (anz (detS (fun i => M i i) k).1) (anz (hmW (M k k))))) := rfl
      have HM1 := hid_o (fun W => home_any (w := W) p1 p2 p3 p4)
      have hu := (hm_hom p4).1
      have HMU := hid_o (fun W => mul_zz (W := W) (repz_anz i1.1) (repz_anz hu))
      have HM2 := hid_o (fun W => home_any (w := W) q2 q3 q4 q5)
      have HQ1 := hid_o q1
      have HF := hid_o (And.intro q3 q4)
      simp only at i1 i2 i3 p1 p2 p3 p4 HM1 HMU HM2 HQ1 HF r1 r2
      obtain ⟨d, hd⟩ : ∃ d, d = (detS (fun i => M i i) k).1 := ⟨_, rfl⟩
      obtain ⟨ee, he⟩ : ∃ ee, ee = (detS (fun i => M i i) k).2 := ⟨_, rfl⟩
      rw [← hd] at HMU HM2 e1 e2 HQ1 HF r2 ⊢
      rw [← he] at i2 i3 e2 ⊢
      obtain ⟨x, hx⟩ : ∃ x, x = M k k := ⟨_, rfl⟩
      rw [← hx] at HMU HM1 HM2 e1 e2 HQ1 HF r1 r2 hc2
      obtain ⟨u, hu2⟩ : ∃ u, u = hmW x := ⟨_, rfl⟩
      rw [← hu2] at HMU HM1 HM2 e1 e2 HQ1 HF r2
      obtain ⟨t, ht⟩ : ∃ t, t = toW (mulZ (anz d) (anz u)) := ⟨_, rfl⟩
      rw [← ht] at HM2 e1 e2 HQ1 HF r2
      obtain ⟨p, hp⟩ : ∃ p, p = hmP x := ⟨_, rfl⟩
      rw [← hp] at HM1 e2 r1
      obtain ⟨q, hq⟩ : ∃ q, q = hmP t := ⟨_, rfl⟩
      rw [← hq] at HM2 e2 r2
      obtain ⟨dd, hdd⟩ : ∃ dd, dd = hmW t := ⟨_, rfl⟩
      rw [← hdd] at HM2 e1
      have HE1 := hid_o e1
      have HE2 := hid_o e2
      unfold cx at hc2
      clear hd he hx hu2 ht hp hq hdd e1 e2 i1 p1 p2 p3 p4 q1 q2 q3 q4 q5 hu HD HP HI HH
      go_wp2_with (first
        | (go_at_call 96; first | ((with_reducible refine (HM1.out _).mono ?_); rintro e w' ⟨n1, rfl, rfl⟩) | ((with_reducible refine (HM2.out _).mono ?_); rintro e w' ⟨n3, rfl, rfl⟩))
        | (go_at_call 97; (with_reducible refine (HMU.out _).mono ?_); rintro e w' ⟨r, n2, rfl, hr, rfl⟩; (have er := repz_fin HQ1.out hr HF.out.1 HF.out.2); subst er; clear hr))
      go_roundw
      case measure => simp [intOf]; omega
      case rel => exact ⟨k + 1, m + n1 + n2 + n3, by omega, by go_num, by rw [HE1.out], by rw [HE2.out], by first | rfl | (simp only [World.drewN_drewN]; try rfl)⟩
    · have e : k = n := by omega
      subst e
      obtain ⟨i1, _, _⟩ := HD.out k (Nat.le_refl _)
      have HS := hid_o (lh_sign ((HH.out.below HB2.out).below (below_drewN (Below.refl _ _) m)))
      obtain ⟨f1, f2, _, _⟩ := i1.fin1
      have HN := hid_o (fun W => neg_any (A := ans (detS (fun i => M i i) k).1.1) (B := ans (detS (fun i => M i i) k).1.2) W (rep_ans i1.1.1) (rep_ans i1.1.2))
      have HZ : Hid (∀ re im, rep (negA (ans (detS (fun i => M i i) k).1.1)) re → rep (negA (ans (detS (fun i => M i i) k).1.2)) im → (re, im) = ngZ (detS (fun i => M i i) k).1) := fun re im h1 h2 => by
        refine repz_fin (Z := (negA (ans (detS (fun i => M i i) k).1.1), negA (ans (detS (fun i => M i i) k).1.2))) ⟨rep_ng (rep_ans i1.1.1), rep_ng (rep_ans i1.1.2)⟩ ⟨h1, h2⟩ ?_ ?_
        · show fin (ngW _); unfold fin; rw [mg_ngW i1.1.1]; exact f1
        · show fin (ngW _); unfold fin; rw [mg_ngW i1.1.2]; exact f2
      obtain ⟨d, hd⟩ : ∃ d, d = (detS (fun i => M i i) k).1 := ⟨_, rfl⟩
      rw [← hd] at HN HZ
      have hd1 : (detS (fun i => M i i) k).1.1 = d.1 := by rw [hd]
      have hd2 : (detS (fun i => M i i) k).1.2 = d.2 := by rw [hd]
      by_cases hsg : s = -1
      · have HR : Hid (detR s k (fun i => M i i) = ngZ d) := by rw [hd]; exact if_pos hsg
        subst hsg
        rw [hd1, hd2]
        clear hd hd1 hd2 i1 f1 f2 HD HP HI HH HRC
        go_wp2_with (first
          | (go_at_call 19; (with_reducible refine HS.out.mono ?_); rintro e w3 ⟨rfl, hb⟩; have HB3 := hid_o (HB2.out.trans ((below_drewN (Below.refl _ _) m).trans (hb.mono HB2.out.size))); clear hb)
          | (go_at_call 98; (with_reducible refine (HN.out _).mono ?_); rintro e w4 ⟨re, im, rfl, h1, h2, rfl⟩; have hz := hid_o (HZ.out re im h1 h2); clear h1 h2))
        refine bodyPost_ret (by simp [results, Try.results54, go_sem]; try rfl) rfl ?_
        refine ⟨?_, HB3.out⟩
        rw [HR.out, ← hz.out]
      · have HR : Hid (detR s k (fun i => M i i) = d) := by rw [hd]; exact if_neg hsg
        rw [hd1, hd2]
        clear hd hd1 hd2 i1 f1 f2 HD HP HI HH HRC
        go_wp2_with (go_at_call 19; (with_reducible refine HS.out.mono ?_); rintro e w3 ⟨rfl, hb⟩; have HB3 := hid_o (HB2.out.trans ((below_drewN (Below.refl _ _) m).trans (hb.mono HB2.out.size))); clear hb)
        refine bodyPost_ret (by simp [results, Try.results54, go_sem]; try rfl) rfl ?_
        refine ⟨?_, HB3.out⟩
        rw [HR.out]
end det

end Go.Proofs.Ytklbgibhbnijaaa
