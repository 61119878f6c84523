/-
  What inverse's norm and Carried hand back.
-/
import Derived.Test.YtomllbpkjhoepaaIvb
namespace Go.Proofs.Ytomllbpkjhoepaa
open Fl RowKit

/-- the greatest sum of a column's sizes, as a word -/
def nW (n : Nat) (f : Nat → Cw) : Nat := mxF (colT (fun k => anz (f k)) n n) n
theorem nW_ok (n : Nat) (f : Nat → Cw) : nW n f < 18446744073709551616 ∧ nan (nW n f) = false := mxF_ok (fun _ => nrF_bd _ _) n
theorem mx_of {W : World} {A : Option Addr} {c N : Nat} {f : Nat → Cw} (hN : N ≤ 64) (hf : ∀ k, k < N * N → okz (f k)) (h : Sl W A c (ro (N * N) f)) : Mx W N N A c (fun k => anz (f k)) (ro (N * N) f) :=
  ⟨ro_len _ _, hN, hN, fun k hk => by rw [ro_at _ hk]; exact repz_anz (hf k hk), h⟩
theorem inorm_any {W : World} {A : Option Addr} {c N : Nat} {f : Nat → Cw} (hN : N ≤ 64) (hf : ∀ k, k < N * N → okz (f k)) (h : Sl W A c (ro (N * N) f)) :
    Calls Try.prog 30 #[.agg #[.int .i64 N, .int .i64 N, .slice A (N * N) c]] W fun e w' => e = .returned (.float .f64 (nW N f)) ∧ Below W.heap.size W w' := by
  have H : Hid (∀ w, Below W.heap.size W w → Calls Try.prog 63 #[.agg #[.int .i64 N, .int .i64 N, .slice A (N * N) c]] w fun e w' => e = .returned (.tuple #[.float .f64 (nW N f), .int .i64 0]) ∧ Below w.heap.size w w') := fun w hb => mnorm ((mx_of hN hf h).below hb)
  obtain ⟨x, hx⟩ : ∃ x, x = nW N f := ⟨_, rfl⟩
  obtain ⟨T, hT⟩ : ∃ T, T = N * N := ⟨_, rfl⟩
  rw [← hx, ← hT] at H ⊢
  clear hx hT hf h
  go_enter Try.func30, Try.ntmps30
  go_wp2_with (go_at_call 63; (with_reducible refine (H.out _ (bal _ _)).mono ?_); rintro e w1 ⟨rfl, hb⟩; (have HB := hid_o (bt (bal W (.cells #[.int .i64 N, .int .i64 N, .slice A T c] 28)) hb)); clear hb)
  go_ret
  exact ⟨rfl, HB.out⟩
theorem isnan_any (x : Nat) (w : World) : Calls Try.prog 44 #[.float .f64 x] w fun e w' => e = .returned (.bool (nan x)) ∧ w' = w := by
  cases h : nan x
  · have h1 := order_num h
    go_enter Try.func44, Try.ntmps44
    go_wp2
    go_ret
    exact ⟨rfl, rfl⟩
  · have h1 := order_nan h
    go_enter Try.func44, Try.ntmps44
    go_wp2
    go_ret
    exact ⟨rfl, rfl⟩
theorem rw_sl {w : World} {b n c : Nat} {A : Option Addr} {zs : List Cw} (h : Rw w b (.slice A n c) n zs) : Sl w A c zs := by
  have hl := h.len
  subst hl
  obtain ⟨ao, cap, e, hs⟩ := own_sl h.own
  injection e with e1 e2 e3
  subst e1
  subst e3
  exact hs
set_option maxHeartbeats 2000000 in
theorem car_fails {N : Nat} {f : Nat → Cw} {E a : Int} (hE : ¬ E = 0) (h : InvFails N f E a) (W : World) (A : Option Addr) (c : Nat) (hc : N * N ≤ c) (hr : Rc W A (ro (N * N) f)) :
    Calls Try.prog 15 #[.agg #[.int .i64 N, .int .i64 N, .slice A (N * N) c]] W fun e w' => e = .returned (.tuple #[.float .f64 0, .agg #[.int .i64 E, .int .i64 a]]) ∧ Below W.heap.size W w' := by
  have H := hid_o h
  unfold InvFails at H
  obtain ⟨T, hT⟩ : ∃ T, T = N * N := ⟨_, rfl⟩
  rw [← hT] at H hc hr ⊢
  have HR := hid_o hr
  clear h hr hT
  obtain ⟨wb, hwb⟩ : ∃ wb, wb = (W.alloc (.cells #[.int .i64 N, .int .i64 N, .slice A T c] 28)).alloc (.cells #[.int .i64 0, .int .i64 0] 39) := ⟨_, rfl⟩
  have VF : Hid (V2 (W.heap.size + 1) (.int .i64 0) (.int .i64 0) wb) := by rw [hwb]; exact v2_at _ _ _ _ (by simp)
  have Bb : Hid (Below W.heap.size W wb) := by rw [hwb]; exact (bal _ _).alloc (by simp) _
  have hsb : Hid (wb.heap.size = W.heap.size + 1 + 1) := by rw [hwb]; show _ = _; simp
  go_enter Try.func15, Try.ntmps15
  go_wp2_with (go_at_call 13; (rw [← hwb]); (with_reducible refine (H.out _ _ _ hc (HR.out.below Bb.out)).mono ?_); rintro e w2 ⟨rfl, hb⟩; (have B2 := hid_o hb); clear hb)
  obtain ⟨wd, hwd⟩ : ∃ wd, wd = (w2.alloc (.cells #[.int .i64 0, .int .i64 0, .slice none 0 0] 28)).alloc (.cells #[.int .i64 E, .int .i64 a] 39) := ⟨_, rfl⟩
  have Bd : Below w2.heap.size w2 wd := by rw [hwd]; exact (bal _ _).alloc (by simp) _
  have VE : V2 (w2.heap.size + 1) (.int .i64 E) (.int .i64 a) wd := by rw [hwd]; exact v2_at _ _ _ _ (by simp)
  have B3 := hid_o (bt B2.out Bd)
  have VF3 := hid_o (VF.out.below B3.out)
  rw [← hwd]
  obtain ⟨sl, s0, s1, s3, s4⟩ := VF3.out
  obtain ⟨tl, t0, t1, t3, t4⟩ := VE
  clear hwd Bd
  go_region
  go_wp2
  obtain ⟨m3, m4⟩ := VF3.out.reads
  have m3' := other_cell (w := wd.setCell ⟨W.heap.size + 1, 0, none⟩ (.int .i64 E)) (a := ⟨W.heap.size + 1, 1, none⟩) (b := ⟨W.heap.size + 1, 0, none⟩) (.int .i64 a) (by simp)
  have B5 := (below_set2 (p := W.heap.size + 1) (bt Bb.out B3.out) (by omega) (.int .i64 E) (.int .i64 a)).drew
  refine bodyPost_ret (by simp [results, Try.results15, go_sem, m3, m4, m3']; try rfl) rfl ?_
  exact ⟨rfl, B5⟩
/-- a product of two norms: is it finite, and which word? -/
def crK (a b : Nat) : Bool := finO (mulO a b)
def crX (a b : Nat) : Nat := if crK a b = true then (mulO a b).getD 0 else 0
def crE (a b : Nat) : Int := if crK a b = true then 0 else 6
def crA (a b : Nat) : Int := if crK a b = true then 0 else -1
theorem mulV_K {a b : Nat} {w : World} : (infC (mulV w a b) || nan (mulV w a b)) = !crK a b := by
  have h := rep_mulV a b w
  have hf := fin_rep h
  unfold crK
  rw [← hf]
  unfold infC nan finB
  rw [Bool.eq_iff_iff]
  simp only [Bool.or_eq_true, beq_iff_eq, decide_eq_true_eq, Bool.not_eq_true', decide_eq_false_iff_not]
  omega
theorem mulV_X {a b : Nat} {w : World} (h : crK a b = true) : mulV w a b = crX a b := by
  unfold crX
  rw [if_pos h]
  have hr := rep_mulV a b w
  unfold crK at h
  cases e : mulO a b with
  | none => rw [e] at h; cases h
  | some r => exact (rep_is hr e)
set_option maxRecDepth 20000 in
set_option maxHeartbeats 4000000 in
theorem car_makes {N : Nat} {f g : Nat → Cw} (hN : N ≤ 64) (hf : ∀ k, k < N * N → okz (f k)) (hg : ∀ k, k < N * N → okz (g k)) (h : InvMakes N f g) (W : World) (A : Option Addr) (c : Nat) (hr : Sl W A c (ro (N * N) f)) :
    Calls Try.prog 15 #[.agg #[.int .i64 N, .int .i64 N, .slice A (N * N) c]] W fun e w' => e = .returned (.tuple #[.float .f64 (crX (nW N f) (nW N g)), .agg #[.int .i64 (crE (nW N f) (nW N g)), .int .i64 (crA (nW N f) (nW N g))]]) ∧ Below W.heap.size W w' := by
  have H := hid_o h
  unfold InvMakes at H
  have hc : N * N ≤ c := by have := hr.cap; rw [ro_len] at this; exact this
  have HM := hid_o (fun (w : World) (hb : Below W.heap.size W w) => inorm_any hN hf (hr.below hb))
  have HG := hid_o (fun (w : World) (b B : Nat) (hb : Rw w b (.slice (some ⟨B, 0, none⟩) (N * N) (N * N)) (N * N) (ro (N * N) g)) => inorm_any hN hg (rw_sl hb))
  obtain ⟨x, hx⟩ : ∃ x, x = nW N f := ⟨_, rfl⟩
  obtain ⟨y, hy⟩ : ∃ y, y = nW N g := ⟨_, rfl⟩
  obtain ⟨T, hT⟩ : ∃ T, T = N * N := ⟨_, rfl⟩
  rw [← hT] at H hc HM HG hr ⊢
  rw [← hx] at HM ⊢
  rw [← hy] at HG ⊢
  have HR := hid_o hr.rd
  clear h hr hT hx hy hf hg
  obtain ⟨wb, hwb⟩ : ∃ wb, wb = (W.alloc (.cells #[.int .i64 N, .int .i64 N, .slice A T c] 28)).alloc (.cells #[.int .i64 0, .int .i64 0] 39) := ⟨_, rfl⟩
  have VM : Hid (V3 W.heap.size (.int .i64 N) (.int .i64 N) (.slice A T c) wb) := by rw [hwb]; exact (v3_new _ _ _ _ _).below (bal _ _)
  have VF : Hid (V2 (W.heap.size + 1) (.int .i64 0) (.int .i64 0) wb) := by rw [hwb]; exact v2_at _ _ _ _ (by simp)
  have Bb : Hid (Below W.heap.size W wb) := by rw [hwb]; exact (bal _ _).alloc (by simp) _
  go_enter Try.func15, Try.ntmps15
  go_wp2_with (go_at_call 13; (rw [← hwb]); (with_reducible refine (H.out _ _ _ hc (HR.out.below Bb.out)).mono ?_); rintro e w2 ⟨B, rfl, hw, hb⟩; (have B2 := hid_o hb); (have RB := hid_o hw); clear hb hw)
  obtain ⟨wd, hwd⟩ : ∃ wd, wd = (w2.alloc (.cells #[.int .i64 N, .int .i64 N, .slice (some ⟨B, 0, none⟩) T T] 28)).alloc (.cells #[.int .i64 0, .int .i64 0] 39) := ⟨_, rfl⟩
  have Bd : Below w2.heap.size w2 wd := by rw [hwd]; exact (bal _ _).alloc (by simp) _
  have VW : Hid (V3 w2.heap.size (.int .i64 N) (.int .i64 N) (.slice (some ⟨B, 0, none⟩) T T) wd) := by rw [hwd]; exact (v3_new _ _ _ _ _).below (bal _ _)
  have RD := hid_o (RB.out.below Bd)
  have B3 := hid_o (bt B2.out Bd)
  have VM3 := hid_o (VM.out.below B3.out)
  have VF3 := hid_o (VF.out.below B3.out)
  rw [← hwd]
  obtain ⟨rl, r0, r1, r2, r3, r4, r5⟩ := VM3.out
  obtain ⟨tl, t0, t1, t2, t3, t4, t5⟩ := VW.out
  clear hwd Bd VM VF RB hwb
  go_cut [6] (fun v wc => (∃ W0, v = .float .f64 (mulV W0 x y)) ∧ Below wd.heap.size wd wc)
  case first =>
    go_region_with (first
      | (go_at_call 30; first
        | ((with_reducible refine (HM.out _ (bt (bt Bb.out B3.out) (Below.refl _ _).drew)).mono ?_); rintro e w5 ⟨rfl, hb⟩; (have B5 : Below wd.heap.size wd w5 := bt (Below.refl _ _).drew hb); (have HB5 := hid_o B5); (obtain ⟨tl', t0', t1', t2', t3', t4', t5'⟩ := VW.out.below B5); clear hb B5)
        | ((with_reducible refine (HG.out _ _ _ (RD.out.below (Below.refl _ _).drew)).mono ?_); rintro e w5 ⟨rfl, hb⟩; (have B5 : Below wd.heap.size wd w5 := bt (Below.refl _ _).drew hb); (have HB5 := hid_o B5); (obtain ⟨rl', r0', r1', r2', r3', r4', r5'⟩ := VM3.out.below B5); clear hb B5)
        | ((with_reducible refine (HM.out _ (bt (bt Bb.out B3.out) HB5.out)).mono ?_); rintro e w6 ⟨rfl, hb⟩; (have HB6 := hid_o (bt HB5.out hb)); clear hb)
        | ((with_reducible refine (HG.out _ _ _ (RD.out.below HB5.out)).mono ?_); rintro e w6 ⟨rfl, hb⟩; (have HB6 := hid_o (bt HB5.out hb)); clear hb)))
    all_goals
      go_wp2_with fail
      go_meet
      case rel => exact ⟨⟨_, rfl⟩, below_drewN HB6.out _⟩
  case rest =>
    obtain ⟨⟨W0, rfl⟩, hb⟩ := hcut
    have HBC := hid_o hb
    have VFc := hid_o (VF3.out.below hb)
    have hP := (rep_mulV x y W0).1
    have hK := mulV_K (a := x) (b := y) (w := W0)
    have HX := hid_o (mulV_X (a := x) (b := y) (w := W0))
    obtain ⟨P, hPe⟩ : ∃ P, P = mulV W0 x y := ⟨_, rfl⟩
    rw [← hPe] at hP hK HX ⊢
    obtain ⟨sl, s0, s1, s3, s4⟩ := VFc.out
    clear hb hPe rl r0 r1 r2 r3 r4 r5 tl t0 t1 t2 t3 t4 t5
    obtain ⟨m3, m4⟩ := VFc.out.reads
    cases hk : crK x y
    · rw [hk] at hK
      have e1 : crX x y = 0 := by unfold crX; rw [hk]; rfl
      have e2 : crE x y = 6 := by unfold crE; rw [hk]; rfl
      have e3 : crA x y = -1 := by unfold crA; rw [hk]; rfl
      have E := hid_o (show crX x y = 0 ∧ crE x y = 6 ∧ crA x y = -1 from ⟨e1, e2, e3⟩)
      cases hi : infC P
      · rw [hi, Bool.false_or] at hK
        have hn : nan P = true := hK
        clear hK HX hk e1 e2 e3
        go_wp2_with (first
          | (go_at_call 43; (with_reducible refine (isInf_any P _ hP).mono ?_); rintro e w' ⟨rfl, rfl⟩; rw [hi])
          | (go_at_call 44; (with_reducible refine (isnan_any P _).mono ?_); rintro e w' ⟨rfl, rfl⟩; rw [hn]))
        have m3' := other_cell (w := w'.setCell ⟨W.heap.size + 1, 0, none⟩ (.int .i64 6)) (a := ⟨W.heap.size + 1, 1, none⟩) (b := ⟨W.heap.size + 1, 0, none⟩) (.int .i64 (-1)) (by simp)
        refine bodyPost_ret (by simp [results, Try.results15, go_sem, m3, m4, m3']; try rfl) rfl ?_
        exact ⟨by rw [E.out.1, E.out.2.1, E.out.2.2], below_set2 (p := W.heap.size + 1) (bt (bt Bb.out B3.out) HBC.out) (by omega) _ _⟩
      · clear hK HX hk e1 e2 e3
        go_wp2_with (first
          | (go_at_call 43; (with_reducible refine (isInf_any P _ hP).mono ?_); rintro e w' ⟨rfl, rfl⟩; rw [hi]))
        have m3' := other_cell (w := w'.setCell ⟨W.heap.size + 1, 0, none⟩ (.int .i64 6)) (a := ⟨W.heap.size + 1, 1, none⟩) (b := ⟨W.heap.size + 1, 0, none⟩) (.int .i64 (-1)) (by simp)
        refine bodyPost_ret (by simp [results, Try.results15, go_sem, m3, m4, m3']; try rfl) rfl ?_
        exact ⟨by rw [E.out.1, E.out.2.1, E.out.2.2], below_set2 (p := W.heap.size + 1) (bt (bt Bb.out B3.out) HBC.out) (by omega) _ _⟩
    · rw [hk] at hK
      have e1 := HX.out hk
      have e2 : crE x y = 0 := by unfold crE; rw [hk]; rfl
      have e3 : crA x y = 0 := by unfold crA; rw [hk]; rfl
      have E := hid_o (show crX x y = P ∧ crE x y = 0 ∧ crA x y = 0 from ⟨e1.symm, e2, e3⟩)
      have hi : infC P = false := by cases h : infC P; rfl; rw [h] at hK; cases hK
      have hn : nan P = false := by rw [hi] at hK; exact hK
      clear hK HX hk e1 e2 e3
      go_wp2_with (first
        | (go_at_call 43; (with_reducible refine (isInf_any P _ hP).mono ?_); rintro e w' ⟨rfl, rfl⟩; rw [hi])
        | (go_at_call 44; (with_reducible refine (isnan_any P _).mono ?_); rintro e w' ⟨rfl, rfl⟩; rw [hn]))
      have m3' := other_cell (w := w'.setCell ⟨W.heap.size + 1, 0, none⟩ (.int .i64 0)) (a := ⟨W.heap.size + 1, 1, none⟩) (b := ⟨W.heap.size + 1, 0, none⟩) (.int .i64 0) (by simp)
      refine bodyPost_ret (by simp [results, Try.results15, go_sem, m3, m4, m3']; try rfl) rfl ?_
      exact ⟨by rw [E.out.1, E.out.2.1, E.out.2.2], below_set2 (p := W.heap.size + 1) (bt (bt Bb.out B3.out) HBC.out) (by omega) _ _⟩

end Go.Proofs.Ytomllbpkjhoepaa
