/-
  What the document's Identity and Mul hand back.
-/
import Derived.Test.YtomllbpkjhoepaaMj
import Derived.Test.YtomllbpkjhoepaaIvf
import Derived.Deep.RegionHeldLaw
namespace Go.Proofs.Ytomllbpkjhoepaa
open Fl RowKit

theorem rmul_zz {W : World} {x y : Cw} {X Y : Cn} (hx : repz X x) (hy : repz Y y) : Calls Try.prog 67 #[.complex .f64 x.1 x.2, .complex .f64 y.1 y.2] W fun e w' => ∃ r : Cw, e = .returned (.complex .f64 r.1 r.2) ∧ repz (mulZ X Y) r ∧ Below W.heap.size W w' :=
  (rmul_any W hx.1 hx.2 hy.1 hy.2).mono (by rintro e w' ⟨re, im, n, rfl, h1, h2, rfl⟩; exact ⟨(re, im), rfl, ⟨h1, h2⟩, below_drewN (Below.refl _ _) n⟩)
theorem radd_zz {W : World} {x y : Cw} {X Y : Cn} (hx : repz X x) (hy : repz Y y) : Calls Try.prog 66 #[.complex .f64 x.1 x.2, .complex .f64 y.1 y.2] W fun e w' => ∃ r : Cw, e = .returned (.complex .f64 r.1 r.2) ∧ repz (addZ X Y) r ∧ Below W.heap.size W w' :=
  (radd_any W hx.1 hx.2 hy.1 hy.2).mono (by rintro e w' ⟨re, im, n, rfl, h1, h2, rfl⟩; exact ⟨(re, im), rfl, ⟨h1, h2⟩, below_drewN (Below.refl _ _) n⟩)
theorem mx_new {base N g : Nat} {X : Nat → Nat → Cn} {y : Nat → Cw} {w : World} (hN : N ≤ 64) (h : ∀ r c, r < N → c < N → repz (X r c) (y (r * N + c))) (hr : Rw w base (.slice (some ⟨g, 0, none⟩) (N * N) (N * N)) (N * N) (ro (N * N) y)) : Mx w N N (some ⟨g, 0, none⟩) (N * N) (flat N X) (ro (N * N) y) :=
  ⟨ro_len _ _, hN, hN, fun k hk => by
    rw [ro_at _ hk]
    have := h (k / N) (k % N) (div_lt' hk).1 (div_lt' hk).2
    rw [Nat.div_add_mod' k N] at this
    exact this, rw_sl hr⟩
set_option maxHeartbeats 4000000 in
theorem rident {N : Nat} (w : World) (hN : N ≤ 64) : Calls Try.prog 33 #[.int .i64 N] w fun e w' => ∃ g zs, e = .returned (.tuple #[.agg #[.int .i64 N, .int .i64 N, .slice (some ⟨g, 0, none⟩) (N * N) (N * N)], .int .i64 0]) ∧ Mx w' N N (some ⟨g, 0, none⟩) (N * N) (flat N idE) zs ∧ Below w.heap.size w w' := by
  have h4 := le_4096 hN hN
  obtain ⟨T, hT⟩ : ∃ T, T = N * N := ⟨_, rfl⟩
  have HBL := hid_o (fun (W : World) => rblankN N N T W hT hN hN)
  have HP : Hid (∀ (g : Nat) (y : Nat → Cw) (W : World), (∀ r c, r < N → c < N → repz (idE r c) (y (r * N + c))) → Rw W w.heap.size (.slice (some ⟨g, 0, none⟩) T T) T (ro T y) → Mx W N N (some ⟨g, 0, none⟩) T (flat N idE) (ro T y)) := fun g y W h1 h2 => by
    subst hT
    exact mx_new hN h1 h2
  rw [← hT]
  rw [← hT] at h4
  have HT := hid_o hT
  have H4 := hid_o h4
  have VR := hid_o (v3_new w (.int .i64 0) (.int .i64 0) (.slice none 0 0) 28)
  have B0 := hid_o (bal w (.cells #[.int .i64 0, .int .i64 0, .slice none 0 0] 28))
  clear hT h4
  have d1 : decide ((N : Int) < 0) = false := decide_eq_false (by omega)
  have d2 : decide ((64 : Int) < (N : Int)) = false := decide_eq_false (by omega)
  go_enter Try.func33, Try.ntmps33
  go_wp2_with (first
    | (go_at_call 65; (with_reducible refine (HBL.out _).mono ?_); rintro e w1 ⟨g, rfl, ho, hb⟩; (have HO := hid_o ho); (have HB1 := hid_o hb); clear ho hb))
  obtain ⟨wb, hwb⟩ : ∃ wb, wb = w1.alloc (.cells #[.int .i64 N, .int .i64 N, .slice (some ⟨g, 0, none⟩) T T] 28) := ⟨_, rfl⟩
  have Bb : Below w1.heap.size w1 wb := by rw [hwb]; exact bal _ _
  have VM : Hid (V3 w1.heap.size (.int .i64 N) (.int .i64 N) (.slice (some ⟨g, 0, none⟩) T T) wb) := by rw [hwb]; exact v3_new _ _ _ _ _
  have VRb := hid_o ((VR.out.below HB1.out).below Bb)
  have BW := hid_o (bt (bt B0.out HB1.out) Bb)
  have hgl := (HO.out.lt g rfl)
  have hgs : w.heap.size < g ∧ g < w1.heap.size := ⟨by have := hgl.1; simp only [size_al] at this; omega, hgl.2⟩
  have RB : Hid (Rw wb w.heap.size (.slice (some ⟨g, 0, none⟩) T T) T (ro T (fun _ => (0, 0)))) := by
    have h1 := own_base (own_below HO.out Bb) (show w.heap.size ≤ (w.alloc (Obj.cells #[.int .i64 0, .int .i64 0, .slice none 0 0] 28)).heap.size by simp)
    rw [ro_zero] at h1
    exact ⟨ro_len _ _, h1⟩
  obtain ⟨pm, hpm⟩ : ∃ pm, pm = w1.heap.size := ⟨_, rfl⟩
  have HG : Hid (w.heap.size < g ∧ g < pm) := by rw [hpm]; exact hgs
  rw [← hwb]
  rw [← hpm] at VM ⊢
  clear hwb Bb hgl hgs hpm HO HB1 VR B0 HBL
  go_loopw [5] (fun iv wr => ∃ (i : Nat) (y : Nat → Cw), i ≤ N ∧ iv = .int .i64 i ∧ (∀ r c, r < N → c < N → y (r * N + c) = if r = c ∧ r < i then (4607182418800017408, 0) else (0, 0)) ∧ Rw wr w.heap.size (.slice (some ⟨g, 0, none⟩) T T) T (ro T y) ∧ V3 pm (.int .i64 N) (.int .i64 N) (.slice (some ⟨g, 0, none⟩) T T) wr ∧ V3 w.heap.size (.int .i64 0) (.int .i64 0) (.slice none 0 0) wr ∧ Below w.heap.size w wr) (fun iv _ => N - (intOf iv).toNat)
  case atStart => exact ⟨0, _, Nat.zero_le _, rfl, fun r c _ _ => by rw [if_neg (by omega)], RB.out, VM.out, VRb.out, BW.out⟩
  case round =>
    clear RB VM VRb BW
    obtain ⟨i, y, hiN, rfl, hy, hR, hVM, hVR, hbel⟩ := hrel
    have HY := hid_o hy
    have HR := hid_o hR
    have HVM := hid_o hVM
    have HVR := hid_o hVR
    have HBE := hid_o hbel
    by_cases hlt : i < N
    · have hp := place_lt hlt hlt
      rw [← HT.out] at hp
      have d3 := rw_cell hR hp
      have fz := hR.own.frozenAt (i * N + i)
      have gl := hid_o hR.lt.2
      have v2 := hVM.c2
      have vl := hid_o hVM.lt
      obtain ⟨k1, hke⟩ : ∃ k1, k1 = i * N := ⟨_, rfl⟩
      have HKE := hid_o hke
      have hmm := wrap_mul (i := i) (C := N) (by omega) (by omega)
      have hT4 := H4.out
      rw [← hke] at hp d3 fz hmm
      unfold cx at d3
      clear hke hy hR hVM hVR hbel
      go_wp2
      go_roundw
      case measure => first | (simp [intOf]; done) | (simp [intOf]; omega)
      case rel =>
        refine ⟨i + 1, upz y (k1 + i) (4607182418800017408, 0), by omega, by go_num, fun r c hr hc => ?_, rw_set HR.out (k1 + i) (4607182418800017408, 0), HVM.out.other (q := ⟨g, k1 + i, none⟩) (by have := HG.out; show g ≠ pm; omega) _, HVR.out.other (q := ⟨g, k1 + i, none⟩) (by have := HG.out; show g ≠ w.heap.size; omega) _, HBE.out.setCell (p := ⟨g, k1 + i, none⟩) (by have := HG.out; show w.heap.size ≤ g; omega) _⟩
        rw [HKE.out]
        by_cases e : r * N + c = i * N + i
        · obtain ⟨rfl, rfl⟩ := pl_inj hc hlt e
          rw [upz_self, if_pos ⟨rfl, by omega⟩]
        · rw [upz_ne _ _ e, HY.out r c hr hc]
          by_cases e1 : r = c ∧ r < i
          · rw [if_pos e1, if_pos ⟨e1.1, by omega⟩]
          · rw [if_neg e1, if_neg (fun h => ?_)]
            by_cases e2 : r = i
            · exact e (by rw [← h.1, e2])
            · exact e1 ⟨h.1, by omega⟩
    · have e : i = N := by omega
      subst e
      obtain ⟨ml, m0, m1, m2, m3, m4, m5⟩ := hVM
      obtain ⟨r0, r1, r2⟩ := hVR.reads
      obtain ⟨vl, q0, q1, q2, q3, q4, q5⟩ := hVR
      clear hy hR hbel
      go_wp2
      refine bodyPost_ret (by simp [results, Try.results33, go_sem, r0, r1, r2]; try rfl) rfl ?_
      have hX := HP.out g y _ (fun r c hr hc => by
        rw [HY.out r c hr hc]
        unfold idE
        by_cases e : r = c
        · rw [if_pos (show r = c ∧ r < i from ⟨e, hr⟩), if_pos e]; exact ⟨⟨by decide, rfl⟩, ⟨by decide, rfl⟩⟩
        · rw [if_neg (show ¬ (r = c ∧ r < i) from fun h => e h.1), if_neg e]; exact ⟨⟨by decide, rfl⟩, ⟨by decide, rfl⟩⟩) (⟨HR.out.len, own_at HR.out.own (fun q hq => by cases hq; exact set3_block (p := w.heap.size) (a := .int .i64 i) (b := .int .i64 i) (c := .slice (some ⟨g, 0, none⟩) T T) (by have := HG.out; show w.heap.size ≠ g; omega))⟩ : Rw (set3 wr w.heap.size (.int .i64 i) (.int .i64 i) (.slice (some ⟨g, 0, none⟩) T T)) w.heap.size (.slice (some ⟨g, 0, none⟩) T T) T (ro T y))
      have hY := below_set3 (p := w.heap.size) HBE.out (Nat.le_refl _) (.int .i64 i) (.int .i64 i) (.slice (some ⟨g, 0, none⟩) T T)
      exact ⟨g, _, rfl, hX, hY⟩
set_option maxRecDepth 20000 in
set_option maxHeartbeats 8000000 in
theorem rmulM {w : World} {N c c' : Nat} {A A' : Option Addr} {F G : Nat → Cn} {xs ys : List Cw} (h : Mx w N N A c F xs) (h' : Mx w N N A' c' G ys) :
    Calls Try.prog 32 #[.agg #[.int .i64 N, .int .i64 N, .slice A (N * N) c], .agg #[.int .i64 N, .int .i64 N, .slice A' (N * N) c']] w fun e w' => ∃ g zs, e = .returned (.tuple #[.agg #[.int .i64 N, .int .i64 N, .slice (some ⟨g, 0, none⟩) (N * N) (N * N)], .int .i64 0]) ∧ Mx w' N N (some ⟨g, 0, none⟩) (N * N) (prF N F G) zs ∧ Below w.heap.size w w' := by
  have hN := h.hR
  have h4 := le_4096 hN hN
  have hmb := h.mb
  have hn := small h4
  obtain ⟨T, hT⟩ : ∃ T, T = N * N := ⟨_, rfl⟩
  have HBL := hid_o (fun (W : World) => rblankN N N T W hT hN hN)
  have HP : Hid (∀ (g : Nat) (y : Nat → Cw) (W : World), (∀ r c, r < N → c < N → repz (sumZ (fun k => mulZ (F (r * N + k)) (G (k * N + c))) N) (y (r * N + c))) → Rw W w.heap.size (.slice (some ⟨g, 0, none⟩) T T) T (ro T y) → Mx W N N (some ⟨g, 0, none⟩) T (prF N F G) (ro T y)) := fun g y W h1 h2 => by
    subst hT
    exact mx_new hN h1 h2
  have HEa : Hid (∀ (i k : Nat), i < N → k < N → ∃ x : Cw, repz (F (i * N + k)) x ∧ ∀ (W : World), Below w.heap.size w W → Calls Try.prog 68 #[.agg #[.int .i64 N, .int .i64 N, .slice A T c], .int .i64 i, .int .i64 k] W fun e w' => e = .returned (.complex .f64 x.1 x.2) ∧ Below W.heap.size W w') := fun i k hi hk => by
    rw [hT]
    exact ⟨_, h.at hi hk, fun W hb => rent (h.below hb) hi hk⟩
  have HEb : Hid (∀ (i k : Nat), i < N → k < N → ∃ x : Cw, repz (G (i * N + k)) x ∧ ∀ (W : World), Below w.heap.size w W → Calls Try.prog 68 #[.agg #[.int .i64 N, .int .i64 N, .slice A' T c'], .int .i64 i, .int .i64 k] W fun e w' => e = .returned (.complex .f64 x.1 x.2) ∧ Below W.heap.size W w') := fun i k hi hk => by
    rw [hT]
    exact ⟨_, h'.at hi hk, fun W hb => rent (h'.below hb) hi hk⟩
  have HIS : Hid (∀ (W : World) (A : Option Addr) (c : Nat), Calls Try.prog 64 #[.agg #[.int .i64 N, .int .i64 N, .slice A T c]] W fun e w' => e = .returned (.bool true) ∧ Below W.heap.size W w') := fun W A c => by
    rw [hT]
    refine (ris_any N N A (N * N) c W hn).mono ?_
    rintro e w' ⟨rfl, rfl⟩
    exact ⟨by rw [hmb], ba (bal _ _) _⟩
  rw [← hT]
  rw [← hT] at h4
  have HT := hid_o hT
  have H4 := hid_o h4
  obtain ⟨wb, hwb⟩ : ∃ wb, wb = ((w.alloc (.cells #[.int .i64 N, .int .i64 N, .slice A T c] 28)).alloc (.cells #[.int .i64 N, .int .i64 N, .slice A' T c'] 28)).alloc (.cells #[.int .i64 0, .int .i64 0, .slice none 0 0] 28) := ⟨_, rfl⟩
  have VA : Hid (V3 w.heap.size (.int .i64 N) (.int .i64 N) (.slice A T c) wb) := by rw [hwb]; exact ((v3_new _ _ _ _ _).below (bal _ _)).below (bal _ _)
  have VB : Hid (V3 (w.heap.size + 1) (.int .i64 N) (.int .i64 N) (.slice A' T c') wb) := by rw [hwb]; exact (v3_at _ _ _ _ _ (by simp)).below (bal _ _)
  have VR : Hid (V3 (w.heap.size + 1 + 1) (.int .i64 0) (.int .i64 0) (.slice none 0 0) wb) := by rw [hwb]; exact v3_at _ _ _ _ _ (by simp)
  have Bb : Hid (Below w.heap.size w wb) := by rw [hwb]; exact ((bal _ _).alloc (by simp) _).alloc (by simp; omega) _
  clear hT h4 h h' hmb hn
  have st : Stg 0 := ⟨trivial⟩
  go_enter Try.func32, Try.ntmps32
  go_wp2_with (first
    | ((have _ := (st : Stg 0)); go_at_call 64; (rw [← hwb]); (with_reducible refine (HIS.out _ _ _).mono ?_); rintro e w1 ⟨rfl, hb⟩; (have B1 := hid_o hb); (obtain ⟨al, a0, a1, a2, _, _, _⟩ := VA.out.below hb); (obtain ⟨bl, b0, b1, b2, _, _, _⟩ := VB.out.below hb); clear hb st; (have st : Stg 1 := ⟨trivial⟩))
    | ((have _ := (st : Stg 1)); go_at_call 64; (with_reducible refine (HIS.out _ _ _).mono ?_); rintro e w2 ⟨rfl, hb⟩; (have B2 := hid_o (bt B1.out hb)); (clear al a0 a1 a2 bl b0 b1 b2); (obtain ⟨al, a0, a1, a2, _, _, _⟩ := VA.out.below B2.out); (obtain ⟨bl, b0, b1, b2, _, _, _⟩ := VB.out.below B2.out); clear hb st)
    | (go_at_call 65; (with_reducible refine (HBL.out _).mono ?_); rintro e w3 ⟨g, rfl, ho, hb⟩; (have HO := hid_o ho); (have B3 := hid_o (bt B2.out hb)); (have BX := bt B3.out (bal _ (.cells #[.int .i64 N, .int .i64 N, .slice (some ⟨g, 0, none⟩) T T] 28))); (clear al a0 a1 a2 bl b0 b1 b2); (obtain ⟨al, a0, a1, a2, _, _, _⟩ := VA.out.below BX); (obtain ⟨bl, b0, b1, b2, _, _, _⟩ := VB.out.below BX); clear ho hb BX))
  obtain ⟨wq, hwq⟩ : ∃ wq, wq = w3.alloc (.cells #[.int .i64 N, .int .i64 N, .slice (some ⟨g, 0, none⟩) T T] 28) := ⟨_, rfl⟩
  have Bq : Below w3.heap.size w3 wq := by rw [hwq]; exact bal _ _
  have VM : Hid (V3 w3.heap.size (.int .i64 N) (.int .i64 N) (.slice (some ⟨g, 0, none⟩) T T) wq) := by rw [hwq]; exact v3_new _ _ _ _ _
  have BQ := hid_o (bt B3.out Bq)
  have VAq := hid_o (VA.out.below BQ.out)
  have VBq := hid_o (VB.out.below BQ.out)
  have VRq := hid_o (VR.out.below BQ.out)
  have BW := hid_o (bt Bb.out BQ.out)
  have hgl := HO.out.lt g rfl
  have hw2 := B2.out.size
  have hvr := VR.out.lt
  have hgs : w.heap.size + 1 + 1 < g ∧ g < w3.heap.size := ⟨by have := hgl.1; omega, hgl.2⟩
  have RB : Hid (Rw wq w.heap.size (.slice (some ⟨g, 0, none⟩) T T) T (ro T (fun _ => (0, 0)))) := by
    have h1 := own_base (own_below HO.out Bq) (show w.heap.size ≤ w2.heap.size by omega)
    rw [ro_zero] at h1
    exact ⟨ro_len _ _, h1⟩
  obtain ⟨pm, hpm⟩ : ∃ pm, pm = w3.heap.size := ⟨_, rfl⟩
  have HG : Hid (w.heap.size + 1 + 1 < g ∧ g < pm) := by rw [hpm]; exact hgs
  rw [← hwq]
  rw [← hpm] at VM ⊢
  clear hwq Bq hgl hgs hpm HO hw2 hvr B1 B2 B3 VA VB VR Bb BQ HBL HIS hwb
  clear al a0 a1 a2 bl b0 b1 b2
  go_loopw [7] (fun iv wr => ∃ (i : Nat) (y : Nat → Cw), i ≤ N ∧ iv = .int .i64 i ∧ (∀ r d, r < i → d < N → repz (sumZ (fun k => mulZ (F (r * N + k)) (G (k * N + d))) N) (y (r * N + d))) ∧ Rw wr w.heap.size (.slice (some ⟨g, 0, none⟩) T T) T (ro T y) ∧ V3 pm (.int .i64 N) (.int .i64 N) (.slice (some ⟨g, 0, none⟩) T T) wr ∧ V3 w.heap.size (.int .i64 N) (.int .i64 N) (.slice A T c) wr ∧ V3 (w.heap.size + 1) (.int .i64 N) (.int .i64 N) (.slice A' T c') wr ∧ V3 (w.heap.size + 1 + 1) (.int .i64 0) (.int .i64 0) (.slice none 0 0) wr ∧ Below w.heap.size w wr) (fun iv _ => N - (intOf iv).toNat)
  case atStart => exact ⟨0, _, Nat.zero_le _, rfl, fun r d hr _ => absurd hr (by omega), RB.out, VM.out, VAq.out, VBq.out, VRq.out, BW.out⟩
  case round =>
    clear RB VM VAq VBq VRq BW
    obtain ⟨i, y, hiN, rfl, hy, hR, hVM, hVA, hVB, hVR, hbel⟩ := hrel
    have HY := hid_o hy
    have HR := hid_o hR
    have HVM := hid_o hVM
    have HVA := hid_o hVA
    have HVB := hid_o hVB
    have HVR := hid_o hVR
    have HBE := hid_o hbel
    obtain ⟨al, a0, a1, a2, _, _, _⟩ := hVA
    obtain ⟨bl, b0, b1, b2, _, _, _⟩ := hVB
    by_cases hlt : i < N
    · clear hy hR hVM hVR hbel
      go_wp2
      go_loopw [8] (fun jv wr => ∃ (j : Nat) (y : Nat → Cw), j ≤ N ∧ jv = .int .i64 j ∧ (∀ r d, r < i → d < N → repz (sumZ (fun k => mulZ (F (r * N + k)) (G (k * N + d))) N) (y (r * N + d))) ∧ (∀ d, d < j → repz (sumZ (fun k => mulZ (F (i * N + k)) (G (k * N + d))) N) (y (i * N + d))) ∧ Rw wr w.heap.size (.slice (some ⟨g, 0, none⟩) T T) T (ro T y) ∧ V3 pm (.int .i64 N) (.int .i64 N) (.slice (some ⟨g, 0, none⟩) T T) wr ∧ V3 w.heap.size (.int .i64 N) (.int .i64 N) (.slice A T c) wr ∧ V3 (w.heap.size + 1) (.int .i64 N) (.int .i64 N) (.slice A' T c') wr ∧ V3 (w.heap.size + 1 + 1) (.int .i64 0) (.int .i64 0) (.slice none 0 0) wr ∧ Below w.heap.size w wr) (fun jv _ => N - (intOf jv).toNat)
      case atStart => exact ⟨0, y, Nat.zero_le _, rfl, HY.out, fun d hd => absurd hd (by omega), HR.out, HVM.out, HVA.out, HVB.out, HVR.out, HBE.out⟩
      case round =>
        clear HY HR HVM HVA HVB HVR HBE al a0 a1 a2 bl b0 b1 b2
        obtain ⟨j, y, hjN, rfl, hy, hyi, hR, hVM, hVA, hVB, hVR, hbel⟩ := hrel
        have HY := hid_o hy
        have HYI := hid_o hyi
        have HR := hid_o hR
        have HVM := hid_o hVM
        have HVA := hid_o hVA
        have HVB := hid_o hVB
        have HVR := hid_o hVR
        have HBE := hid_o hbel
        obtain ⟨al, a0, a1, a2, _, _, _⟩ := hVA
        obtain ⟨bl, b0, b1, b2, _, _, _⟩ := hVB
        by_cases hjl : j < N
        · clear hy hyi hR hVM hVR hbel
          go_wp2
          go_loopw [9, 10] (fun sv kv wr => ∃ (k : Nat) (s : Cw), k ≤ N ∧ kv = .int .i64 k ∧ sv = .complex .f64 s.1 s.2 ∧ repz (sumZ (fun k => mulZ (F (i * N + k)) (G (k * N + j))) k) s ∧ Rw wr w.heap.size (.slice (some ⟨g, 0, none⟩) T T) T (ro T y) ∧ V3 pm (.int .i64 N) (.int .i64 N) (.slice (some ⟨g, 0, none⟩) T T) wr ∧ V3 w.heap.size (.int .i64 N) (.int .i64 N) (.slice A T c) wr ∧ V3 (w.heap.size + 1) (.int .i64 N) (.int .i64 N) (.slice A' T c') wr ∧ V3 (w.heap.size + 1 + 1) (.int .i64 0) (.int .i64 0) (.slice none 0 0) wr ∧ Below w.heap.size w wr) (fun _ kv _ => N - (intOf kv).toNat)
          case atStart => exact ⟨0, (0, 0), Nat.zero_le _, rfl, rfl, ⟨⟨by decide, rfl⟩, ⟨by decide, rfl⟩⟩, HR.out, HVM.out, HVA.out, HVB.out, HVR.out, HBE.out⟩
          case round =>
            clear HR HVM HVA HVB HVR HBE al a0 a1 a2 bl b0 b1 b2
            obtain ⟨k, s, hkN, rfl, rfl, hs, hR, hVM, hVA, hVB, hVR, hbel⟩ := hrel
            have HS := hid_o hs
            have HR := hid_o hR
            have HVM := hid_o hVM
            have HVA := hid_o hVA
            have HVB := hid_o hVB
            have HVR := hid_o hVR
            have HBE := hid_o hbel
            obtain ⟨al, a0, a1, a2, _, _, _⟩ := hVA
            obtain ⟨bl, b0, b1, b2, _, _, _⟩ := hVB
            by_cases hkl : k < N
            · obtain ⟨x, hx, Ex⟩ := HEa.out i k hlt hkl
              obtain ⟨z, hz, Ez⟩ := HEb.out k j hkl hjl
              have HX := hid_o hx
              have HZ := hid_o hz
              have HEX := hid_o Ex
              have HEZ := hid_o Ez
              have SA : Hid (∀ W : World, Below wr.heap.size wr W → W.cell? ⟨w.heap.size, 0, none⟩ = some (.int .i64 N) ∧ W.cell? ⟨w.heap.size, 1, none⟩ = some (.int .i64 N) ∧ W.cell? ⟨w.heap.size, 2, none⟩ = some (.slice A T c) ∧ W.cell? ⟨w.heap.size + 1, 0, none⟩ = some (.int .i64 N) ∧ W.cell? ⟨w.heap.size + 1, 1, none⟩ = some (.int .i64 N) ∧ W.cell? ⟨w.heap.size + 1, 2, none⟩ = some (.slice A' T c')) := fun W hW => ⟨(HVA.out.below hW).c0, (HVA.out.below hW).c1, (HVA.out.below hW).c2, (HVB.out.below hW).c0, (HVB.out.below hW).c1, (HVB.out.below hW).c2⟩
              have D0 : Hid (Below wr.heap.size wr wr.drew) := (Below.refl _ _).drew
              clear hs hR hVM hVR hbel hx hz Ex Ez
              go_wp2
              go_region_held_law (fun W => W.cell? ⟨w.heap.size, 0, none⟩ = some (.int .i64 N) ∧ W.cell? ⟨w.heap.size, 1, none⟩ = some (.int .i64 N) ∧ W.cell? ⟨w.heap.size, 2, none⟩ = some (.slice A T c) ∧ W.cell? ⟨w.heap.size + 1, 0, none⟩ = some (.int .i64 N) ∧ W.cell? ⟨w.heap.size + 1, 1, none⟩ = some (.int .i64 N) ∧ W.cell? ⟨w.heap.size + 1, 2, none⟩ = some (.slice A' T c'))
                (first | with_reducible exact SA.out _ HB8.out | with_reducible exact SA.out _ HB7.out | with_reducible exact SA.out _ HB6.out | with_reducible exact SA.out _ HB5.out | with_reducible exact SA.out _ D0.out)
                (first
                | (go_at_call 68; (with_reducible refine (HEX.out _ (bt HBE.out D0.out)).mono ?_); rintro e w5 ⟨rfl, hb⟩; (have HB5 := hid_o (bt D0.out hb)); clear hb)
                | (go_at_call 68; (with_reducible refine (HEZ.out _ (bt HBE.out D0.out)).mono ?_); rintro e w5 ⟨rfl, hb⟩; (have HB5 := hid_o (bt D0.out hb)); clear hb)
                | (go_at_call 68; (with_reducible refine (HEX.out _ (bt HBE.out HB5.out)).mono ?_); rintro e w6 ⟨rfl, hb⟩; (have HB6 := hid_o (bt HB5.out hb)); clear hb)
                | (go_at_call 68; (with_reducible refine (HEZ.out _ (bt HBE.out HB5.out)).mono ?_); rintro e w6 ⟨rfl, hb⟩; (have HB6 := hid_o (bt HB5.out hb)); clear hb)
                | (go_at_call 67; (with_reducible refine (rmul_zz HX.out HZ.out).mono ?_); rintro e w7 ⟨mr, rfl, hm, hb⟩; (have HMR := hid_o hm); (have HB7 := hid_o (bt HB6.out hb)); clear hm hb)
                | (go_at_call 66; (with_reducible refine (radd_zz HS.out HMR.out).mono ?_); rintro e w8 ⟨ar, rfl, hm, hb⟩; (have HAR := hid_o hm); (have HB8 := hid_o (bt HB7.out hb)); clear hm hb))
              all_goals
                clear al a0 a1 a2 bl b0 b1 b2
                go_wp2
                go_roundw
                case measure => first | (simp [intOf]; done) | (simp [intOf]; omega)
                case rel => exact ⟨k + 1, ar, by omega, by go_num, rfl, HAR.out, HR.out.below HB8.out, HVM.out.below HB8.out, HVA.out.below HB8.out, HVB.out.below HB8.out, HVR.out.below HB8.out, bt HBE.out HB8.out⟩
            · have e : k = N := by omega
              subst e
              have hp := place_lt hlt hjl
              rw [← HT.out] at hp
              have d3 := rw_cell hR hp
              have fz := hR.own.frozenAt (i * k + j)
              have gl := hid_o hR.lt.2
              obtain ⟨vl, v0, v1, v2, _, _, _⟩ := hVM
              obtain ⟨k1, hke⟩ : ∃ k1, k1 = i * k := ⟨_, rfl⟩
              have HKE := hid_o hke
              have hmm := wrap_mul (i := i) (C := k) (by omega) (by omega)
              have hT4 := H4.out
              rw [← hke] at hp d3 fz hmm
              unfold cx at d3
              clear hke hs hR hVR hbel
              go_wp2
              go_roundw
              case measure => first | (simp [intOf]; done) | (simp [intOf]; omega)
              case rel =>
                refine ⟨j + 1, upz y (k1 + j) s, by omega, by go_num, fun r d hr hd => ?_, fun d hd => ?_, rw_set HR.out (k1 + j) s, HVM.out.other (q := ⟨g, k1 + j, none⟩) (by have := HG.out; show g ≠ pm; omega) _, HVA.out.other (q := ⟨g, k1 + j, none⟩) (by have := HG.out; show g ≠ w.heap.size; omega) _, HVB.out.other (q := ⟨g, k1 + j, none⟩) (by have := HG.out; show g ≠ w.heap.size + 1; omega) _, HVR.out.other (q := ⟨g, k1 + j, none⟩) (by have := HG.out; show g ≠ w.heap.size + 1 + 1; omega) _, HBE.out.setCell (p := ⟨g, k1 + j, none⟩) (by have := HG.out; show w.heap.size ≤ g; omega) _⟩
                · rw [upz_ne _ _ (fun e => by have := (pl_inj (C := k) hd hjl (e.trans (by rw [HKE.out]))).1; omega)]
                  exact HY.out r d hr hd
                · by_cases e : d = j
                  · rw [e, HKE.out, upz_self]; exact HS.out
                  · rw [upz_ne _ _ (fun e2 => e (pl_inj (C := k) (by omega) hjl (e2.trans (by rw [HKE.out]))).2)]
                    exact HYI.out d (by omega)
        · have e : j = N := by omega
          subst e
          clear hy hyi hR hVM hVR hbel
          go_wp2
          go_roundw
          case measure => first | (simp [intOf]; done) | (simp [intOf]; omega)
          case rel =>
            refine ⟨i + 1, y, by omega, by go_num, fun r d hr hd => ?_, HR.out, HVM.out, HVA.out, HVB.out, HVR.out, HBE.out⟩
            by_cases e : r = i
            · rw [e]; exact HYI.out d hd
            · exact HY.out r d (by omega) hd
    · have e : i = N := by omega
      subst e
      obtain ⟨ml, m0, m1, m2, m3, m4, m5⟩ := hVM
      obtain ⟨r0, r1, r2⟩ := hVR.reads
      obtain ⟨vl, q0, q1, q2, q3, q4, q5⟩ := hVR
      clear hy hR hbel
      go_wp2
      refine bodyPost_ret (by simp [results, Try.results32, go_sem, r0, r1, r2]; try rfl) rfl ?_
      have hX := HP.out g y _ (fun r d hr hd => HY.out r d hr hd) (⟨HR.out.len, own_at HR.out.own (fun q hq => by cases hq; exact set3_block (p := w.heap.size + 1 + 1) (a := .int .i64 i) (b := .int .i64 i) (c := .slice (some ⟨g, 0, none⟩) T T) (by have := HG.out; show w.heap.size + 1 + 1 ≠ g; omega))⟩ : Rw (set3 wr (w.heap.size + 1 + 1) (.int .i64 i) (.int .i64 i) (.slice (some ⟨g, 0, none⟩) T T)) w.heap.size (.slice (some ⟨g, 0, none⟩) T T) T (ro T y))
      have hY := below_set3 (p := w.heap.size + 1 + 1) HBE.out (by omega) (.int .i64 i) (.int .i64 i) (.slice (some ⟨g, 0, none⟩) T T)
      exact ⟨g, _, rfl, hX, hY⟩

end Go.Proofs.Ytomllbpkjhoepaa
