/-
  What the document's Norm1 hands back.
-/
import Derived.Test.YtomllbpkjhoepaaMnb
namespace Go.Proofs.Ytomllbpkjhoepaa
open Fl RowKit

theorem Try.infoF12 : (Try.prog.info? 31).map (fun i => (i.zero, i.size, i.bytes)) = some (some (.float .f64 0), 1, 8) := by kernel_rfl
theorem sizZ_le {X : Cn} (h : bdZ X) {s : Nat} (e : sizZ X = some s) : s ≤ 9218868437227405312 := by
  unfold sizZ addA at e
  cases h1 : sizA X.1 with
  | none => rw [h1] at e; cases e
  | some a =>
    cases h2 : sizA X.2 with
    | none => rw [h1, h2] at e; cases e
    | some b =>
      rw [h1, h2] at e
      exact (add_ge (siz_le h.1 h1) (siz_le h.2 h2) e).2.2
theorem nrF_le {f : Nat → Cn} {n : Nat} (hb : ∀ j, j < n → bdZ (f j)) : ∀ k, k ≤ n → ∀ s, nrF f k = some s → s ≤ 9218868437227405312 := by
  intro k
  induction k with
  | zero => intro _ s h; cases h; decide
  | succ k ih =>
    intro hk s h
    have h' : addA (nrF f k) (sizZ (f k)) = some s := h
    cases h1 : nrF f k with
    | none => rw [h1] at h'; cases h'
    | some a =>
      cases h2 : sizZ (f k) with
      | none => rw [h1, h2] at h'; cases h'
      | some b =>
        rw [h1, h2] at h'
        exact (add_ge (ih (by omega) a h1) (sizZ_le (hb k (by omega)) h2) h').2.2
theorem plc_le {x : Nat} (h : x ≤ 9218868437227405312) : plc x = (x : Int) := by
  have := plc_mg x
  rwa [show mg x = x from Nat.mod_eq_of_lt (by omega)] at this
/-- the greatest of sums, either way -/
theorem gre_mxF {es : List Nat} {t : Nat → Option Nat} {n : Nat} (h : ∀ j, j < n → rep (t j) (es.getD j 0)) (hp : ∀ j, j < n → ∀ s, t j = some s → s ≤ 9218868437227405312) (hb : ∀ k, bdA (t k)) : ∀ k, k ≤ n → (gre es k).2 = mxF t k ∧ mxF t k ≤ 9218868437227405312 := by
  intro k
  induction k with
  | zero => intro _; exact ⟨rfl, by show (0 : Nat) ≤ _; decide⟩
  | succ k ih =>
    intro hk
    obtain ⟨i1, i2⟩ := ih (by omega)
    have hr := h k (by omega)
    obtain ⟨g1, g2, g3, g4, g5⟩ := gre_inv es k
    have hm := mxF_ok hb k
    have hstep := mxF_step t k ⟨hm.1, ans_num hm.2⟩ _ hr
    obtain ⟨x, hx⟩ : ∃ x, x = es.getD k 0 := ⟨_, rfl⟩
    rw [← hx] at hr hstep
    cases hn : nan x
    · have e : t k = some x := by rw [← hr.2]; exact ans_num hn
      have hle := hp k (by omega) x e
      have ho := order_gt hn hm.2
      rw [plc_le hle, plc_le i2] at ho
      rw [ho] at hstep
      by_cases hz : (gre es k).1 < 0
      · have e1 := gre_hit (xs := es) (k := k) ⟨by rw [← hx]; exact hn, .inl hz⟩
        rw [← hx] at e1
        have e0 : mxF t k = 0 := by rw [← i1]; exact g5 hz
        rw [e0] at hstep
        rw [e1, hstep]
        by_cases c : 0 < x
        · rw [if_pos (by simp; omega)]; exact ⟨rfl, hle⟩
        · have : x = 0 := by omega
          subst this
          exact ⟨by simp, by simp⟩
      · by_cases c : mxF t k < x
        · have e1 := gre_hit (xs := es) (k := k) ⟨by rw [← hx]; exact hn, .inr (by rw [i1, ← hx, plc_le hle, plc_le i2]; omega)⟩
          rw [← hx] at e1
          rw [e1, hstep, if_pos (by simp; omega)]
          exact ⟨rfl, hle⟩
        · have e1 := gre_miss (xs := es) (k := k) (by
            rintro ⟨_, h1 | h1⟩
            · exact hz h1
            · rw [i1, ← hx, plc_le hle, plc_le i2] at h1; omega)
          rw [e1, hstep, if_neg (by simp; omega)]
          exact ⟨i1, i2⟩
    · have e1 := gre_miss (xs := es) (k := k) (by rintro ⟨h1, _⟩; rw [← hx, hn] at h1; cases h1)
      have e : t k = none := by rw [← hr.2]; unfold ans; rw [hn]; rfl
      have e2 : mxF t (k + 1) = mxF t k := by
        show (if ordA (t k) (some (mxF t k)) == some .gt then (t k).getD 0 else mxF t k) = _
        rw [e]; rfl
      rw [e1, e2]
      exact ⟨i1, i2⟩
/-- the sums laid so far -/
structure Nrl (w : World) (N : Nat) (F : Nat → Cn) (j : Nat) (es : List Nat) (v : Value) (wr : World) : Prop where
  len : es.length = j
  rp : ∀ d, d < j → rep (colT F N N d) (es.getD d 0)
  own : wr.ownsRow (w.heap.size + 1) 31 1 v j (es.map (Value.float .f64))
  bel : Below w.heap.size w wr
theorem own_rdF {w : World} {base n : Nat} {v : Value} {es : List Nat} (hn : n = es.length) (h : w.ownsRow base 31 1 v n (es.map (Value.float .f64))) : ∃ A c, v = .slice A es.length c ∧ RdF w A es := by
  subst hn
  rcases h.2 with ⟨hv, h0⟩ | ⟨g, cap, cur, hv, hb, hg, hnc, _, _, htake⟩
  · exact ⟨none, 0, by rw [hv, h0], fun k hk => by omega⟩
  · refine ⟨some ⟨g, 0, none⟩, cap, hv, fun k hk => ⟨g, 0, rfl, (Array.getElem?_eq_some_iff.1 hg).1, ?_⟩⟩
    subst hv
    rw [Nat.zero_add, h.cellAt k (by omega), List.getElem?_map, List.getElem?_eq_getElem hk, List.getD_eq_getElem?_getD, List.getElem?_eq_getElem hk]
    rfl
theorem rsize1_b {W : World} {x : Cw} {X : Cn} (hx : repz X x) : Calls Try.prog 94 #[.complex .f64 x.1 x.2] W fun e w' => ∃ r, e = .returned (.float .f64 r) ∧ rep (sizZ X) r ∧ Below W.heap.size W w' :=
  (rsize1_any W hx.1 hx.2).mono (by rintro e w' ⟨r, n, rfl, h, rfl⟩; exact ⟨r, rfl, h, below_drewN (Below.refl _ _) n⟩)
set_option maxRecDepth 20000 in
set_option maxHeartbeats 8000000 in
theorem rnorm {w : World} {N c : Nat} {A : Option Addr} {F : Nat → Cn} {xs : List Cw} (h : Mx w N N A c F xs) :
    Calls Try.prog 70 #[.agg #[.int .i64 N, .int .i64 N, .slice A (N * N) c]] w fun e w' => e = .returned (.tuple #[.float .f64 (mxF (colT F N N) N), .int .i64 0]) ∧ Below w.heap.size w w' := by
  obtain ⟨i0, hi, hz0, hz1, hz2⟩ := info_parts Try.infoF12
  have hN := h.hR
  have hn := small (le_4096 hN hN)
  have hmb := h.mb
  obtain ⟨T, hT⟩ : ∃ T, T = N * N := ⟨_, rfl⟩
  have HBZ : Hid (∀ i j, i < N → j < N → bdZ (F (i * N + j))) := fun i j hi hj => ⟨(h.at hi hj).1.bd, (h.at hi hj).2.bd⟩
  have HE : Hid (∀ (i k : Nat), i < N → k < N → ∃ x : Cw, repz (F (i * N + k)) x ∧ ∀ (W : World), Below w.heap.size w W → Calls Try.prog 68 #[.agg #[.int .i64 N, .int .i64 N, .slice A T c], .int .i64 i, .int .i64 k] W fun e w' => e = .returned (.complex .f64 x.1 x.2) ∧ Below W.heap.size W w') := fun i k hi hk => by
    rw [hT]
    exact ⟨_, h.at hi hk, fun W hb => rent (h.below hb) hi hk⟩
  have HIS : Hid (∀ (W : World), Calls Try.prog 64 #[.agg #[.int .i64 N, .int .i64 N, .slice A T c]] W fun e w' => e = .returned (.bool true) ∧ Below W.heap.size W w') := fun W => by
    rw [hT]
    refine (ris_any N N A (N * N) c W hn).mono ?_
    rintro e w' ⟨rfl, rfl⟩
    exact ⟨by rw [hmb], ba (bal _ _) _⟩
  rw [← hT]
  obtain ⟨wb, hwb⟩ : ∃ wb, wb = w.alloc (.cells #[.int .i64 N, .int .i64 N, .slice A T c] 28) := ⟨_, rfl⟩
  have VA : Hid (V3 w.heap.size (.int .i64 N) (.int .i64 N) (.slice A T c) wb) := by rw [hwb]; exact v3_new _ _ _ _ _
  have Bb : Hid (Below w.heap.size w wb) := by rw [hwb]; exact bal _ _
  clear hT h hmb hn
  go_enter Try.func70, Try.ntmps70
  go_wp2_with (first
    | (go_at_call 64; (rw [← hwb]); (with_reducible refine (HIS.out _).mono ?_); rintro e w1 ⟨rfl, hb⟩; (have B1 := hid_o hb); (obtain ⟨al, a0, a1, a2, _, _, _⟩ := VA.out.below hb); clear hb))
  have V1 := hid_o (VA.out.below B1.out)
  have BW := hid_o (bt Bb.out B1.out)
  clear hwb HIS al a0 a1 a2
  go_loopw [4, 5] (fun v jv wr => ∃ (j : Nat) (es : List Nat) (v0 : Value), j ≤ N ∧ jv = .int .i64 j ∧ v0 = v ∧ Nrl w N F j es v0 wr ∧ V3 w.heap.size (.int .i64 N) (.int .i64 N) (.slice A T c) wr) (fun _ jv _ => N - (intOf jv).toNat)
  case atStart => exact ⟨0, [], _, Nat.zero_le _, rfl, rfl, ⟨rfl, fun d hd => absurd hd (by omega), World.ownsRow_nil _ _ _ _, BW.out⟩, V1.out⟩
  case round =>
    clear V1 BW
    obtain ⟨j, es, v0, hjN, rfl, rfl, hNr, hV⟩ := hrel
    have HNr := hid_o hNr
    have HV := hid_o hV
    obtain ⟨al, a0, a1, a2, _, _, _⟩ := hV
    by_cases hlt : j < N
    · clear hNr
      go_wp2
      go_loopw [6, 7] (fun tv iv wr' => ∃ (i t : Nat), i ≤ N ∧ iv = .int .i64 i ∧ tv = .float .f64 t ∧ rep (nrF (fun r => F (r * N + j)) i) t ∧ Below wr.heap.size wr wr') (fun _ iv _ => N - (intOf iv).toNat)
      case atStart => exact ⟨0, 0, Nat.zero_le _, rfl, rfl, ⟨by decide, rfl⟩, Below.refl _ _⟩
      case round =>
        obtain ⟨i, t, hiN, rfl, rfl, ht, hb0⟩ := hrel
        have HT := hid_o ht
        have HB0 := hid_o hb0
        clear al a0 a1 a2
        have HV2 := hid_o (HV.out.below hb0)
        obtain ⟨al, a0, a1, a2, _, _, _⟩ := HV2.out
        have HBE2 := hid_o (bt HNr.out.bel hb0)
        by_cases hil : i < N
        · obtain ⟨x, hx, Ex⟩ := HE.out i j hil hlt
          have HX := hid_o hx
          have HEX := hid_o Ex
          clear ht hb0 hx Ex
          go_wp2_with (first
            | (go_at_call 68; (with_reducible refine (HEX.out _ HBE2.out).mono ?_); rintro e w5 ⟨rfl, hb⟩; (have HB5 := hid_o (bt HB0.out hb)); clear hb)
            | (go_at_call 94; (with_reducible refine (rsize1_b HX.out).mono ?_); rintro e w6 ⟨r, rfl, hr, hb⟩; (have HR := hid_o hr); (have HB6 := hid_o (bt HB5.out hb)); clear hr hb))
          go_roundw
          case measure => first | (simp [intOf]; done) | (simp [intOf]; omega)
          case rel => exact ⟨i + 1, _, by omega, by go_num, rfl, rep_add HT.out HR.out _, below_drewN HB6.out _⟩
        · have e : i = N := by omega
          subst e
          have hown := own_below HNr.out.own hb0
          have hS := HBE2.out.size
          have hlen := HNr.out.len
          have HBZ2 := hid_o hb0
          clear ht hb0
          go_wp2_with (at_builtin; refine wpList_append_own _ rfl _ _ 116 rfl (w.heap.size + 1) 31 i0 (.float .f64 0) 1 8 Try.underlying116 hi hz0 hz1 hz2 rfl (by decide) _ _ _ rfl (hown.alloc _) ⟨wr.heap.size, 0, none⟩ 1 1 [.float .f64 t] rfl rfl ?c1 ?c2 ?c3 ?c4 ?c5 ?_)
          case c1 =>
            intro q u hq
            match q, hq with
            | 0, hq =>
              simp at hq; subst hq
              show (wr.alloc _).cell? ⟨wr.heap.size, 0, none⟩ = _
              rw [cell_of_row _ wr.heap.size 0 _ 31 (0, 0) (heap_alloc_new wr _)]; rfl
          case c2 => intro u hu; simp at hu; subst hu; rfl
          case c3 => unfold maxLen; omega
          case c4 => omega
          case c5 => simp; omega
          · intro v' w7 hown' hgrow _
            have R2 : Below w.heap.size w w7 := (HBE2.out.alloc (by simpa using hS) _).grown hgrow (by simp; omega) (fun q hq => by have := own_ge hown hq; omega)
            have R4 : Hid (V3 w.heap.size (.int .i64 i) (.int .i64 i) (.slice A T c) w7) := HV2.out.later (((Below.refl (w.heap.size + 1) wr).alloc (by omega) _).grown hgrow (by simp; omega) (fun q hq => own_ge hown hq)) (by omega)
            have R3 : Hid (Nrl w i F (j + 1) (es ++ [t]) v' w7) := by
              refine ⟨by simp [hlen], fun d hd => ?_, by rw [List.map_append]; exact hown', R2⟩
              rcases Nat.lt_or_ge d j with h | h
              · have : (es ++ [t]).getD d 0 = es.getD d 0 := by
                  rw [List.getD_eq_getElem?_getD, List.getD_eq_getElem?_getD, List.getElem?_append_left (by rw [hlen]; exact h)]
                rw [this]; exact HNr.out.rp d h
              · have hdj : d = j := by omega
                have : (es ++ [t]).getD d 0 = t := by
                  rw [hdj, List.getD_eq_getElem?_getD, List.getElem?_append_right (by rw [hlen]; exact Nat.le_refl _), hlen]; simp
                rw [this, hdj]; exact HT.out
            clear hown' hgrow hown R2 al a0 a1 a2
            go_wp2
            go_roundw
            case measure => first | (simp [intOf]; done) | (simp [intOf]; omega)
            case rel => exact ⟨j + 1, es ++ [t], v', by omega, by go_num, rfl, R3.out, R4.out⟩
    · have e : j = N := by omega
      subst e
      obtain ⟨A', c', rfl, hRd⟩ := own_rdF hNr.len.symm hNr.own
      have HRd := hid_o hRd
      have hlen := hNr.len
      have GR := hid_o (rgreatest_any A' c' es wr (by rw [hlen]; omega) hRd)
      have HGM : Hid ((gre es es.length).2 = mxF (colT F j j) j) := by
        rw [hlen]
        exact (gre_mxF (t := colT F j j) (fun d hd => hNr.rp d hd) (fun d hd s hs => nrF_le (fun r hr => HBZ.out r d hr hd) j (Nat.le_refl _) s hs) (fun _ => nrF_bd _ _) j (Nat.le_refl _)).1
      obtain ⟨G, hG⟩ : ∃ G, G = (gre es es.length) := ⟨_, rfl⟩
      rw [← hG] at GR HGM
      rw [hlen] at GR ⊢
      have HBE := hid_o hNr.bel
      clear hNr hRd hG
      go_wp2_with (first
        | (go_at_call 95; (with_reducible refine GR.out.mono ?_); rintro e w5 ⟨nd, rfl, hw⟩; subst w5))
      go_ret2
      exact ⟨by first | rfl | (rw [← HGM.out]; rfl), below_drewN HBE.out nd⟩

end Go.Proofs.Ytomllbpkjhoepaa
