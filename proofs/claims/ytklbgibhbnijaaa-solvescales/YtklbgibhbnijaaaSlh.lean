/-
  What solve's Transposed hands back.
-/
import Derived.Test.YtklbgibhbnijaaaSlg
namespace Go.Proofs.Ytklbgibhbnijaaa
open Fl RowKit

theorem made_curC {w : World} {g n : Nat} {xs : List Value} (h : w.ownsRow g 52 1 (.slice (some ⟨g, 0, none⟩) n n) n xs) : ∃ cur : List Value, w.heap[g]? = some (.cells cur.toArray 52 (0, 0)) ∧ cur.length = n := by
  rcases h.2 with ⟨hv, _⟩ | ⟨g', cap, cur, hv, _, hg, _, _, hsz, _⟩
  · cases hv
  · cases hv
    exact ⟨cur.toList, by rw [hg], by rw [Array.length_toList, hsz, Nat.mul_one]⟩
theorem rw_of {w : World} {b g n : Nat} {zs : List Cw} (hn : zs.length = n) (hm : n ≤ maxLen) (hb : b ≤ g) (h : w.heap[g]? = some (.cells (zs.map cx).toArray 52 (0, 0))) : Rw w b (.slice (some ⟨g, 0, none⟩) n n) n zs := by
  refine ⟨hn, by simp [hn], .inr ⟨g, n, _, rfl, hb, h, Nat.le_refl _, hm, by simp [hn], ?_⟩⟩
  rw [List.toList_toArray, Nat.mul_one]
  exact List.take_of_length_le (by simp [hn])
theorem srcZ_at {w : World} {ao : Option Addr} {zs : List Cw} (hc : Rc w ao zs) (h0 : 0 < (zs.map cx).length) : ∃ ad, ao = some ad ∧ ∀ j v, (zs.map cx)[j]? = some v → w.cell? (ad.add j) = some v := by
  rw [List.length_map] at h0
  obtain ⟨b, off, rfl, _, _⟩ := hc 0 h0
  refine ⟨_, rfl, fun j v hj => ?_⟩
  rw [List.getElem?_map] at hj
  by_cases hk : j < zs.length
  · rw [zat_lt hk] at hj
    cases hj
    obtain ⟨b', off', h1, _, h3⟩ := hc j hk
    cases h1
    unfold Addr.add
    split
    · rename_i e0
      rw [e0, Nat.add_zero] at h3
      rw [e0]; exact h3
    · exact h3
  · rw [List.getElem?_eq_none (by omega)] at hj; cases hj
/-- what Transposed reckons, place i of which goes to o i -/
def trY (n : Nat) (M : Nat → Nat → Cw) (xs : List Cw) : Nat → Cn := fwS (fun i j => mzU M j i) divZ (fun i => anz (zat xs i)) n
def trZ (n : Nat) (M : Nat → Nat → Cw) (xs : List Cw) : Nat → Cn := bwS n (fun i j => mzL M j i) fstZ (trY n M xs) n
def trK (n : Nat) (M : Nat → Nat → Cw) (xs : List Cw) : Bool := finS (trY n M xs) n && finS (trZ n M xs) n
def GotT (w w' : World) (n : Nat) (ok : Bool) (o : Nat → Nat) (z : Nat → Cn) (v : Value) (E : Int) : Prop :=
  (ok = true ∧ E = 0 ∧ ∃ g y, v = .slice (some ⟨g, 0, none⟩) n n ∧ (∀ i, i < n → repz (z i) (y (o i))) ∧ Rw w' w.heap.size (.slice (some ⟨g, 0, none⟩) n n) n (ro n y)) ∨ (ok = false ∧ E = 6 ∧ v = .slice none 0 0)
theorem tr_eq {n : Nat} {M : Nat → Nat → Cw} {E : Nat → Cw} (xs : List Cw) (h : ∀ i j, i < n → j < n → mz n E i j = mz n (flw n (uE M)) j i) : fwS (mz n E) divZ (fun i => anz (zat xs i)) n = trY n M xs :=
  fwS_congr _ _ (fun i j hi hj => by rw [h i j hi hj, mz_u hi]) n (Nat.le_refl _)
theorem tr_eq2 {n : Nat} {M : Nat → Nat → Cw} {E : Nat → Cw} (xs : List Cw) (h : ∀ i j, i < n → j < n → mz n E i j = mz n (flw n (lE M)) j i) : bwS n (mz n E) fstZ (trY n M xs) n = trZ n M xs :=
  bwS_congr _ _ (fun i j hi hj => by rw [h i j hi hj, mz_l hi]) n (Nat.le_refl _)
theorem qi_set {w : World} {gb gx : Nat} {zs : List Int} (h : Qi w (some ⟨gb, 0, none⟩) zs) (hne : gx ≠ gb) (k : Nat) (v : Value) : Qi (w.setCell ⟨gx, k, none⟩ v) (some ⟨gb, 0, none⟩) zs := fun j hj => by
  obtain ⟨b, off, h1, h2, h3⟩ := h j hj
  refine ⟨b, off, h1, by simpa using h2, ?_⟩
  cases h1
  rw [other_cell _ (by intro e; exact hne (congrArg Addr.block e))]
  exact h3
section trans
variable {w : World} {v : Value} {n : Nat} {M : Nat → Nat → Cw} {o : Nat → Nat} {s : Int} (h : Lhd w v n M o s) {ao : Option Addr} {cap : Nat} {xs : List Cw} (hl : xs.length = n) (hn : n ≤ 64) (hc : Rc w ao xs) (hx : okl xs)
include h hl hn hc hx
set_option maxHeartbeats 4000000 in
theorem trans_ok (hE : rfS n s n xs = 0) (hM : okM n M) (ho : inO n o) : Calls Try.prog 53 #[v, .slice ao n cap] w fun e w' => ∃ u E, e = .returned (.tuple #[u, .int .i64 E]) ∧ GotT w w' n (trK n M xs) o (trZ n M xs) u E ∧ Below w.heap.size w w' := by
  obtain ⟨i0, hi, hz0, hz1, hz2⟩ := info_parts Try.infoC
  have HR := hid_o (refused_any' h ao n cap xs hl (by omega) hn hc hx)
  rw [hE] at HR
  have HH := hid_o h
  have HC := hid_o hc
  have HXl := hid_o hl
  have HX : Hid (∀ k, k < n → repz (anz (zat xs k)) (zat xs k)) := fun k _ => repz_anz (hx k)
  have HM := hid_o hM
  have HO := hid_o ho
  clear h hl hc hx hE hM ho
  go_enter Try.func53, Try.ntmps53
  have FW := hid_o (fun (b g ga : Nat) (E y0 : Nat → Cw) (f0 : Nat → Cn) (W : World) => forward_any 93 divZ (b := b) (g := g) (c := n) (n := n) (ca := n * n) (A := some ⟨ga, 0, none⟩) (E := E) (y0 := y0) (f0 := f0) (w := W) ent_div says_div hn (Nat.le_refl _))
  have BW := hid_o (fun (b g ga : Nat) (E y0 : Nat → Cw) (f0 : Nat → Cn) (W : World) => backward_any 95 fstZ (b := b) (g := g) (n := n) (A := some ⟨ga, 0, none⟩) (E := E) (y0 := y0) (f0 := f0) (w := W) ent_und says_und hn)
  cases hA : finS (trY n M xs) n
  · have HA := hid_o hA
    clear hA
    go_wp2_with (first
      | (go_at_call 58; (with_reducible refine HR.out.mono ?_); rintro e w1 ⟨rfl, hb⟩; have HB := hid_o hb; clear hb)
      | (at_make; (have HB9' := HB9.out); (refine wpList_make_full _ rfl _ _ 24 rfl w9.heap.size 52 i0 (.complex .f64 0 0) 1 Try.underlying24 hi hz0 hz1 _ _ _ _ n rfl rfl rfl rfl (by rw [hz2]; omega) (by unfold maxLen; omega) (Nat.le_refl _) ?_); intro wa hown hgrow; (have BB : Below w9.heap.size w9 wa := (Below.refl _ _).grown hgrow (Nat.le_refl _) (by intro k hk; simp at hk)); (have HBa := hid_o (HB9.out.trans (BB.mono HB9.out.size))); rw [made_zeroC, ro_zero] at hown; (have HRa := hid_o (HR9.out.below BB)); (have HNa : Hid (Rw wa w9.heap.size (.slice (some ⟨w9.heap.size, 0, none⟩) n n) n (ro n (fun _ => (0, 0)))) := ⟨ro_len _ _, hown⟩); clear hown hgrow BB HB9')
      | (at_make; (refine wpList_make_full _ rfl _ _ 24 rfl w1.heap.size 52 i0 (.complex .f64 0 0) 1 Try.underlying24 hi hz0 hz1 _ _ _ _ n rfl rfl rfl rfl (by rw [hz2]; omega) (by unfold maxLen; omega) (Nat.le_refl _) ?_); intro w2 hown hgrow; (have BB : Below w1.heap.size w1 w2 := (Below.refl _ _).grown hgrow (Nat.le_refl _) (by intro k hk; simp at hk)); (have HB2 := hid_o (HB.out.trans (BB.mono HB.out.size))); (obtain ⟨cur, hcur, hcs⟩ := made_curC hown); (have HW2 : Hid (w1.heap.size < w2.heap.size) := (hown.lt w1.heap.size rfl).2); clear hown hgrow BB)
      | (refine wpList_copy_splice rfl _ _ _ _ rfl 52 Try.underlying24 Try.infoCs _ _ _ _ _ _ rfl rfl w1.heap.size 0 cur _ hcur (xs.map cx) (by simp [HXl.out]) (fun h0 => ⟨rfl, srcZ_at (HC.out.below HB2.out) h0⟩) (by rw [List.length_map, hcs, HXl.out]; omega) one_cx w.heap.size w HB2.out HB.out.size ?_; intro w3 hb2 B2; (rw [splice_all (by rw [hcs, List.length_map, HXl.out])] at hb2); (have HR3 : Hid (Rw w3 w1.heap.size (.slice (some ⟨w1.heap.size, 0, none⟩) n n) n (ro n (zat xs))) := by rw [← ro_of HXl.out]; exact rw_of HXl.out (by unfold maxLen; omega) (Nat.le_refl _) hb2.out); clear hcur hb2 hcs)
      | (go_at_call 17; (with_reducible refine (lh_u (HH.out.below B2) hn).mono ?_); rintro e w4 ⟨g4, rfl, h4, hb⟩; have HB4 := hid_o (B2.trans (hb.mono B2.size)); have HU4 := hid_o h4.rc; have HR4 := hid_o (HR3.out.below hb); clear hb h4)
      | (go_at_call 92; (with_reducible refine (turned10_any hn (Nat.le_refl _) (.inr ⟨_, _, rfl⟩) HU4.out (flU_ok HM.out)).mono ?_); rintro e w5 ⟨g5, E5, rfl, hE5, hm5, h5, hb⟩; have HB5 := hid_o (HB4.out.trans (hb.mono HB4.out.size)); have HR5 := hid_o (HR4.out.below hb); have HF5 := hid_o (FW.out w1.heap.size w1.heap.size g5 E5 (zat xs) _ w5 h5.rc (fun B off _ e => by cases e; have := h5.lt; have := HR4.out.lt; omega) hE5 HR5.out (Nat.le_refl _) HX.out); have HM5 := hid_o hm5; clear hb h5 hE5 hm5 HU4)
      | (go_at_call 91; (with_reducible refine HF5.out.mono ?_); rintro e w6 ⟨y6, rfl, hy6, hr6, hb⟩; rw [tr_eq xs HM5.out] at hy6; have HB6 := hid_o (HB5.out.trans (hb.mono HB.out.size)); have e6 := (finL_S hy6 n (Nat.le_refl _)).trans HA.out; rw [e6]; have HY6 := hid_o hy6; have HR6 := hid_o hr6; clear hb hy6 hr6 e6))
    go_ret2
    refine ⟨_, _, rfl, .inr ⟨?_, rfl, rfl⟩, HB6.out⟩
    unfold trK; rw [HA.out]; rfl
  · cases hD : finS (trZ n M xs) n
    · have HA := hid_o hA
      have HD := hid_o hD
      clear hA hD
      go_wp2_with (first
        | (go_at_call 58; (with_reducible refine HR.out.mono ?_); rintro e w1 ⟨rfl, hb⟩; have HB := hid_o hb; clear hb)
        | (at_make; (have HB9' := HB9.out); (refine wpList_make_full _ rfl _ _ 24 rfl w9.heap.size 52 i0 (.complex .f64 0 0) 1 Try.underlying24 hi hz0 hz1 _ _ _ _ n rfl rfl rfl rfl (by rw [hz2]; omega) (by unfold maxLen; omega) (Nat.le_refl _) ?_); intro wa hown hgrow; (have BB : Below w9.heap.size w9 wa := (Below.refl _ _).grown hgrow (Nat.le_refl _) (by intro k hk; simp at hk)); (have HBa := hid_o (HB9.out.trans (BB.mono HB9.out.size))); rw [made_zeroC, ro_zero] at hown; (have HRa := hid_o (HR9.out.below BB)); (have HNa : Hid (Rw wa w9.heap.size (.slice (some ⟨w9.heap.size, 0, none⟩) n n) n (ro n (fun _ => (0, 0)))) := ⟨ro_len _ _, hown⟩); clear hown hgrow BB HB9')
        | (at_make; (refine wpList_make_full _ rfl _ _ 24 rfl w1.heap.size 52 i0 (.complex .f64 0 0) 1 Try.underlying24 hi hz0 hz1 _ _ _ _ n rfl rfl rfl rfl (by rw [hz2]; omega) (by unfold maxLen; omega) (Nat.le_refl _) ?_); intro w2 hown hgrow; (have BB : Below w1.heap.size w1 w2 := (Below.refl _ _).grown hgrow (Nat.le_refl _) (by intro k hk; simp at hk)); (have HB2 := hid_o (HB.out.trans (BB.mono HB.out.size))); (obtain ⟨cur, hcur, hcs⟩ := made_curC hown); (have HW2 : Hid (w1.heap.size < w2.heap.size) := (hown.lt w1.heap.size rfl).2); clear hown hgrow BB)
        | (refine wpList_copy_splice rfl _ _ _ _ rfl 52 Try.underlying24 Try.infoCs _ _ _ _ _ _ rfl rfl w1.heap.size 0 cur _ hcur (xs.map cx) (by simp [HXl.out]) (fun h0 => ⟨rfl, srcZ_at (HC.out.below HB2.out) h0⟩) (by rw [List.length_map, hcs, HXl.out]; omega) one_cx w.heap.size w HB2.out HB.out.size ?_; intro w3 hb2 B2; (rw [splice_all (by rw [hcs, List.length_map, HXl.out])] at hb2); (have HR3 : Hid (Rw w3 w1.heap.size (.slice (some ⟨w1.heap.size, 0, none⟩) n n) n (ro n (zat xs))) := by rw [← ro_of HXl.out]; exact rw_of HXl.out (by unfold maxLen; omega) (Nat.le_refl _) hb2.out); clear hcur hb2 hcs)
        | (go_at_call 17; (with_reducible refine (lh_u (HH.out.below B2) hn).mono ?_); rintro e w4 ⟨g4, rfl, h4, hb⟩; have HB4 := hid_o (B2.trans (hb.mono B2.size)); have HU4 := hid_o h4.rc; have HR4 := hid_o (HR3.out.below hb); clear hb h4)
        | (go_at_call 92; (with_reducible refine (turned10_any hn (Nat.le_refl _) (.inr ⟨_, _, rfl⟩) HU4.out (flU_ok HM.out)).mono ?_); rintro e w5 ⟨g5, E5, rfl, hE5, hm5, h5, hb⟩; have HB5 := hid_o (HB4.out.trans (hb.mono HB4.out.size)); have HR5 := hid_o (HR4.out.below hb); have HF5 := hid_o (FW.out w1.heap.size w1.heap.size g5 E5 (zat xs) _ w5 h5.rc (fun B off _ e => by cases e; have := h5.lt; have := HR4.out.lt; omega) hE5 HR5.out (Nat.le_refl _) HX.out); have HM5 := hid_o hm5; clear hb h5 hE5 hm5 HU4)
        | (go_at_call 91; (with_reducible refine HF5.out.mono ?_); rintro e w6 ⟨y6, rfl, hy6, hr6, hb⟩; rw [tr_eq xs HM5.out] at hy6; have HB6 := hid_o (HB5.out.trans (hb.mono HB.out.size)); have e6 := (finL_S hy6 n (Nat.le_refl _)).trans HA.out; rw [e6]; have HY6 := hid_o hy6; have HR6 := hid_o hr6; clear hb hy6 hr6 e6)
        | (go_at_call 16; (with_reducible refine (lh_l (HH.out.below HB6.out) hn).mono ?_); rintro e w7 ⟨g7, rfl, h7, hb⟩; have HB7 := hid_o (HB6.out.trans (hb.mono HB6.out.size)); have HL7 := hid_o h7.rc; have HR7 := hid_o (HR6.out.below hb); clear hb h7 HF5)
        | (go_at_call 92; (with_reducible refine (turned10_any hn (Nat.le_refl _) (.inr ⟨_, _, rfl⟩) HL7.out (flL_ok HM.out)).mono ?_); rintro e w8 ⟨g8, E8, rfl, hE8, hm8, h8, hb⟩; have HB8 := hid_o (HB7.out.trans (hb.mono HB7.out.size)); have HR8 := hid_o (HR7.out.below hb); have HF8 := hid_o (BW.out w1.heap.size w1.heap.size g8 E8 y6 _ w8 h8.rc (fun B off _ e => by cases e; have := h8.lt; have := HR7.out.lt; omega) hE8 HR8.out HY6.out); have HM8 := hid_o hm8; clear hb h8 hE8 hm8 HL7)
        | (go_at_call 94; (with_reducible refine HF8.out.mono ?_); rintro e w9 ⟨y9, rfl, hy9, hr9, hb⟩; rw [tr_eq2 xs HM8.out] at hy9; have HB9 := hid_o (HB8.out.trans (hb.mono HB.out.size)); have e9 := (finL_S hy9 n (Nat.le_refl _)).trans HD.out; rw [e9]; have HY9 := hid_o hy9; have HR9 := hid_o hr9; clear hb hy9 hr9 e9 HF8))
      go_ret2
      refine ⟨_, _, rfl, .inr ⟨?_, rfl, rfl⟩, HB9.out⟩
      unfold trK; rw [HA.out, HD.out]; rfl
    · have HA := hid_o hA
      have HD := hid_o hD
      clear hA hD
      go_wp2_with (first
        | (go_at_call 58; (with_reducible refine HR.out.mono ?_); rintro e w1 ⟨rfl, hb⟩; have HB := hid_o hb; clear hb)
        | (at_make; (have HB9' := HB9.out); (refine wpList_make_full _ rfl _ _ 24 rfl w9.heap.size 52 i0 (.complex .f64 0 0) 1 Try.underlying24 hi hz0 hz1 _ _ _ _ n rfl rfl rfl rfl (by rw [hz2]; omega) (by unfold maxLen; omega) (Nat.le_refl _) ?_); intro wa hown hgrow; (have BB : Below w9.heap.size w9 wa := (Below.refl _ _).grown hgrow (Nat.le_refl _) (by intro k hk; simp at hk)); (have HBa := hid_o (HB9.out.trans (BB.mono HB9.out.size))); rw [made_zeroC, ro_zero] at hown; (have HRa := hid_o (HR9.out.below BB)); (have HNa : Hid (Rw wa w9.heap.size (.slice (some ⟨w9.heap.size, 0, none⟩) n n) n (ro n (fun _ => (0, 0)))) := ⟨ro_len _ _, hown⟩); clear hown hgrow BB HB9')
        | (at_make; (refine wpList_make_full _ rfl _ _ 24 rfl w1.heap.size 52 i0 (.complex .f64 0 0) 1 Try.underlying24 hi hz0 hz1 _ _ _ _ n rfl rfl rfl rfl (by rw [hz2]; omega) (by unfold maxLen; omega) (Nat.le_refl _) ?_); intro w2 hown hgrow; (have BB : Below w1.heap.size w1 w2 := (Below.refl _ _).grown hgrow (Nat.le_refl _) (by intro k hk; simp at hk)); (have HB2 := hid_o (HB.out.trans (BB.mono HB.out.size))); (obtain ⟨cur, hcur, hcs⟩ := made_curC hown); (have HW2 : Hid (w1.heap.size < w2.heap.size) := (hown.lt w1.heap.size rfl).2); clear hown hgrow BB)
        | (refine wpList_copy_splice rfl _ _ _ _ rfl 52 Try.underlying24 Try.infoCs _ _ _ _ _ _ rfl rfl w1.heap.size 0 cur _ hcur (xs.map cx) (by simp [HXl.out]) (fun h0 => ⟨rfl, srcZ_at (HC.out.below HB2.out) h0⟩) (by rw [List.length_map, hcs, HXl.out]; omega) one_cx w.heap.size w HB2.out HB.out.size ?_; intro w3 hb2 B2; (rw [splice_all (by rw [hcs, List.length_map, HXl.out])] at hb2); (have HR3 : Hid (Rw w3 w1.heap.size (.slice (some ⟨w1.heap.size, 0, none⟩) n n) n (ro n (zat xs))) := by rw [← ro_of HXl.out]; exact rw_of HXl.out (by unfold maxLen; omega) (Nat.le_refl _) hb2.out); clear hcur hb2 hcs)
        | (go_at_call 17; (with_reducible refine (lh_u (HH.out.below B2) hn).mono ?_); rintro e w4 ⟨g4, rfl, h4, hb⟩; have HB4 := hid_o (B2.trans (hb.mono B2.size)); have HU4 := hid_o h4.rc; have HR4 := hid_o (HR3.out.below hb); clear hb h4)
        | (go_at_call 92; (with_reducible refine (turned10_any hn (Nat.le_refl _) (.inr ⟨_, _, rfl⟩) HU4.out (flU_ok HM.out)).mono ?_); rintro e w5 ⟨g5, E5, rfl, hE5, hm5, h5, hb⟩; have HB5 := hid_o (HB4.out.trans (hb.mono HB4.out.size)); have HR5 := hid_o (HR4.out.below hb); have HF5 := hid_o (FW.out w1.heap.size w1.heap.size g5 E5 (zat xs) _ w5 h5.rc (fun B off _ e => by cases e; have := h5.lt; have := HR4.out.lt; omega) hE5 HR5.out (Nat.le_refl _) HX.out); have HM5 := hid_o hm5; clear hb h5 hE5 hm5 HU4)
        | (go_at_call 91; (with_reducible refine HF5.out.mono ?_); rintro e w6 ⟨y6, rfl, hy6, hr6, hb⟩; rw [tr_eq xs HM5.out] at hy6; have HB6 := hid_o (HB5.out.trans (hb.mono HB.out.size)); have e6 := (finL_S hy6 n (Nat.le_refl _)).trans HA.out; rw [e6]; have HY6 := hid_o hy6; have HR6 := hid_o hr6; clear hb hy6 hr6 e6)
        | (go_at_call 16; (with_reducible refine (lh_l (HH.out.below HB6.out) hn).mono ?_); rintro e w7 ⟨g7, rfl, h7, hb⟩; have HB7 := hid_o (HB6.out.trans (hb.mono HB6.out.size)); have HL7 := hid_o h7.rc; have HR7 := hid_o (HR6.out.below hb); clear hb h7 HF5)
        | (go_at_call 92; (with_reducible refine (turned10_any hn (Nat.le_refl _) (.inr ⟨_, _, rfl⟩) HL7.out (flL_ok HM.out)).mono ?_); rintro e w8 ⟨g8, E8, rfl, hE8, hm8, h8, hb⟩; have HB8 := hid_o (HB7.out.trans (hb.mono HB7.out.size)); have HR8 := hid_o (HR7.out.below hb); have HF8 := hid_o (BW.out w1.heap.size w1.heap.size g8 E8 y6 _ w8 h8.rc (fun B off _ e => by cases e; have := h8.lt; have := HR7.out.lt; omega) hE8 HR8.out HY6.out); have HM8 := hid_o hm8; clear hb h8 hE8 hm8 HL7)
        | (go_at_call 94; (with_reducible refine HF8.out.mono ?_); rintro e w9 ⟨y9, rfl, hy9, hr9, hb⟩; rw [tr_eq2 xs HM8.out] at hy9; have HB9 := hid_o (HB8.out.trans (hb.mono HB.out.size)); have e9 := (finL_S hy9 n (Nat.le_refl _)).trans HD.out; rw [e9]; have HY9 := hid_o hy9; have HR9 := hid_o hr9; clear hb hy9 hr9 e9 HF8)
        | (go_at_call 18; (with_reducible refine (lh_order (HH.out.below HBa.out) hn).mono ?_); rintro e wb ⟨gb, rfl, hob, hb⟩; have HBb := hid_o (HBa.out.trans (hb.mono HBa.out.size)); have HQb := hid_o hob.qi; have HRb := hid_o (HRa.out.below hb); have HNb := hid_o (HNa.out.below hb); (have HOb : Hid (wa.heap.size ≤ gb) := hob.own.lt gb rfl |>.1); clear hb hob))
      have HZl := hid_o HRb.out.lt
      have HXl2 := hid_o HNb.out.lt
      have HR9l := hid_o HR9.out.lt
      obtain ⟨gz, hgz⟩ : ∃ gz, gz = w1.heap.size := ⟨_, rfl⟩
      obtain ⟨gx, hgx⟩ : ∃ gx, gx = w9.heap.size := ⟨_, rfl⟩
      rw [← hgz] at HRb HR9l ⊢
      rw [← hgx] at HNb HR9l ⊢
      have HGZ : Hid (gz < gx ∧ w.heap.size ≤ gz) := ⟨HR9l.out.2, by rw [hgz]; exact HB.out.size⟩
      have HGB : Hid (gx < gb) := by have h1 := HNa.out.lt; rw [← hgx] at h1; exact Nat.lt_of_lt_of_le h1.2 HOb.out
      clear hgz hgx
      go_loopw [43] (fun iv wr => ∃ (i : Nat) (y : Nat → Cw), i ≤ n ∧ iv = .int .i64 i ∧ (∀ j, j < i → y (o j) = y9 j) ∧ Rw wr gx (.slice (some ⟨gx, 0, none⟩) n n) n (ro n y) ∧ Rw wr gz (.slice (some ⟨gz, 0, none⟩) n n) n (ro n y9) ∧ Qi wr (some ⟨gb, 0, none⟩) (ri n o) ∧ Below w.heap.size w wr) (fun iv _ => n - (intOf iv).toNat)
      case atStart => exact ⟨0, _, Nat.zero_le _, rfl, fun j hj => absurd hj (by omega), HNb.out, HRb.out, HQb.out, HBb.out⟩
      case round =>
        clear HNb HRb HQb HBb
        obtain ⟨i, y, hin, rfl, hy, hrw, hrz, hq, hbel⟩ := hrel
        by_cases hlt : i < n
        · obtain ⟨b1, o1, e1, hb1, hc1⟩ := hq i (by rw [ri_len]; exact hlt)
          cases e1
          rw [ri_at _ hlt, Nat.zero_add] at hc1
          have hoi := HO.out.1 i hlt
          have d1 := rw_cell hrz hlt
          have d2 := rw_cell hrw hoi
          have fz := hrw.own.frozenAt (o i)
          have HQ := hid_o hq
          have HRZ := hid_o hrz
          have HRW := hid_o hrw
          have HBE := hid_o hbel
          have HY := hid_o hy
          have glz := hrz.lt.2
          have glx := hrw.lt.2
          obtain ⟨r, hr⟩ : ∃ r, r = o i := ⟨_, rfl⟩
          have HOI := hid_o hr
          rw [← hr] at hc1 hoi d2 fz
          obtain ⟨x, hxe⟩ : ∃ x, x = y9 i := ⟨_, rfl⟩
          rw [← hxe] at d1
          have HXE := hid_o hxe
          unfold cx at d1 d2
          clear hr hxe hy hrw hrz hq hbel FW BW HH HC HX HM HR HM5 HM8 HR4 HR5 HR6 HR7 HR8 HR9 HRa HNa HB HB2 HB4 HB5 HB6 HB7 HB8 HB9 HBa
          go_wp2
          refine ⟨⟨i + 1, upz y r x, by omega, by go_num, fun j hj => ?_, rw_set HRW.out r x, ⟨HRZ.out.len, own_at HRZ.out.own (fun q hq => by cases hq; exact Below.heap_setCell _ _ _ _ (show gz ≠ gx by have := HGZ.out; omega))⟩, qi_set HQ.out (by have := HGB.out; omega) r _, HBE.out.setCell (p := ⟨gx, r, none⟩) (by have := HGZ.out; show w.heap.size ≤ gx; omega) _⟩, by simp [intOf]; omega⟩
          by_cases e : j = i
          · rw [e, ← HOI.out, upz_self]; exact HXE.out
          · rw [upz_ne _ _ (fun e2 => e (HO.out.2 j i (by omega) hlt (e2.trans HOI.out)))]; exact HY.out j (by omega)
        · have e : i = n := by omega
          subst e
          have HRW := hid_o hrw
          have HBE := hid_o hbel
          have HY := hid_o hy
          clear hrw hrz hq hbel hy
          go_wp2
          go_ret2
          refine ⟨_, _, rfl, .inl ⟨?_, rfl, gx, y, rfl, fun j hj => ?_, HRW.out.len, own_base HRW.out.own (by have := HGZ.out; omega)⟩, HBE.out⟩
          · unfold trK; rw [HA.out, HD.out]; rfl
          · rw [HY.out j hj]; exact HY9.out j hj
end trans

end Go.Proofs.Ytklbgibhbnijaaa
