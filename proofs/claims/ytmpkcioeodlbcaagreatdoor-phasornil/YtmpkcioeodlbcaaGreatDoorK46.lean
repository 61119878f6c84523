/-
  Several texts in one: Slf Lwh.
-/
import Derived.Test.YtmpkcioeodlbcaaGreatDoorK44
import Derived.Test.YtmpkcioeodlbcaaGreatDoorK45
import Derived.Test.YtmpkcioeodlbcaaGreatDoorK43
import Derived.Test.YtmpkcioeodlbcaaGreatDoorK42
import Derived.Test.YtmpkcioeodlbcaaGreatDoorK32
namespace Go.Proofs.YtmpkcioeodlbcaaGreatDoor
open Fl RowKit
def finS (f : Nat → Cn) : Nat → Bool
  | 0 => true
  | k + 1 => finS f k && finN (f k)
theorem finL_S {n : Nat} {f : Nat → Cn} {y : Nat → Cw} (h : ∀ j, j < n → repz (f j) (y j)) : ∀ m, m ≤ n → finL (ro n y) m = finS f m := by
  intro m
  induction m with
  | zero => intro _; rfl
  | succ m ih =>
    intro hm
    show (finL (ro n y) m && finZ (zat (ro n y) m)) = (finS f m && finN (f m))
    rw [ih (by omega), ro_at _ (by omega), fin_repz (h m (by omega))]
/-- forward, then backward -/
def frw (n : Nat) (mL : Nat → Nat → Cn) (c : Nat → Cn) : Nat → Cn := fwS mL fstZ c n
def bck (n : Nat) (mU : Nat → Nat → Cn) (y : Nat → Cn) : Nat → Cn := bwS n mU divZ y n
def slS (n : Nat) (mL mU : Nat → Nat → Cn) (c : Nat → Cn) : Nat → Cn := bck n mU (frw n mL c)
def okS (n : Nat) (mL mU : Nat → Nat → Cn) (c : Nat → Cn) : Bool := finS (frw n mL c) n && finS (slS n mL mU c) n
/-- what is handed back: the unknowns, or the error -/
def Got (w w' : World) (n : Nat) (ok : Bool) (x : Nat → Cn) (v : Value) (E : Int) : Prop :=
  (ok = true ∧ E = 0 ∧ ∃ g y, v = .slice (some ⟨g, 0, none⟩) n n ∧ (∀ j, j < n → repz (x j) (y j)) ∧ Rw w' w.heap.size (.slice (some ⟨g, 0, none⟩) n n) n (ro n y)) ∨ (ok = false ∧ E = 6 ∧ v = .slice none 0 0)
set_option maxHeartbeats 4000000 in
theorem unknowns_any {n cb co : Nat} {AO AL AU AB : Option Addr} {o : Nat → Nat} {EL EU bw : Nat → Cw} {w : World} (hn : n ≤ 64) (ho : ∀ i, i < n → o i < n) (hO : Qi w AO (ri n o)) (hL : Rc w AL (ro (n * n) EL)) (hLo : ∀ k, k < n * n → okz (EL k)) (hU : Rc w AU (ro (n * n) EU)) (hUo : ∀ k, k < n * n → okz (EU k)) (hB : Rc w AB (ro n bw)) (hBo : ∀ k, k < n → okz (bw k)) :
    Calls Tryz.prog 141 #[.slice AO n co, .agg #[.int .i64 n, .int .i64 n, .slice AL (n * n) (n * n)], .agg #[.int .i64 n, .int .i64 n, .slice AU (n * n) (n * n)], .slice AB n cb] w fun e w' => ∃ v E, e = .returned (.tuple #[v, .int .i64 E]) ∧ Got w w' n (okS n (mz n EL) (mz n EU) (fun i => anz (bw (o i)))) (slS n (mz n EL) (mz n EU) (fun i => anz (bw (o i)))) v E ∧ Below w.heap.size w w' := by
  obtain ⟨i0, hi, hz0, hz1, hz2⟩ := info_parts Tryz.infoC
  obtain ⟨N, hne⟩ : ∃ N, N = n * n := ⟨_, rfl⟩
  have HL : Hid (Rcb w.heap.size w AL (ro (n * n) EL)) := hL.rcb
  have HU : Hid (Rcb w.heap.size w AU (ro (n * n) EU)) := hU.rcb
  have HLo := hid_o hLo
  have HUo := hid_o hUo
  have HB := hid_o hB
  have HBo := hid_o hBo
  have HO := hid_o hO
  have HOo := hid_o ho
  have HNE := hid_o hne
  have FW := hid_o (fun (b g : Nat) (y0 : Nat → Cw) (f0 : Nat → Cn) (W : World) => forward_any 186 fstZ (b := b) (g := g) (c := n) (n := n) (ca := n * n) (A := AL) (E := EL) (y0 := y0) (f0 := f0) (w := W) ent_und says_und hn (Nat.le_refl _))
  have BW := hid_o (fun (b g : Nat) (y0 : Nat → Cw) (f0 : Nat → Cn) (W : World) => backward_any 188 divZ (b := b) (g := g) (n := n) (A := AU) (E := EU) (y0 := y0) (f0 := f0) (w := W) ent_div says_div hn)
  rw [← hne] at FW BW HL HU HLo HUo ⊢
  clear hL hU hB hO hLo hUo hBo ho hne
  go_enter Tryz.func141, Tryz.ntmps141
  go_wp2_with (at_make; refine wpList_make_full _ rfl _ _ 32 rfl _ 39 i0 (.complex .f64 0 0) 1 Tryz.underlying32 hi hz0 hz1 _ _ _ _ n rfl rfl rfl rfl (by rw [hz2]; omega) (by unfold maxLen; omega) (Nat.le_refl _) ?_; intro w2 hown hgrow)
  have hs2 : ((w.alloc (Obj.cells #[Value.int IntKind.i64 ↑n, Value.int IntKind.i64 ↑n, Value.slice AL N N] 120)).alloc (Obj.cells #[Value.int IntKind.i64 ↑n, Value.int IntKind.i64 ↑n, Value.slice AU N N] 120)).heap.size = w.heap.size + 1 + 1 := by simp
  have BB0 : Below ((w.alloc (Obj.cells #[Value.int IntKind.i64 ↑n, Value.int IntKind.i64 ↑n, Value.slice AL N N] 120)).alloc (Obj.cells #[Value.int IntKind.i64 ↑n, Value.int IntKind.i64 ↑n, Value.slice AU N N] 120)).heap.size _ w2 := (Below.refl _ _).grown hgrow (Nat.le_refl _) (by intro k hk; simp at hk)
  have V1 : Hid (V3 w.heap.size (.int .i64 n) (.int .i64 n) (.slice AL N N) w2) := ((v3_new w _ _ _ _).below (bal _ _)).below BB0
  have V2 : Hid (V3 (w.heap.size + 1) (.int .i64 n) (.int .i64 n) (.slice AU N N) w2) := (v3_at _ _ _ _ _ (by simp)).below BB0
  have HB2 : Hid (Below w.heap.size w w2) := ((bal _ _).trans ((bal _ _).mono (by simp))).trans (BB0.mono (by rw [hs2]; omega))
  rw [made_zeroC, ro_zero, hs2] at hown
  have RW : Hid (Rw w2 (w.heap.size + 1 + 1) (.slice (some ⟨w.heap.size + 1 + 1, 0, none⟩) n n) n (ro n (fun _ => (0, 0)))) := ⟨ro_len _ _, hown⟩
  clear hown hgrow BB0 hs2
  obtain ⟨g, hg⟩ : ∃ g, g = w.heap.size + 1 + 1 := ⟨_, rfl⟩
  rw [← hg] at RW ⊢
  have HG := hid_o hg
  clear hg
  go_loopw [18] (fun iv wr => ∃ (i : Nat) (y : Nat → Cw), i ≤ n ∧ iv = .int .i64 i ∧ (∀ j, j < i → y j = bw (o j)) ∧ Rw wr g (.slice (some ⟨g, 0, none⟩) n n) n (ro n y) ∧ V3 w.heap.size (.int .i64 n) (.int .i64 n) (.slice AL N N) wr ∧ V3 (w.heap.size + 1) (.int .i64 n) (.int .i64 n) (.slice AU N N) wr ∧ Below w.heap.size w wr) (fun iv _ => n - (intOf iv).toNat)
  case atStart => exact ⟨0, _, Nat.zero_le _, rfl, fun j hj => absurd hj (by omega), RW.out, V1.out, V2.out, HB2.out⟩
  case round =>
    clear RW V1 V2 HB2
    obtain ⟨i, y, hin, rfl, hy, hrw, hV1, hV2, hbel⟩ := hrel
    by_cases hlt : i < n
    · obtain ⟨b1, o1, rfl, hb1, hc1⟩ := (HO.out.below hbel) i (by rw [ri_len]; exact hlt)
      have hoi := HOo.out i hlt
      rw [ri_at _ hlt] at hc1
      obtain ⟨b2, o2, rfl, hb2, hc2⟩ := (HB.out.below hbel) (o i) (by rw [ro_len]; exact hoi)
      rw [ro_at _ hoi] at hc2
      obtain ⟨r, hr⟩ : ∃ r, r = o i := ⟨_, rfl⟩
      rw [← hr] at hc1 hc2 hoi
      obtain ⟨x, hx⟩ : ∃ x, x = bw r := ⟨_, rfl⟩
      rw [← hx] at hc2
      have d1 := rw_cell hrw hlt
      have fz := hrw.own.frozenAt i
      have HX : Hid (x = bw (o i)) := by rw [← hr]; exact hx
      have HY := hid_o hy
      have HRW := hid_o hrw
      have HV1 := hid_o hV1
      have HV2 := hid_o hV2
      have HBE := hid_o hbel
      unfold cx at hc2 d1
      clear hr hx hy hrw hV1 hV2 hbel HO HB HL HU HLo HUo FW BW HBo HOo
      go_wp2
      go_roundw
      case measure => simp [intOf]; omega
      case rel =>
        refine ⟨i + 1, upz y i x, by omega, by go_num, fun j hj => ?_, rw_set HRW.out i x, HV1.out.other (q := ⟨g, i, none⟩) (by have := HG.out; show g ≠ w.heap.size; omega) _, HV2.out.other (q := ⟨g, i, none⟩) (by have := HG.out; show g ≠ w.heap.size + 1; omega) _, HBE.out.setCell (p := ⟨g, i, none⟩) (by have := HG.out; show w.heap.size ≤ g; omega) _⟩
        by_cases e : j = i
        · subst e; rw [upz_self]; exact HX.out
        · rw [upz_ne _ _ e]; exact HY.out j (by omega)
    · have e : i = n := by omega
      subst e
      have hy0 : ∀ j, j < i → repz ((fun i => anz (bw (o i))) j) (y j) := fun j hj => by rw [hy j hj]; exact repz_anz (HBo.out _ (HOo.out j hj))
      have HGE : w.heap.size ≤ g := by have := HG.out; omega
      have HGEh := hid_o HGE
      have HLg : Hid (∀ B off, 0 < i → AL = some ⟨B, off, none⟩ → B ≠ g) := fun B off h0 e => by
        obtain ⟨B', off', e1, e2, _⟩ := HL.out 0 (by rw [ro_len, HNE.out]; exact Nat.mul_pos h0 h0)
        rw [e] at e1
        cases e1
        have := HG.out
        omega
      have HUg : Hid (∀ B off, 0 < i → AU = some ⟨B, off, none⟩ → B ≠ g) := fun B off h0 e => by
        obtain ⟨B', off', e1, e2, _⟩ := HU.out 0 (by rw [ro_len, HNE.out]; exact Nat.mul_pos h0 h0)
        rw [e] at e1
        cases e1
        have := HG.out
        omega
      have HF := hid_o (FW.out g g y (fun i => anz (bw (o i))) wr ((HL.out.later hbel).rc hbel.size) HLg.out HLo.out hrw (Nat.le_refl _) hy0)
      obtain ⟨_, p0, p1, p2, _, _, _⟩ := hV1
      have HV2 := hid_o hV2
      have HBE := hid_o hbel
      have HG2 := hid_o (show w.heap.size + 1 < g by have := HG.out; omega)
      have hw1 : w.heap.size < wr.heap.size := by have := hV2.lt; omega
      have hgl := hrw.lt.2
      clear hy0 hy hrw hV2 hbel HGE HO HB HBo HOo FW HL HLo
      cases hA : finS (frw i (mz i EL) (fun k => anz (bw (o k)))) i
      · have HA := hid_o hA
        clear hA HU HUo BW
        go_wp2_with (go_at_call 185; (with_reducible refine HF.out.mono ?_); rintro e w3 ⟨y1, rfl, hy1, hr1, hb3⟩; have HB3 := hid_o (HBE.out.trans (hb3.mono HGEh.out)); have e3 := (finL_S hy1 i (Nat.le_refl _)).trans HA.out; rw [e3]; clear hy1 hr1 hb3 e3)
        refine bodyPost_ret (by simp [results, Tryz.results141, go_sem]; try rfl) rfl ?_
        refine ⟨_, _, rfl, .inr ⟨?_, rfl, rfl⟩, HB3.out⟩
        show (finS (frw i (mz i EL) (fun k => anz (bw (o k)))) i && _) = false
        rw [HA.out]; rfl
      · have HA := hid_o hA
        clear hA
        cases hC : finS (slS i (mz i EL) (mz i EU) (fun k => anz (bw (o k)))) i
        · have HC := hid_o hC
          clear hC
          go_wp2_with (first
            | (go_at_call 185; (with_reducible refine HF.out.mono ?_); rintro e w3 ⟨y1, rfl, hy1, hr1, hb3⟩; have HB3 := hid_o (HBE.out.trans (hb3.mono HGEh.out)); have e3 := (finL_S hy1 i (Nat.le_refl _)).trans HA.out; rw [e3]; have HFB := hid_o (BW.out g g y1 _ w3 ((HU.out.later HB3.out).rc HB3.out.size) HUg.out HUo.out hr1 hy1); obtain ⟨qlt, q0, q1, q2, _, _, _⟩ := HV2.out.later hb3 HG2.out; clear hy1 hr1 hb3 e3)
            | (go_at_call 187; (with_reducible refine HFB.out.mono ?_); rintro e w4 ⟨y2, rfl, hy2, hr2, hb4⟩; have HB4 := hid_o (HB3.out.trans (hb4.mono HGEh.out)); have e4 := (finL_S hy2 i (Nat.le_refl _)).trans HC.out; rw [e4]; clear hy2 hr2 hb4 e4))
          refine bodyPost_ret (by simp [results, Tryz.results141, go_sem]; try rfl) rfl ?_
          refine ⟨_, _, rfl, .inr ⟨?_, rfl, rfl⟩, HB4.out⟩
          show (finS (frw i (mz i EL) (fun k => anz (bw (o k)))) i && finS (slS i (mz i EL) (mz i EU) (fun k => anz (bw (o k)))) i) = false
          rw [HA.out, HC.out]; rfl
        · have HC := hid_o hC
          clear hC
          go_wp2_with (first
            | (go_at_call 185; (with_reducible refine HF.out.mono ?_); rintro e w3 ⟨y1, rfl, hy1, hr1, hb3⟩; have HB3 := hid_o (HBE.out.trans (hb3.mono HGEh.out)); have e3 := (finL_S hy1 i (Nat.le_refl _)).trans HA.out; rw [e3]; have HFB := hid_o (BW.out g g y1 _ w3 ((HU.out.later HB3.out).rc HB3.out.size) HUg.out HUo.out hr1 hy1); obtain ⟨qlt, q0, q1, q2, _, _, _⟩ := HV2.out.later hb3 HG2.out; clear hy1 hr1 hb3 e3)
            | (go_at_call 187; (with_reducible refine HFB.out.mono ?_); rintro e w4 ⟨y2, rfl, hy2, hr2, hb4⟩; have HB4 := hid_o (HB3.out.trans (hb4.mono HGEh.out)); have e4 := (finL_S hy2 i (Nat.le_refl _)).trans HC.out; rw [e4]; have HY2 := hid_o hy2; have HR2 := hid_o hr2; clear hy2 hr2 hb4 e4))
          refine bodyPost_ret (by simp [results, Tryz.results141, go_sem]; try rfl) rfl ?_
          refine ⟨_, _, rfl, .inl ⟨?_, rfl, g, y2, rfl, HY2.out, ⟨HR2.out.len, own_base HR2.out.own HGEh.out⟩⟩, HB4.out⟩
          show (finS (frw i (mz i EL) (fun k => anz (bw (o k)))) i && finS (slS i (mz i EL) (mz i EU) (fun k => anz (bw (o k)))) i) = true
          rw [HA.out, HC.out]; rfl

end Go.Proofs.YtmpkcioeodlbcaaGreatDoor
namespace Go.Proofs.YtmpkcioeodlbcaaGreatDoor
open Fl RowKit
/-- a struct of two cells that may be written -/
structure V2 (p : Nat) (a b : Value) (w : World) : Prop where
  lt : p < w.heap.size
  c0 : w.cell? ⟨p, 0, none⟩ = some a
  c1 : w.cell? ⟨p, 1, none⟩ = some b
  f0 : w.frozen? ⟨p, 0, none⟩ = false
  f1 : w.frozen? ⟨p, 1, none⟩ = false
theorem V2.later {p n : Nat} {a b : Value} {w w' : World} (h : V2 p a b w) (hb : Below n w w') (hn : p < n) : V2 p a b w' :=
  ⟨Nat.lt_of_lt_of_le h.lt hb.size, (hb.cell hn).trans h.c0, (hb.cell hn).trans h.c1, (hb.frozen hn).trans h.f0, (hb.frozen hn).trans h.f1⟩
theorem V2.below {p : Nat} {a b : Value} {w w' : World} (h : V2 p a b w) (hb : Below w.heap.size w w') : V2 p a b w' := h.later hb h.lt
theorem V2.drewN {p : Nat} {a b : Value} {w : World} (h : V2 p a b w) (n : Nat) : V2 p a b (w.drewN n) := ⟨h.lt, h.c0, h.c1, h.f0, h.f1⟩
theorem v2_new (w : World) (a b : Value) (t : TypeId) : V2 w.heap.size a b (w.alloc (.cells #[a, b] t)) :=
  ⟨by simp, World.cell?_alloc_new w _ _ 0, World.cell?_alloc_new w _ _ 1, by simp, by simp⟩
theorem V2.reads {p : Nat} {x y : Value} {w : World} (h : V2 p x y w) : (∀ a, (w.setCell ⟨p, 0, none⟩ a).cell? ⟨p, 0, none⟩ = some a) ∧ (∀ a b, ((w.setCell ⟨p, 0, none⟩ a).setCell ⟨p, 1, none⟩ b).cell? ⟨p, 1, none⟩ = some b) := by
  refine ⟨fun a => World.cell?_setCell_same _ _ _ h.c0, fun a b => World.cell?_setCell_same _ _ _ (u := y) ?_⟩
  rw [other_cell _ (by simp)]; exact h.c1
theorem below_set2 {n p : Nat} {w w' : World} (h : Below n w w') (hp : n ≤ p) (a b : Value) : Below n w ((w'.setCell ⟨p, 0, none⟩ a).setCell ⟨p, 1, none⟩ b) :=
  (h.setCell (p := ⟨p, 0, none⟩) hp _).setCell (p := ⟨p, 1, none⟩) hp _

theorem bd_divRe (A B C D : Option Nat) : bdA (divRe A B C D) := by unfold divRe divRe1 divRe2; split <;> exact bd_divA _ _
theorem bd_divIm (A B C D : Option Nat) : bdA (divIm A B C D) := by unfold divIm divIm1 divIm2; split <;> exact bd_divA _ _
theorem redZ_bd {a p : Nat → Cw} {k j : Nat} (h : okz (a j)) : bdA (redZ a p k j).1 ∧ bdA (redZ a p k j).2 := by
  unfold redZ
  split
  · exact ⟨(rep_ans h.1).bd, (rep_ans h.2).bd⟩
  · split
    · exact ⟨bd_divRe _ _ _ _, bd_divIm _ _ _ _⟩
    · exact ⟨bd_subA _ _, bd_subA _ _⟩
theorem toW_ok {Z : Cn} (h1 : bdA Z.1) (h2 : bdA Z.2) : okz (toW Z) := by
  have key : ∀ {o : Option Nat}, bdA o → o.getD 0 < 18446744073709551616 := by
    intro o h
    cases o with
    | none => decide
    | some x => exact (h x rfl).1
  exact ⟨key h1, key h2⟩
theorem toW_fin {Z : Cn} (h : finN Z = true) : finZ (toW Z) = true := by
  obtain ⟨a, b⟩ := Z
  unfold finN at h
  rw [Bool.and_eq_true] at h
  unfold finZ toW
  rw [Bool.and_eq_true]
  have key : ∀ {o : Option Nat}, finO o = true → finB (o.getD 0) = true := by
    intro o h
    cases o with
    | none => cases h
    | some x => exact h
  exact ⟨key h.1, key h.2⟩
theorem redM_ok {n k : Nat} {M : Nat → Nat → Cw} (h : okM n M) : okM n (redM M k) := by
  intro i j hi hj
  unfold redM
  split
  · exact h i j hi hj
  · exact toW_ok (redZ_bd (h i j hi hj)).1 (redZ_bd (h i j hi hj)).2
theorem redM_fin {n k : Nat} {M : Nat → Nat → Cw} (ho : okM n M) (h : finM n M) (hg : goodB n M k = true) : finM n (redM M k) := by
  intro i j hi hj
  unfold redM
  by_cases hk : i ≤ k
  · rw [if_pos hk]; exact h i j hi hj
  · rw [if_neg hk]
    refine toW_fin ?_
    by_cases hjk : k ≤ j
    · exact good_iff.1 hg i (by omega) hi j hjk hj
    · rw [redZ_lt (by omega), ← fin_repz (repz_anz (ho i j hi hj))]; exact h i j hi hj
/-- all that holds of what is eliminated so far -/
structure Eok (n : Nat) (S : Es) : Prop where
  ok : okM n S.M
  fin : finM n S.M
  pm : S.s = 1 ∨ S.s = -1
theorem stp_eok {n k : Nat} {S : Es} (h : Eok n S) (hk : k < n) (h0 : (stp n k S).1 = 0) : Eok n (stp n k S).2 := by
  by_cases h7 : (pvt n S.M k).2 = 0
  · rw [stp_7 h7] at h0; exact absurd (show (7 : Int) = 0 from h0) (by decide)
  · have hq := pvt_lt h7
    cases hg : goodB n (swM S.M k (k + (pvt n S.M k).1)) k
    · rw [stp_6 h7 hg] at h0; exact absurd (show (6 : Int) = 0 from h0) (by decide)
    · rw [stp_0 h7 hg]
      refine ⟨redM_ok (swM_ok h.ok hk hq), redM_fin (swM_ok h.ok hk hq) (swM_fin h.fin hk hq) hg, ?_⟩
      have := h.pm
      show (if (pvt n S.M k).1 = 0 then S.s else -S.s) = 1 ∨ (if (pvt n S.M k).1 = 0 then S.s else -S.s) = -1
      split <;> omega
theorem elm_succ {n k : Nat} {M0 : Nat → Nat → Cw} (h : (elm n M0 k).1.1 = 0) : elm n M0 (k + 1) = (((stp n k (elm n M0 k).2).1, if (stp n k (elm n M0 k).2).1 = 0 then 0 else k), (stp n k (elm n M0 k).2).2) := if_pos h
theorem elm_stay {n k : Nat} {M0 : Nat → Nat → Cw} (h : ¬ (elm n M0 k).1.1 = 0) : ∀ m, k ≤ m → elm n M0 m = elm n M0 k := by
  intro m hm
  induction m with
  | zero => rw [show k = 0 by omega]
  | succ m ih =>
    by_cases e : k = m + 1
    · rw [e]
    · have hi := ih (by omega)
      have : elm n M0 (m + 1) = elm n M0 m := if_neg (by rw [hi]; exact h)
      rw [this, hi]
theorem elm_prev {n k : Nat} {M0 : Nat → Nat → Cw} (h : (elm n M0 (k + 1)).1.1 = 0) : (elm n M0 k).1.1 = 0 := by
  by_cases h0 : (elm n M0 k).1.1 = 0
  · exact h0
  · rw [show elm n M0 (k + 1) = elm n M0 k from if_neg h0] at h
    exact h
theorem elm_eok {n : Nat} {M0 : Nat → Nat → Cw} (ho : okM n M0) (hf : finM n M0) : ∀ k, k ≤ n → (elm n M0 k).1.1 = 0 → Eok n (elm n M0 k).2 := by
  intro k
  induction k with
  | zero => intro _ _; exact ⟨ho, hf, .inl rfl⟩
  | succ k ih =>
    intro hk h
    have h0 := elm_prev h
    have e := ih (by omega) h0
    rw [elm_succ h0] at h ⊢
    exact stp_eok e (by omega) h
theorem Lo.base {w : World} {b b' p n gr go : Nat} {bl : Nat → Nat} {M : Nat → Nat → Cw} {o : Nat → Nat} {s : Int} (h : Lo w b p n gr go bl M o s) (hb : b' ≤ b) : Lo w b' p n gr go bl M o s :=
  ⟨h.v, own_base h.rows hb, fun i hi => rw_base (h.row i hi) hb, h.ord.base hb, Nat.le_trans hb h.ge, h.inj, h.ap, h.ap2⟩
theorem mb_sq {n : Nat} (hn : n ≤ 64) : mb n n (n * n) = true := decide_eq_true ⟨by omega, by omega, by omega, by omega, Int.natCast_mul n n⟩
set_option maxHeartbeats 4000000 in
theorem of_square (n : Nat) (A : Option Addr) (c : Nat) (xs : List Cw) (M : Nat → Nat → Cw) (w : World) (hn : n ≤ 64) (hlen : xs.length = n * n) (hcap : n * n ≤ c) (hc : Rc w A xs) (hx : okl xs) (hf : nff xs (n * n) = n * n) (hM : ∀ i j, i < n → j < n → M i j = zat xs (i * n + j)) :
    Calls Tryz.prog 102 #[.agg #[.int .i64 n, .int .i64 n, .slice A (n * n) c]] w fun e w' =>
      (¬ (elm n M n).1.1 = 0 → e = .returned (.tuple #[.pointer none, .agg #[.int .i64 (elm n M n).1.1, .int .i64 ((elm n M n).1.2 : Nat)]])) ∧
      ((elm n M n).1.1 = 0 → ∃ p gr go bl, e = .returned (.tuple #[.pointer (some ⟨p, 0, none⟩), .agg #[.int .i64 0, .int .i64 0]]) ∧ Lo w' w.heap.size p n gr go bl (elm n M n).2.M (elm n M n).2.o (elm n M n).2.s) ∧ Below w.heap.size w w' := by
  have h4 := le_4096 hn hn
  have hm := mb_sq hn
  have hfl := finL_iff.1 (nff_fin hf)
  have hokM : okM n M := fun i j hi hj => by rw [hM i j hi hj]; exact hx _
  have hfinM : finM n M := fun i j hi hj => by rw [hM i j hi hj]; exact hfl _ (place_lt hi hj)
  have EOK := hid_o (elm_eok hokM hfinM)
  have ES : Hid (∀ k, (elm n M k).1.1 = 0 → elm n M (k + 1) = (((stp n k (elm n M k).2).1, if (stp n k (elm n M k).2).1 = 0 then 0 else k), (stp n k (elm n M k).2).2)) := fun k h => elm_succ h
  have EY : Hid (∀ k, ¬ (elm n M k).1.1 = 0 → ∀ m, k ≤ m → elm n M m = elm n M k) := fun k h => elm_stay h
  have BG := hid_o (fun (W : World) (hW : Rc W A xs) => begun_any n c A xs M W hn hlen hcap hW hM)
  clear hfl hokM hfinM hM
  have HE0 : Hid (elm n M 0 = ((0, 0), ⟨M, fun i => i, 1⟩)) := rfl
  have NF0 := hid_o (fun (W : World) (l : Nat) (hl : xs.length = l) (h : l ≤ 4096) hW => nf_any A c l xs W hl h hW hx)
  obtain ⟨l, hle⟩ : ∃ l, l = n * n := ⟨_, rfl⟩
  rw [← hle] at h4 hm hlen hf hcap BG ⊢
  have hl : l ≤ 1000000000000000 := by omega
  have NF := hid_o (fun W hW => NF0.out W l hlen h4 hW)
  rw [hf] at NF
  have HC := hid_o hc
  clear hle hc NF0 hx hf
  have V0 : V3 w.heap.size (.int .i64 n) (.int .i64 n) (.slice A l c) (w.alloc (.cells #[.int .i64 n, .int .i64 n, .slice A l c] 120)) := v3_new w _ _ _ _
  have V1 := V0.below (bal _ (.cells #[.int .i64 0, .int .i64 0] 69))
  have U1 := v2_new (w.alloc (.cells #[.int .i64 n, .int .i64 n, .slice A l c] 120)) (.int .i64 0) (.int .i64 0) 69
  have B1 : Below w.heap.size w ((w.alloc (.cells #[.int .i64 n, .int .i64 n, .slice A l c] 120)).alloc (.cells #[.int .i64 0, .int .i64 0] 69)) := (bal _ _).alloc (by simp) _
  have c0 := V1.c0
  have c1 := V1.c1
  have HV := hid_o V1
  have HU := hid_o U1
  have HB := hid_o B1
  clear V0 V1 U1 B1
  go_enter Tryz.func102, Tryz.ntmps102
  go_wp2_with (first
    | (go_at_call 126; (with_reducible refine (mcheck _ _ _ _ _ _ hl).mono ?_); rintro e w1 ⟨rfl, hb⟩; (rw [hm]); (have U2 := HU.out.below hb); (have q0 := U2.c0); (have q1 := U2.c1); (have q2 := U2.f0); (have q3 := U2.f1); (have ql := U2.lt); (have V2 := HV.out.below hb); (have p0 := V2.c0); (have p1 := V2.c1); (have p2 := V2.c2); (have HB2 := hid_o (HB.out.trans (hb.mono HB.out.size))); (have HU2 := hid_o U2); (have HV2 := hid_o V2); clear hb U2 V2; simp only [size_al] at q0 q1 q2 q3 ql HU2)
    | (go_at_call 137; (with_reducible refine (NF.out _ (HC.out.below HB2.out)).mono ?_); rintro e w2 ⟨rfl, hw2⟩; subst w2)
    | (go_at_call 138; (with_reducible refine (BG.out _ (HC.out.below HB2.out)).mono ?_); rintro e w3 ⟨p, gr, go, bl, rfl, hLo, hb3⟩; (have v0 := hLo.v.c0); (have hpl := hLo.v.lt); (have HLO := hid_o hLo); (have HU3 := hid_o (HU2.out.later hb3 ql)); (have HB3 := hid_o (HB2.out.trans (hb3.mono HB2.out.size))); (have HGE := hid_o HB2.out.size); clear hLo hb3))
  go_loopw [36] (fun kv wr => ∃ (k : Nat) (bl : Nat → Nat), k ≤ n ∧ kv = .int .i64 k ∧ (elm n M k).1.1 = 0 ∧ Lo wr w1.heap.size p n gr go bl (elm n M k).2.M (elm n M k).2.o (elm n M k).2.s ∧ V2 (w.heap.size + 1) (.int .i64 0) (.int .i64 0) wr ∧ Below w.heap.size w wr ∧ w1.heap.size ≤ wr.heap.size) (fun kv _ => n - (intOf kv).toNat)
  case atStart => exact ⟨0, bl, Nat.zero_le _, rfl, rfl, HLO.out, HU3.out, HB3.out, Nat.le_trans (Nat.le_of_lt (Nat.lt_of_le_of_lt HLO.out.ge HLO.out.v.lt)) (Nat.le_refl _)⟩
  case round =>
    clear HLO HU3 HB3 v0 hpl q0 q1 q2 q3 p0 p1 p2 HU2 HV2
    obtain ⟨k, bl, hkn, rfl, h0, hLo, hU, hbel, hge⟩ := hrel
    by_cases hlt : k < n
    · have hE := EOK.out k hkn h0
      have EL := hid_o (elim_any _ _ _ _ _ _ _ _ _ k _ hn hlt hE.pm hge hLo hE.ok hE.fin)
      have hS := ES.out k h0
      have HH0 := hid_o h0
      obtain ⟨T, hT⟩ : ∃ T, T = stp n k (elm n M k).2 := ⟨_, rfl⟩
      have EL2 : Hid (Calls Tryz.prog 139 #[.pointer (some ⟨p, 0, none⟩), .int .i64 k] wr fun e w' => e = .returned (.int .i64 T.1) ∧ (T.1 = 0 → ∃ bl', Lo w' w1.heap.size p n gr go bl' T.2.M T.2.o T.2.s) ∧ Below w1.heap.size wr w') := by rw [hT]; exact EL.out
      rw [← hT] at hS
      have HS := hid_o hS
      have HU := hid_o hU
      have HBE := hid_o hbel
      have HGE2 := hid_o hge
      clear EL hT hS hE h0 hLo hU hbel hge
      by_cases hT0 : T.1 = 0
      · rw [hT0] at EL2 HS
        go_wp2_with (go_at_call 139; (with_reducible refine EL2.out.mono ?_); rintro e w4 ⟨rfl, hb4, hb5⟩; have HL4 := hid_o (hb4 (by first | rfl | trivial)); have HB5 := hid_o hb5; clear hb4 hb5)
        go_roundw
        case measure => simp [intOf]; omega
        case rel =>
          obtain ⟨bl', hL'⟩ := HL4.out
          refine ⟨k + 1, bl', by omega, by go_num, by rw [HS.out], by rw [HS.out]; exact hL', HU.out.later HB5.out ql, HBE.out.trans (HB5.out.mono HGE.out), Nat.le_trans HGE2.out HB5.out.size⟩
      · have q0 := HU.out.c0
        have q1 := HU.out.c1
        have q2 := HU.out.f0
        have q3 := HU.out.f1
        have FIN : Hid (elm n M n = ((T.1, k), T.2)) := by
          have h1 : elm n M (k + 1) = ((T.1, k), T.2) := by rw [HS.out, if_neg hT0]
          have h2 := EY.out (k + 1) (by rw [h1]; exact hT0) n (by omega)
          show elm n M n = _
          rw [h2, h1]
        obtain ⟨E0, hE0⟩ : ∃ E0, E0 = T.1 := ⟨_, rfl⟩
        rw [← hE0] at EL2 FIN hT0
        clear hE0
        go_wp2_with (go_at_call 139; (with_reducible refine EL2.out.mono ?_); rintro e w4 ⟨rfl, _, hb5⟩; (have U4 := HU.out.later hb5 ql); (have q0 := U4.c0); (have q1 := U4.c1); (have q2 := U4.f0); (have q3 := U4.f1); (have ql4 := U4.lt); (have HU4 := hid_o U4); have HB5 := hid_o hb5; clear hb5 U4)
        have rr := HU4.out.reads
        refine bodyPost_ret (by simp [results, Tryz.results102, go_sem, rr.1, rr.2]; try rfl) rfl ?_
        refine ⟨fun _ => by rw [FIN.out], fun e => absurd e (by rw [FIN.out]; exact hT0), below_set2 (HBE.out.trans (HB5.out.mono HGE.out)) (by omega) _ _⟩
    · have e : k = n := by omega
      subst e
      have q0 := hU.c0
      have q1 := hU.c1
      have q2 := hU.f0
      have q3 := hU.f1
      have ql2 := hU.lt
      have HU := hid_o hU
      have HLO := hid_o hLo
      have HH0 := hid_o h0
      have HBE := hid_o hbel
      clear hU hLo h0 hbel EOK ES EY BG HE0
      go_wp2
      have rr := HU.out.reads
      refine bodyPost_ret (by simp [results, Tryz.results102, go_sem, rr.1, rr.2]; try rfl) rfl ?_
      refine ⟨fun h => absurd HH0.out h, fun _ => ⟨p, gr, go, bl, rfl, ?_⟩, below_set2 HBE.out (by omega) _ _⟩
      exact (HLO.out.at (by simp) (fun g hg _ => by rw [Below.heap_setCell _ _ _ _ (by show g ≠ w.heap.size + 1; omega), Below.heap_setCell _ _ _ _ (by show g ≠ w.heap.size + 1; omega)])).base (by omega)

end Go.Proofs.YtmpkcioeodlbcaaGreatDoor
