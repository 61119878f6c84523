/-
  Several texts in one: Sld Slf.
-/
import Derived.Test.YtmpkcioeodlbcaaGreatDoorK46
import Derived.Test.YtmpkcioeodlbcaaGreatDoorK34
namespace Go.Proofs.YtmpkcioeodlbcaaGreatDoor
open Fl RowKit
/-- a Lower that is held, or none (n, s are 0 then) -/
structure Lhd (w : World) (v : Value) (n : Nat) (M : Nat → Nat → Cw) (o : Nat → Nat) (s : Int) : Prop where
  ex : ∃ A c B d, Hs w v A n c B n d s ∧ Rws w A n M ∧ Qi w B (ri n o)
theorem Lhd.below {w w' : World} {v : Value} {n : Nat} {M : Nat → Nat → Cw} {o : Nat → Nat} {s : Int} (h : Lhd w v n M o s) (hb : Below w.heap.size w w') : Lhd w' v n M o s := by
  obtain ⟨A, c, B, d, h1, h2, h3⟩ := h.ex
  exact ⟨A, c, B, d, h1.below hb, h2.below hb, h3.below hb⟩
section held
variable {w : World} {v : Value} {n : Nat} {M : Nat → Nat → Cw} {o : Nat → Nat} {s : Int} (h : Lhd w v n M o s)
include h
theorem lh_size : Calls Tryz.prog 125 #[v] w fun e w' => e = .returned (.int .i64 n) ∧ Below w.heap.size w w' := by
  obtain ⟨A, c, B, d, h1, _, _⟩ := h.ex
  exact lsize_any h1
theorem lh_sign : Calls Tryz.prog 124 #[v] w fun e w' => e = .returned (.int .i64 s) ∧ Below w.heap.size w w' := by
  obtain ⟨A, c, B, d, h1, _, _⟩ := h.ex
  exact lsign_any h1
theorem lh_order (hn : n ≤ 64) : Calls Tryz.prog 142 #[v] w fun e w' => ∃ g, e = .returned (.slice (some ⟨g, 0, none⟩) n n) ∧ Ir w' w.heap.size (.slice (some ⟨g, 0, none⟩) n n) n (ri n o) ∧ Below w.heap.size w w' := by
  obtain ⟨A, c, B, d, h1, _, h3⟩ := h.ex
  exact lorder_any (ri n o) (ri_len _ _) (by omega) h1 h3
theorem lh_l (hn : n ≤ 64) : Calls Tryz.prog 143 #[v] w fun e w' => ∃ g, e = .returned (.agg #[.int .i64 n, .int .i64 n, .slice (some ⟨g, 0, none⟩) (n * n) (n * n)]) ∧ Rw w' w.heap.size (.slice (some ⟨g, 0, none⟩) (n * n) (n * n)) (n * n) (ro (n * n) (flw n (lE M))) ∧ Below w.heap.size w w' := by
  obtain ⟨A, c, B, d, h1, h2, _⟩ := h.ex
  exact l_any hn h1 h2
theorem lh_u (hn : n ≤ 64) : Calls Tryz.prog 144 #[v] w fun e w' => ∃ g, e = .returned (.agg #[.int .i64 n, .int .i64 n, .slice (some ⟨g, 0, none⟩) (n * n) (n * n)]) ∧ Rw w' w.heap.size (.slice (some ⟨g, 0, none⟩) (n * n) (n * n)) (n * n) (ro (n * n) (flw n (uE M))) ∧ Below w.heap.size w w' := by
  obtain ⟨A, c, B, d, h1, h2, _⟩ := h.ex
  exact u_any hn h1 h2
theorem isnone_any (N : Bool) (hN : N = decide (s = 0)) : Calls Tryz.prog 183 #[v] w fun e w' => e = .returned (.bool N) ∧ Below w.heap.size w w' := by
  have HH := hid_o h
  have HN := hid_o hN
  clear h hN
  go_enter Tryz.func183, Tryz.ntmps183
  go_wp2_with (go_at_call 124; (with_reducible refine (lh_sign HH.out).mono ?_); rintro e w1 ⟨rfl, hb⟩; have HB := hid_o hb; clear hb)
  go_ret
  refine ⟨?_, HB.out⟩
  rw [HN.out]
  first | rfl | (congr 2; rw [Bool.eq_iff_iff]; simp)
/-- the code of what is wrong with a Lower and a right side -/
def rfS (n : Nat) (s : Int) (l : Nat) (xs : List Cw) : Int := if s = 0 then 1 else if l ≠ n then 4 else if finL xs l = true then 0 else 5
set_option maxHeartbeats 1000000 in
theorem refused_any' (ao : Option Addr) (l cap : Nat) (xs : List Cw) (hl : xs.length = l) (hsz : l ≤ 1000000000000000) (hn : n ≤ 64) (hc : Rc w ao xs) (hx : okl xs) :
    Calls Tryz.prog 140 #[v, .slice ao l cap] w fun e w' => e = .returned (.int .i64 (rfS n s l xs)) ∧ Below w.heap.size w w' := by
  have HH := hid_o h
  have HC := hid_o hc
  have HX := hid_o hx
  have HL := hid_o hl
  clear h hc hx hl
  unfold rfS
  by_cases h0 : s = 0
  · rw [if_pos h0]
    have HN : Hid (true = decide (s = 0)) := (decide_eq_true h0).symm
    clear h0
    go_enter Tryz.func140, Tryz.ntmps140
    go_wp2_with (go_at_call 183; (with_reducible refine (isnone_any HH.out true HN.out).mono ?_); rintro e w1 ⟨rfl, hb⟩; have HB := hid_o hb; clear hb)
    go_ret
    exact ⟨rfl, HB.out⟩
  · rw [if_neg h0]
    have HN : Hid (false = decide (s = 0)) := (decide_eq_false h0).symm
    clear h0
    by_cases h1 : l = n
    · rw [if_neg (by omega)]
      subst h1
      cases hf : finL xs l
      · rw [if_neg (by simp)]
        have HF := hid_o hf
        clear hf
        go_enter Tryz.func140, Tryz.ntmps140
        go_wp2_with (first
          | (go_at_call 183; (with_reducible refine (isnone_any HH.out false HN.out).mono ?_); rintro e w1 ⟨rfl, hb⟩; have HB := hid_o hb; clear hb)
          | (go_at_call 125; (with_reducible refine (lh_size (HH.out.below HB.out)).mono ?_); rintro e w2 ⟨rfl, hb⟩; have HB2 := hid_o (HB.out.trans (hb.mono HB.out.size)); clear hb)
          | (go_at_call 184; (with_reducible refine (allfin_any _ _ _ xs _ HL.out hsz (HC.out.below HB2.out) HX.out).mono ?_); rintro e w3 ⟨rfl, rfl⟩; rw [HF.out]))
        go_ret
        exact ⟨rfl, HB2.out⟩
      · rw [if_pos rfl]
        have HF := hid_o hf
        clear hf
        go_enter Tryz.func140, Tryz.ntmps140
        go_wp2_with (first
          | (go_at_call 183; (with_reducible refine (isnone_any HH.out false HN.out).mono ?_); rintro e w1 ⟨rfl, hb⟩; have HB := hid_o hb; clear hb)
          | (go_at_call 125; (with_reducible refine (lh_size (HH.out.below HB.out)).mono ?_); rintro e w2 ⟨rfl, hb⟩; have HB2 := hid_o (HB.out.trans (hb.mono HB.out.size)); clear hb)
          | (go_at_call 184; (with_reducible refine (allfin_any _ _ _ xs _ HL.out hsz (HC.out.below HB2.out) HX.out).mono ?_); rintro e w3 ⟨rfl, rfl⟩; rw [HF.out]))
        go_ret
        exact ⟨rfl, HB2.out⟩
    · rw [if_pos h1]
      have h1' : ¬ (l : Int) = (n : Int) := by omega
      go_enter Tryz.func140, Tryz.ntmps140
      go_wp2_with (first
        | (go_at_call 183; (with_reducible refine (isnone_any HH.out false HN.out).mono ?_); rintro e w1 ⟨rfl, hb⟩; have HB := hid_o hb; clear hb)
        | (go_at_call 125; (with_reducible refine (lh_size (HH.out.below HB.out)).mono ?_); rintro e w2 ⟨rfl, hb⟩; have HB2 := hid_o (HB.out.trans (hb.mono HB.out.size)); clear hb))
      go_ret
      exact ⟨rfl, HB2.out⟩
end held
end Go.Proofs.YtmpkcioeodlbcaaGreatDoor
namespace Go.Proofs.YtmpkcioeodlbcaaGreatDoor
open Fl RowKit
def finS (f : Nat → Cn) : Nat → Bool
  | 0 => true
  | k + 1 => finS f k && finN (f k)
theorem finL_S {n : Nat} {f : Nat → Cn} {y : Nat → Cw} (h : ∀ j, j < n → repz (f j) (y j)) : ∀ m, m ≤ n → finL (ro n y) m = finS f m := by
  intro m
  induction m with
  | zero => intro _; rfl
  | succ m ih =>
    intro hm
    show (finL (ro n y) m && finZ (zat (ro n y) m)) = (finS f m && finN (f m))
    rw [ih (by omega), ro_at _ (by omega), fin_repz (h m (by omega))]
/-- forward, then backward -/
def frw (n : Nat) (mL : Nat → Nat → Cn) (c : Nat → Cn) : Nat → Cn := fwS mL fstZ c n
def bck (n : Nat) (mU : Nat → Nat → Cn) (y : Nat → Cn) : Nat → Cn := bwS n mU divZ y n
def slS (n : Nat) (mL mU : Nat → Nat → Cn) (c : Nat → Cn) : Nat → Cn := bck n mU (frw n mL c)
def okS (n : Nat) (mL mU : Nat → Nat → Cn) (c : Nat → Cn) : Bool := finS (frw n mL c) n && finS (slS n mL mU c) n
/-- what is handed back: the unknowns, or the error -/
def Got (w w' : World) (n : Nat) (ok : Bool) (x : Nat → Cn) (v : Value) (E : Int) : Prop :=
  (ok = true ∧ E = 0 ∧ ∃ g y, v = .slice (some ⟨g, 0, none⟩) n n ∧ (∀ j, j < n → repz (x j) (y j)) ∧ Rw w' w.heap.size (.slice (some ⟨g, 0, none⟩) n n) n (ro n y)) ∨ (ok = false ∧ E = 6 ∧ v = .slice none 0 0)
set_option maxHeartbeats 4000000 in
theorem unknowns_any {n cb co : Nat} {AO AL AU AB : Option Addr} {o : Nat → Nat} {EL EU bw : Nat → Cw} {w : World} (hn : n ≤ 64) (ho : ∀ i, i < n → o i < n) (hO : Qi w AO (ri n o)) (hL : Rc w AL (ro (n * n) EL)) (hLo : ∀ k, k < n * n → okz (EL k)) (hU : Rc w AU (ro (n * n) EU)) (hUo : ∀ k, k < n * n → okz (EU k)) (hB : Rc w AB (ro n bw)) (hBo : ∀ k, k < n → okz (bw k)) :
    Calls Tryz.prog 141 #[.slice AO n co, .agg #[.int .i64 n, .int .i64 n, .slice AL (n * n) (n * n)], .agg #[.int .i64 n, .int .i64 n, .slice AU (n * n) (n * n)], .slice AB n cb] w fun e w' => ∃ v E, e = .returned (.tuple #[v, .int .i64 E]) ∧ Got w w' n (okS n (mz n EL) (mz n EU) (fun i => anz (bw (o i)))) (slS n (mz n EL) (mz n EU) (fun i => anz (bw (o i)))) v E ∧ Below w.heap.size w w' := by
  obtain ⟨i0, hi, hz0, hz1, hz2⟩ := info_parts Tryz.infoC
  obtain ⟨N, hne⟩ : ∃ N, N = n * n := ⟨_, rfl⟩
  have HL : Hid (Rcb w.heap.size w AL (ro (n * n) EL)) := hL.rcb
  have HU : Hid (Rcb w.heap.size w AU (ro (n * n) EU)) := hU.rcb
  have HLo := hid_o hLo
  have HUo := hid_o hUo
  have HB := hid_o hB
  have HBo := hid_o hBo
  have HO := hid_o hO
  have HOo := hid_o ho
  have HNE := hid_o hne
  have FW := hid_o (fun (b g : Nat) (y0 : Nat → Cw) (f0 : Nat → Cn) (W : World) => forward_any 186 fstZ (b := b) (g := g) (c := n) (n := n) (ca := n * n) (A := AL) (E := EL) (y0 := y0) (f0 := f0) (w := W) ent_und says_und hn (Nat.le_refl _))
  have BW := hid_o (fun (b g : Nat) (y0 : Nat → Cw) (f0 : Nat → Cn) (W : World) => backward_any 188 divZ (b := b) (g := g) (n := n) (A := AU) (E := EU) (y0 := y0) (f0 := f0) (w := W) ent_div says_div hn)
  rw [← hne] at FW BW HL HU HLo HUo ⊢
  clear hL hU hB hO hLo hUo hBo ho hne
  go_enter Tryz.func141, Tryz.ntmps141
  go_wp2_with (at_make; refine wpList_make_full _ rfl _ _ 32 rfl _ 39 i0 (.complex .f64 0 0) 1 Tryz.underlying32 hi hz0 hz1 _ _ _ _ n rfl rfl rfl rfl (by rw [hz2]; omega) (by unfold maxLen; omega) (Nat.le_refl _) ?_; intro w2 hown hgrow)
  have hs2 : ((w.alloc (Obj.cells #[Value.int IntKind.i64 ↑n, Value.int IntKind.i64 ↑n, Value.slice AL N N] 120)).alloc (Obj.cells #[Value.int IntKind.i64 ↑n, Value.int IntKind.i64 ↑n, Value.slice AU N N] 120)).heap.size = w.heap.size + 1 + 1 := by simp
  have BB0 : Below ((w.alloc (Obj.cells #[Value.int IntKind.i64 ↑n, Value.int IntKind.i64 ↑n, Value.slice AL N N] 120)).alloc (Obj.cells #[Value.int IntKind.i64 ↑n, Value.int IntKind.i64 ↑n, Value.slice AU N N] 120)).heap.size _ w2 := (Below.refl _ _).grown hgrow (Nat.le_refl _) (by intro k hk; simp at hk)
  have V1 : Hid (V3 w.heap.size (.int .i64 n) (.int .i64 n) (.slice AL N N) w2) := ((v3_new w _ _ _ _).below (bal _ _)).below BB0
  have V2 : Hid (V3 (w.heap.size + 1) (.int .i64 n) (.int .i64 n) (.slice AU N N) w2) := (v3_at _ _ _ _ _ (by simp)).below BB0
  have HB2 : Hid (Below w.heap.size w w2) := ((bal _ _).trans ((bal _ _).mono (by simp))).trans (BB0.mono (by rw [hs2]; omega))
  rw [made_zeroC, ro_zero, hs2] at hown
  have RW : Hid (Rw w2 (w.heap.size + 1 + 1) (.slice (some ⟨w.heap.size + 1 + 1, 0, none⟩) n n) n (ro n (fun _ => (0, 0)))) := ⟨ro_len _ _, hown⟩
  clear hown hgrow BB0 hs2
  obtain ⟨g, hg⟩ : ∃ g, g = w.heap.size + 1 + 1 := ⟨_, rfl⟩
  rw [← hg] at RW ⊢
  have HG := hid_o hg
  clear hg
  go_loopw [18] (fun iv wr => ∃ (i : Nat) (y : Nat → Cw), i ≤ n ∧ iv = .int .i64 i ∧ (∀ j, j < i → y j = bw (o j)) ∧ Rw wr g (.slice (some ⟨g, 0, none⟩) n n) n (ro n y) ∧ V3 w.heap.size (.int .i64 n) (.int .i64 n) (.slice AL N N) wr ∧ V3 (w.heap.size + 1) (.int .i64 n) (.int .i64 n) (.slice AU N N) wr ∧ Below w.heap.size w wr) (fun iv _ => n - (intOf iv).toNat)
  case atStart => exact ⟨0, _, Nat.zero_le _, rfl, fun j hj => absurd hj (by omega), RW.out, V1.out, V2.out, HB2.out⟩
  case round =>
    clear RW V1 V2 HB2
    obtain ⟨i, y, hin, rfl, hy, hrw, hV1, hV2, hbel⟩ := hrel
    by_cases hlt : i < n
    · obtain ⟨b1, o1, rfl, hb1, hc1⟩ := (HO.out.below hbel) i (by rw [ri_len]; exact hlt)
      have hoi := HOo.out i hlt
      rw [ri_at _ hlt] at hc1
      obtain ⟨b2, o2, rfl, hb2, hc2⟩ := (HB.out.below hbel) (o i) (by rw [ro_len]; exact hoi)
      rw [ro_at _ hoi] at hc2
      obtain ⟨r, hr⟩ : ∃ r, r = o i := ⟨_, rfl⟩
      rw [← hr] at hc1 hc2 hoi
      obtain ⟨x, hx⟩ : ∃ x, x = bw r := ⟨_, rfl⟩
      rw [← hx] at hc2
      have d1 := rw_cell hrw hlt
      have fz := hrw.own.frozenAt i
      have HX : Hid (x = bw (o i)) := by rw [← hr]; exact hx
      have HY := hid_o hy
      have HRW := hid_o hrw
      have HV1 := hid_o hV1
      have HV2 := hid_o hV2
      have HBE := hid_o hbel
      unfold cx at hc2 d1
      clear hr hx hy hrw hV1 hV2 hbel HO HB HL HU HLo HUo FW BW HBo HOo
      go_wp2
      go_roundw
      case measure => simp [intOf]; omega
      case rel =>
        refine ⟨i + 1, upz y i x, by omega, by go_num, fun j hj => ?_, rw_set HRW.out i x, HV1.out.other (q := ⟨g, i, none⟩) (by have := HG.out; show g ≠ w.heap.size; omega) _, HV2.out.other (q := ⟨g, i, none⟩) (by have := HG.out; show g ≠ w.heap.size + 1; omega) _, HBE.out.setCell (p := ⟨g, i, none⟩) (by have := HG.out; show w.heap.size ≤ g; omega) _⟩
        by_cases e : j = i
        · subst e; rw [upz_self]; exact HX.out
        · rw [upz_ne _ _ e]; exact HY.out j (by omega)
    · have e : i = n := by omega
      subst e
      have hy0 : ∀ j, j < i → repz ((fun i => anz (bw (o i))) j) (y j) := fun j hj => by rw [hy j hj]; exact repz_anz (HBo.out _ (HOo.out j hj))
      have HGE : w.heap.size ≤ g := by have := HG.out; omega
      have HGEh := hid_o HGE
      have HLg : Hid (∀ B off, 0 < i → AL = some ⟨B, off, none⟩ → B ≠ g) := fun B off h0 e => by
        obtain ⟨B', off', e1, e2, _⟩ := HL.out 0 (by rw [ro_len, HNE.out]; exact Nat.mul_pos h0 h0)
        rw [e] at e1
        cases e1
        have := HG.out
        omega
      have HUg : Hid (∀ B off, 0 < i → AU = some ⟨B, off, none⟩ → B ≠ g) := fun B off h0 e => by
        obtain ⟨B', off', e1, e2, _⟩ := HU.out 0 (by rw [ro_len, HNE.out]; exact Nat.mul_pos h0 h0)
        rw [e] at e1
        cases e1
        have := HG.out
        omega
      have HF := hid_o (FW.out g g y (fun i => anz (bw (o i))) wr ((HL.out.later hbel).rc hbel.size) HLg.out HLo.out hrw (Nat.le_refl _) hy0)
      obtain ⟨_, p0, p1, p2, _, _, _⟩ := hV1
      have HV2 := hid_o hV2
      have HBE := hid_o hbel
      have HG2 := hid_o (show w.heap.size + 1 < g by have := HG.out; omega)
      have hw1 : w.heap.size < wr.heap.size := by have := hV2.lt; omega
      have hgl := hrw.lt.2
      clear hy0 hy hrw hV2 hbel HGE HO HB HBo HOo FW HL HLo
      cases hA : finS (frw i (mz i EL) (fun k => anz (bw (o k)))) i
      · have HA := hid_o hA
        clear hA HU HUo BW
        go_wp2_with (go_at_call 185; (with_reducible refine HF.out.mono ?_); rintro e w3 ⟨y1, rfl, hy1, hr1, hb3⟩; have HB3 := hid_o (HBE.out.trans (hb3.mono HGEh.out)); have e3 := (finL_S hy1 i (Nat.le_refl _)).trans HA.out; rw [e3]; clear hy1 hr1 hb3 e3)
        refine bodyPost_ret (by simp [results, Tryz.results141, go_sem]; try rfl) rfl ?_
        refine ⟨_, _, rfl, .inr ⟨?_, rfl, rfl⟩, HB3.out⟩
        show (finS (frw i (mz i EL) (fun k => anz (bw (o k)))) i && _) = false
        rw [HA.out]; rfl
      · have HA := hid_o hA
        clear hA
        cases hC : finS (slS i (mz i EL) (mz i EU) (fun k => anz (bw (o k)))) i
        · have HC := hid_o hC
          clear hC
          go_wp2_with (first
            | (go_at_call 185; (with_reducible refine HF.out.mono ?_); rintro e w3 ⟨y1, rfl, hy1, hr1, hb3⟩; have HB3 := hid_o (HBE.out.trans (hb3.mono HGEh.out)); have e3 := (finL_S hy1 i (Nat.le_refl _)).trans HA.out; rw [e3]; have HFB := hid_o (BW.out g g y1 _ w3 ((HU.out.later HB3.out).rc HB3.out.size) HUg.out HUo.out hr1 hy1); obtain ⟨qlt, q0, q1, q2, _, _, _⟩ := HV2.out.later hb3 HG2.out; clear hy1 hr1 hb3 e3)
            | (go_at_call 187; (with_reducible refine HFB.out.mono ?_); rintro e w4 ⟨y2, rfl, hy2, hr2, hb4⟩; have HB4 := hid_o (HB3.out.trans (hb4.mono HGEh.out)); have e4 := (finL_S hy2 i (Nat.le_refl _)).trans HC.out; rw [e4]; clear hy2 hr2 hb4 e4))
          refine bodyPost_ret (by simp [results, Tryz.results141, go_sem]; try rfl) rfl ?_
          refine ⟨_, _, rfl, .inr ⟨?_, rfl, rfl⟩, HB4.out⟩
          show (finS (frw i (mz i EL) (fun k => anz (bw (o k)))) i && finS (slS i (mz i EL) (mz i EU) (fun k => anz (bw (o k)))) i) = false
          rw [HA.out, HC.out]; rfl
        · have HC := hid_o hC
          clear hC
          go_wp2_with (first
            | (go_at_call 185; (with_reducible refine HF.out.mono ?_); rintro e w3 ⟨y1, rfl, hy1, hr1, hb3⟩; have HB3 := hid_o (HBE.out.trans (hb3.mono HGEh.out)); have e3 := (finL_S hy1 i (Nat.le_refl _)).trans HA.out; rw [e3]; have HFB := hid_o (BW.out g g y1 _ w3 ((HU.out.later HB3.out).rc HB3.out.size) HUg.out HUo.out hr1 hy1); obtain ⟨qlt, q0, q1, q2, _, _, _⟩ := HV2.out.later hb3 HG2.out; clear hy1 hr1 hb3 e3)
            | (go_at_call 187; (with_reducible refine HFB.out.mono ?_); rintro e w4 ⟨y2, rfl, hy2, hr2, hb4⟩; have HB4 := hid_o (HB3.out.trans (hb4.mono HGEh.out)); have e4 := (finL_S hy2 i (Nat.le_refl _)).trans HC.out; rw [e4]; have HY2 := hid_o hy2; have HR2 := hid_o hr2; clear hy2 hr2 hb4 e4))
          refine bodyPost_ret (by simp [results, Tryz.results141, go_sem]; try rfl) rfl ?_
          refine ⟨_, _, rfl, .inl ⟨?_, rfl, g, y2, rfl, HY2.out, ⟨HR2.out.len, own_base HR2.out.own HGEh.out⟩⟩, HB4.out⟩
          show (finS (frw i (mz i EL) (fun k => anz (bw (o k)))) i && finS (slS i (mz i EL) (mz i EU) (fun k => anz (bw (o k)))) i) = true
          rw [HA.out, HC.out]; rfl

end Go.Proofs.YtmpkcioeodlbcaaGreatDoor
