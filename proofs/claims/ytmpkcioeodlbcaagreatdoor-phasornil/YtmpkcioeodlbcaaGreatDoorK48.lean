/-
  Several texts in one: Lwh Lmb.
-/
import Derived.Test.YtmpkcioeodlbcaaGreatDoorK45
import Derived.Test.YtmpkcioeodlbcaaGreatDoorK34
import Derived.Test.YtmpkcioeodlbcaaGreatDoorK20
namespace Go.Proofs.YtmpkcioeodlbcaaGreatDoor
open Fl RowKit
/-- a struct of two cells that may be written -/
structure V2 (p : Nat) (a b : Value) (w : World) : Prop where
  lt : p < w.heap.size
  c0 : w.cell? ⟨p, 0, none⟩ = some a
  c1 : w.cell? ⟨p, 1, none⟩ = some b
  f0 : w.frozen? ⟨p, 0, none⟩ = false
  f1 : w.frozen? ⟨p, 1, none⟩ = false
theorem V2.later {p n : Nat} {a b : Value} {w w' : World} (h : V2 p a b w) (hb : Below n w w') (hn : p < n) : V2 p a b w' :=
  ⟨Nat.lt_of_lt_of_le h.lt hb.size, (hb.cell hn).trans h.c0, (hb.cell hn).trans h.c1, (hb.frozen hn).trans h.f0, (hb.frozen hn).trans h.f1⟩
theorem V2.below {p : Nat} {a b : Value} {w w' : World} (h : V2 p a b w) (hb : Below w.heap.size w w') : V2 p a b w' := h.later hb h.lt
theorem V2.drewN {p : Nat} {a b : Value} {w : World} (h : V2 p a b w) (n : Nat) : V2 p a b (w.drewN n) := ⟨h.lt, h.c0, h.c1, h.f0, h.f1⟩
theorem v2_new (w : World) (a b : Value) (t : TypeId) : V2 w.heap.size a b (w.alloc (.cells #[a, b] t)) :=
  ⟨by simp, World.cell?_alloc_new w _ _ 0, World.cell?_alloc_new w _ _ 1, by simp, by simp⟩
theorem V2.reads {p : Nat} {x y : Value} {w : World} (h : V2 p x y w) : (∀ a, (w.setCell ⟨p, 0, none⟩ a).cell? ⟨p, 0, none⟩ = some a) ∧ (∀ a b, ((w.setCell ⟨p, 0, none⟩ a).setCell ⟨p, 1, none⟩ b).cell? ⟨p, 1, none⟩ = some b) := by
  refine ⟨fun a => World.cell?_setCell_same _ _ _ h.c0, fun a b => World.cell?_setCell_same _ _ _ (u := y) ?_⟩
  rw [other_cell _ (by simp)]; exact h.c1
theorem below_set2 {n p : Nat} {w w' : World} (h : Below n w w') (hp : n ≤ p) (a b : Value) : Below n w ((w'.setCell ⟨p, 0, none⟩ a).setCell ⟨p, 1, none⟩ b) :=
  (h.setCell (p := ⟨p, 0, none⟩) hp _).setCell (p := ⟨p, 1, none⟩) hp _

theorem bd_divRe (A B C D : Option Nat) : bdA (divRe A B C D) := by unfold divRe divRe1 divRe2; split <;> exact bd_divA _ _
theorem bd_divIm (A B C D : Option Nat) : bdA (divIm A B C D) := by unfold divIm divIm1 divIm2; split <;> exact bd_divA _ _
theorem redZ_bd {a p : Nat → Cw} {k j : Nat} (h : okz (a j)) : bdA (redZ a p k j).1 ∧ bdA (redZ a p k j).2 := by
  unfold redZ
  split
  · exact ⟨(rep_ans h.1).bd, (rep_ans h.2).bd⟩
  · split
    · exact ⟨bd_divRe _ _ _ _, bd_divIm _ _ _ _⟩
    · exact ⟨bd_subA _ _, bd_subA _ _⟩
theorem toW_ok {Z : Cn} (h1 : bdA Z.1) (h2 : bdA Z.2) : okz (toW Z) := by
  have key : ∀ {o : Option Nat}, bdA o → o.getD 0 < 18446744073709551616 := by
    intro o h
    cases o with
    | none => decide
    | some x => exact (h x rfl).1
  exact ⟨key h1, key h2⟩
theorem toW_fin {Z : Cn} (h : finN Z = true) : finZ (toW Z) = true := by
  obtain ⟨a, b⟩ := Z
  unfold finN at h
  rw [Bool.and_eq_true] at h
  unfold finZ toW
  rw [Bool.and_eq_true]
  have key : ∀ {o : Option Nat}, finO o = true → finB (o.getD 0) = true := by
    intro o h
    cases o with
    | none => cases h
    | some x => exact h
  exact ⟨key h.1, key h.2⟩
theorem redM_ok {n k : Nat} {M : Nat → Nat → Cw} (h : okM n M) : okM n (redM M k) := by
  intro i j hi hj
  unfold redM
  split
  · exact h i j hi hj
  · exact toW_ok (redZ_bd (h i j hi hj)).1 (redZ_bd (h i j hi hj)).2
theorem redM_fin {n k : Nat} {M : Nat → Nat → Cw} (ho : okM n M) (h : finM n M) (hg : goodB n M k = true) : finM n (redM M k) := by
  intro i j hi hj
  unfold redM
  by_cases hk : i ≤ k
  · rw [if_pos hk]; exact h i j hi hj
  · rw [if_neg hk]
    refine toW_fin ?_
    by_cases hjk : k ≤ j
    · exact good_iff.1 hg i (by omega) hi j hjk hj
    · rw [redZ_lt (by omega), ← fin_repz (repz_anz (ho i j hi hj))]; exact h i j hi hj
/-- all that holds of what is eliminated so far -/
structure Eok (n : Nat) (S : Es) : Prop where
  ok : okM n S.M
  fin : finM n S.M
  pm : S.s = 1 ∨ S.s = -1
theorem stp_eok {n k : Nat} {S : Es} (h : Eok n S) (hk : k < n) (h0 : (stp n k S).1 = 0) : Eok n (stp n k S).2 := by
  by_cases h7 : (pvt n S.M k).2 = 0
  · rw [stp_7 h7] at h0; exact absurd (show (7 : Int) = 0 from h0) (by decide)
  · have hq := pvt_lt h7
    cases hg : goodB n (swM S.M k (k + (pvt n S.M k).1)) k
    · rw [stp_6 h7 hg] at h0; exact absurd (show (6 : Int) = 0 from h0) (by decide)
    · rw [stp_0 h7 hg]
      refine ⟨redM_ok (swM_ok h.ok hk hq), redM_fin (swM_ok h.ok hk hq) (swM_fin h.fin hk hq) hg, ?_⟩
      have := h.pm
      show (if (pvt n S.M k).1 = 0 then S.s else -S.s) = 1 ∨ (if (pvt n S.M k).1 = 0 then S.s else -S.s) = -1
      split <;> omega
theorem elm_succ {n k : Nat} {M0 : Nat → Nat → Cw} (h : (elm n M0 k).1.1 = 0) : elm n M0 (k + 1) = (((stp n k (elm n M0 k).2).1, if (stp n k (elm n M0 k).2).1 = 0 then 0 else k), (stp n k (elm n M0 k).2).2) := if_pos h
theorem elm_stay {n k : Nat} {M0 : Nat → Nat → Cw} (h : ¬ (elm n M0 k).1.1 = 0) : ∀ m, k ≤ m → elm n M0 m = elm n M0 k := by
  intro m hm
  induction m with
  | zero => rw [show k = 0 by omega]
  | succ m ih =>
    by_cases e : k = m + 1
    · rw [e]
    · have hi := ih (by omega)
      have : elm n M0 (m + 1) = elm n M0 m := if_neg (by rw [hi]; exact h)
      rw [this, hi]
theorem elm_prev {n k : Nat} {M0 : Nat → Nat → Cw} (h : (elm n M0 (k + 1)).1.1 = 0) : (elm n M0 k).1.1 = 0 := by
  by_cases h0 : (elm n M0 k).1.1 = 0
  · exact h0
  · rw [show elm n M0 (k + 1) = elm n M0 k from if_neg h0] at h
    exact h
theorem elm_eok {n : Nat} {M0 : Nat → Nat → Cw} (ho : okM n M0) (hf : finM n M0) : ∀ k, k ≤ n → (elm n M0 k).1.1 = 0 → Eok n (elm n M0 k).2 := by
  intro k
  induction k with
  | zero => intro _ _; exact ⟨ho, hf, .inl rfl⟩
  | succ k ih =>
    intro hk h
    have h0 := elm_prev h
    have e := ih (by omega) h0
    rw [elm_succ h0] at h ⊢
    exact stp_eok e (by omega) h
theorem Lo.base {w : World} {b b' p n gr go : Nat} {bl : Nat → Nat} {M : Nat → Nat → Cw} {o : Nat → Nat} {s : Int} (h : Lo w b p n gr go bl M o s) (hb : b' ≤ b) : Lo w b' p n gr go bl M o s :=
  ⟨h.v, own_base h.rows hb, fun i hi => rw_base (h.row i hi) hb, h.ord.base hb, Nat.le_trans hb h.ge, h.inj, h.ap, h.ap2⟩
theorem mb_sq {n : Nat} (hn : n ≤ 64) : mb n n (n * n) = true := decide_eq_true ⟨by omega, by omega, by omega, by omega, Int.natCast_mul n n⟩
set_option maxHeartbeats 4000000 in
theorem of_square (n : Nat) (A : Option Addr) (c : Nat) (xs : List Cw) (M : Nat → Nat → Cw) (w : World) (hn : n ≤ 64) (hlen : xs.length = n * n) (hcap : n * n ≤ c) (hc : Rc w A xs) (hx : okl xs) (hf : nff xs (n * n) = n * n) (hM : ∀ i j, i < n → j < n → M i j = zat xs (i * n + j)) :
    Calls Tryz.prog 102 #[.agg #[.int .i64 n, .int .i64 n, .slice A (n * n) c]] w fun e w' =>
      (¬ (elm n M n).1.1 = 0 → e = .returned (.tuple #[.pointer none, .agg #[.int .i64 (elm n M n).1.1, .int .i64 ((elm n M n).1.2 : Nat)]])) ∧
      ((elm n M n).1.1 = 0 → ∃ p gr go bl, e = .returned (.tuple #[.pointer (some ⟨p, 0, none⟩), .agg #[.int .i64 0, .int .i64 0]]) ∧ Lo w' w.heap.size p n gr go bl (elm n M n).2.M (elm n M n).2.o (elm n M n).2.s) ∧ Below w.heap.size w w' := by
  have h4 := le_4096 hn hn
  have hm := mb_sq hn
  have hfl := finL_iff.1 (nff_fin hf)
  have hokM : okM n M := fun i j hi hj => by rw [hM i j hi hj]; exact hx _
  have hfinM : finM n M := fun i j hi hj => by rw [hM i j hi hj]; exact hfl _ (place_lt hi hj)
  have EOK := hid_o (elm_eok hokM hfinM)
  have ES : Hid (∀ k, (elm n M k).1.1 = 0 → elm n M (k + 1) = (((stp n k (elm n M k).2).1, if (stp n k (elm n M k).2).1 = 0 then 0 else k), (stp n k (elm n M k).2).2)) := fun k h => elm_succ h
  have EY : Hid (∀ k, ¬ (elm n M k).1.1 = 0 → ∀ m, k ≤ m → elm n M m = elm n M k) := fun k h => elm_stay h
  have BG := hid_o (fun (W : World) (hW : Rc W A xs) => begun_any n c A xs M W hn hlen hcap hW hM)
  clear hfl hokM hfinM hM
  have HE0 : Hid (elm n M 0 = ((0, 0), ⟨M, fun i => i, 1⟩)) := rfl
  have NF0 := hid_o (fun (W : World) (l : Nat) (hl : xs.length = l) (h : l ≤ 4096) hW => nf_any A c l xs W hl h hW hx)
  obtain ⟨l, hle⟩ : ∃ l, l = n * n := ⟨_, rfl⟩
  rw [← hle] at h4 hm hlen hf hcap BG ⊢
  have hl : l ≤ 1000000000000000 := by omega
  have NF := hid_o (fun W hW => NF0.out W l hlen h4 hW)
  rw [hf] at NF
  have HC := hid_o hc
  clear hle hc NF0 hx hf
  have V0 : V3 w.heap.size (.int .i64 n) (.int .i64 n) (.slice A l c) (w.alloc (.cells #[.int .i64 n, .int .i64 n, .slice A l c] 120)) := v3_new w _ _ _ _
  have V1 := V0.below (bal _ (.cells #[.int .i64 0, .int .i64 0] 69))
  have U1 := v2_new (w.alloc (.cells #[.int .i64 n, .int .i64 n, .slice A l c] 120)) (.int .i64 0) (.int .i64 0) 69
  have B1 : Below w.heap.size w ((w.alloc (.cells #[.int .i64 n, .int .i64 n, .slice A l c] 120)).alloc (.cells #[.int .i64 0, .int .i64 0] 69)) := (bal _ _).alloc (by simp) _
  have c0 := V1.c0
  have c1 := V1.c1
  have HV := hid_o V1
  have HU := hid_o U1
  have HB := hid_o B1
  clear V0 V1 U1 B1
  go_enter Tryz.func102, Tryz.ntmps102
  go_wp2_with (first
    | (go_at_call 126; (with_reducible refine (mcheck _ _ _ _ _ _ hl).mono ?_); rintro e w1 ⟨rfl, hb⟩; (rw [hm]); (have U2 := HU.out.below hb); (have q0 := U2.c0); (have q1 := U2.c1); (have q2 := U2.f0); (have q3 := U2.f1); (have ql := U2.lt); (have V2 := HV.out.below hb); (have p0 := V2.c0); (have p1 := V2.c1); (have p2 := V2.c2); (have HB2 := hid_o (HB.out.trans (hb.mono HB.out.size))); (have HU2 := hid_o U2); (have HV2 := hid_o V2); clear hb U2 V2; simp only [size_al] at q0 q1 q2 q3 ql HU2)
    | (go_at_call 137; (with_reducible refine (NF.out _ (HC.out.below HB2.out)).mono ?_); rintro e w2 ⟨rfl, hw2⟩; subst w2)
    | (go_at_call 138; (with_reducible refine (BG.out _ (HC.out.below HB2.out)).mono ?_); rintro e w3 ⟨p, gr, go, bl, rfl, hLo, hb3⟩; (have v0 := hLo.v.c0); (have hpl := hLo.v.lt); (have HLO := hid_o hLo); (have HU3 := hid_o (HU2.out.later hb3 ql)); (have HB3 := hid_o (HB2.out.trans (hb3.mono HB2.out.size))); (have HGE := hid_o HB2.out.size); clear hLo hb3))
  go_loopw [36] (fun kv wr => ∃ (k : Nat) (bl : Nat → Nat), k ≤ n ∧ kv = .int .i64 k ∧ (elm n M k).1.1 = 0 ∧ Lo wr w1.heap.size p n gr go bl (elm n M k).2.M (elm n M k).2.o (elm n M k).2.s ∧ V2 (w.heap.size + 1) (.int .i64 0) (.int .i64 0) wr ∧ Below w.heap.size w wr ∧ w1.heap.size ≤ wr.heap.size) (fun kv _ => n - (intOf kv).toNat)
  case atStart => exact ⟨0, bl, Nat.zero_le _, rfl, rfl, HLO.out, HU3.out, HB3.out, Nat.le_trans (Nat.le_of_lt (Nat.lt_of_le_of_lt HLO.out.ge HLO.out.v.lt)) (Nat.le_refl _)⟩
  case round =>
    clear HLO HU3 HB3 v0 hpl q0 q1 q2 q3 p0 p1 p2 HU2 HV2
    obtain ⟨k, bl, hkn, rfl, h0, hLo, hU, hbel, hge⟩ := hrel
    by_cases hlt : k < n
    · have hE := EOK.out k hkn h0
      have EL := hid_o (elim_any _ _ _ _ _ _ _ _ _ k _ hn hlt hE.pm hge hLo hE.ok hE.fin)
      have hS := ES.out k h0
      have HH0 := hid_o h0
      obtain ⟨T, hT⟩ : ∃ T, T = stp n k (elm n M k).2 := ⟨_, rfl⟩
      have EL2 : Hid (Calls Tryz.prog 139 #[.pointer (some ⟨p, 0, none⟩), .int .i64 k] wr fun e w' => e = .returned (.int .i64 T.1) ∧ (T.1 = 0 → ∃ bl', Lo w' w1.heap.size p n gr go bl' T.2.M T.2.o T.2.s) ∧ Below w1.heap.size wr w') := by rw [hT]; exact EL.out
      rw [← hT] at hS
      have HS := hid_o hS
      have HU := hid_o hU
      have HBE := hid_o hbel
      have HGE2 := hid_o hge
      clear EL hT hS hE h0 hLo hU hbel hge
      by_cases hT0 : T.1 = 0
      · rw [hT0] at EL2 HS
        go_wp2_with (go_at_call 139; (with_reducible refine EL2.out.mono ?_); rintro e w4 ⟨rfl, hb4, hb5⟩; have HL4 := hid_o (hb4 (by first | rfl | trivial)); have HB5 := hid_o hb5; clear hb4 hb5)
        go_roundw
        case measure => simp [intOf]; omega
        case rel =>
          obtain ⟨bl', hL'⟩ := HL4.out
          refine ⟨k + 1, bl', by omega, by go_num, by rw [HS.out], by rw [HS.out]; exact hL', HU.out.later HB5.out ql, HBE.out.trans (HB5.out.mono HGE.out), Nat.le_trans HGE2.out HB5.out.size⟩
      · have q0 := HU.out.c0
        have q1 := HU.out.c1
        have q2 := HU.out.f0
        have q3 := HU.out.f1
        have FIN : Hid (elm n M n = ((T.1, k), T.2)) := by
          have h1 : elm n M (k + 1) = ((T.1, k), T.2) := by rw [HS.out, if_neg hT0]
          have h2 := EY.out (k + 1) (by rw [h1]; exact hT0) n (by omega)
          show elm n M n = _
          rw [h2, h1]
        obtain ⟨E0, hE0⟩ : ∃ E0, E0 = T.1 := ⟨_, rfl⟩
        rw [← hE0] at EL2 FIN hT0
        clear hE0
        go_wp2_with (go_at_call 139; (with_reducible refine EL2.out.mono ?_); rintro e w4 ⟨rfl, _, hb5⟩; (have U4 := HU.out.later hb5 ql); (have q0 := U4.c0); (have q1 := U4.c1); (have q2 := U4.f0); (have q3 := U4.f1); (have ql4 := U4.lt); (have HU4 := hid_o U4); have HB5 := hid_o hb5; clear hb5 U4)
        have rr := HU4.out.reads
        refine bodyPost_ret (by simp [results, Tryz.results102, go_sem, rr.1, rr.2]; try rfl) rfl ?_
        refine ⟨fun _ => by rw [FIN.out], fun e => absurd e (by rw [FIN.out]; exact hT0), below_set2 (HBE.out.trans (HB5.out.mono HGE.out)) (by omega) _ _⟩
    · have e : k = n := by omega
      subst e
      have q0 := hU.c0
      have q1 := hU.c1
      have q2 := hU.f0
      have q3 := hU.f1
      have ql2 := hU.lt
      have HU := hid_o hU
      have HLO := hid_o hLo
      have HH0 := hid_o h0
      have HBE := hid_o hbel
      clear hU hLo h0 hbel EOK ES EY BG HE0
      go_wp2
      have rr := HU.out.reads
      refine bodyPost_ret (by simp [results, Tryz.results102, go_sem, rr.1, rr.2]; try rfl) rfl ?_
      refine ⟨fun h => absurd HH0.out h, fun _ => ⟨p, gr, go, bl, rfl, ?_⟩, below_set2 HBE.out (by omega) _ _⟩
      exact (HLO.out.at (by simp) (fun g hg _ => by rw [Below.heap_setCell _ _ _ _ (by show g ≠ w.heap.size + 1; omega), Below.heap_setCell _ _ _ _ (by show g ≠ w.heap.size + 1; omega)])).base (by omega)

end Go.Proofs.YtmpkcioeodlbcaaGreatDoor
namespace Go.Proofs.YtmpkcioeodlbcaaGreatDoor
open Fl RowKit
/-- the order has each row once -/
def inO (n : Nat) (o : Nat → Nat) : Prop := (∀ i, i < n → o i < n) ∧ ∀ i j, i < n → j < n → o i = o j → i = j
theorem swO_in {n k q : Nat} {o : Nat → Nat} (h : inO n o) (hk : k < n) (hq : q < n) : inO n (swO o k q) := by
  refine ⟨fun i hi => ?_, fun i j hi hj e => ?_⟩
  · unfold swO
    split
    · exact h.1 q hq
    · split
      · exact h.1 k hk
      · exact h.1 i hi
  · unfold swO at e
    by_cases a1 : i = k
    · rw [if_pos a1] at e
      by_cases b1 : j = k
      · omega
      · rw [if_neg b1] at e
        by_cases b2 : j = q
        · rw [if_pos b2] at e; have := h.2 q k hq hk e; omega
        · rw [if_neg b2] at e; have := h.2 q j hq hj e; omega
    · rw [if_neg a1] at e
      by_cases a2 : i = q
      · rw [if_pos a2] at e
        by_cases b1 : j = k
        · rw [if_pos b1] at e; have := h.2 k q hk hq e; omega
        · rw [if_neg b1] at e
          by_cases b2 : j = q
          · omega
          · rw [if_neg b2] at e; have := h.2 k j hk hj e; omega
      · rw [if_neg a2] at e
        by_cases b1 : j = k
        · rw [if_pos b1] at e; have := h.2 i q hi hq e; omega
        · rw [if_neg b1] at e
          by_cases b2 : j = q
          · rw [if_pos b2] at e; have := h.2 i k hi hk e; omega
          · rw [if_neg b2] at e; exact h.2 i j hi hj e
theorem stp_o {n k : Nat} {S : Es} (h0 : (stp n k S).1 = 0) : ¬ (pvt n S.M k).2 = 0 ∧ goodB n (swM S.M k (k + (pvt n S.M k).1)) k = true ∧ stp n k S = (0, ⟨redM (swM S.M k (k + (pvt n S.M k).1)) k, swO S.o k (k + (pvt n S.M k).1), if (pvt n S.M k).1 = 0 then S.s else -S.s⟩) := by
  by_cases h7 : (pvt n S.M k).2 = 0
  · rw [stp_7 h7] at h0; exact absurd (show (7 : Int) = 0 from h0) (by decide)
  · cases hg : goodB n (swM S.M k (k + (pvt n S.M k).1)) k
    · rw [stp_6 h7 hg] at h0; exact absurd (show (6 : Int) = 0 from h0) (by decide)
    · exact ⟨h7, rfl, stp_0 h7 hg⟩
theorem elm_in {n : Nat} {M : Nat → Nat → Cw} : ∀ k, k ≤ n → (elm n M k).1.1 = 0 → inO n (elm n M k).2.o := by
  intro k
  induction k with
  | zero => intro _ _; exact ⟨fun i hi => hi, fun i j _ _ e => e⟩
  | succ k ih =>
    intro hk h
    have h0 := elm_prev h
    rw [elm_succ h0] at h ⊢
    obtain ⟨h7, _, e⟩ := stp_o h
    rw [e]
    exact swO_in (ih (by omega) h0) (by omega) (pvt_lt h7)
end Go.Proofs.YtmpkcioeodlbcaaGreatDoor
