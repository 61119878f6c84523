/-
  Several texts in one: Lwd Lwe Lwg.
-/
import Derived.Test.YtmpkcioeodlbcaaGreatDoorK41
import Derived.RegionTactic
import Derived.Deep.DeepCutAuto
namespace Go.Proofs.YtmpkcioeodlbcaaGreatDoor
open Fl RowKit
def sl (g n : Nat) : Value := .slice (some ⟨g, 0, none⟩) n n
theorem range_set (n : Nat) (F : Nat → Value) (k : Nat) (v : Value) : ((List.range n).map F).set k v = (List.range n).map (fun j => if j = k then v else F j) := by
  apply List.ext_getElem?
  intro i
  by_cases hi : i < n
  · by_cases e : k = i
    · subst e
      rw [List.getElem?_set_self (by simp; exact hi)]
      simp [hi]
    · rw [List.getElem?_set_ne e]
      simp [hi, Ne.symm e]
  · rw [List.getElem?_eq_none (by simp; omega), List.getElem?_eq_none (by simp; omega)]
theorem Lo.swapRows {w w' : World} {b p n gr go : Nat} {bl : Nat → Nat} {M : Nat → Nat → Cw} {o : Nat → Nat} {s : Int} (h : Lo w b p n gr go bl M o s) {k q : Nat} (hk : k < n) (hq : q < n) (hkq : k ≠ q)
    (hw : ∃ m, w' = ((w.drewN m).setCell ⟨gr, k, none⟩ (.slice (some ⟨bl q, 0, none⟩) n n)).setCell ⟨gr, q, none⟩ (.slice (some ⟨bl k, 0, none⟩) n n)) :
    Lo w' b p n gr go (swO bl k q) (swM M k q) o s := by
  obtain ⟨m, rfl⟩ := hw
  have hoth : ∀ g, g ≠ gr → (((w.drewN m).setCell ⟨gr, k, none⟩ (.slice (some ⟨bl q, 0, none⟩) n n)).setCell ⟨gr, q, none⟩ (.slice (some ⟨bl k, 0, none⟩) n n)).heap[g]? = w.heap[g]? := by
    intro g hg
    rw [Below.heap_setCell _ _ _ _ hg, Below.heap_setCell _ _ _ _ hg]; rfl
  have hrow : ∀ i, i < n → Rw (((w.drewN m).setCell ⟨gr, k, none⟩ (.slice (some ⟨bl q, 0, none⟩) n n)).setCell ⟨gr, q, none⟩ (.slice (some ⟨bl k, 0, none⟩) n n)) b (.slice (some ⟨bl i, 0, none⟩) n n) n (ro n (M i)) :=
    fun i hi => ⟨(h.row i hi).len, own_at (h.row i hi).own (fun g hg => by cases hg; exact hoth _ (h.ap i hi).2.1)⟩
  have hsw : ∀ i, i < n → swO bl k q i = (if i = k then bl q else if i = q then bl k else bl i) := fun i _ => rfl
  refine ⟨((h.v.drewN m).other (q := ⟨gr, k, none⟩) h.ap2.1 _).other (q := ⟨gr, q, none⟩) h.ap2.1 _, ?_, ?_, ⟨h.ord.len, own_at h.ord.own (fun g hg => by cases hg; exact hoth _ h.ap2.2.2.symm)⟩, h.ge, ?_, ?_, h.ap2⟩
  · have h1 := (h.rows.stored k (.slice (some ⟨bl q, 0, none⟩) n n)).1
    have h2 := (h1.stored q (.slice (some ⟨bl k, 0, none⟩) n n)).1
    rw [range_set, range_set] at h2
    have e : (List.range n).map (fun j => if j = q then (Value.slice (some ⟨bl k, 0, none⟩) n n) else if j = k then .slice (some ⟨bl q, 0, none⟩) n n else .slice (some ⟨bl j, 0, none⟩) n n) = (List.range n).map (fun i => Value.slice (some ⟨swO bl k q i, 0, none⟩) n n) := by
      refine List.map_congr_left (fun i _ => ?_)
      unfold swO
      by_cases h1 : i = q
      · subst h1; rw [if_pos rfl, if_neg (Ne.symm hkq), if_pos rfl]
      · rw [if_neg h1]
        by_cases h2 : i = k
        · subst h2; rw [if_pos rfl, if_pos rfl]
        · rw [if_neg h2, if_neg h2, if_neg h1]
    rw [e] at h2
    exact h2
  · intro i hi
    unfold swO swM
    by_cases h1 : i = k
    · subst h1; simp only [if_true]; exact hrow q hq
    · simp only [h1, if_false]
      by_cases h2 : i = q
      · subst h2; simp only [if_true]; exact hrow k hk
      · simp only [h2, if_false]; exact hrow i hi
  · intro i j hi hj
    unfold swO
    intro e
    by_cases a1 : i = k
    · by_cases a2 : j = k
      · omega
      · rw [if_pos a1, if_neg a2] at e
        by_cases a3 : j = q
        · rw [if_pos a3] at e; exact absurd (h.inj _ _ hq hk e) (Ne.symm hkq)
        · rw [if_neg a3] at e; exact absurd (h.inj _ _ hq hj e) (Ne.symm a3)
    · rw [if_neg a1] at e
      by_cases b1 : i = q
      · rw [if_pos b1] at e
        by_cases a2 : j = k
        · rw [if_pos a2] at e; exact absurd (h.inj _ _ hk hq e) hkq
        · rw [if_neg a2] at e
          by_cases a3 : j = q
          · omega
          · rw [if_neg a3] at e; exact absurd (h.inj _ _ hk hj e) (Ne.symm a2)
      · rw [if_neg b1] at e
        by_cases a2 : j = k
        · rw [if_pos a2] at e; exact absurd (h.inj _ _ hi hq e) b1
        · rw [if_neg a2] at e
          by_cases a3 : j = q
          · rw [if_pos a3] at e; exact absurd (h.inj _ _ hi hk e) a1
          · rw [if_neg a3] at e; exact h.inj _ _ hi hj e
  · intro i hi
    unfold swO
    split
    · exact h.ap q hq
    · split
      · exact h.ap k hk
      · exact h.ap i hi
theorem Lo.swapOrd {w w' : World} {b p n gr go : Nat} {bl : Nat → Nat} {M : Nat → Nat → Cw} {o : Nat → Nat} {s : Int} (h : Lo w b p n gr go bl M o s) {k q : Nat} (hkq : k ≠ q) {t : Int}
    (hw : ∃ m, w' = (((w.drewN m).setCell ⟨go, k, none⟩ (.int .i64 (o q))).setCell ⟨go, q, none⟩ (.int .i64 (o k))).setCell ⟨p, 2, none⟩ (.int .i64 t)) :
    Lo w' b p n gr go bl M (swO o k q) t := by
  obtain ⟨m, rfl⟩ := hw
  have hoth : ∀ g, g ≠ go → g ≠ p → ((((w.drewN m).setCell ⟨go, k, none⟩ (.int .i64 (o q))).setCell ⟨go, q, none⟩ (.int .i64 (o k))).setCell ⟨p, 2, none⟩ (.int .i64 t)).heap[g]? = w.heap[g]? := by
    intro g hg hp
    rw [Below.heap_setCell _ _ _ _ hp, Below.heap_setCell _ _ _ _ hg, Below.heap_setCell _ _ _ _ hg]; rfl
  have v1 := ((h.v.drewN m).other (q := ⟨go, k, none⟩) h.ap2.2.1 (.int .i64 (o q))).other (q := ⟨go, q, none⟩) h.ap2.2.1 (.int .i64 (o k))
  refine ⟨⟨by simpa using v1.lt, ?_, ?_, World.cell?_setCell_same _ _ _ v1.c2, by simpa using v1.f0, by simpa using v1.f1, by simpa using v1.f2⟩, own_at h.rows (fun g hg => by cases hg; exact hoth _ h.ap2.2.2 h.ap2.1), fun i hi => ⟨(h.row i hi).len, own_at (h.row i hi).own (fun g hg => by cases hg; exact hoth _ (h.ap i hi).2.2 (h.ap i hi).1)⟩, ?_, h.ge, h.inj, h.ap, h.ap2⟩
  · rw [other_cell _ (by simp)]; exact v1.c0
  · rw [other_cell _ (by simp)]; exact v1.c1
  · have h1 := ((h.ord.drewN m).set k (o q : Int)).set q (o k : Int)
    rw [ri_set, ri_set] at h1
    have e : ri n (fun j => if j = q then o k else if j = k then o q else o j) = ri n (swO o k q) := by
      refine ri_congr (fun i _ => ?_)
      unfold swO
      by_cases h1 : i = q
      · subst h1; rw [if_pos rfl, if_neg (Ne.symm hkq), if_pos rfl]
      · rw [if_neg h1]
        by_cases h2 : i = k
        · subst h2; rw [if_pos rfl, if_pos rfl]
        · rw [if_neg h2, if_neg h2, if_neg h1]
    rw [e] at h1
    refine ⟨h1.len, own_at h1.own (fun g hg => ?_)⟩
    cases hg
    exact Below.heap_setCell _ _ _ _ h.ap2.2.1
set_option maxHeartbeats 2000000 in
theorem lexchange_any (b p n gr go : Nat) (bl : Nat → Nat) (M : Nat → Nat → Cw) (o : Nat → Nat) (s : Int) (k q : Nat) (w : World) (_hn : n ≤ 64) (hk : k < n) (hq : q < n) (hkq : k ≠ q) (hs : s = 1 ∨ s = -1) (h : Lo w b p n gr go bl M o s) :
    Calls Tryz.prog 181 #[.pointer (some ⟨p, 0, none⟩), .int .i64 k, .int .i64 q] w fun e w' => e = .returned (.tuple #[]) ∧ Lo w' b p n gr go (swO bl k q) (swM M k q) (swO o k q) (-s) ∧ Below b w w' := by
  have v0 := h.v.c0
  have hl := h.v.lt
  have c1 := h.cell hk
  have c2 := h.cell hq
  have f1 := h.rows.frozenAt k
  have f2 := h.rows.frozenAt q
  have hgl := (h.rows.lt gr rfl)
  have hgl2 := hgl.2
  have HG := hid_o hgl.1
  have hqk : q ≠ k := Ne.symm hkq
  have d1 : ∀ m u, ((w.drewN m).setCell ⟨gr, k, none⟩ u).cell? ⟨gr, q, none⟩ = some (.slice (some ⟨bl q, 0, none⟩) n n) := fun m u => by rw [World.cell?_setCell_other _ _ _ _ (by intro e; cases e; exact hkq rfl)]; exact c2
  have HL := hid_o h
  clear h hgl
  go_enter Tryz.func181, Tryz.ntmps181
  go_wp2
  go_cut [] (fun wc => ∃ m, wc = ((w.drewN m).setCell ⟨gr, k, none⟩ (.slice (some ⟨bl q, 0, none⟩) n n)).setCell ⟨gr, q, none⟩ (.slice (some ⟨bl k, 0, none⟩) n n))
  case first =>
    go_region
    all_goals
      go_wp2_with fail
      go_meet
      case rel => first | exact ⟨_, rfl⟩ | exact ⟨0, rfl⟩ | exact ⟨1, rfl⟩
  case rest =>
    have L1 := HL.out.swapRows hk hq hkq hcut
    have B1 : Hid (Below b w wc) := by
      obtain ⟨m, rfl⟩ := hcut
      exact ((below_drewN (Below.refl _ _) m).setCell (p := ⟨gr, k, none⟩) HG.out _).setCell (p := ⟨gr, q, none⟩) HG.out _
    clear hcut v0 c1 c2 f1 f2 d1 hl
    have v1 := L1.v.c1
    have v2 := L1.v.c2
    have f3 := L1.v.f2
    have hl := L1.v.lt
    have o1 : wc.cell? ⟨go, k, none⟩ = some (.int .i64 (o k)) := by
      obtain ⟨b', o', e1, _, e3⟩ := L1.ord.qi k (by rw [ri_len]; exact hk)
      cases e1; rw [Nat.zero_add, ri_at _ hk] at e3; exact e3
    have o2 : wc.cell? ⟨go, q, none⟩ = some (.int .i64 (o q)) := by
      obtain ⟨b', o', e1, _, e3⟩ := L1.ord.qi q (by rw [ri_len]; exact hq)
      cases e1; rw [Nat.zero_add, ri_at _ hq] at e3; exact e3
    have f1 := L1.ord.own.frozenAt k
    have f2 := L1.ord.own.frozenAt q
    have hol := L1.ord.lt
    have hol2 := hol.2
    have HO := hid_o hol.1
    have hpg : go ≠ p := L1.ap2.2.1
    have hgp : p ≠ go := Ne.symm hpg
    have ow : wrap64 (-s) = -s := by unfold wrap64; omega
    have FIN : Hid (∀ w', (∃ m, w' = (((wc.drewN m).setCell ⟨go, k, none⟩ (.int .i64 (o q))).setCell ⟨go, q, none⟩ (.int .i64 (o k))).setCell ⟨p, 2, none⟩ (.int .i64 (-s))) → Lo w' b p n gr go (swO bl k q) (swM M k q) (swO o k q) (-s) ∧ Below b w w') := by
      intro w' hw
      refine ⟨L1.swapOrd hkq hw, ?_⟩
      obtain ⟨m, rfl⟩ := hw
      exact (((below_drewN B1.out m).setCell (p := ⟨go, k, none⟩) HO.out _).setCell (p := ⟨go, q, none⟩) HO.out _).setCell (p := ⟨p, 2, none⟩) L1.ge _
    have d1 : ∀ u, (wc.setCell ⟨go, k, none⟩ u).cell? ⟨go, q, none⟩ = some (.int .i64 (o q)) := fun u => by rw [World.cell?_setCell_other _ _ _ _ (by intro e; cases e; exact hkq rfl)]; exact o2
    have d2 : ∀ u v, ((wc.setCell ⟨go, k, none⟩ u).setCell ⟨go, q, none⟩ v).cell? ⟨p, 2, none⟩ = some (.int .i64 s) := fun u v => by rw [World.cell?_setCell_other _ _ _ _ (by intro e; cases e; exact hpg rfl), World.cell?_setCell_other _ _ _ _ (by intro e; cases e; exact hpg rfl)]; exact v2
    clear L1 hol HL hs
    go_wp2
    go_region
    all_goals
      go_wp2
      go_end0
      first
      | exact ⟨rfl, FIN.out _ ⟨_, rfl⟩⟩
      | exact ⟨rfl, FIN.out _ ⟨0, rfl⟩⟩
      | exact ⟨rfl, FIN.out _ ⟨1, rfl⟩⟩

end Go.Proofs.YtmpkcioeodlbcaaGreatDoor
namespace Go.Proofs.YtmpkcioeodlbcaaGreatDoor
open Fl RowKit
theorem ro_zero (n : Nat) : List.replicate n ((0, 0) : Cw) = ro n (fun _ => (0, 0)) := by
  apply List.ext_getElem?
  intro i
  by_cases hi : i < n
  · simp [ro, hi]
  · rw [List.getElem?_eq_none (by simp; omega), List.getElem?_eq_none (by rw [ro_len]; omega)]
set_option maxHeartbeats 2000000 in
theorem lcolumn_any (b p n gr go : Nat) (bl : Nat → Nat) (M : Nat → Nat → Cw) (o : Nat → Nat) (s : Int) (k : Nat) (w : World) (hn : n ≤ 64) (hk : k < n) (h : Lo w b p n gr go bl M o s) :
    Calls Tryz.prog 180 #[.pointer (some ⟨p, 0, none⟩), .int .i64 k] w fun e w' => ∃ g, e = .returned (.slice (some ⟨g, 0, none⟩) n n) ∧ Rw w' w.heap.size (.slice (some ⟨g, 0, none⟩) n n) n (ro n (fun i => M i k)) ∧ Below w.heap.size w w' := by
  obtain ⟨i0, hi, hz0, hz1, hz2⟩ := info_parts Tryz.infoC
  have v0 := h.v.c0
  have hl := h.v.lt
  have HL := hid_o h
  clear h
  go_enter Tryz.func180, Tryz.ntmps180
  go_wp2_with (at_make; refine wpList_make_full _ rfl _ _ 32 rfl w.heap.size 39 i0 (.complex .f64 0 0) 1 Tryz.underlying32 hi hz0 hz1 _ _ _ _ n rfl rfl rfl rfl (by rw [hz2]; omega) (by unfold maxLen; omega) (Nat.le_refl _) ?_; intro w1 hown hgrow; (have BB : Below w.heap.size w w1 := (Below.refl _ _).grown hgrow (Nat.le_refl _) (by intro k hk; simp at hk)); (have v1 := (HL.out.below BB).v.c0); (have l1 := (HL.out.below BB).v.lt); rw [made_zeroC, ro_zero] at hown; (have RW : Hid (Rw w1 w.heap.size (.slice (some ⟨w.heap.size, 0, none⟩) n n) n (ro n (fun _ => (0, 0)))) := ⟨ro_len _ _, hown⟩); (have HB := hid_o BB); clear hown hgrow BB v0 hl)
  go_loopw [19] (fun iv wr => ∃ (i : Nat) (f : Nat → Cw), i ≤ n ∧ iv = .int .i64 i ∧ (∀ j, j < i → f j = M j k) ∧ Rw wr w.heap.size (.slice (some ⟨w.heap.size, 0, none⟩) n n) n (ro n f) ∧ Below w.heap.size w wr) (fun iv _ => n - (intOf iv).toNat)
  case atStart => exact ⟨0, _, Nat.zero_le _, rfl, fun j hj => absurd hj (by omega), RW.out, HB.out⟩
  case round =>
    clear RW HB v1 l1
    obtain ⟨i, f, hin, rfl, hf, hrw, hbel⟩ := hrel
    by_cases hlt : i < n
    · have hL := HL.out.below hbel
      have d1 := hL.cell hlt
      have d2 := hL.cellM hlt hk
      have d3 := rw_cell hrw hlt
      have fz := hrw.own.frozenAt i
      have g1 := hrw.lt.2
      have g2 := (hL.rows.lt gr rfl).2
      have g3 := ((hL.row i hlt).own.lt (bl i) rfl).2
      have HF := hid_o hf
      have HRW := hid_o hrw
      have HB := hid_o hbel
      obtain ⟨x, hxe⟩ : ∃ x, x = M i k := ⟨_, rfl⟩
      rw [← hxe] at d2
      have HX := hid_o hxe
      clear hxe hf hrw hbel hL
      unfold cx at d2 d3
      go_wp2
      go_roundw
      case measure => simp [intOf]; omega
      case rel =>
        refine ⟨i + 1, upz f i x, by omega, by go_num, fun j hj => ?_, rw_set HRW.out i x, HB.out.setCell (p := ⟨w.heap.size, i, none⟩) (Nat.le_refl _) _⟩
        by_cases e : j = i
        · subst e; rw [upz_self]; exact HX.out
        · rw [upz_ne _ _ e]; exact HF.out j (by omega)
    · have e : i = n := by omega
      subst e
      clear HL
      go_wp2
      go_ret
      exact ⟨_, rfl, by rw [← ro_congr hf]; exact hrw, hbel⟩

end Go.Proofs.YtmpkcioeodlbcaaGreatDoor
namespace Go.Proofs.YtmpkcioeodlbcaaGreatDoor
open Fl RowKit
theorem finL_iff {xs : List Cw} {n : Nat} : finL xs n = true ↔ ∀ j, j < n → finZ (zat xs j) = true := by
  refine ⟨fun h => finL_at h, fun h => ?_⟩
  induction n with
  | zero => rfl
  | succ n ih =>
    show (finL xs n && finZ (zat xs n)) = true
    rw [ih (fun j hj => h j (by omega)), h n (by omega)]; rfl
theorem dropat (n k j : Nat) (f : Nat → Cw) (h : k + j < n) : zat ((ro n f).drop k) j = f (k + j) := by rw [zat_drop, ro_at _ h]
theorem droplen (n k : Nat) (f : Nat → Cw) : ((ro n f).drop k).length = n - k := by rw [List.length_drop, ro_len]
theorem hv_pvt (n : Nat) (M : Nat → Nat → Cw) (k : Nat) : hv ((ro n (fun i => M i k)).drop k) = pvt n M k := by
  unfold hv pvt
  rw [droplen]
  exact fstG_congr (fun j hj => by unfold wts; rw [dropat _ _ _ _ (by omega)])
theorem chE_pvt {n k : Nat} {M : Nat → Nat → Cw} (hn : n ≤ 64) (hk : k < n) (hf : finM n M) : chE (ro n (fun i => M i k)) k = if (pvt n M k).2 = 0 then 7 else 0 := by
  have hl := ro_len n (fun i => M i k)
  have h3 : finL ((ro n (fun i => M i k)).drop k) ((ro n (fun i => M i k)).length - k) = true := by
    rw [hl, finL_iff]
    intro j hj
    rw [dropat _ _ _ _ (by omega)]
    exact hf _ _ (by omega) hk
  split
  · rename_i h0
    exact chE_7 (by omega) (by omega) h3 (by rw [hv_pvt]; exact h0)
  · rename_i h0
    exact chE_0 (by omega) (by omega) h3 (by rw [hv_pvt]; exact h0)
theorem choose_low {n k cap b g : Nat} {M : Nat → Nat → Cw} {w : World} (hn : n ≤ 64) (hk : k < n) (hf : finM n M) (ho : okM n M) (hcap : n ≤ cap) (hr : Rw w b (.slice (some ⟨g, 0, none⟩) n cap) n (ro n (fun i => M i k))) :
    Calls Tryz.prog 179 #[.slice (some ⟨g, 0, none⟩) n cap, .int .i64 k] w fun e w' => ∃ m, e = .returned (.tuple #[.int .i64 (if (pvt n M k).2 = 0 then 0 else ((k + (pvt n M k).1 : Nat) : Int)), .int .i64 (if (pvt n M k).2 = 0 then 7 else 0)]) ∧ w' = w.drewN m := by
  have hl := ro_len n (fun i => M i k)
  have hc := choose_any (some ⟨g, 0, none⟩) cap (ro n (fun i => M i k)) k w (by rw [hl]; omega) (by rw [hl]; exact hcap) hr.rc (ro_ok (fun j hj => ho j k hj hk))
  rw [hl] at hc
  refine hc.mono ?_
  rintro e w' ⟨m, rfl, rfl⟩
  refine ⟨m, ?_, rfl⟩
  have hE := chE_pvt hn hk hf
  by_cases h0 : (pvt n M k).2 = 0
  · rw [if_pos h0] at hE
    rw [if_pos h0, if_pos h0, hE, chI_n (by rw [hE]; decide)]
  · rw [if_neg h0] at hE
    rw [if_neg h0, if_neg h0, hE, chI_0 hE, hv_pvt]
theorem good_of {n k : Nat} {M M' : Nat → Nat → Cw} (hM : ∀ r j, k < r → r < n → j < n → repz (redZ (M r) (M k) k j) (M' r j)) (hf : ∀ r, k < r → r < n → ∀ j, k ≤ j → j < n → finZ (M' r j) = true) : goodB n M k = true := by
  rw [good_iff]
  intro i hi hin j hj hjn
  rw [← fin_repz (hM i j hi hin hjn)]
  exact hf i hi hin j hj hjn
theorem bad_of {n k r j : Nat} {M M' : Nat → Nat → Cw} (hM : ∀ r j, k < r → r < n → j < n → repz (redZ (M r) (M k) k j) (M' r j)) (hr : k < r) (hrn : r < n) (hj : k ≤ j) (hjn : j < n) (hf : finZ (M' r j) = false) : goodB n M k = false := by
  cases h : goodB n M k
  · rfl
  · rw [good_iff] at h
    have := h r hr hrn j hj hjn
    rw [← fin_repz (hM r j hr hrn hjn), hf] at this
    cases this
theorem Lo.congr {w : World} {b p n gr go : Nat} {bl : Nat → Nat} {M M' : Nat → Nat → Cw} {o : Nat → Nat} {s : Int} (h : Lo w b p n gr go bl M o s) (e : ∀ i j, i < n → j < n → M i j = M' i j) : Lo w b p n gr go bl M' o s :=
  ⟨h.v, h.rows, fun i hi => by rw [← ro_congr (fun j hj => e i j hi hj)]; exact h.row i hi, h.ord, h.ge, h.inj, h.ap, h.ap2⟩
theorem Lo.red {w : World} {b p n gr go k : Nat} {bl : Nat → Nat} {M M' : Nat → Nat → Cw} {o : Nat → Nat} {s : Int} (h : Lo w b p n gr go bl M' o s) (hle : ∀ r, r ≤ k → M' r = M r) (hM : ∀ r j, k < r → r < n → j < n → repz (redZ (M r) (M k) k j) (M' r j)) (hok : okM n M) (hfin : finM n M) (hg : goodB n M k = true) : Lo w b p n gr go bl (redM M k) o s := by
  refine h.congr (fun i j hi hj => ?_)
  unfold redM
  by_cases hk : i ≤ k
  · rw [if_pos hk, hle i hk]
  · rw [if_neg hk]
    have hr := hM i j (by omega) hi hj
    by_cases hjk : k ≤ j
    · exact (toW_rep hr (good_iff.1 hg i (by omega) hi j hjk hj)).symm
    · rw [redZ_lt (by omega)] at hr ⊢
      exact (toW_rep hr (by rw [← fin_repz (repz_anz (hok i j hi hj))]; exact hfin i j hi hj)).symm
theorem stp_7 {n k : Nat} {S : Es} (h : (pvt n S.M k).2 = 0) : stp n k S = (7, S) := if_pos h
theorem stp_6 {n k : Nat} {S : Es} (h : ¬ (pvt n S.M k).2 = 0) (hg : goodB n (swM S.M k (k + (pvt n S.M k).1)) k = false) : stp n k S = (6, S) := by
  unfold stp; rw [if_neg h, if_neg (by rw [hg]; decide)]
theorem stp_0 {n k : Nat} {S : Es} (h : ¬ (pvt n S.M k).2 = 0) (hg : goodB n (swM S.M k (k + (pvt n S.M k).1)) k = true) : stp n k S = (0, ⟨redM (swM S.M k (k + (pvt n S.M k).1)) k, swO S.o k (k + (pvt n S.M k).1), if (pvt n S.M k).1 = 0 then S.s else -S.s⟩) := by
  unfold stp; rw [if_neg h, if_pos hg]
theorem drop_ok {n k : Nat} {f : Nat → Cw} (h : ∀ j, j < n → okz (f j)) : okl ((ro n f).drop k) := okl_drop (ro_ok h) k
theorem rc_from {w : World} {b g n k : Nat} {f : Nat → Cw} (h : Rw w b (.slice (some ⟨g, 0, none⟩) n n) n (ro n f)) : Rc w (some ⟨g, k, none⟩) ((ro n f).drop k) := by
  have := rc_drop h.rc k
  rw [Nat.zero_add] at this
  exact this
theorem nf_from {n k m : Nat} {f : Nat → Cw} (hm : m = n - k) (h : nff ((ro n f).drop k) m = m) : ∀ j, k ≤ j → j < n → finZ (f j) = true := by
  intro j hk hj
  have := finL_iff.1 (nff_fin h) (j - k) (by omega)
  rw [dropat _ _ _ _ (by omega), show k + (j - k) = j by omega] at this
  exact this
theorem nf_bad {n k m : Nat} {f : Nat → Cw} (hm : m = n - k) (h : nff ((ro n f).drop k) m ≠ m) : ∃ j, k ≤ j ∧ j < n ∧ finZ (f j) = false := by
  by_cases c : ∀ j, k ≤ j → j < n → finZ (f j) = true
  · refine absurd (nff_all (finL_iff.2 (fun j hj => ?_))) h
    rw [dropat _ _ _ _ (by omega)]
    exact c _ (by omega) (by omega)
  · simp only [Classical.not_forall] at c
    obtain ⟨j, h1, h2, h3⟩ := c
    exact ⟨j, h1, h2, by simpa using h3⟩
set_option maxHeartbeats 4000000 in
theorem elim7_any (b p n gr go : Nat) (bl : Nat → Nat) (M : Nat → Nat → Cw) (o : Nat → Nat) (s : Int) (k : Nat) (w : World) (hn : n ≤ 64) (hk : k < n) (hL : Lo w b p n gr go bl M o s) (hok : okM n M) (hfin : finM n M) (h7 : (pvt n M k).2 = 0) :
    Calls Tryz.prog 139 #[.pointer (some ⟨p, 0, none⟩), .int .i64 k] w fun e w' => e = .returned (.int .i64 7) ∧ Below w.heap.size w w' := by
  have CH := hid_o (fun (W : World) (g : Nat) (bb : Nat) (h : Rw W bb (.slice (some ⟨g, 0, none⟩) n n) n (ro n (fun i => M i k))) => choose_low (cap := n) hn hk hfin hok (Nat.le_refl _) h)
  have HL := hid_o hL
  simp only [if_pos h7] at CH
  clear hL hok hfin h7
  go_enter Tryz.func139, Tryz.ntmps139
  go_wp2_with (first
    | (go_at_call 180; (with_reducible refine (lcolumn_any _ _ _ _ _ _ _ _ _ _ _ hn hk HL.out).mono ?_); rintro e w1 ⟨g, rfl, hr, hb⟩; have HR := hid_o hr; have HB := hid_o hb; clear hr hb)
    | (go_at_call 179; (with_reducible refine (CH.out _ _ _ HR.out).mono ?_); rintro e w2 ⟨m, rfl, rfl⟩))
  go_ret
  exact ⟨rfl, below_drewN HB.out m⟩
set_option maxHeartbeats 4000000 in
theorem elim_any (b p n gr go : Nat) (bl : Nat → Nat) (M : Nat → Nat → Cw) (o : Nat → Nat) (s : Int) (k : Nat) (w : World) (hn : n ≤ 64) (hk : k < n) (hs : s = 1 ∨ s = -1) (hb : b ≤ w.heap.size) (hL : Lo w b p n gr go bl M o s) (hok : okM n M) (hfin : finM n M) :
    Calls Tryz.prog 139 #[.pointer (some ⟨p, 0, none⟩), .int .i64 k] w fun e w' => e = .returned (.int .i64 (stp n k ⟨M, o, s⟩).1) ∧ ((stp n k ⟨M, o, s⟩).1 = 0 → ∃ bl', Lo w' b p n gr go bl' (stp n k ⟨M, o, s⟩).2.M (stp n k ⟨M, o, s⟩).2.o (stp n k ⟨M, o, s⟩).2.s) ∧ Below b w w' := by
  by_cases h7 : (pvt n M k).2 = 0
  · rw [stp_7 (S := ⟨M, o, s⟩) h7]
    refine (elim7_any b p n gr go bl M o s k w hn hk hL hok hfin h7).mono ?_
    rintro e w' ⟨rfl, hB⟩
    exact ⟨rfl, fun e => absurd (show (7 : Int) = 0 from e) (by decide), hB.mono hb⟩
  have CH := hid_o (fun (W : World) (g : Nat) (bb : Nat) (h : Rw W bb (.slice (some ⟨g, 0, none⟩) n n) n (ro n (fun i => M i k))) => choose_low (cap := n) hn hk hfin hok (Nat.le_refl _) h)
  simp only [if_neg h7] at CH
  have hq := pvt_lt h7
  have S6 := hid_o (stp_6 (S := ⟨M, o, s⟩) h7)
  have S0 := hid_o (stp_0 (S := ⟨M, o, s⟩) h7)
  dsimp only at S6 S0
  have hok1 := swM_ok hok hk hq
  have hfin1 := swM_fin hfin hk hq
  have e2 := swM_self M k
  have e3 := swO_self o k
  obtain ⟨T, hT⟩ : ∃ T, T = stp n k ⟨M, o, s⟩ := ⟨_, rfl⟩
  rw [← hT] at S6 S0 ⊢
  obtain ⟨t, ht⟩ : ∃ t, t = (pvt n M k).1 := ⟨_, rfl⟩
  rw [← ht] at CH hq S6 S0 hok1 hfin1
  have est : (if t = 0 then s else -s) = if k + t = k then s else -s := by
    by_cases h : t = 0
    · rw [if_pos h, if_pos (by omega)]
    · rw [if_neg h, if_neg (by omega)]
  rw [est] at S0
  obtain ⟨q, hqe⟩ : ∃ q, q = k + t := ⟨_, rfl⟩
  rw [← hqe] at CH hq S6 S0 hok1 hfin1
  obtain ⟨M1, hM1⟩ : ∃ M1, M1 = swM M k q := ⟨_, rfl⟩
  obtain ⟨o1, ho1⟩ : ∃ o1, o1 = swO o k q := ⟨_, rfl⟩
  obtain ⟨s1, hs1⟩ : ∃ s1, s1 = if q = k then s else -s := ⟨_, rfl⟩
  rw [← hM1] at S6 S0 hok1 hfin1
  rw [← ho1, ← hs1] at S0
  have HL := hid_o hL
  have HM1 := hid_o hM1
  have HO1 := hid_o ho1
  have HS1 := hid_o hs1
  have HOK := hid_o hok1
  have HFIN := hid_o hfin1
  have HE2 := hid_o e2
  have HE3 := hid_o e3
  have HPM := hid_o hs
  have HBS := hid_o hb
  clear hL hok hfin h7 hT ht hM1 ho1 hs1 hok1 hfin1 e2 e3 hs hb est hqe
  go_enter Tryz.func139, Tryz.ntmps139
  go_upto_if 26 with (first
    | (go_at_call 180; (with_reducible refine (lcolumn_any _ _ _ _ _ _ _ _ _ _ _ hn hk HL.out).mono ?_); rintro e w1 ⟨g, rfl, hr, hb⟩; have HR := hid_o hr; have HB := hid_o hb; clear hr hb)
    | (go_at_call 179; (with_reducible refine (CH.out _ _ _ HR.out).mono ?_); rintro e w2 ⟨m, rfl, rfl⟩))
  have HL2 := hid_o ((HL.out.below HB.out).drewN m)
  have HB2 := hid_o ((below_drewN HB.out m).mono HBS.out)
  obtain ⟨w2, hw2⟩ : ∃ w2, w2 = w1.drewN m := ⟨_, rfl⟩
  rw [← hw2] at HL2 HB2 ⊢
  clear hw2 HR HB HL CH
  go_cut [] (fun wc => ∃ bl1, Lo wc b p n gr go bl1 M1 o1 s1 ∧ Below b w wc)
  case first =>
    by_cases h0 : q = k
    · have hd : ((q : Int) == (k : Int)) = true := by rw [h0]; exact beq_self_eq_true _
      have HR : Hid (M1 = M ∧ o1 = o ∧ s1 = s) := by
        refine ⟨?_, ?_, ?_⟩
        · rw [HM1.out, h0, HE2.out]
        · rw [HO1.out, h0, HE3.out]
        · rw [HS1.out, if_pos h0]
      clear h0
      go_wp2
      go_meet
      case rel =>
        refine ⟨bl, ?_, HB2.out⟩
        rw [HR.out.1, HR.out.2.1, HR.out.2.2]
        exact HL2.out
    · have hne : k ≠ q := Ne.symm h0
      have hne2 : ¬ (q : Int) = (k : Int) := by omega
      have HR : Hid (s1 = -s) := by show s1 = -s; rw [HS1.out, if_neg h0]
      go_wp2_with (go_at_call 181; (with_reducible refine (lexchange_any _ _ _ _ _ _ _ _ _ k q _ hn hk hq hne HPM.out HL2.out).mono ?_); rintro e w5 ⟨rfl, hL5, hb5⟩)
      go_meet
      case rel =>
        refine ⟨swO bl k q, ?_, HB2.out.trans hb5⟩
        rw [HM1.out, HO1.out, HR.out]
        exact hL5
  case rest =>
    obtain ⟨bl1, hL1, hb1⟩ := hcut
    have v0 := hL1.v.c0
    have hpl := hL1.v.lt
    have HL1 := hid_o hL1
    have HB1 := hid_o hb1
    clear hL1 hb1 HM1 HO1 HS1 HE2 HE3 HPM HL2 HB2 hq
    by_cases hkn : k + 1 = n
    · have hkn2 : (n : Int) = (k : Int) + 1 := by omega
      have FIN : Hid (T = (0, { M := redM M1 k, o := o1, s := s1 })) := S0.out (good_iff.2 (fun i hi hin => by omega))
      have FIN2 := hid_o (HL1.out.red (k := k) (M := M1) (fun _ _ => rfl) (fun r j hr hrn => by omega) HOK.out HFIN.out (good_iff.2 (fun i hi hin => by omega)))
      subst hkn
      clear S0 S6 hkn2
      go_wp2
      all_goals
        go_loopw [40] (fun iv wr => iv = .int .i64 0 ∧ wr = wc) (fun _ _ => 0)
        case atStart => exact ⟨rfl, rfl⟩
        case round =>
          obtain ⟨rfl, hw⟩ := hrel
          subst wr
          go_wp2
          go_loopw [57] (fun iv wr => iv = .int .i64 0 ∧ wr = wc) (fun _ _ => 0)
          case atStart => exact ⟨rfl, rfl⟩
          case round =>
            obtain ⟨rfl, hw⟩ := hrel
            subst wr
            go_wp2
            go_ret
            exact ⟨by rw [FIN.out]; rfl, fun _ => ⟨bl1, by rw [FIN.out]; exact FIN2.out⟩, HB1.out⟩
    · have hk1 : k + 1 < n := by omega
      have hnk : ¬ n = k + 1 := by omega
      clear hkn
      go_wp2
      go_loopw [40] (fun iv wr => ∃ (i : Nat) (M' : Nat → Nat → Cw), i ≤ n - (k + 1) ∧ iv = .int .i64 i ∧ Lo wr b p n gr go bl1 M' o1 s1 ∧ (∀ r, r ≤ k ∨ k + 1 + i ≤ r → M' r = M1 r) ∧ (∀ r j, k < r → r < k + 1 + i → r < n → j < n → repz (redZ (M1 r) (M1 k) k j) (M' r j)) ∧ Below b w wr) (fun iv _ => n - (k + 1) - (intOf iv).toNat)
      case atStart => exact ⟨0, M1, Nat.zero_le _, rfl, HL1.out, fun _ _ => rfl, fun r j h1 h2 => by omega, HB1.out⟩
      case round =>
        clear HL1 HB1 v0 hpl
        obtain ⟨i, M', him, rfl, hL', hsame, hdone, hbel⟩ := hrel
        by_cases hlt : i < n - (k + 1)
        · have hrn : k + 1 + i < n := by omega
          have d0 := hL'.v.c0
          have dl := hL'.v.lt
          have d1 := hL'.cell hrn
          have d2 := hL'.cell hk
          have gl := (hL'.rows.lt gr rfl).2
          have r1 := hL'.row _ hrn
          have r2 := hL'.row _ hk
          rw [hsame _ (.inr (Nat.le_refl _))] at r1
          rw [hsame _ (.inl (Nat.le_refl _))] at r2
          have hne : bl1 k ≠ bl1 (k + 1 + i) := fun e => by have := hL'.inj _ _ hk hrn e; omega
          have RD := hid_o (reduce_any b _ _ n k _ _ wr hn hk hne r1 r2 (fun j hj => HOK.out _ j hrn hj) (fun j hj => HOK.out _ j hk hj))
          have gl1 := (r1.own.lt _ rfl).2
          have gl2 := (r2.own.lt _ rfl).2
          have HR1 := hid_o r1
          have HGE := hid_o ((r1.own.lt _ rfl).1)
          have HL' := hid_o hL'
          have HSA := hid_o hsame
          have HDO := hid_o hdone
          have HBE := hid_o hbel
          clear hL' hsame hdone hbel r1 r2 hne
          go_wp2_with (go_at_call 182; (with_reducible refine RD.out.mono ?_); rintro e w6 ⟨f, rfl, hf, hrw, hon⟩; clear RD)
          go_roundw
          case measure => simp [intOf]; omega
          case rel =>
            refine ⟨i + 1, fun j => if j = k + 1 + i then f else M' j, by omega, by go_num, HL'.out.put hrn hon hrw, ?_, ?_, below_only HBE.out hon HGE.out⟩
            · intro r hr
              show (if r = k + 1 + i then f else M' r) = M1 r
              rw [if_neg (by omega)]
              exact HSA.out r (by omega)
            · intro r j h1 h2 h3 h4
              show repz _ ((if r = k + 1 + i then f else M' r) j)
              by_cases e : r = k + 1 + i
              · rw [if_pos e, e]; exact hf j h4
              · rw [if_neg e]; exact HDO.out r j h1 (by omega) h3 h4
        · have e : i = n - (k + 1) := by omega
          subst e
          have hD : ∀ r j, k < r → r < n → j < n → repz (redZ (M1 r) (M1 k) k j) (M' r j) := fun r j h1 h2 h3 => hdone r j h1 (by omega) h2 h3
          have hS : ∀ r, r ≤ k → M' r = M1 r := fun r h => hsame r (.inl h)
          have HGOOD : Hid ((∀ r, k < r → r < n → ∀ j, k ≤ j → j < n → finZ (M' r j) = true) → T = (0, { M := redM M1 k, o := o1, s := s1 })) := fun hf => S0.out (good_of hD hf)
          have HLG : Hid ((∀ r, k < r → r < n → ∀ j, k ≤ j → j < n → finZ (M' r j) = true) → Lo wr b p n gr go bl1 (redM M1 k) o1 s1) := fun hf => hL'.red hS hD HOK.out HFIN.out (good_of hD hf)
          have HBAD : Hid (∀ r j, k < r → r < n → k ≤ j → j < n → finZ (M' r j) = false → T = (6, { M := M, o := o, s := s })) := fun r j h1 h2 h3 h4 h5 => S6.out (bad_of hD h1 h2 h3 h4 h5)
          have HOK' : Hid (∀ r j, k < r → r < n → j < n → okz (M' r j)) := fun r j h1 h2 h3 => (hD r j h1 h2 h3).ok
          have HL' := hid_o hL'
          have HBE := hid_o hbel
          clear hD hS hL' hsame hdone hbel S0 S6
          obtain ⟨wq, hwq⟩ : ∃ wq, wq = wr := ⟨_, rfl⟩
          go_wp2
          go_loopw [57] (fun iv wx => ∃ (i : Nat), i ≤ n - (k + 1) ∧ iv = .int .i64 i ∧ (∀ r, k < r → r < k + 1 + i → r < n → ∀ j, k ≤ j → j < n → finZ (M' r j) = true) ∧ wx = wr) (fun iv _ => n - (k + 1) - (intOf iv).toNat)
          case atStart => exact ⟨0, Nat.zero_le _, rfl, fun r h1 h2 => by omega, rfl⟩
          case round =>
            obtain ⟨i, him2, rfl, hdone, hw⟩ := hrel
            subst wr
            by_cases hlt2 : i < n - (k + 1)
            · have hrn : k + 1 + i < n := by omega
              have hL' := HL'.out
              have d1 := hL'.cell hrn
              have gl := (hL'.rows.lt gr rfl).2
              have r1 := hL'.row _ hrn
              have NF := hid_o (fun W (hW : Rc W (some ⟨bl1 (k + 1 + i), k, none⟩) ((ro n (M' (k + 1 + i))).drop k)) => nf_any (some ⟨bl1 (k + 1 + i), k, none⟩) (n - k) (n - k) ((ro n (M' (k + 1 + i))).drop k) W (droplen _ _ _) (by omega) hW (drop_ok (fun j hj => HOK'.out _ j (by omega) hrn hj)))
              have RC := hid_o (rc_from (k := k) r1)
              have hnk2 : ¬ n = k := by omega
              have hle := nff_le ((ro n (M' (k + 1 + i))).drop k) (n - k)
              have NG := hid_o (nf_from (k := k) (f := M' (k + 1 + i)) (m := n - k) rfl)
              have NB := hid_o (nf_bad (k := k) (f := M' (k + 1 + i)) (m := n - k) rfl)
              obtain ⟨v, hv⟩ : ∃ v, v = nff ((ro n (M' (k + 1 + i))).drop k) (n - k) := ⟨_, rfl⟩
              rw [← hv] at NF hle NG NB
              have HDO := hid_o hdone
              clear hL' r1 hdone hv
              by_cases hvn : v = n - k
              · subst hvn
                have NG2 := hid_o (NG.out rfl)
                clear NG NB
                go_wp2_with (go_at_call 137; (with_reducible refine (NF.out _ RC.out).mono ?_); rintro e w7 ⟨rfl, rfl⟩)
                go_roundw
                case measure => simp [intOf]; omega
                case rel =>
                  refine ⟨i + 1, by omega, by go_num, ?_, by first | rfl | trivial⟩
                  intro r h1 h2 h3
                  by_cases e : r = k + 1 + i
                  · rw [e]; exact NG2.out
                  · exact HDO.out r h1 (by omega) h3
              · have hvl : (v : Int) < ((n - k : Nat) : Int) := by omega
                have hvl2 : v < n - k := by omega
                have HT : Hid (T = (6, { M := M, o := o, s := s })) := by
                  obtain ⟨j, j1, j2, j3⟩ := NB.out hvn
                  exact HBAD.out (k + 1 + i) j (by omega) hrn j1 j2 j3
                clear NG NB
                go_wp2_with (go_at_call 137; (with_reducible refine (NF.out _ RC.out).mono ?_); rintro e w7 ⟨rfl, rfl⟩)
                go_ret
                exact ⟨by rw [HT.out]; rfl, fun e => (by rw [HT.out] at e; exact absurd (show (6 : Int) = 0 from e) (by decide)), HBE.out⟩
            · have e : i = n - (k + 1) := by omega
              subst e
              have HF : Hid (∀ r, k < r → r < n → ∀ j, k ≤ j → j < n → finZ (M' r j) = true) := fun r h1 h2 => hdone r h1 (by omega) h2
              clear hdone
              go_wp2
              go_ret
              exact ⟨by rw [HGOOD.out HF.out]; rfl, fun _ => ⟨bl1, by rw [HGOOD.out HF.out]; exact HLG.out HF.out⟩, HBE.out⟩

end Go.Proofs.YtmpkcioeodlbcaaGreatDoor
