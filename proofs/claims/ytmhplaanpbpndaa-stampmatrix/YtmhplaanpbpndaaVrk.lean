/-
  What ApartNumbers leaves: blocks that are none of the rows stay as they were.
-/
import Derived.Test.YtmhplaanpbpndaaBsb
namespace Go.Proofs.Ytmhplaanpbpndaa
open Fl RowKit

/-- what Fk picks is not touched -/
structure Kf (Fk : Nat → Prop) (a w : World) : Prop where
  os : w.os = a.os
  tape : w.tape = a.tape
  output : w.output = a.output
  size : a.heap.size ≤ w.heap.size
  block : ∀ k, Fk k → w.heap[k]? = a.heap[k]?
theorem Kf.refl (Fk : Nat → Prop) (w : World) : Kf Fk w w := ⟨rfl, rfl, rfl, Nat.le_refl _, fun _ _ => rfl⟩
theorem Kf.trans {Fk : Nat → Prop} {a b c : World} (h : Kf Fk a b) (k : Kf Fk b c) : Kf Fk a c := ⟨k.os.trans h.os, k.tape.trans h.tape, k.output.trans h.output, Nat.le_trans h.size k.size, fun i hi => (k.block i hi).trans (h.block i hi)⟩
theorem Kf.drew {Fk : Nat → Prop} {a w : World} (h : Kf Fk a w) : Kf Fk a w.drew := ⟨h.os, h.tape, h.output, h.size, h.block⟩
theorem Kf.alloc {Fk : Nat → Prop} {a w : World} (h : Kf Fk a w) (hB : ∀ k, Fk k → k < w.heap.size) (o : Obj) : Kf Fk a (w.alloc o) := h.trans ⟨rfl, rfl, rfl, by simp, fun k hk => Below.heap_alloc _ _ _ (hB k hk)⟩
theorem Kf.setCell {Fk : Nat → Prop} {a w : World} (h : Kf Fk a w) {p : Addr} (hp : ¬ Fk p.block) (u : Value) : Kf Fk a (w.setCell p u) :=
  h.trans ⟨rfl, rfl, rfl, by simp [World.setCell], fun k hk => Below.heap_setCell _ _ _ _ (fun e => hp (e ▸ hk))⟩
theorem Kf.grown {Fk : Nat → Prop} {a w w' : World} {row : Option Nat} (h : Kf Fk a w) (hg : w.grownBy w' row) (hB : ∀ k, Fk k → k < w.heap.size) (hr : ∀ k, row = some k → ¬ Fk k) : Kf Fk a w' :=
  h.trans ⟨hg.os, hg.tape, hg.output, hg.size, fun k hk => hg.block k (hB k hk) (fun e => hr k e.symm hk)⟩
theorem kf_drewN {Fk : Nat → Prop} {a w : World} (h : Kf Fk a w) (n : Nat) : Kf Fk a (w.drewN n) := ⟨h.os, h.tape, h.output, h.size, h.block⟩
set_option maxRecDepth 10000 in
set_option maxHeartbeats 40000000 in
theorem kapart_kept (base LB m : Nat) (Fk : Nat → Prop) (n : Nat → Nat) (V : Nat → Value) (E : Nat → List Cw) (w : World) (hm0 : 0 < m) (hm : m ≤ 8) (hT : Many base LB m n V E w) (hsz : ∀ j, j < m → n j * 16 + 96 ≤ 140737488355328) (hB : ∀ j, j < m → ∀ g, (V j).ownBlock = some g → ¬ Fk g) (hBw : ∀ k, Fk k → k < w.heap.size) (hbs : base ≤ w.heap.size) :
    Calls Try.prog 14 #[.slice (some ⟨LB, 0, none⟩) m m] w fun e w' => e = .returned (.bool true) ∧ Kf Fk w w' := by
  have hVf : ∀ j, j < m → (∃ g C, V j = .slice (some ⟨g, 0, none⟩) (n j) C) ∨ (∃ A C, V j = .slice A 0 C ∧ n j = 0) := fun j hj => by
    rcases (hT.own j hj).2 with ⟨hv, h0⟩ | ⟨g, cap, cur, hv, _⟩
    · exact .inr ⟨_, _, hv, h0⟩
    · exact .inl ⟨_, _, hv⟩
  go_enter Try.func14, Try.ntmps14
  go_wp2
  go_loopw [3] (fun kv wr => ∃ k : Nat, k ≤ m ∧ kv = .int .i64 k ∧ Many base LB m n V (wr1 E k 0 n) wr ∧ Kf Fk w wr) (fun kv _ => m - (intOf kv).toNat)
  case atStart => exact ⟨0, Nat.zero_le _, rfl, by rw [wr1_start]; exact hT, Kf.refl _ _⟩
  case round =>
    obtain ⟨k, hk, rfl, hM, hbel⟩ := hrel
    by_cases hlt : k < m
    · have hsk := hsz k hlt
      have hck := hM.cell k hlt
      have hbd := hM.lt
      obtain ⟨A, C, hVk⟩ := own_form (hM.own k hlt)
      rw [hVk] at hck
      go_wp2
      go_loopw [4] (fun iv wr => ∃ i : Nat, i ≤ n k ∧ iv = .int .i64 i ∧ Many base LB m n V (wr1 E k i n) wr ∧ Kf Fk w wr) (fun iv _ => n k - (intOf iv).toNat)
      case atStart => exact ⟨0, Nat.zero_le _, rfl, hM, hbel⟩
      case round =>
        obtain ⟨i, hi, rfl, hMi, hbeli⟩ := hrel
        have hci := hMi.cell k hlt
        have hlti := hMi.lt
        by_cases hin : i < n k
        · have hlen : (E k).length = n k := hT.len k hlt
          obtain ⟨g, C', hVg, _⟩ := own_shape (hMi.own k hlt) (by omega)
          have hbk : (V k).ownBlock = some g := by rw [hVg]; rfl
          have hok := hMi.own k hlt
          have hst := hMi.store (i := i) hlt hVg (mk ((k : Int) + 10) (i : Int))
          rw [wr1_set E k i n (by omega)] at hst
          have hBk := hB k hlt g hbk
          rw [hVg] at hok hci
          have hcell := hok.cellAt i (by omega)
          have hfz := hok.frozenAt i
          have hget : ((wr1 E k i n k).map cx)[i]? = some (cx (zat (wr1 E k i n k) i)) := by
            have hl := hMi.len k hlt
            rw [List.getElem?_map, zat_lt (by omega)]; rfl
          rw [hget] at hcell
          obtain ⟨y, hy⟩ : ∃ y, y = zat (wr1 E k i n k) i := ⟨_, rfl⟩
          rw [← hy] at hcell
          have HB : Hid (Kf Fk w wr) := hbeli
          have HS : Hid (Many base LB m n V (wr1 E k (i + 1) n) (wr.setCell ⟨g, i, none⟩ (cx (mk ((k : Int) + 10) (i : Int))))) := hst
          have HVk : Hid (V k = .slice A (n k) C) := hVk
          clear hy hget hbeli hst hMi hM hT hbel hck hbd hsz hB hlen hok hVg hbk hVk hVf
          have hmk := fun W => mark_w k (i : Int) W (by omega) (by omega) (by omega)
          go_wp2
          go_region_with (go_at_call 35; (with_reducible refine (hmk _).mono ?_); rintro e w' ⟨rfl, rfl⟩)
          all_goals
            go_wp2
            go_roundw
            case rel => exact ⟨i + 1, by omega, by go_num, HS.out.drewN 1, (HB.out.setCell (p := ⟨g, i, none⟩) hBk _).drew⟩
            case measure => simp [intOf]; omega
        · have e : i = n k := by omega
          subst e
          rw [hVk] at hci
          rw [wr1_next E k n (hT.len k hlt)] at hMi
          have HM : Hid (Many base LB m n V (wr1 E (k + 1) 0 n) wr) := hMi
          have HB : Hid (Kf Fk w wr) := hbeli
          have HVk : Hid (V k = .slice A (n k) C) := hVk
          clear hMi hbeli hM hbel hT hsz hB hVk hVf
          go_wp2
          go_roundw
          case rel => exact ⟨k + 1, by omega, by go_num, HM.out, HB.out⟩
          case measure => simp [intOf]; omega
    · have e : m = k := by omega
      subst e
      clear hT hk hlt
      have hSz := hbel.size
      have hS0 := vs_of hM
      have hG0 := gone0 (H := fun _ => Value.slice none 0 0) hM (fun j hj => by unfold wr1; rw [if_pos hj])
      have hBwr : ∀ k, Fk k → k < wr.heap.size := fun k h => Nat.lt_of_lt_of_le (hBw k h) hbel.size
      obtain ⟨W0, hW0⟩ : ∃ W0, W0 = wr.heap.size := ⟨_, rfl⟩
      rw [← hW0] at hS0 hG0 hBwr
      have hbW : base ≤ W0 := by omega
      clear hM
      go_wp2
      go_loopw [5, 6] (fun gv kv wr => ∃ (k : Nat) (H : Nat → Value) (gv0 : Value), k ≤ m ∧ kv = .int .i64 k ∧ gv0 = gv ∧ Gone base W0 LB m k k n V H wr ∧ wr.ownsRow W0 37 1 gv0 k ((List.range k).map H) ∧ (∀ j, j < k → ∀ g, (H j).ownBlock = some g → gv0.ownBlock ≠ some g) ∧ Kf Fk w wr) (fun _ kv _ => m - (intOf kv).toNat)
      case atStart => exact ⟨0, fun _ => Value.slice none 0 0, _, Nat.zero_le _, rfl, rfl, hG0, World.ownsRow_nil _ _ _ _, fun j hj => absurd hj (Nat.not_lt_zero _), hbel⟩
      case round =>
        obtain ⟨k, H, gv0, hk, rfl, rfl, hG, hgs, hgap, hb1⟩ := hrel
        clear hG0 hbel hW0 hSz
        have hWr := hG.size
        by_cases hlt : k < m
        · have hsk := hsz k hlt
          have hck := hG.cell k hlt
          have hown0 := hG.rest k (Nat.le_refl _) hlt
          obtain ⟨A, C, hVk⟩ := own_form hown0
          have hlr : LB < wr.heap.size := by have := hS0.lb; omega
          rw [hVk] at hck
          have HVk : Hid (V k = .slice A (n k) C) := hVk
          have hI0 : Going base k 0 n V wr (V k) wr := ⟨⟨rfl, rfl, rfl, Nat.le_refl _, fun _ _ _ => rfl⟩, hown0, .inl rfl, fun g hg => ⟨(hown0.lt g hg).2, fun j hj => by
            have := hown0.cells (g := g) (by rw [hVk] at hg ⊢; cases A with
              | none => simp [Value.ownBlock] at hg
              | some a => rcases hown0.2 with ⟨hv, _⟩ | ⟨g', cap, cur, hv, _⟩
                          · rw [hVk] at hv; cases hv
                          · rw [hVk] at hv; cases hv; simp [Value.ownBlock] at hg; subst hg; rfl) j _ (marks_get _ hj)
            rw [add_at] at this; exact this⟩⟩
          clear hVk hown0
          go_wp2
          obtain ⟨w2, hw2⟩ : ∃ w2, w2 = wr := ⟨_, rfl⟩
          rw [← hw2] at hG hgs hb1 hI0 hlr hck hWr
          have HLR : Hid (LB < w2.heap.size ∧ w2.cell? ⟨LB, k, none⟩ = some (.slice A (n k) C)) := ⟨hlr, hck⟩
          have HG : Hid (Gone base W0 LB m k k n V H w2) := hG
          have HGS : Hid (w2.ownsRow W0 37 1 gv0 k ((List.range k).map H)) := hgs
          have HGA : Hid (∀ j, j < k → ∀ g, (H j).ownBlock = some g → gv0.ownBlock ≠ some g) := hgap
          have HB1 : Hid (Kf Fk w w2) := hb1
          clear hG hgs hgap hb1
          go_loopw [7, 8] (fun g iv wr => ∃ (i : Nat) (g0 : Value), i ≤ 6 ∧ iv = .int .i64 i ∧ g0 = g ∧ Going base k i n V w2 g0 wr) (fun _ iv _ => 6 - (intOf iv).toNat)
          case atStart => exact ⟨0, _, by omega, rfl, HVk.out, by rw [← hw2]; exact hI0⟩
          case round =>
            obtain ⟨i, g0, hi, rfl, rfl, hI⟩ := hrel
            clear hw2 hI0 hck hlr
            have hs2 := hI.grown.size
            have hlbk : (V k).ownBlock ≠ some LB := hS0.off k hlt
            have hckr : wr.cell? ⟨LB, k, none⟩ = some (.slice A (n k) C) := by rw [hI.grown.cell_far _ HLR.out.1 (fun e => hlbk e.symm)]; exact HLR.out.2
            have hlrr : LB < wr.heap.size := Nat.lt_of_lt_of_le HLR.out.1 hs2
            by_cases hin : i < 6
            · obtain ⟨i0, hi0, hz0, hz1, hz2⟩ := info_parts Try.infoC
              have hown := hI.own
              have HI : Hid (Going base k i n V w2 g0 wr) := hI
              have HSZ : Hid (∀ j, j < m → n j * 16 + 96 ≤ 140737488355328) := hsz
              have HBB : Hid (∀ j, j < m → ∀ g, (V j).ownBlock = some g → ¬ Fk g) := hB
              have HS0 : Hid (Vs W0 LB m V) := hS0
              clear hI hlbk hsz hB hS0 hVf
              go_wp2_with (first
                | (go_at_call 35; refine (mark_any _ _ _ (by omega) (by omega) (by omega) (by omega)).mono ?_; rintro e w' ⟨rfl, rfl⟩)
                | (at_builtin; refine wpList_append_keeps rfl _ _ 37 rfl base 75 i0 (.complex .f64 0 0) 16 Try.underlying37 hi0 hz0 hz1 hz2 rfl _ _ _ rfl (hown.alloc _) ⟨_, 0, none⟩ 1 1 [cx (mk ((k : Int) + 10) ((n k : Int) + (i : Int)))] rfl rfl ?c1 ?c2 ?c3 ?c4 ?c5 ?_))
              case c1 =>
                intro j u hj
                match j, hj with
                | 0, hj =>
                  simp at hj; subst hj
                  simp [Addr.add, cx, mk]
              case c2 => intro u hu; simp at hu; subst hu; rfl
              case c3 => unfold maxLen; omega
              case c4 => omega
              case c5 => simp; omega
              · intro v' w3 hown' hgrow hat hkeep
                have R := going_next HI.out hown' hgrow hat hkeep
                clear hown' hgrow hown hat hkeep
                go_wp2
                go_roundw
                case rel => exact ⟨i + 1, v', by omega, by go_num, rfl, R⟩
                case measure => simp [intOf]; omega
            · have e6 : i = 6 := by omega
              subst e6
              obtain ⟨G1, hgs1, hgap1⟩ := gone_step hS0 hlt HG.out HGS.out HGA.out hI
              have hb2 : Kf Fk w wr := HB1.out.grown hI.grown (fun q h => Nat.lt_of_lt_of_le (hBwr q h) (by omega)) (fun j hj => hB k hlt j hj)
              obtain ⟨h, c, hg0, hge⟩ := own_shape hI.own (by omega)
              subst hg0
              have hgv : ∀ g, gv0.ownBlock = some g → W0 ≤ g := fun g e => own_ge hgs1 e
              have hstep := fun (v' : Value) (o : Obj) (w3 : World) (hg : (wr.alloc o).grownBy w3 gv0.ownBlock) (hat : v'.ownBlock = gv0.ownBlock ∨ v'.ownBlock = some (wr.heap.size + 1)) => gone_gs hS0 (by omega) G1 hgv hgap1 hg hat
              have HST : Hid (∀ (v' : Value) (o : Obj) (w3 : World), (wr.alloc o).grownBy w3 gv0.ownBlock → (v'.ownBlock = gv0.ownBlock ∨ v'.ownBlock = some (wr.heap.size + 1)) → Gone base W0 LB m (k + 1) (k + 1) n V (upd H k (.slice (some ⟨h, 0, none⟩) (n k + 6) c)) w3 ∧ (∀ j, j < k + 1 → ∀ g, (upd H k (.slice (some ⟨h, 0, none⟩) (n k + 6) c) j).ownBlock = some g → v'.ownBlock ≠ some g)) := hstep
              have HGV : Hid (∀ g, gv0.ownBlock = some g → W0 ≤ g) := hgv
              have HB2 : Hid (Kf Fk w wr) := hb2
              have HSZ : Hid (∀ j, j < m → n j * 16 + 96 ≤ 140737488355328) := hsz
              have HBB : Hid (∀ j, j < m → ∀ g, (V j).ownBlock = some g → ¬ Fk g) := hB
              have HS0 : Hid (Vs W0 LB m V) := hS0
              obtain ⟨i1, hi1, hy0, hy1, hy2⟩ := info_parts Try.infoRC
              clear hI hlbk hsz hB hS0 hstep hgv hb2 G1 hgap1 hVf
              go_wp2_with (first
                | (at_builtin; refine wpList_append_own_at _ rfl _ _ 49 rfl W0 37 i1 (.slice none 0 0) 1 24 Try.underlying49 hi1 hy0 hy1 hy2 rfl (by decide) _ _ _ rfl (hgs1.alloc _) ⟨_, 0, none⟩ 1 1 [.slice (some ⟨h, 0, none⟩) (n k + 6) c] rfl rfl ?c1 ?c2 ?c3 ?c4 ?c5 ?_))
              case c1 =>
                intro j u hj
                match j, hj with
                | 0, hj =>
                  simp at hj; subst hj
                  simp [Addr.add]
              case c2 => intro u hu; simp at hu; subst hu; rfl
              case c3 => unfold maxLen; omega
              case c4 => omega
              case c5 => simp; omega
              · intro v' w3 hown' hgrow _ hat
                obtain ⟨R1, R3⟩ := HST.out v' _ w3 hgrow (by simpa using hat)
                have R2 : Kf Fk w w3 := (HB2.out.alloc (fun q h => Nat.lt_of_lt_of_le (hBwr q h) (by omega)) _).grown hgrow (fun q h => Nat.lt_of_lt_of_le (hBwr q h) (by simp; omega)) (fun j hj hF => by have h1 := HGV.out j hj; have h2 := hBwr j hF; omega)
                have R4 : w3.ownsRow W0 37 1 v' (k + 1) ((List.range (k + 1)).map (upd H k (.slice (some ⟨h, 0, none⟩) (n k + 6) c))) := by rw [range_upd]; exact hown'
                clear hown' hgrow hgs1 hat
                go_wp2
                go_roundw
                case rel => exact ⟨k + 1, _, v', by omega, by go_num, rfl, R1, R4, R3, R2⟩
                case measure => simp [intOf]; omega
        · have e : m = k := by omega
          subst e
          obtain ⟨gb, gc, hgv, hgb⟩ := own_shape hgs hm0
          subst hgv
          have hS' : ∀ j, j < m → ∃ h c, H j = .slice (some ⟨h, 0, none⟩) (n j + 6) c := fun j hj => by
            obtain ⟨h, c, e, _⟩ := own_shape (hG.row j hj) (by omega)
            exact ⟨h, c, e⟩
          have pick : ∃ (P Q : Nat → Nat), ∀ j, j < m → H j = .slice (some ⟨P j, 0, none⟩) (n j + 6) (Q j) :=
            ⟨fun j => if hj : j < m then Classical.choose (hS' j hj) else 0, fun j => if hj : j < m then Classical.choose (Classical.choose_spec (hS' j hj)) else 0, fun j hj => by
              simp only [hj, dif_pos]; exact Classical.choose_spec (Classical.choose_spec (hS' j hj))⟩
          obtain ⟨P, Q, hPQ⟩ := pick
          have F1 : Hid (∀ j, j < m → wr.cell? ⟨gb, j, none⟩ = some (.slice (some ⟨P j, 0, none⟩) (n j + 6) (Q j))) := fun j hj => by
            have := hgs.cellAt j (by simp; omega)
            rw [this]; simp [hj, hPQ j hj]
          have F2 : Hid (∀ j i, j < m → i < n j + 6 → wr.cell? ⟨P j, i, none⟩ = some (cx (mk ((j : Int) + 10) (i : Int)))) := fun j i hj hi => by
            have := hG.row j hj
            rw [hPQ j hj] at this
            rw [this.cellAt i (by omega)]
            exact marks_get _ hi
          have F3 : Hid (∀ j, j < m → wr.cell? ⟨LB, j, none⟩ = some (V j)) := hG.cell
          have F4 : Hid (∀ j, j < m → ∀ g, (V j).ownBlock = some g → ∀ i, i < n j → wr.cell? ⟨g, i, none⟩ = some (cx (mk ((j : Int) + 10) (i : Int)))) := hG.old
          have HB : Hid (Kf Fk w wr) := hb1
          have hlbw : LB < wr.heap.size := by have := hS0.lb; omega
          have HV : Hid (∀ j, j < m → (∃ g C, V j = .slice (some ⟨g, 0, none⟩) (n j) C) ∨ (∃ A C, V j = .slice A 0 C ∧ n j = 0)) := hVf
          clear hG hgs hgap hb1 hB hBwr hBw hS' hPQ hS0 hVf
          go_wp2
          obtain ⟨w5, hw5⟩ : ∃ w5, w5 = wr := ⟨_, rfl⟩
          rw [← hw5] at F1 F2 F3 F4 HB hlbw
          go_loopw [9] (fun kv wr => ∃ (k q : Nat), k ≤ m ∧ kv = .int .i64 k ∧ wr = w5.drewN q) (fun kv _ => m - (intOf kv).toNat)
          case atStart => exact ⟨0, 0, Nat.zero_le _, rfl, by rw [hw5]; rfl⟩
          case round =>
            obtain ⟨k, q, hk, rfl, hq⟩ := hrel
            clear hw5
            by_cases hlt : k < m
            · obtain ⟨A, C, hVk⟩ : ∃ A C, V k = .slice A (n k) C := by
                rcases HV.out k hlt with ⟨g, C, e⟩ | ⟨A, C, e, h0⟩
                · exact ⟨_, _, e⟩
                · exact ⟨A, C, by rw [h0]; exact e⟩
              have HVk : Hid (V k = .slice A (n k) C) := hVk
              clear hVk
              go_wp2
              go_loopw [10] (fun iv wr => ∃ (i q : Nat), i ≤ n k + 6 ∧ iv = .int .i64 i ∧ wr = w5.drewN q) (fun iv _ => n k + 6 - (intOf iv).toNat)
              case atStart => exact ⟨0, q, Nat.zero_le _, rfl, by rw [← hq]⟩
              case round =>
                clear hq
                obtain ⟨i, q, hi, rfl, hq⟩ := hrel
                have c1 : wr.cell? ⟨gb, k, none⟩ = some (.slice (some ⟨P k, 0, none⟩) (n k + 6) (Q k)) := by rw [hq]; exact F1.out k hlt
                have hsk := hsz k hlt
                have HQ : Hid (wr = w5.drewN q) := hq
                by_cases hin : i < n k + 6
                · have c2 : wr.cell? ⟨P k, i, none⟩ = some (cx (mk ((k : Int) + 10) (i : Int))) := by rw [hq]; exact F2.out k i hlt hin
                  have hmk := fun W => mark_any ((k : Int) + 10) (i : Int) W (by omega) (by omega) (by omega) (by omega)
                  have hsm := fun W => ksame_any (mk1 ((k : Int) + 10) (i : Int)) (floatOfInt .f64 ((k : Int) + 10)) (mk1 ((k : Int) + 10) (i : Int)) (floatOfInt .f64 ((k : Int) + 10)) W
                  rw [smB_self, smB_self] at hsm
                  have hin2 : (i : Int) < (n k : Int) + 6 := by omega
                  unfold cx mk at c2
                  by_cases hik : i < n k
                  · obtain ⟨g, C', hVg⟩ : ∃ g C', V k = .slice (some ⟨g, 0, none⟩) (n k) C' := by
                      rcases HV.out k hlt with ⟨g, C, e⟩ | ⟨A, C, e, h0⟩
                      · exact ⟨_, _, e⟩
                      · omega
                    have c3 : wr.cell? ⟨LB, k, none⟩ = some (.slice (some ⟨g, 0, none⟩) (n k) C') := by rw [hq, ← hVg]; exact F3.out k hlt
                    have c4 : wr.cell? ⟨g, i, none⟩ = some (cx (mk ((k : Int) + 10) (i : Int))) := by rw [hq]; exact F4.out k hlt g (by rw [hVg]; rfl) i hik
                    unfold cx mk at c4
                    have hikI : (i : Int) < (n k : Int) := by omega
                    clear hq hsz F1 F2 F3 F4 HB hik HV HVk hVg
                    go_wp2
                    go_big_quiet (first | (go_at_call 36; (with_reducible exact Calls.quiet_of_same (hsm _))) | (go_at_call 35; (with_reducible exact Calls.quiet_of_same (hmk _))))
                    go_wp2
                    go_roundw
                    case rel => exact ⟨i + 1, q + nq, by omega, by go_num, by rw [HQ.out, World.drewN_drewN]⟩
                    case measure => simp [intOf]; omega
                  · have c3 : wr.cell? ⟨LB, k, none⟩ = some (.slice A (n k) C) := by rw [hq, ← HVk.out]; exact F3.out k hlt
                    have hik4 : decide (i < n k) = false := decide_eq_false hik
                    clear hq hsz F1 F2 F3 F4 HB hik HV HVk
                    go_wp2
                    go_big_quiet (first | (go_at_call 36; (with_reducible exact Calls.quiet_of_same (hsm _))) | (go_at_call 35; (with_reducible exact Calls.quiet_of_same (hmk _))))
                    go_wp2
                    go_roundw
                    case rel => exact ⟨i + 1, q + nq, by omega, by go_num, by rw [HQ.out, World.drewN_drewN]⟩
                    case measure => simp [intOf]; omega
                · have e : i = n k + 6 := by omega
                  subst e
                  clear hq hsz F1 F2 F3 F4 HB HV HVk
                  go_wp2
                  go_roundw
                  case rel => exact ⟨k + 1, q, by omega, by go_num, HQ.out⟩
                  case measure => simp [intOf]; omega
            · have HQ : Hid (wr = w5.drewN q) := hq
              clear hq hsz F1 F2 F3 F4 HV
              go_wp2
              go_ret
              exact ⟨rfl, by rw [HQ.out]; exact kf_drewN HB.out q⟩
end Go.Proofs.Ytmhplaanpbpndaa
