/-
  Several texts in one: Gof Gog.
-/
import Derived.Test.YtmpkcioeodlbcaaGreatDoorK26
namespace Go.Proofs.YtmpkcioeodlbcaaGreatDoor
open Go.Maps Go.RowKit
set_option linter.unusedVariables false
set_option maxRecDepth 100000
theorem fo_froz {w : World} {base fp : Nat} {F : Fr_God} {b : Fb} (h : Fo w base fp F b) (j : Nat) : w.frozen? ⟨fp, j, none⟩ = false := frozen_of_row w fp j _ _ h.blk
theorem loop_end {w w1 wA w2 w3 : World} {base fp qA m g2 cap2 g3 c3 : Nat} {F : Fr_God} {B : Fb} {s : ByteArray} {way : List Nm} {v3 : Value} {o : Obj} (hF1 : Fo w1 base fp F B) (hv : B.vl = v3) (b1 : Below w.heap.size w w1) (bA : Below w1.heap.size w1 wA) (hb : base ≤ w.heap.size) (hq : wA.heap.size = qA + 1) (hq1 : qA = w1.heap.size) (hm : way.length = m)
    (hown2 : w2.ownsRow base 9 1 (.slice (some ⟨g2, 0, none⟩) (1 + m) cap2) (1 + m) ([.string s] ++ way.map sv)) (hgrow2 : wA.drew.grownBy w2 (some qA)) (hat2 : (some qA : Option Nat) = some g2 ∨ g2 = wA.heap.size)
    (hown3 : w3.ownsRow base 61 1 (.slice (some ⟨g3, 0, none⟩) (F.lp.length + 1) c3) (F.lp.length + 1) (B.lv ++ [.slice (some ⟨g2, 0, none⟩) (1 + m) cap2])) (hgrow3 : (w2.alloc o).grownBy w3 v3.ownBlock) :
    (∃ B', Fo (w3.setCell ⟨fp, 3, none⟩ (.slice (some ⟨g3, 0, none⟩) (F.lp.length + 1) c3)) base fp { F with lp := F.lp ++ [bl s :: way] } B') ∧ Below base w (w3.setCell ⟨fp, 3, none⟩ (.slice (some ⟨g3, 0, none⟩) (F.lp.length + 1) c3)) ∧ Kq w (w3.setCell ⟨fp, 3, none⟩ (.slice (some ⟨g3, 0, none⟩) (F.lp.length + 1) c3)) := by
  have hs1 := b1.size
  have b2 : Below w1.heap.size w1 w2 := bA.trans ⟨hgrow2.os, hgrow2.tape, hgrow2.output, hgrow2.size, fun k hk => hgrow2.block k (by show k < wA.heap.size; omega) (fun e => by cases e; omega)⟩
  have b3 : Below w1.heap.size w1 (w2.alloc o) := b2.alloc (by have := b2.size; omega) _
  have hF3 := hF1.below b3
  have hge : w1.heap.size ≤ g2 := by rcases hat2 with q | q; cases q; omega; omega
  have hP := hF3.pushLp (u := .slice (some ⟨g2, 0, none⟩) (1 + m) cap2) (v' := .slice (some ⟨g3, 0, none⟩) (F.lp.length + 1) c3) (l := bl s :: way) (by
      rw [List.length_cons, hm, Nat.add_comm m 1]; exact (hown2.alloc o)) (fun x hx g q1 q2 => by have e : g2 = g := Option.some.inj q2; have := (hF1.lps.lt hx q1).2; omega) (fun g q1 q2 => by have e : g2 = g := Option.some.inj q1; have := (row_ge hF1.tr q2).2; omega) (by rw [hv]; exact hgrow3) hown3
  exact ⟨⟨_, hP.1⟩, (b1.mono hb).trans ((b3.mono (by omega)).trans hP.2.1), (Kq.bel b1).trans ((Kq.bel b3).trans hP.2.2)⟩
set_option maxHeartbeats 4000000 in
theorem take_loop (w : World) (base fp a b f : Nat) (F : Fr_God) (B : Fb) (s : ByteArray) (way : List Nm) (h : Fo w base fp F B) (hok : F.ok) (hf : f ≤ 10000) (hab : a ≠ b) (hr : skF F.tw b f a (-1) = some (some way)) (hs : s.size ≤ 100000) :
    Calls Tryz.prog 171 #[.pointer (some ⟨fp, 0, none⟩), .string s, .int .i64 (a : Int), .int .i64 (b : Int)] w fun e w' => e = .returned (.tuple #[]) ∧ (∃ B', Fo w' base fp { F with lp := F.lp ++ [bl s :: way] } B') ∧ Below base w w' ∧ Kq w w' := by
  have hback := back_any w fp a b f F.tw (some way) (h.twR hok) (by omega) hr
  have hwl := skF_len hr
  have hw0 := skF_ne hr hab
  have hbs : base ≤ w.heap.size := by have := h.lo; have := h.lt; omega
  have HF : Hid _ := h
  have hlpn : F.lp.length ≤ 100000 := hok.l
  clear h hr hok
  go_enter Tryz.func171, Tryz.ntmps171
  go_wp2_with fail
  refine hback.mono ?_
  rintro e1 w1 ⟨v, rfl, ow, b1⟩
  simp only [Option.getD_some] at ow
  obtain ⟨gw, cw, rfl⟩ := row_some ow hw0
  obtain ⟨m, hm⟩ : ∃ m, way.length = m := ⟨_, rfl⟩
  rw [hm] at ow hwl hw0 ⊢
  have HM : Hid (way.length = m) := hm
  have hF1 := HF.out.below b1
  obtain ⟨c0, c1, c2, c3⟩ := hF1.c
  obtain ⟨A3, cap3, hv3⟩ := row_slice hF1.lps.out
  rw [hv3, ← hF1.lps.len] at c3
  have hz3 := fo_froz hF1 3
  have hfp1 : fp < w1.heap.size := hF1.lt
  have hs1 := b1.size
  obtain ⟨wA, hwA⟩ : ∃ wA, w1.alloc (.cells #[.string s] 9) = wA := ⟨_, rfl⟩
  obtain ⟨qA, hqA⟩ : ∃ qA, w1.heap.size = qA := ⟨_, rfl⟩
  have bA : Below w1.heap.size w1 wA := by rw [← hwA]; exact (Below.refl _ _).alloc (Nat.le_refl _) _
  have hFA := hF1.below bA
  have rowA : wA.drew.ownsRow base 9 1 (.slice (some ⟨qA, 0, none⟩) 1 1) 1 [.string s] := by
    rw [← hwA, ← hqA]
    exact World.ownsRow_lit w1 #[.string s] 1 (by omega) (by decide) rfl
  have HcW : Hid (∀ j u, (way.map sv)[j]? = some u → wA.drew.cell? ((⟨gw, 0, none⟩ : Addr).add j) = some u) := fun j u hj => by
    have h1 := ow.cells (g := gw) rfl j u hj
    exact (bA.cell (World.block_lt_of_cell? w1 _ h1)).trans h1
  have hqs : wA.heap.size = qA + 1 := by rw [← hwA, ← hqA]; simp
  have HSA : Hid (wA.heap.size = qA + 1 ∧ base ≤ wA.heap.size ∧ qA = w1.heap.size) := ⟨hqs, by omega, hqA.symm⟩
  have HML : Hid ((way.map sv).length = m * 1 ∧ ∀ u ∈ way.map sv, u.oneCell' = true) := ⟨by simp [hm], fun u hu => by obtain ⟨x, _, rfl⟩ := List.mem_map.1 hu; rfl⟩
  obtain ⟨i0, hi0, hz0, hz1, hz2⟩ := info_parts Tryz.infoS
  obtain ⟨j0, hj0, hy0, hy1, hy2⟩ := info_parts Tryz.infoSS
  have hfA : fp < wA.heap.size := hFA.lt
  have cA3 : wA.cell? ⟨fp, 3, none⟩ = some (.slice A3 F.lp.length cap3) := by have := hFA.c.2.2.2; rw [hv3, ← hF1.lps.len] at this; exact this
  have hqf : qA ≠ fp := by omega
  have rL : wA.ownsRow base 61 1 (.slice A3 F.lp.length cap3) F.lp.length B.lv := by have := hFA.lps.out; rw [hv3, ← hF1.lps.len] at this; exact this
  have HF1 : Hid (Fo w1 base fp F B ∧ B.vl = .slice A3 F.lp.length cap3 ∧ Below w.heap.size w w1 ∧ Below w1.heap.size w1 wA) := ⟨hF1, by rw [hv3, ← hF1.lps.len], b1, bA⟩
  have hlq : some fp ≠ (Value.slice (some ⟨qA, 0, none⟩) 1 1).ownBlock := fun e => hqf (by cases e; rfl)
  have hlr : (Value.slice A3 F.lp.length cap3).ownBlock ≠ (Value.slice (some ⟨qA, 0, none⟩) 1 1).ownBlock := fun e => by
    have e2 : (Value.slice A3 F.lp.length cap3).ownBlock = some qA := e
    have := (row_ge (w := w1) (by have := hF1.lps.out; rw [hv3, ← hF1.lps.len] at this; exact this : w1.ownsRow base 61 1 (.slice A3 F.lp.length cap3) F.lp.length B.lv) e2).2
    omega
  clear hback b1 hF1 hFA bA hqs ow hm c0 c1 c2 hv3 hs1
  go_wp2_with fail
  go_cut [18] (fun _ wc => (∃ B', Fo wc base fp { F with lp := F.lp ++ [bl s :: way] } B') ∧ Below base w wc ∧ Kq w wc)
  case first =>
    go_region_law
      (first
        | (refine step_append_lies _ (by rfl) _ _ 61 (by rfl) base 9 i0 (.string ByteArray.empty) 1 16 Tryz.underlying61 hi0 hz0 hz1 hz2 (by rfl) (by decide) _ _ _ (by rfl) rowA ⟨gw, 0, none⟩ m cw (way.map sv) (by rfl) HML.out.1 HcW.out HML.out.2 hw0 (by unfold maxLen; omega) (by omega) HSA.out.2.1 wA.heap.size rfl ?_; intro g2 cap2 w2 hown2 hgrow2 hat2 hlt2; (have k2 : w2.cell? ⟨fp, 3, none⟩ = some (.slice A3 F.lp.length cap3) := hgrow2.cell (w := wA.drew) cA3 hlq); (have rL2 : w2.ownsRow base 61 1 (.slice A3 F.lp.length cap3) F.lp.length B.lv := World.ownsRow.kept (w := wA.drew) rL hgrow2 (Or.inr hlr)); (have hf2 : fp < w2.heap.size := (World.block_lt_of_cell? w2 _ k2)))
        | (refine step_append_lies _ (by rfl) _ _ 239 (by rfl) base 61 j0 (.slice none 0 0) 1 24 Tryz.underlying239 hj0 hy0 hy1 hy2 (by rfl) (by decide) _ _ _ (by rfl) (rL2.alloc _) ⟨w2.heap.size, 0, none⟩ 1 1 [.slice (some ⟨g2, 0, none⟩) (1 + m) cap2] (by rfl) (by rfl) (World.news_of_block (fr := (0, 0)) (t := 61) (cs := #[.slice (some ⟨g2, 0, none⟩) (1 + m) cap2]) (heap_alloc_new _ _)) (fun u hu => by simp at hu; subst hu; rfl) (by decide) (by unfold maxLen; omega) (by omega) (by have := HF1.out.1.lo; simp; omega) (w2.heap.size + 1) (by simp) ?_; intro g3 cap3' w3 hown3 hgrow3 hat3 hlt3; (have hl3 : some fp ≠ (Value.slice A3 F.lp.length cap3).ownBlock := fun e => row_cells HF1.out.1.lps.out HF1.out.1.blk (by decide) (by rw [HF1.out.2.1, e])); (have k3 : w3.cell? ⟨fp, 3, none⟩ = some (.slice A3 F.lp.length cap3) := hgrow3.cell (by rw [World.cell?_alloc_lt _ _ _ hf2]; exact k2) hl3); (have f3 : w3.frozen? ⟨fp, 3, none⟩ = false := (hgrow3.frozen_far ⟨fp, 3, none⟩ (by simp; omega) hl3).trans ((World.frozen?_alloc_old w2 _ ⟨fp, 3, none⟩ (Nat.ne_of_lt hf2)).trans ((hgrow2.frozen_far ⟨fp, 3, none⟩ hfA hlq).trans ((World.frozen?_of_block (HF1.out.2.2.2.block fp (by have := HSA.out.2.2; omega))).trans (fo_froz HF1.out.1 3))))))
        | (trace_state; fail))
    all_goals go_wp2_with fail
    all_goals go_meet
    all_goals exact loop_end HF1.out.1 HF1.out.2.1 HF1.out.2.2.1 HF1.out.2.2.2 hbs HSA.out.1 HSA.out.2.2 HM.out hown2 hgrow2 hat2 hown3 hgrow3
  go_wp2_with fail
  (try simp only [Exit.inBlock, Exit.then])
  refine bodyPost_ret (results_none rfl _ _ _) rfl ?_
  exact ⟨rfl, hcut⟩

end Go.Proofs.YtmpkcioeodlbcaaGreatDoor
namespace Go.Proofs.YtmpkcioeodlbcaaGreatDoor
open Go.Maps Go.RowKit
set_option linter.unusedVariables false
set_option maxRecDepth 100000
/-- what a twig more is: the list of a node's twigs -/
theorem Fo.tv {w : World} {base fp : Nat} {F : Fr_God} {B : Fb} (h : Fo w base fp F B) {a : Nat} (ha : a < F.tw.length) : ∃ u, B.tv[a]? = some u ∧ w.ownsRow base 247 2 u (F.tw.getD a []).length ((F.tw.getD a []).flatMap twE) ∧ w.cell? ⟨B.BL, a, none⟩ = some u ∧ w.frozen? ⟨B.BL, a, none⟩ = false := by
  have hn := h.tws.len
  obtain ⟨u, hu⟩ : ∃ u, B.tv[a]? = some u := ⟨_, List.getElem?_eq_getElem (by omega)⟩
  have hl : F.tw[a]? = some (F.tw.getD a []) := by rw [List.getD_eq_getElem?_getD, List.getElem?_eq_getElem ha]; rfl
  have o := h.tws.out
  rw [← hn] at o
  exact ⟨u, hu, h.tws.inn a u _ hu hl, by rw [o.cellAt a (by omega)]; exact hu, o.frozenAt a⟩
theorem gd_push (tw : List (List Tw)) (a b : Nat) (t : Tw) : ((pushT tw a t).getD b []).length ≤ (tw.getD b []).length + 1 := by
  unfold pushT
  simp only [List.getD_eq_getElem?_getD, List.getElem?_set]
  by_cases h : a = b
  · subst h
    by_cases h2 : a < tw.length
    · simp [h2]
    · simp [h2]
  · simp [h]
theorem tw_end {w wx w4 : World} {base fp BL m a g4 cp4 : Nat} {F1 : Fr_God} {B : Fb} {nm : ByteArray} {far : Nat} {u : Value} {o : Obj} (h : Fo wx base fp F1 B) (hB : B.BL = BL) (hu : B.tv[a]? = some u) (hm : (F1.tw.getD a []).length = m) (hb : Below base w wx ∧ Kq w wx) (hbx : base ≤ wx.heap.size)
    (hown : w4.ownsRow base 247 2 (.slice (some ⟨g4, 0, none⟩) (m + 1) cp4) (m + 1) ((F1.tw.getD a []).flatMap twE ++ [.string nm, .int .i64 (far : Int)])) (hgrow : (wx.alloc o).drew.grownBy w4 u.ownBlock) (hat : u.ownBlock = some g4 ∨ g4 = wx.heap.size + 1) :
    (∃ B', Fo (w4.setCell ⟨BL, a, none⟩ (.slice (some ⟨g4, 0, none⟩) (m + 1) cp4)) base fp { F1 with tw := pushT F1.tw a (bl nm, far) } B') ∧ Below base w (w4.setCell ⟨BL, a, none⟩ (.slice (some ⟨g4, 0, none⟩) (m + 1) cp4)) ∧ Kq w (w4.setCell ⟨BL, a, none⟩ (.slice (some ⟨g4, 0, none⟩) (m + 1) cp4)) := by
  subst hB
  have bA : Below wx.heap.size wx (wx.alloc o).drew := ((Below.refl _ wx).alloc (Nat.le_refl _) o).drew
  have hP := (h.below bA).pushTw (t := (bl nm, far)) (u' := .slice (some ⟨g4, 0, none⟩) (m + 1) cp4) hu hgrow (by rw [hm, List.flatMap_append]; exact hown) (fun g q => by
    have e : g4 = g := Option.some.inj q
    rcases hat with q2 | q2
    · exact .inl (by rw [q2, e])
    · exact .inr (by show (wx.alloc o).heap.size ≤ g; simp; omega))
  exact ⟨⟨_, hP.1⟩, hb.1.trans ((bA.mono hbx).trans hP.2.1), hb.2.trans ((Kq.bel bA).trans hP.2.2)⟩
theorem gd_len0 {F : Fr_God} (h : F.ok) (a : Nat) : (F.tw.getD a []).length ≤ 100000 := by
  by_cases ha : a < F.tw.length
  · rw [List.getD_eq_getElem?_getD, List.getElem?_eq_getElem ha]
    have := h.t _ (List.getElem_mem ha)
    simp; omega
  · rw [List.getD_eq_getElem?_getD, List.getElem?_eq_none (by omega)]; simp
theorem gd_len {F : Fr_God} (h : F.ok) (a : Nat) : (F.tw.getD a []).length ≤ 100005 := by
  by_cases ha : a < F.tw.length
  · rw [List.getD_eq_getElem?_getD, List.getElem?_eq_getElem ha]
    have := h.t _ (List.getElem_mem ha)
    simp; omega
  · rw [List.getD_eq_getElem?_getD, List.getElem?_eq_none (by omega)]; simp
set_option maxHeartbeats 4000000 in
theorem take_tree (w : World) (base fp a b f : Nat) (F : Fr_God) (B : Fb) (s : ByteArray) (h : Fo w base fp F B) (hok : F.ok) (hf : f ≤ 10000) (ha : a < F.tw.length) (hb : b < F.tw.length) (hr : skF F.tw b f a (-1) = some none) (hs : s.size ≤ 100000) :
    Calls Tryz.prog 171 #[.pointer (some ⟨fp, 0, none⟩), .string s, .int .i64 (a : Int), .int .i64 (b : Int)] w fun e w' => e = .returned (.tuple #[]) ∧ (∃ B', Fo w' base fp { F with tr := F.tr ++ [bl s], tw := pushT (pushT F.tw a (bl s, b)) b (bl s, a) } B') ∧ Below base w w' ∧ Kq w w' := by
  have hback := back_any w fp a b f F.tw none (h.twR hok) (by omega) hr
  have hbs : base ≤ w.heap.size := by have := h.lo; have := h.lt; omega
  have HF : Hid _ := h
  have htrn : F.tr.length ≤ 100000 := hok.r
  have HOK : Hid F.ok := hok
  have HLN5 : Hid ((({ F with tr := F.tr ++ [bl s] } : Fr_God).tw.getD a []).length ≤ 100005) := gd_len hok a
  have HLN6 : Hid ((({ F with tr := F.tr ++ [bl s], tw := pushT F.tw a (bl s, b) } : Fr_God).tw.getD b []).length ≤ 100005) := by have := gd_push F.tw a b (bl s, b); have := gd_len0 hok b; show ((pushT F.tw a (bl s, b)).getD b []).length ≤ _; omega
  clear h hr hok
  go_enter Tryz.func171, Tryz.ntmps171
  go_wp2_with fail
  refine hback.mono ?_
  rintro e1 w1 ⟨v, rfl, ow, b1⟩
  have hF1 := HF.out.below b1
  obtain ⟨c0, c1, c2, c3⟩ := hF1.c
  obtain ⟨A2, cap2, hv2⟩ := row_slice hF1.tr
  have hz2 := fo_froz hF1 2
  have hfp1 : fp < w1.heap.size := hF1.lt
  have rT := hF1.tr
  rw [hv2] at c2 rT
  obtain ⟨i0, hi0, hy0, hy1, hy2⟩ := info_parts Tryz.infoS
  have hlq : some fp ≠ (Value.slice A2 F.tr.length cap2).ownBlock := fun e => row_cells hF1.tr hF1.blk (by decide) (by rw [hv2, e])
  have hs1 := b1.size
  have HF1 : Hid (Fo w1 base fp F B ∧ B.vt = .slice A2 F.tr.length cap2 ∧ Below base w w1 ∧ Kq w w1) := ⟨hF1, hv2, b1.mono hbs, Kq.bel b1⟩
  clear hback hF1 ow c0 c1 c3 b1
  go_wp2_with (at_builtin; refine wpList_append_lies _ (by rfl) _ _ 61 (by rfl) base 9 i0 (.string ByteArray.empty) 1 16 Tryz.underlying61 hi0 hy0 hy1 hy2 (by rfl) (by decide) _ _ _ (by rfl) (rT.alloc _) ⟨w1.heap.size, 0, none⟩ 1 1 [.string s] (by rfl) (by rfl) (World.news_of_block (fr := (0, 0)) (t := 9) (cs := #[.string s]) (heap_alloc_new _ _)) (fun u hu => by simp at hu; subst hu; rfl) (by decide) (by unfold maxLen; omega) (by omega) (by simp; omega) _ rfl ?_; intro g2 cp2 w2 hown2 hgrow2 hat2 hlt2; (have k2 : w2.cell? ⟨fp, 2, none⟩ = some (.slice A2 F.tr.length cap2) := hgrow2.cell (by rw [World.cell?_alloc_lt _ _ _ hfp1]; exact c2) hlq); (have f2 : w2.frozen? ⟨fp, 2, none⟩ = false := (hgrow2.frozen_far ⟨fp, 2, none⟩ (by simp; omega) hlq).trans ((World.frozen?_alloc_old w1 _ ⟨fp, 2, none⟩ (Nat.ne_of_lt hfp1)).trans hz2)))
  have hX := (HF1.out.1.below ((Below.refl _ w1).alloc (Nat.le_refl _) (.cells #[.string s] 9))).pushTr (v' := .slice (some ⟨g2, 0, none⟩) (F.tr.length + 1) cp2) (l := F.tr ++ [bl s]) (by rw [HF1.out.2.1]; exact hgrow2) (by rw [List.length_append, List.map_append]; exact hown2) (fun g q => by
    have e : g2 = g := Option.some.inj q
    rw [HF1.out.2.1, ← e]
    rcases hat2 with h | h
    · exact .inl h
    · exact .inr (by omega))
  obtain ⟨wx, hwx⟩ : ∃ wx, wx = w2.setCell ⟨fp, 2, none⟩ (.slice (some ⟨g2, 0, none⟩) (F.tr.length + 1) cp2) := ⟨_, rfl⟩
  have HX : Hid ((∃ B1, Fo wx base fp { F with tr := F.tr ++ [bl s] } B1) ∧ Below base w wx ∧ Kq w wx) := by
    rw [hwx]
    exact ⟨⟨_, hX.1⟩, HF1.out.2.2.1.trans (((Below.refl _ w1).alloc (by omega) _).trans hX.2.1), HF1.out.2.2.2.trans ((Kq.bel ((Below.refl _ w1).alloc (Nat.le_refl _) _)).trans hX.2.2)⟩
  rw [← hwx]
  clear hX hwx k2 f2 hown2 hgrow2 hat2 hlt2 HF1 c2 hv2 hz2 hfp1 rT hi0 hy0 hy1 hy2 hlq hs1
  obtain ⟨i1, hi1, hx0, hx1, hx2⟩ := info_parts Tryz.infoTW
  obtain ⟨B5, hF5⟩ := HX.out.1
  obtain ⟨u5, hu5, ru5, cu5, zu5⟩ := hF5.tv (a := a) ha
  obtain ⟨Au5, cq5, rfl⟩ := row_slice ru5
  obtain ⟨n5, hn5⟩ : ∃ n, ({ F with tr := F.tr ++ [bl s] } : Fr_God).tw.length = n := ⟨_, rfl⟩
  obtain ⟨m5, hm5⟩ : ∃ m, (({ F with tr := F.tr ++ [bl s] } : Fr_God).tw.getD a []).length = m := ⟨_, rfl⟩
  have cc5 := hF5.c.2.1
  have hBL5 : B5.BL < wx.heap.size := (row_ge hF5.tws.out (g := B5.BL) rfl).2
  have hfx5 : fp < wx.heap.size := hF5.lt
  have hbx5 : base ≤ wx.heap.size := by have := hF5.lo; omega
  rw [hn5] at cc5
  rw [hm5] at ru5 cu5 hu5
  have han5 : (a : Int) < (n5 : Int) := by have h0 : ({ F with tr := F.tr ++ [bl s] } : Fr_God).tw.length = F.tw.length := rfl; omega
  have hmu5 : m5 ≤ 100005 := by
    rw [← hm5]
    exact HLN5.out
  have hlB5 : some B5.BL ≠ (Value.slice Au5 m5 cq5).ownBlock := fun e => row_type hF5.tws.out ru5 (by decide) (g := B5.BL) rfl e.symm
  have hlf5 : some fp ≠ (Value.slice Au5 m5 cq5).ownBlock := fun e => row_cells ru5 hF5.blk (by decide) e.symm
  have HR5 : Hid (Fo wx base fp { F with tr := F.tr ++ [bl s] } B5 ∧ B5.tv[a]? = some (.slice Au5 m5 cq5) ∧ (({ F with tr := F.tr ++ [bl s] } : Fr_God).tw.getD a []).length = m5 ∧ Below base w wx ∧ Kq w wx) := ⟨hF5, hu5, hm5, HX.out.2⟩
  have ra5 : wx.drew.ownsRow base 247 2 (.slice Au5 m5 cq5) m5 ((({ F with tr := F.tr ++ [bl s] } : Fr_God).tw.getD a []).flatMap twE) := ru5
  obtain ⟨BL5, hBLe5⟩ : ∃ x, B5.BL = x := ⟨_, rfl⟩
  rw [hBLe5] at cc5 cu5 zu5 hBL5 hlB5
  have HBE5 : Hid (B5.BL = BL5) := hBLe5
  clear hF5 hu5 hn5 hm5 hBLe5 ru5 HX
  go_cut [41] (fun _ wc => (∃ B', Fo wc base fp { F with tr := F.tr ++ [bl s], tw := pushT F.tw a (bl s, b) } B') ∧ Below base w wc ∧ Kq w wc)
  case first =>
    go_region_law
      (first
        | (refine step_append_lies _ (by rfl) _ _ 245 (by rfl) base 247 i1 _ 2 24 Tryz.underlying245 hi1 hx0 hx1 hx2 (by rfl) (by decide) _ _ _ (by rfl) (ra5.alloc _) ⟨wx.heap.size, 0, none⟩ 1 1 [.string s, .int .i64 (b : Int)] (by rfl) (by rfl) (World.news_of_block (fr := (0, 0)) (t := 247) (cs := #[.string s, .int .i64 (b : Int)]) (heap_alloc_new _ _)) (fun u hu => by simp at hu; rcases hu with rfl | rfl <;> rfl) (by decide) (by unfold maxLen; omega) (by omega) (by simp; omega) (wx.heap.size + 1) (by simp) ?_; intro g4 cp4 w4 hown4 hgrow4 hat4 hlt4; (have k4 : w4.cell? ⟨BL5, a, none⟩ = some (.slice Au5 m5 cq5) := hgrow4.cell ((World.cell?_alloc_lt wx _ ⟨BL5, a, none⟩ hBL5).trans cu5) hlB5); (have j4 : w4.cell? ⟨fp, 1, none⟩ = some (.slice (some ⟨BL5, 0, none⟩) n5 n5) := hgrow4.cell ((World.cell?_alloc_lt wx _ ⟨fp, 1, none⟩ hfx5).trans cc5) hlf5); (have f4 : w4.frozen? ⟨BL5, a, none⟩ = false := (hgrow4.frozen_far ⟨BL5, a, none⟩ (by simp; omega) hlB5).trans ((World.frozen?_alloc_old wx _ ⟨BL5, a, none⟩ (Nat.ne_of_lt hBL5)).trans zu5)))
        | (trace_state; fail))
    all_goals go_wp2_with fail
    all_goals go_meet
    all_goals exact tw_end HR5.out.1 HBE5.out HR5.out.2.1 HR5.out.2.2.1 HR5.out.2.2.2 hbx5 hown4 hgrow4 hat4
  have HY : Hid ((∃ B', Fo wc base fp { F with tr := F.tr ++ [bl s], tw := pushT F.tw a (bl s, b) } B') ∧ Below base w wc ∧ Kq w wc) := hcut
  clear hcut cc5 cu5 zu5 hBL5 hlB5 hlf5 ra5 HR5 HBE5 hfx5 hbx5 han5 hmu5
  go_wp2_with fail
  obtain ⟨B6, hF6⟩ := HY.out.1
  obtain ⟨u6, hu6, ru6, cu6, zu6⟩ := hF6.tv (a := b) (by simp [pushT]; omega)
  obtain ⟨Au6, cq6, rfl⟩ := row_slice ru6
  obtain ⟨n6, hn6⟩ : ∃ n, ({ F with tr := F.tr ++ [bl s], tw := pushT F.tw a (bl s, b) } : Fr_God).tw.length = n := ⟨_, rfl⟩
  obtain ⟨m6, hm6⟩ : ∃ m, (({ F with tr := F.tr ++ [bl s], tw := pushT F.tw a (bl s, b) } : Fr_God).tw.getD b []).length = m := ⟨_, rfl⟩
  have cc6 := hF6.c.2.1
  have hBL6 : B6.BL < wc.heap.size := (row_ge hF6.tws.out (g := B6.BL) rfl).2
  have hfx6 : fp < wc.heap.size := hF6.lt
  have hbx6 : base ≤ wc.heap.size := by have := hF6.lo; omega
  rw [hn6] at cc6
  rw [hm6] at ru6 cu6 hu6
  have han6 : (b : Int) < (n6 : Int) := by have h0 : ({ F with tr := F.tr ++ [bl s], tw := pushT F.tw a (bl s, b) } : Fr_God).tw.length = F.tw.length := (by simp [pushT]); omega
  have hmu6 : m6 ≤ 100005 := by
    rw [← hm6]
    exact HLN6.out
  have hlB6 : some B6.BL ≠ (Value.slice Au6 m6 cq6).ownBlock := fun e => row_type hF6.tws.out ru6 (by decide) (g := B6.BL) rfl e.symm
  have hlf6 : some fp ≠ (Value.slice Au6 m6 cq6).ownBlock := fun e => row_cells ru6 hF6.blk (by decide) e.symm
  have HR6 : Hid (Fo wc base fp { F with tr := F.tr ++ [bl s], tw := pushT F.tw a (bl s, b) } B6 ∧ B6.tv[b]? = some (.slice Au6 m6 cq6) ∧ (({ F with tr := F.tr ++ [bl s], tw := pushT F.tw a (bl s, b) } : Fr_God).tw.getD b []).length = m6 ∧ Below base w wc ∧ Kq w wc) := ⟨hF6, hu6, hm6, HY.out.2⟩
  have ra6 : wc.drew.ownsRow base 247 2 (.slice Au6 m6 cq6) m6 ((({ F with tr := F.tr ++ [bl s], tw := pushT F.tw a (bl s, b) } : Fr_God).tw.getD b []).flatMap twE) := ru6
  obtain ⟨BL6, hBLe6⟩ : ∃ x, B6.BL = x := ⟨_, rfl⟩
  rw [hBLe6] at cc6 cu6 zu6 hBL6 hlB6
  have HBE6 : Hid (B6.BL = BL6) := hBLe6
  clear hF6 hu6 hn6 hm6 hBLe6 ru6 HY
  go_region_law
    (first
      | (refine step_append_lies _ (by rfl) _ _ 245 (by rfl) base 247 i1 _ 2 24 Tryz.underlying245 hi1 hx0 hx1 hx2 (by rfl) (by decide) _ _ _ (by rfl) (ra6.alloc _) ⟨wc.heap.size, 0, none⟩ 1 1 [.string s, .int .i64 (a : Int)] (by rfl) (by rfl) (World.news_of_block (fr := (0, 0)) (t := 247) (cs := #[.string s, .int .i64 (a : Int)]) (heap_alloc_new _ _)) (fun u hu => by simp at hu; rcases hu with rfl | rfl <;> rfl) (by decide) (by unfold maxLen; omega) (by omega) (by simp; omega) (wc.heap.size + 1) (by simp) ?_; intro g4 cp4 w4 hown4 hgrow4 hat4 hlt4; (have k4 : w4.cell? ⟨BL6, b, none⟩ = some (.slice Au6 m6 cq6) := hgrow4.cell ((World.cell?_alloc_lt wc _ ⟨BL6, b, none⟩ hBL6).trans cu6) hlB6); (have j4 : w4.cell? ⟨fp, 1, none⟩ = some (.slice (some ⟨BL6, 0, none⟩) n6 n6) := hgrow4.cell ((World.cell?_alloc_lt wc _ ⟨fp, 1, none⟩ hfx6).trans cc6) hlf6); (have f4 : w4.frozen? ⟨BL6, b, none⟩ = false := (hgrow4.frozen_far ⟨BL6, b, none⟩ (by simp; omega) hlB6).trans ((World.frozen?_alloc_old wc _ ⟨BL6, b, none⟩ (Nat.ne_of_lt hBL6)).trans zu6)))
      | (trace_state; fail))
  all_goals go_wp2_with fail
  all_goals go_end0
  all_goals refine ⟨rfl, ?_⟩
  all_goals exact tw_end HR6.out.1 HBE6.out HR6.out.2.1 HR6.out.2.2.1 HR6.out.2.2.2 hbx6 hown4 hgrow4 hat4

end Go.Proofs.YtmpkcioeodlbcaaGreatDoor
