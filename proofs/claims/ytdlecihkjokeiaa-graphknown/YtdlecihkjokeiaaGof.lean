/-
  An element is taken into a forest: take of package graph, a loop.
-/
import Derived.Test.YtdlecihkjokeiaaGoe
namespace Go.Proofs.Ytdlecihkjokeiaa
open Go.Maps Go.RowKit
set_option linter.unusedVariables false
set_option maxRecDepth 100000

theorem fo_froz {w : World} {base fp : Nat} {F : Fr} {b : Fb} (h : Fo w base fp F b) (j : Nat) : w.frozen? ⟨fp, j, none⟩ = false := frozen_of_row w fp j _ _ h.blk
theorem loop_end {w w1 wA w2 w3 : World} {base fp qA m g2 cap2 g3 c3 : Nat} {F : Fr} {B : Fb} {s : ByteArray} {way : List Nm} {v3 : Value} {o : Obj} (hF1 : Fo w1 base fp F B) (hv : B.vl = v3) (b1 : Below w.heap.size w w1) (bA : Below w1.heap.size w1 wA) (hb : base ≤ w.heap.size) (hq : wA.heap.size = qA + 1) (hq1 : qA = w1.heap.size) (hm : way.length = m)
    (hown2 : w2.ownsRow base 9 1 (.slice (some ⟨g2, 0, none⟩) (1 + m) cap2) (1 + m) ([.string s] ++ way.map sv)) (hgrow2 : wA.drew.grownBy w2 (some qA)) (hat2 : (some qA : Option Nat) = some g2 ∨ g2 = wA.heap.size)
    (hown3 : w3.ownsRow base 29 1 (.slice (some ⟨g3, 0, none⟩) (F.lp.length + 1) c3) (F.lp.length + 1) (B.lv ++ [.slice (some ⟨g2, 0, none⟩) (1 + m) cap2])) (hgrow3 : (w2.alloc o).grownBy w3 v3.ownBlock) :
    (∃ B', Fo (w3.setCell ⟨fp, 3, none⟩ (.slice (some ⟨g3, 0, none⟩) (F.lp.length + 1) c3)) base fp { F with lp := F.lp ++ [bl s :: way] } B') ∧ Below base w (w3.setCell ⟨fp, 3, none⟩ (.slice (some ⟨g3, 0, none⟩) (F.lp.length + 1) c3)) ∧ Kq w (w3.setCell ⟨fp, 3, none⟩ (.slice (some ⟨g3, 0, none⟩) (F.lp.length + 1) c3)) := by
  have hs1 := b1.size
  have b2 : Below w1.heap.size w1 w2 := bA.trans ⟨hgrow2.os, hgrow2.tape, hgrow2.output, hgrow2.size, fun k hk => hgrow2.block k (by show k < wA.heap.size; omega) (fun e => by cases e; omega)⟩
  have b3 : Below w1.heap.size w1 (w2.alloc o) := b2.alloc (by have := b2.size; omega) _
  have hF3 := hF1.below b3
  have hge : w1.heap.size ≤ g2 := by rcases hat2 with q | q; cases q; omega; omega
  have hP := hF3.pushLp (u := .slice (some ⟨g2, 0, none⟩) (1 + m) cap2) (v' := .slice (some ⟨g3, 0, none⟩) (F.lp.length + 1) c3) (l := bl s :: way) (by
      rw [List.length_cons, hm, Nat.add_comm m 1]; exact (hown2.alloc o)) (fun x hx g q1 q2 => by have e : g2 = g := Option.some.inj q2; have := (hF1.lps.lt hx q1).2; omega) (fun g q1 q2 => by have e : g2 = g := Option.some.inj q1; have := (row_ge hF1.tr q2).2; omega) (by rw [hv]; exact hgrow3) hown3
  exact ⟨⟨_, hP.1⟩, (b1.mono hb).trans ((b3.mono (by omega)).trans hP.2.1), (Kq.bel b1).trans ((Kq.bel b3).trans hP.2.2)⟩
set_option maxHeartbeats 4000000 in
theorem take_loop (w : World) (base fp a b f : Nat) (F : Fr) (B : Fb) (s : ByteArray) (way : List Nm) (h : Fo w base fp F B) (hok : F.ok) (hf : f ≤ 10000) (hab : a ≠ b) (hr : skF F.tw b f a (-1) = some (some way)) (hs : s.size ≤ 100000) :
    Calls Try.prog 63 #[.pointer (some ⟨fp, 0, none⟩), .string s, .int .i64 (a : Int), .int .i64 (b : Int)] w fun e w' => e = .returned (.tuple #[]) ∧ (∃ B', Fo w' base fp { F with lp := F.lp ++ [bl s :: way] } B') ∧ Below base w w' ∧ Kq w w' := by
  have hback := back_any w fp a b f F.tw (some way) (h.twR hok) (by omega) hr
  have hwl := skF_len hr
  have hw0 := skF_ne hr hab
  have hbs : base ≤ w.heap.size := by have := h.lo; have := h.lt; omega
  have HF : Hid _ := h
  have hlpn : F.lp.length ≤ 100000 := hok.l
  clear h hr hok
  go_enter Try.func63, Try.ntmps63
  go_wp2_with fail
  refine hback.mono ?_
  rintro e1 w1 ⟨v, rfl, ow, b1⟩
  simp only [Option.getD_some] at ow
  obtain ⟨gw, cw, rfl⟩ := row_some ow hw0
  obtain ⟨m, hm⟩ : ∃ m, way.length = m := ⟨_, rfl⟩
  rw [hm] at ow hwl hw0 ⊢
  have HM : Hid (way.length = m) := hm
  have hF1 := HF.out.below b1
  obtain ⟨c0, c1, c2, c3⟩ := hF1.c
  obtain ⟨A3, cap3, hv3⟩ := row_slice hF1.lps.out
  rw [hv3, ← hF1.lps.len] at c3
  have hz3 := fo_froz hF1 3
  have hfp1 : fp < w1.heap.size := hF1.lt
  have hs1 := b1.size
  obtain ⟨wA, hwA⟩ : ∃ wA, w1.alloc (.cells #[.string s] 9) = wA := ⟨_, rfl⟩
  obtain ⟨qA, hqA⟩ : ∃ qA, w1.heap.size = qA := ⟨_, rfl⟩
  have bA : Below w1.heap.size w1 wA := by rw [← hwA]; exact (Below.refl _ _).alloc (Nat.le_refl _) _
  have hFA := hF1.below bA
  have rowA : wA.drew.ownsRow base 9 1 (.slice (some ⟨qA, 0, none⟩) 1 1) 1 [.string s] := by
    rw [← hwA, ← hqA]
    exact World.ownsRow_lit w1 #[.string s] 1 (by omega) (by decide) rfl
  have HcW : Hid (∀ j u, (way.map sv)[j]? = some u → wA.drew.cell? ((⟨gw, 0, none⟩ : Addr).add j) = some u) := fun j u hj => by
    have h1 := ow.cells (g := gw) rfl j u hj
    exact (bA.cell (World.block_lt_of_cell? w1 _ h1)).trans h1
  have hqs : wA.heap.size = qA + 1 := by rw [← hwA, ← hqA]; simp
  have HSA : Hid (wA.heap.size = qA + 1 ∧ base ≤ wA.heap.size ∧ qA = w1.heap.size) := ⟨hqs, by omega, hqA.symm⟩
  have HML : Hid ((way.map sv).length = m * 1 ∧ ∀ u ∈ way.map sv, u.oneCell' = true) := ⟨by simp [hm], fun u hu => by obtain ⟨x, _, rfl⟩ := List.mem_map.1 hu; rfl⟩
  obtain ⟨i0, hi0, hz0, hz1, hz2⟩ := info_parts Try.infoS
  obtain ⟨j0, hj0, hy0, hy1, hy2⟩ := info_parts Try.infoSS
  have hfA : fp < wA.heap.size := hFA.lt
  have cA3 : wA.cell? ⟨fp, 3, none⟩ = some (.slice A3 F.lp.length cap3) := by have := hFA.c.2.2.2; rw [hv3, ← hF1.lps.len] at this; exact this
  have hqf : qA ≠ fp := by omega
  have rL : wA.ownsRow base 29 1 (.slice A3 F.lp.length cap3) F.lp.length B.lv := by have := hFA.lps.out; rw [hv3, ← hF1.lps.len] at this; exact this
  have HF1 : Hid (Fo w1 base fp F B ∧ B.vl = .slice A3 F.lp.length cap3 ∧ Below w.heap.size w w1 ∧ Below w1.heap.size w1 wA) := ⟨hF1, by rw [hv3, ← hF1.lps.len], b1, bA⟩
  have hlq : some fp ≠ (Value.slice (some ⟨qA, 0, none⟩) 1 1).ownBlock := fun e => hqf (by cases e; rfl)
  have hlr : (Value.slice A3 F.lp.length cap3).ownBlock ≠ (Value.slice (some ⟨qA, 0, none⟩) 1 1).ownBlock := fun e => by
    have e2 : (Value.slice A3 F.lp.length cap3).ownBlock = some qA := e
    have := (row_ge (w := w1) (by have := hF1.lps.out; rw [hv3, ← hF1.lps.len] at this; exact this : w1.ownsRow base 29 1 (.slice A3 F.lp.length cap3) F.lp.length B.lv) e2).2
    omega
  clear hback b1 hF1 hFA bA hqs ow hm c0 c1 c2 hv3 hs1
  go_wp2_with fail
  go_cut [18] (fun _ wc => (∃ B', Fo wc base fp { F with lp := F.lp ++ [bl s :: way] } B') ∧ Below base w wc ∧ Kq w wc)
  case first =>
    go_region_law
      (first
        | (refine step_append_lies _ (by rfl) _ _ 29 (by rfl) base 9 i0 (.string ByteArray.empty) 1 16 Try.underlying29 hi0 hz0 hz1 hz2 (by rfl) (by decide) _ _ _ (by rfl) rowA ⟨gw, 0, none⟩ m cw (way.map sv) (by rfl) HML.out.1 HcW.out HML.out.2 hw0 (by unfold maxLen; omega) (by omega) HSA.out.2.1 wA.heap.size rfl ?_; intro g2 cap2 w2 hown2 hgrow2 hat2 hlt2; (have k2 : w2.cell? ⟨fp, 3, none⟩ = some (.slice A3 F.lp.length cap3) := hgrow2.cell (w := wA.drew) cA3 hlq); (have rL2 : w2.ownsRow base 29 1 (.slice A3 F.lp.length cap3) F.lp.length B.lv := World.ownsRow.kept (w := wA.drew) rL hgrow2 (Or.inr hlr)); (have hf2 : fp < w2.heap.size := (World.block_lt_of_cell? w2 _ k2)))
        | (refine step_append_lies _ (by rfl) _ _ 27 (by rfl) base 29 j0 (.slice none 0 0) 1 24 Try.underlying27 hj0 hy0 hy1 hy2 (by rfl) (by decide) _ _ _ (by rfl) (rL2.alloc _) ⟨w2.heap.size, 0, none⟩ 1 1 [.slice (some ⟨g2, 0, none⟩) (1 + m) cap2] (by rfl) (by rfl) (World.news_of_block (fr := (0, 0)) (t := 29) (cs := #[.slice (some ⟨g2, 0, none⟩) (1 + m) cap2]) (heap_alloc_new _ _)) (fun u hu => by simp at hu; subst hu; rfl) (by decide) (by unfold maxLen; omega) (by omega) (by have := HF1.out.1.lo; simp; omega) (w2.heap.size + 1) (by simp) ?_; intro g3 cap3' w3 hown3 hgrow3 hat3 hlt3; (have hl3 : some fp ≠ (Value.slice A3 F.lp.length cap3).ownBlock := fun e => row_cells HF1.out.1.lps.out HF1.out.1.blk (by decide) (by rw [HF1.out.2.1, e])); (have k3 : w3.cell? ⟨fp, 3, none⟩ = some (.slice A3 F.lp.length cap3) := hgrow3.cell (by rw [World.cell?_alloc_lt _ _ _ hf2]; exact k2) hl3); (have f3 : w3.frozen? ⟨fp, 3, none⟩ = false := (hgrow3.frozen_far ⟨fp, 3, none⟩ (by simp; omega) hl3).trans ((World.frozen?_alloc_old w2 _ ⟨fp, 3, none⟩ (Nat.ne_of_lt hf2)).trans ((hgrow2.frozen_far ⟨fp, 3, none⟩ hfA hlq).trans ((World.frozen?_of_block (HF1.out.2.2.2.block fp (by have := HSA.out.2.2; omega))).trans (fo_froz HF1.out.1 3))))))
        | (trace_state; fail))
    all_goals go_wp2_with fail
    all_goals go_meet
    all_goals exact loop_end HF1.out.1 HF1.out.2.1 HF1.out.2.2.1 HF1.out.2.2.2 hbs HSA.out.1 HSA.out.2.2 HM.out hown2 hgrow2 hat2 hown3 hgrow3
  go_wp2_with fail
  (try simp only [Exit.inBlock, Exit.then])
  refine bodyPost_ret (results_none rfl _ _ _) rfl ?_
  exact ⟨rfl, hcut⟩

end Go.Proofs.Ytdlecihkjokeiaa
