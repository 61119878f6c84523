/-
  GraphKnown: the document's numbers and examples of graph.
-/
import Derived.Test.YtdlecihkjokeiaaGor
namespace Go.Proofs.Ytdlecihkjokeiaa
open Go.Maps Go.RowKit
set_option linter.unusedVariables false
set_option maxRecDepth 100000

theorem rdE_row {w : World} {base : Nat} {v : Value} {l : List Elm} (h : w.ownsRow base 61 8 v l.length (elCs l)) (hl : l.length ≤ 1000) : RdE w v l := by
  refine ⟨by omega, ?_⟩
  have h0 := h
  obtain ⟨_, ⟨h1, h2⟩ | ⟨g, cap, cur, h1, _⟩⟩ := h
  · exact ⟨none, 0, by rw [h1, h2], .inl (List.length_eq_zero_iff.1 h2)⟩
  · rw [h1] at h0
    exact ⟨_, cap, h1, .inr ⟨g, rfl, fun k x hk => e8_row h0 hk (List.getElem?_eq_some_iff.1 hk).1⟩⟩
set_option maxHeartbeats 4000000 in
theorem gknown_walk (w : World) : Calls Try.prog 8 #[] w fun e w' => e = .returned (.bool true) ∧ Below w.heap.size w w' := by
  have hex := example_any w
  obtain ⟨i0, hi0, hz0, hz1, hz2⟩ := info_parts Try.infoE
  go_enter Try.func8, Try.ntmps8
  go_wp2_with fail
  refine hex.mono ?_
  rintro e1 w1 ⟨p, b0, b, rfl, hN1, hb1⟩
  have hel := elements_made hN1 (by rw [es_ex]; decide)
  rw [es_ex] at hel
  have HN1 : Hid (Nt w1 b0 p (netOf exL) b ∧ Below w.heap.size w w1) := ⟨hN1, hb1⟩
  clear hex hN1 hb1
  go_wp2_with fail
  refine hel.mono ?_
  rintro e2 w2 ⟨v2, rfl, hr2, hb2⟩
  have hee := element_any 5 ⟨#[86, 50]⟩ ⟨#[97]⟩ ⟨#[48]⟩ w2
  have HR2 : Hid (w2.ownsRow w1.heap.size 61 8 v2 exL.length (elCs exL) ∧ Below w1.heap.size w1 w2) := ⟨hr2, hb2⟩
  clear hel hb2 hr2
  go_wp2_with fail
  refine hee.mono ?_
  rintro e3 w3 ⟨rfl, hb3⟩
  have hr3 : w3.ownsRow w1.heap.size 61 8 v2 exL.length (elCs exL) := row_block HR2.out.1 fun g hg => hb3.block g (row_ge HR2.out.1 hg).2
  have hs13 : w1.heap.size ≤ w3.heap.size := Nat.le_trans HR2.out.2.size hb3.size
  obtain ⟨Ae, ce, rfl⟩ := row_slice hr3
  have HB3 : Hid (Below w1.heap.size w1 w3) := bl3 HR2.out.2 hb3
  obtain ⟨b1, hb1⟩ : ∃ b1, w1.heap.size = b1 := ⟨_, rfl⟩
  rw [hb1] at hr3 hs13
  have HS1 : Hid (w1.heap.size = b1) := hb1
  have hl7 : exL.length = 7 := rfl
  rw [hl7] at hr3 ⊢
  have hec : (elCs exL).length = 56 := by decide
  clear hee hb3 HR2 hb1
  go_wp2_with (at_builtin; refine wpList_append_lies _ (by rfl) _ _ 45 (by rfl) b1 61 i0 _ 8 104 Try.underlying45 hi0 hz0 hz1 hz2 (by rfl) (by decide) _ _ _ (by rfl) (hr3.alloc _) ⟨w3.heap.size, 0, none⟩ 1 1 (elC exV) (by rfl) (by rfl) (World.news_of_block (fr := (0, 0)) (t := 61) (cs := (elC exV).toArray) (heap_alloc_new _ _)) (fun u hu => by simp [elC] at hu; rcases hu with rfl | rfl | rfl | rfl | rfl | rfl | rfl | rfl <;> rfl) (by decide) (by unfold maxLen; omega) (by omega) (by simp; omega) _ rfl ?_; intro g4 cp4 w4 hown4 hgrow4 hat4 hlt4)
  have B4 : Below b1 w1 w4 := by
    have b3 : Below b1 w1 w3 := by rw [← HS1.out]; exact HB3.out
    exact (b3.alloc hs13 _).trans ⟨hgrow4.os, hgrow4.tape, hgrow4.output, hgrow4.size, fun k hk => hgrow4.block k (by simp; omega) (fun e => by have := (row_ge hr3 e.symm).1; omega)⟩
  have hN4 : Nt w4 b0 p (netOf exL) b ∧ Below w.heap.size w w4 := by
    have bx : Below w1.heap.size w1 w4 := by rw [HS1.out]; exact B4
    exact ⟨HN1.out.1.below bx, bl3 HN1.out.2 bx⟩
  have hrM : w4.ownsRow b1 61 8 (.slice (some ⟨g4, 0, none⟩) 8 cp4) exM.length (elCs exM) := by
    have h1 : elCs exM = elCs exL ++ elC exV := elCs_snoc exL exV
    rw [h1]; exact hown4
  have hof := netOf_any w4 _ exM (rdE_row hrM (by decide)) ok_ex
  have HN4 : Hid _ := hN4
  clear hown4 hgrow4 hat4 hlt4 B4 hrM hr3 hN4 hec hi0 hz0 hz1 hz2
  refine hof.mono ?_
  rintro e5 w5 hp5
  obtain ⟨b5, pM, c0, bM, rfl, hM5⟩ := of_yes of_exM hp5
  have HN5 : Hid (Nt w5 b0 p (netOf exL) b ∧ Nt w5 c0 pM (netOf exM) bM ∧ Below w.heap.size w w5) := ⟨HN4.out.1.below b5, hM5, bl3 HN4.out.2 b5⟩
  clear hof hp5 b5 hM5 HN4
  have bA : Below w5.heap.size w5 (w5.alloc (.cells #[.int .i64 0, .int .i64 0] 37)) := (Below.refl _ w5).alloc (Nat.le_refl _) _
  have haw := awake16 (w5.alloc (.cells #[.int .i64 0, .int .i64 0] 37))
  go_wp2_with fail
  refine haw.mono ?_
  rintro e6 w6 ⟨rfl, hb6⟩
  have bx : Below w5.heap.size w5 w6 := bl3 bA hb6
  have k6 : w6.heap[w5.heap.size]? = some (.cells #[.int .i64 0, .int .i64 0] 37 (0, 0)) := by
    rw [hb6.block w5.heap.size (by simp)]; exact heap_alloc_new _ _
  obtain ⟨z0, z1, z2, z3⟩ := tw_c k6
  have HN6 : Hid (Nt w6 b0 p (netOf exL) b ∧ Nt w6 c0 pM (netOf exM) bM ∧ Below w.heap.size w w6) := ⟨HN5.out.1.below bx, HN5.out.2.1.below bx, bl3 HN5.out.2.2 bx⟩
  clear haw hb6 bx k6 HN5 bA
  have hV := volt_any (gn_C HN6.out.2.1)
  rw [show decide (0 < exC.lp.length) = true by decide] at hV
  go_wp2_with fail
  refine hV.mono ?_
  rintro e7 w7 ⟨rfl, hb7⟩
  have HN7 : Hid (Nt w7 b0 p (netOf exL) b ∧ Below w.heap.size w w7) := ⟨HN6.out.1.below hb7, bl3 HN6.out.2.2 hb7⟩
  have hV2 := volt_any (gn_B HN7.out.1)
  rw [show decide (0 < exB.lp.length) = false by decide] at hV2
  clear hV hb7 HN6 z0 z1 z2 z3
  go_wp2_with fail
  refine hV2.mono ?_
  rintro e8 w8 ⟨rfl, hb8⟩
  have HB8 : Hid (Below w.heap.size w w8) := bl3 HN7.out.2 hb8
  clear hV2 hb8 HN7
  go_wp2_with fail
  go_ret
  exact ⟨rfl, HB8.out⟩

end Go.Proofs.Ytdlecihkjokeiaa
