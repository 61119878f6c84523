/-
  Several texts in one: Phe Phf Phg.
-/
import Derived.Test.YtmpkcioeodlbcaaGreatDoorK48
import Derived.Deep.RegionWith
import Derived.Deep.RegionHeldLaw
namespace Go.Proofs.YtmpkcioeodlbcaaGreatDoor
open Fl Go.Maps Go.RowKit Joins Deep
set_option linter.unusedVariables false
set_option maxRecDepth 20000
set_option maxHeartbeats 1000000 in
theorem dv_pdriven {w : World} {nb p : Nat} {b : Nb} (h : Nt w nb p dvN b) : Calls Tryz.prog 71 #[.pointer (some ⟨p, 0, none⟩), .float .f64 dvO] w fun e w' => ∃ g c l gb cb gx, e = .returned (.tuple #[.agg #[.int .i64 3, .int .i64 3, .slice (some ⟨g, 0, none⟩) 9 c, .pointer (some ⟨l, 0, none⟩), .slice (some ⟨gb, 0, none⟩) 3 cb, .slice (some ⟨gx, 0, none⟩) 3 3], .agg #[.int .i64 0, .int .i64 0]]) ∧ Rc w' (some ⟨gx, 0, none⟩) dvX ∧ w.heap.size ≤ gx ∧ Below w.heap.size w w' := by
  obtain ⟨R, hR⟩ : ∃ R, w.heap.size = R := ⟨_, rfl⟩
  have k1 : ((w.alloc (.cells #[.int .i64 0, .int .i64 0, .slice none 0 0, .pointer none, .slice none 0 0, .slice none 0 0] 123)).alloc (.cells #[.int .i64 0, .int .i64 0] 69)).heap[R]? = some (.cells #[.int .i64 0, .int .i64 0, .slice none 0 0, .pointer none, .slice none 0 0, .slice none 0 0] 123 (0, 0)) := by
    rw [(bal _ _).block R (by rw [← hR]; simp), ← hR]; exact heap_alloc_new w _
  have k2 : ((w.alloc (.cells #[.int .i64 0, .int .i64 0, .slice none 0 0, .pointer none, .slice none 0 0, .slice none 0 0] 123)).alloc (.cells #[.int .i64 0, .int .i64 0] 69)).heap[R + 1]? = some (.cells #[.int .i64 0, .int .i64 0] 69 (0, 0)) := by
    have := heap_alloc_new (w.alloc (.cells #[.int .i64 0, .int .i64 0, .slice none 0 0, .pointer none, .slice none 0 0, .slice none 0 0] 123)) (.cells #[.int .i64 0, .int .i64 0] 69)
    rw [show (w.alloc (.cells #[.int .i64 0, .int .i64 0, .slice none 0 0, .pointer none, .slice none 0 0, .slice none 0 0] 123)).heap.size = R + 1 by rw [← hR]; simp] at this
    exact this
  have k3 : ((w.alloc (.cells #[.int .i64 0, .int .i64 0, .slice none 0 0, .pointer none, .slice none 0 0, .slice none 0 0] 123)).alloc (.cells #[.int .i64 0, .int .i64 0] 69)).heap.size = R + 2 := by rw [← hR]; simp
  have k4 : Below w.heap.size w ((w.alloc (.cells #[.int .i64 0, .int .i64 0, .slice none 0 0, .pointer none, .slice none 0 0, .slice none 0 0] 123)).alloc (.cells #[.int .i64 0, .int .i64 0] 69)) := (bal w _).alloc (bal w _).size _
  obtain ⟨wF, hwF⟩ : ∃ W, ((w.alloc (.cells #[.int .i64 0, .int .i64 0, .slice none 0 0, .pointer none, .slice none 0 0, .slice none 0 0] 123)).alloc (.cells #[.int .i64 0, .int .i64 0] 69)) = W := ⟨_, rfl⟩
  rw [hwF] at k1 k2 k3 k4
  have HF := hidS (And.intro k1 (And.intro k2 (And.intro k3 k4)))
  have HNT := hidS (h.below k4)
  clear k1 k2 k3 k4 h
  go_enter Tryz.func71, Tryz.ntmps71
  go_wp2_with fail
  clear hwF
  refine (dv_pmatrix HNT.out).mono ?_
  rintro e1 w1 ⟨g, c, rfl, hr, hc, hg, hb1⟩
  have HM := hidS (And.intro hr (And.intro hc hg))
  have HB1 := hidS hb1
  clear hr hc hg hb1
  go_wp2_with fail
  obtain ⟨A, hA⟩ : ∃ A, w1.heap.size = A := ⟨_, rfl⟩
  have m1 : ((w1.alloc (.cells #[.int .i64 3, .int .i64 3, .slice (some ⟨g, 0, none⟩) 9 c] 120)).alloc (.cells #[.int .i64 0, .int .i64 0] 69)).heap[A]? = some (.cells #[.int .i64 3, .int .i64 3, .slice (some ⟨g, 0, none⟩) 9 c] 120 (0, 0)) := by
    rw [(bal _ _).block A (by rw [← hA]; simp), ← hA]; exact heap_alloc_new w1 _
  have m2 : ((w1.alloc (.cells #[.int .i64 3, .int .i64 3, .slice (some ⟨g, 0, none⟩) 9 c] 120)).alloc (.cells #[.int .i64 0, .int .i64 0] 69)).heap[A + 1]? = some (.cells #[.int .i64 0, .int .i64 0] 69 (0, 0)) := by
    have := heap_alloc_new (w1.alloc (.cells #[.int .i64 3, .int .i64 3, .slice (some ⟨g, 0, none⟩) 9 c] 120)) (.cells #[.int .i64 0, .int .i64 0] 69)
    rw [show (w1.alloc (.cells #[.int .i64 3, .int .i64 3, .slice (some ⟨g, 0, none⟩) 9 c] 120)).heap.size = A + 1 by rw [← hA]; simp] at this
    exact this
  have m3 : ((w1.alloc (.cells #[.int .i64 3, .int .i64 3, .slice (some ⟨g, 0, none⟩) 9 c] 120)).alloc (.cells #[.int .i64 0, .int .i64 0] 69)).heap.size = A + 2 := by rw [← hA]; simp
  have m4 : Below w1.heap.size w1 ((w1.alloc (.cells #[.int .i64 3, .int .i64 3, .slice (some ⟨g, 0, none⟩) 9 c] 120)).alloc (.cells #[.int .i64 0, .int .i64 0] 69)) := (bal w1 _).alloc (bal w1 _).size _
  rw [hA]
  obtain ⟨wA, hwA⟩ : ∃ W, ((w1.alloc (.cells #[.int .i64 3, .int .i64 3, .slice (some ⟨g, 0, none⟩) 9 c] 120)).alloc (.cells #[.int .i64 0, .int .i64 0] 69)) = W := ⟨_, rfl⟩
  rw [hwA] at m1 m2 m3 m4
  rw [hwA]
  have HA := hidS (And.intro m1 (And.intro m2 (And.intro m3 m4)))
  have HBA : Hid (Below wF.heap.size wF wA) := HB1.out.trans (m4.mono HB1.out.size)
  clear m1 m2 m3 m4 hwA
  refine (dv_right (HNT.out.below HBA.out)).mono ?_
  rintro e2 w2 ⟨gb, cb, rfl, hr, hg, hb2⟩
  have HR2 := hidS (And.intro hr hg)
  have HB2 := hidS hb2
  clear hr hg hb2
  have n2 : w2.heap[A + 1]? = some (.cells #[.int .i64 0, .int .i64 0] 69 (0, 0)) := by rw [HB2.out.block (A + 1) (by have := HA.out.2.2.1; omega)]; exact HA.out.2.1
  have n1 : w2.heap[A]? = some (.cells #[.int .i64 3, .int .i64 3, .slice (some ⟨g, 0, none⟩) 9 c] 120 (0, 0)) := by rw [HB2.out.block A (by have := HA.out.2.2.1; omega)]; exact HA.out.1
  obtain ⟨x0, x1, x2, x3⟩ := tw_c n2
  obtain ⟨y0, y1, y2, -, -, -⟩ := th_c n1
  have n3 : ((w2.setCell ⟨A + 1, 0, none⟩ (.int .i64 0)).setCell ⟨A + 1, 1, none⟩ (.int .i64 0)).heap[A + 1]? = some (.cells #[.int .i64 0, .int .i64 0] 69 (0, 0)) := set_at (set_at n2 rfl) rfl
  have n4 : ∀ q, q ≠ A + 1 → ((w2.setCell ⟨A + 1, 0, none⟩ (.int .i64 0)).setCell ⟨A + 1, 1, none⟩ (.int .i64 0)).heap[q]? = w2.heap[q]? := fun q hq => by
    rw [heap_setCell_other _ _ _ _ (by simpa using hq), heap_setCell_other _ _ _ _ (by simpa using hq)]
  have n5 := tw_bel (Below.refl (A + 1) w2) (f := A + 1) (Nat.le_refl _) (.int .i64 0) (.int .i64 0)
  have HN := hidS (And.intro n1 (And.intro n3 (And.intro n4 n5)))
  obtain ⟨v0, v1, -, -⟩ := tw_c n3
  clear n1 n2 n3 n4 n5
  go_wp2_with fail
  obtain ⟨wS, hwS⟩ : ∃ W, (w2.setCell ⟨A + 1, 0, none⟩ (.int .i64 0)).setCell ⟨A + 1, 1, none⟩ (.int .i64 0) = W := ⟨_, rfl⟩
  rw [hwS] at HN
  rw [hwS]
  clear hwS x0 x1 x2 x3 y0 y1 y2 v0 v1
  have hgA : g < A := by
    obtain ⟨b', off, h1, h2, h3⟩ := HM.out.1 0 (by decide)
    cases h1
    omega
  have hsz : wF.heap.size ≤ A := by have := HB1.out.size; omega
  have HBS : Hid (Below wF.heap.size wF wS) := (HBA.out.trans (HB2.out.mono HBA.out.size)).trans (HN.out.2.2.2.mono (by omega))
  have hM : Rc wS (some ⟨g, 0, none⟩) dvM := rc_but ((HM.out.1.below HA.out.2.2.2).below HB2.out) HN.out.2.2.2.size (HN.out.2.2.1 g (by omega))
  have hB : Rc wS (some ⟨gb, 0, none⟩) dvB := rc_but HR2.out.1 HN.out.2.2.2.size (HN.out.2.2.1 gb (by have := HR2.out.2; have := HA.out.2.2.1; omega))
  refine (dv_psolved hM HM.out.2.1 hB).mono ?_
  rintro e3 w3 ⟨l, gx, rfl, hr, hg, hb3⟩
  have HB3 : Hid (Below wF.heap.size wF w3) := HBS.out.trans (hb3.mono HBS.out.size)
  have HR3 := hidS (And.intro hr (show R + 2 ≤ gx by have e1 := HF.out.2.2.1; have e2 := HBS.out.size; omega))
  clear hr hg hb3 hM hB
  have e1 := HF.out.2.2.1
  have hb9 : Below w.heap.size w w3 := HF.out.2.2.2.trans (HB3.out.mono HF.out.2.2.2.size)
  have q1 : w3.heap[R]? = some (.cells #[.int .i64 0, .int .i64 0, .slice none 0 0, .pointer none, .slice none 0 0, .slice none 0 0] 123 (0, 0)) := by rw [HB3.out.block R (by omega)]; exact HF.out.1
  have q2 : w3.heap[R + 1]? = some (.cells #[.int .i64 0, .int .i64 0] 69 (0, 0)) := by rw [HB3.out.block (R + 1) (by omega)]; exact HF.out.2.1
  obtain ⟨⟨z0, z1, z2, z3, z4, z5⟩, u0, u1, u2, u3, u4, u5⟩ := six_c q1
  obtain ⟨x0, x1, x2, x3⟩ := tw_c q2
  have HST := hidS (six_two q1 q2 (by omega) (.int .i64 3) (.int .i64 3) (.slice (some ⟨g, 0, none⟩) 9 c) (.pointer (some ⟨l, 0, none⟩)) (.slice (some ⟨gb, 0, none⟩) 3 cb) (.slice (some ⟨gx, 0, none⟩) 3 3) (.int .i64 0) (.int .i64 0))
  have HE9 := hidS (six_bel hb9 (B := R) (F := R + 1) (by omega) (by omega) (.int .i64 3) (.int .i64 3) (.slice (some ⟨g, 0, none⟩) 9 c) (.pointer (some ⟨l, 0, none⟩)) (.slice (some ⟨gb, 0, none⟩) 3 cb) (.slice (some ⟨gx, 0, none⟩) 3 3) (.int .i64 0) (.int .i64 0))
  have HSZ := hidS (six_bel (Below.refl 0 w3) (B := R) (F := R + 1) (by omega) (by omega) (.int .i64 3) (.int .i64 3) (.slice (some ⟨g, 0, none⟩) 9 c) (.pointer (some ⟨l, 0, none⟩)) (.slice (some ⟨gb, 0, none⟩) 3 cb) (.slice (some ⟨gx, 0, none⟩) 3 3) (.int .i64 0) (.int .i64 0)).size
  clear q1 q2 hb9
  go_wp2_with fail
  obtain ⟨⟨r0, r1, r2, r3, r4, r5⟩, -⟩ := six_c HST.out.1
  obtain ⟨t0, t1, -, -⟩ := tw_c HST.out.2.1
  have HK := HST.out.2.2
  (try simp only [Exit.inBlock, Exit.then])
  refine bodyPost_ret (by simp [results, Tryz.results71, go_sem, r0, r1, r2, r3, r4, r5, t0, t1]; try rfl) rfl ?_
  refine ⟨g, c, l, gb, cb, gx, rfl, ?_, by have := HR3.out.2; omega, HE9.out⟩
  exact rc_but HR3.out.1 HSZ.out (HK gx (by have := HR3.out.2; omega) (by have := HR3.out.2; omega))
end Go.Proofs.YtmpkcioeodlbcaaGreatDoor
namespace Go.Proofs.YtmpkcioeodlbcaaGreatDoor
open Fl Go.Maps Go.RowKit Joins Deep
set_option linter.unusedVariables false
set_option maxRecDepth 20000
theorem ph_curC {w : World} {g n : Nat} {xs : List Value} (h : w.ownsRow g 39 1 (.slice (some ⟨g, 0, none⟩) n n) n xs) : ∃ cur : List Value, w.heap[g]? = some (.cells cur.toArray 39 (0, 0)) ∧ cur.length = n := by
  rcases h.2 with ⟨hv, _⟩ | ⟨g', cap, cur, hv, _, hg, _, _, hsz, _⟩
  · cases hv
  · cases hv
    exact ⟨cur.toList, by rw [hg], by rw [Array.length_toList, hsz, Nat.mul_one]⟩
theorem ph_rw {w : World} {b g n : Nat} {zs : List Cw} (hn : zs.length = n) (hm : n ≤ maxLen) (hb : b ≤ g) (h : w.heap[g]? = some (.cells (zs.map cx).toArray 39 (0, 0))) : Rw w b (.slice (some ⟨g, 0, none⟩) n n) n zs := by
  refine ⟨hn, by simp [hn], .inr ⟨g, n, _, rfl, hb, h, Nat.le_refl _, hm, by simp [hn], ?_⟩⟩
  rw [List.toList_toArray, Nat.mul_one]
  exact List.take_of_length_le (by simp [hn])
theorem ph_src {w : World} {ao : Option Addr} {zs : List Cw} (hc : Rc w ao zs) (h0 : 0 < (zs.map cx).length) : ∃ ad, ao = some ad ∧ ∀ j v, (zs.map cx)[j]? = some v → w.cell? (ad.add j) = some v := by
  rw [List.length_map] at h0
  obtain ⟨b, off, rfl, _, _⟩ := hc 0 h0
  refine ⟨_, rfl, fun j v hj => ?_⟩
  rw [List.getElem?_map] at hj
  by_cases hk : j < zs.length
  · rw [zat_lt hk] at hj
    cases hj
    obtain ⟨b', off', h1, _, h3⟩ := hc j hk
    cases h1
    unfold Addr.add
    split
    · rename_i e0
      rw [e0, Nat.add_zero] at h3
      rw [e0]; exact h3
    · exact h3
  · rw [List.getElem?_eq_none (by omega)] at hj; cases hj
set_option maxHeartbeats 1000000 in
/-- a piece of a list, in new memory -/
theorem copied_any {w : World} {ao : Option Addr} {cap n : Nat} {xs : List Cw} (hl : xs.length = n) (hn : n ≤ 65536) (hc : Rc w ao xs) : Calls Tryz.prog 95 #[.slice ao n cap] w fun e w' => ∃ g, e = .returned (.slice (some ⟨g, 0, none⟩) n n) ∧ Rw w' w.heap.size (.slice (some ⟨g, 0, none⟩) n n) n xs ∧ Below w.heap.size w w' := by
  obtain ⟨i0, hi, hz0, hz1, hz2⟩ := info_parts Tryz.infoC
  have HXl := hid_o hl
  have HC := hid_o hc
  have HB := hid_o (Below.refl w.heap.size w)
  clear hl hc
  go_enter Tryz.func95, Tryz.ntmps95
  go_wp2_with (first
    | (at_make; (refine wpList_make_full _ rfl _ _ 32 rfl w.heap.size 39 i0 (.complex .f64 0 0) 1 Tryz.underlying32 hi hz0 hz1 _ _ _ _ n rfl rfl rfl rfl (by rw [hz2]; omega) (by unfold maxLen; omega) (Nat.le_refl _) ?_); intro w2 hown hgrow; (have BB : Below w.heap.size w w2 := (Below.refl _ _).grown hgrow (Nat.le_refl _) (by intro k hk; simp at hk)); (have HB2 := hid_o BB); (obtain ⟨cur, hcur, hcs⟩ := ph_curC hown); (have HW2 : Hid (w.heap.size < w2.heap.size) := (hown.lt w.heap.size rfl).2); clear hown hgrow BB)
    | (refine wpList_copy_splice rfl _ _ _ _ rfl 39 Tryz.underlying32 Tryz.infoCs _ _ _ _ _ _ rfl rfl w.heap.size 0 cur _ hcur (xs.map cx) (by simp [HXl.out]) (fun h0 => ⟨rfl, ph_src (HC.out.below HB2.out) h0⟩) (by rw [List.length_map, hcs, HXl.out]; omega) one_cx w.heap.size w HB2.out (Nat.le_refl _) ?_; intro w3 hb2 B2; (rw [splice_all (by rw [hcs, List.length_map, HXl.out])] at hb2); (have HR3 : Hid (Rw w3 w.heap.size (.slice (some ⟨w.heap.size, 0, none⟩) n n) n xs) := ph_rw HXl.out (by unfold maxLen; omega) (Nat.le_refl _) hb2.out); (have HB3 := hid_o B2); clear hcur hb2 hcs B2))
  go_ret
  exact ⟨_, rfl, HR3.out, HB3.out⟩
theorem rc_tail {w : World} {g : Nat} {x y z : Cw} (h : Rc w (some ⟨g, 0, none⟩) [x, y, z]) : Rc w (some ⟨g, 0, none⟩) [x, y] ∧ Rc w (some ⟨g, 2, none⟩) [z] := by
  refine ⟨fun k hk => ?_, fun k hk => ?_⟩
  · have hk2 : k < 2 := hk
    obtain ⟨b, off, h1, h2, h3⟩ := h k (by show k < 3; omega)
    refine ⟨b, off, h1, h2, ?_⟩
    rw [h3]
    rcases (by omega : k = 0 ∨ k = 1) with rfl | rfl <;> rfl
  · have hk2 : k = 0 := by have : k < 1 := hk; omega
    subst hk2
    obtain ⟨b, off, h1, h2, h3⟩ := h 2 (by show 2 < 3; omega)
    cases h1
    exact ⟨g, 2, rfl, h2, h3⟩
set_option maxHeartbeats 1000000 in
theorem dv_psolution {w : World} {nb p g : Nat} {b : Nb} (h : Nt w nb p dvN b) (hx : Rc w (some ⟨g, 0, none⟩) dvX) : Calls Tryz.prog 72 #[.pointer (some ⟨p, 0, none⟩), .float .f64 dvO, .slice (some ⟨g, 0, none⟩) 3 3] w fun e w' => ∃ gv ga, e = .returned (.agg #[.float .f64 dvO, .slice (some ⟨gv, 0, none⟩) 2 2, .slice (some ⟨ga, 0, none⟩) 1 1]) ∧ Rc w' (some ⟨gv, 0, none⟩) [(4620693217682128896, 0), (4616189618054758400, 0)] ∧ Rc w' (some ⟨ga, 0, none⟩) [(13835058055282163712, 0)] ∧ (w.heap.size ≤ gv ∧ w.heap.size ≤ ga) ∧ Below w.heap.size w w' := by
  obtain ⟨R, hR⟩ : ∃ R, w.heap.size = R := ⟨_, rfl⟩
  have k1 := heap_alloc_new w (.cells #[.float .f64 0, .slice none 0 0, .slice none 0 0] 35)
  rw [hR] at k1
  have k3 : (w.alloc (.cells #[.float .f64 0, .slice none 0 0, .slice none 0 0] 35)).heap.size = R + 1 := by rw [← hR]; simp
  have k4 := bal w (.cells #[.float .f64 0, .slice none 0 0, .slice none 0 0] 35)
  obtain ⟨wF, hwF⟩ : ∃ W, w.alloc (.cells #[.float .f64 0, .slice none 0 0, .slice none 0 0] 35) = W := ⟨_, rfl⟩
  rw [hwF] at k1 k3 k4
  have HF := hidS (And.intro k1 (And.intro k3 k4))
  have HNT := hidS (h.below k4)
  have HX := hidS (rc_tail (hx.below k4))
  clear k1 k3 k4 h hx
  go_enter Tryz.func72, Tryz.ntmps72
  go_wp2_with fail
  clear hwF
  refine (nodes_made HNT.out (by decide)).mono ?_
  rintro e1 w1 ⟨v1, rfl, ho1, hb1⟩
  obtain ⟨A1, c1, rfl⟩ := drow_slice ho1
  have HB1 := hidS hb1
  rw [show dvN.nd.length = 2 from rfl]
  clear ho1 hb1
  have e3 := HF.out.2.1
  have q1 : w1.heap[R]? = some (.cells #[.float .f64 0, .slice none 0 0, .slice none 0 0] 35 (0, 0)) := by rw [HB1.out.block R (by omega)]; exact HF.out.1
  have HQ : Hid (∀ W, Below w1.heap.size w1 W → W.heap[R]? = some (.cells #[.float .f64 0, .slice none 0 0, .slice none 0 0] 35 (0, 0))) := fun W hW => by
    rw [hW.block R (by have := HB1.out.size; omega)]; exact q1
  have HB : Hid (Below w1.heap.size w1 w1) := Below.refl _ _
  have HCV : Hid (∀ W, Below w1.heap.size w1 W → Calls Tryz.prog 95 #[.slice (some ⟨g, 0, none⟩) 2 3] W fun e w' => ∃ gv, e = .returned (.slice (some ⟨gv, 0, none⟩) 2 2) ∧ Rc w' (some ⟨gv, 0, none⟩) [(4620693217682128896, 0), (4616189618054758400, 0)] ∧ W.heap.size ≤ gv ∧ Below W.heap.size W w') := fun W hW => (copied_any (cap := 3) rfl (by decide) ((HX.out.1.below HB1.out).below hW)).mono (by
    rintro e w' ⟨gv, rfl, h1, h2⟩
    exact ⟨gv, rfl, h1.rc, (h1.own.lt gv rfl).1, h2⟩)
  have HCA : Hid (∀ W, Below w1.heap.size w1 W → Calls Tryz.prog 95 #[.slice (some ⟨g, 2, none⟩) 1 1] W fun e w' => ∃ ga, e = .returned (.slice (some ⟨ga, 0, none⟩) 1 1) ∧ Rc w' (some ⟨ga, 0, none⟩) [(13835058055282163712, 0)] ∧ W.heap.size ≤ ga ∧ Below W.heap.size W w') := fun W hW => (copied_any (cap := 1) rfl (by decide) ((HX.out.2.below HB1.out).below hW)).mono (by
    rintro e w' ⟨ga, rfl, h1, h2⟩
    exact ⟨ga, rfl, h1.rc, (h1.own.lt ga rfl).1, h2⟩)
  clear q1
  go_wp2_with fail
  go_region_held_law (fun _ => True) (exact trivial) (first
    | (go_at_call 95; (with_reducible refine (HCV.out _ (by repeat first | with_reducible exact HB.out | with_reducible refine Below.drew ?_)).mono ?_); rintro e w2 ⟨gv, rfl, hr2, hg2, hb2⟩; (have KB : Below w1.heap.size w1 w2 := Below.trans (by repeat first | with_reducible exact HB.out | with_reducible refine Below.drew ?_) (hb2.mono (by first | exact HB.out.size | exact Below.size (by repeat first | with_reducible exact HB.out | with_reducible refine Below.drew ?_)))); (have HB := hidS KB); (obtain ⟨z0, z1, z2, z3, z4, z5⟩ := th_c (HQ.out _ HB.out)); clear KB)
    | (go_at_call 95; (with_reducible refine (HCA.out _ (by repeat first | with_reducible exact HB.out | with_reducible refine Below.drew ?_)).mono ?_); rintro e w4 ⟨ga, rfl, hra, hga, hba⟩; (have KB : Below w1.heap.size w1 w4 := Below.trans (by repeat first | with_reducible exact HB.out | with_reducible refine Below.drew ?_) (hba.mono (by first | exact HB.out.size | exact Below.size (by repeat first | with_reducible exact HB.out | with_reducible refine Below.drew ?_)))); (have HB := hidS KB); (obtain ⟨z0, z1, z2, z3, z4, z5⟩ := th_c (HQ.out _ HB.out)); clear KB))
  have hrv : Rc w4 (some ⟨gv, 0, none⟩) [(4620693217682128896, 0), (4616189618054758400, 0)] := hr2.below (hba.mono (Nat.le_refl _))
  have q4 := HQ.out _ HB.out
  have hb9 : Below w.heap.size w w4 := (HF.out.2.2.trans (HB1.out.mono HF.out.2.2.size)).trans (HB.out.mono (by have := HF.out.2.2.size; have := HB1.out.size; omega))
  have HE9 := hidS (th_bel hb9 (f := R) (by omega) (.float .f64 dvO) (.slice (some ⟨gv, 0, none⟩) 2 2) (.slice (some ⟨ga, 0, none⟩) 1 1))
  obtain ⟨r0, r1, r2, -, -, -⟩ := th_c (th_set q4 (.float .f64 dvO) (.slice (some ⟨gv, 0, none⟩) 2 2) (.slice (some ⟨ga, 0, none⟩) 1 1))
  have hs1 := HB1.out.size
  clear z0 z1 z2 z3 z4 z5
  go_wp2_with fail
  (try simp only [Exit.inBlock, Exit.then])
  refine bodyPost_ret (by simp [results, Tryz.results72, go_sem, r0, r1, r2]; try rfl) rfl ?_
  have hsz : ∀ (a b c : Value), w4.heap.size ≤ (((w4.setCell ⟨R, 0, none⟩ a).setCell ⟨R, 1, none⟩ b).setCell ⟨R, 2, none⟩ c).heap.size := fun a b c => (th_bel (Below.refl 0 w4) (Nat.zero_le R) a b c).size
  have hkp : ∀ (a b c : Value) q, q ≠ R → (((w4.setCell ⟨R, 0, none⟩ a).setCell ⟨R, 1, none⟩ b).setCell ⟨R, 2, none⟩ c).heap[q]? = w4.heap[q]? := fun a b c q hq => by
    rw [heap_setCell_other _ _ _ _ (by simpa using hq), heap_setCell_other _ _ _ _ (by simpa using hq), heap_setCell_other _ _ _ _ (by simpa using hq)]
  have hgv9 : w1.heap.size ≤ gv := hg2
  have hga9 : w2.heap.size ≤ ga := hga
  have hb12 : w1.heap.size ≤ w2.heap.size := hb2.size
  exact ⟨gv, ga, rfl, rc_but hrv (hsz _ _ _) (hkp _ _ _ gv (by omega)), rc_but hra (hsz _ _ _) (hkp _ _ _ ga (by omega)), ⟨by omega, by omega⟩, HE9.out⟩
end Go.Proofs.YtmpkcioeodlbcaaGreatDoor
namespace Go.Proofs.YtmpkcioeodlbcaaGreatDoor
open Fl Go.Maps Go.RowKit Joins Deep
set_option linter.unusedVariables false
set_option maxRecDepth 20000
set_option maxHeartbeats 1000000 in
theorem dv_psolve {w : World} {nb p : Nat} {b : Nb} (h : Nt w nb p dvN b) : Calls Tryz.prog 29 #[.pointer (some ⟨p, 0, none⟩), .float .f64 dvO] w fun e w' => ∃ gv ga, e = .returned (.tuple #[.agg #[.float .f64 dvO, .slice (some ⟨gv, 0, none⟩) 2 2, .slice (some ⟨ga, 0, none⟩) 1 1], .agg #[.int .i64 0, .int .i64 0]]) ∧ Rc w' (some ⟨gv, 0, none⟩) [(4620693217682128896, 0), (4616189618054758400, 0)] ∧ Rc w' (some ⟨ga, 0, none⟩) [(13835058055282163712, 0)] ∧ Below w.heap.size w w' := by
  obtain ⟨R, hR⟩ : ∃ R, w.heap.size = R := ⟨_, rfl⟩
  have k1 : ((w.alloc (.cells #[.float .f64 0, .slice none 0 0, .slice none 0 0] 35)).alloc (.cells #[.int .i64 0, .int .i64 0] 69)).heap[R]? = some (.cells #[.float .f64 0, .slice none 0 0, .slice none 0 0] 35 (0, 0)) := by
    rw [(bal _ _).block R (by rw [← hR]; simp), ← hR]; exact heap_alloc_new w _
  have k2 : ((w.alloc (.cells #[.float .f64 0, .slice none 0 0, .slice none 0 0] 35)).alloc (.cells #[.int .i64 0, .int .i64 0] 69)).heap[R + 1]? = some (.cells #[.int .i64 0, .int .i64 0] 69 (0, 0)) := by
    have := heap_alloc_new (w.alloc (.cells #[.float .f64 0, .slice none 0 0, .slice none 0 0] 35)) (.cells #[.int .i64 0, .int .i64 0] 69)
    rw [show (w.alloc (.cells #[.float .f64 0, .slice none 0 0, .slice none 0 0] 35)).heap.size = R + 1 by rw [← hR]; simp] at this
    exact this
  have k3 : ((w.alloc (.cells #[.float .f64 0, .slice none 0 0, .slice none 0 0] 35)).alloc (.cells #[.int .i64 0, .int .i64 0] 69)).heap.size = R + 2 := by rw [← hR]; simp
  have k4 : Below w.heap.size w ((w.alloc (.cells #[.float .f64 0, .slice none 0 0, .slice none 0 0] 35)).alloc (.cells #[.int .i64 0, .int .i64 0] 69)) := (bal w _).alloc (bal w _).size _
  obtain ⟨wF, hwF⟩ : ∃ W, ((w.alloc (.cells #[.float .f64 0, .slice none 0 0, .slice none 0 0] 35)).alloc (.cells #[.int .i64 0, .int .i64 0] 69)) = W := ⟨_, rfl⟩
  rw [hwF] at k1 k2 k3 k4
  have HF := hidS (And.intro k1 (And.intro k2 (And.intro k3 k4)))
  have HNT := hidS (h.below k4)
  clear k1 k2 k3 k4 h
  have HRF := hidS (ph_refused_one HNT.out (by decide))
  go_enter Tryz.func29, Tryz.ntmps29
  go_wp2_with (go_at_call 69; (with_reducible refine HRF.out.mono ?_); rintro e v ⟨rfl, hv⟩; subst v)
  clear hwF
  refine (dv_pdriven HNT.out).mono ?_
  rintro e1 w1 ⟨g, c, l, gb, cb, gx, rfl, hr, hg, hb1⟩
  have HR1 := hidS (And.intro hr hg)
  have HB1 := hidS hb1
  clear hr hg hb1
  go_wp2_with fail
  have m4 : Below w1.heap.size w1 ((w1.alloc (.cells #[.int .i64 3, .int .i64 3, .slice (some ⟨g, 0, none⟩) 9 c, .pointer (some ⟨l, 0, none⟩), .slice (some ⟨gb, 0, none⟩) 3 cb, .slice (some ⟨gx, 0, none⟩) 3 3] 123)).alloc (.cells #[.int .i64 0, .int .i64 0] 69)) := (bal w1 _).alloc (bal w1 _).size _
  obtain ⟨wA, hwA⟩ : ∃ W, ((w1.alloc (.cells #[.int .i64 3, .int .i64 3, .slice (some ⟨g, 0, none⟩) 9 c, .pointer (some ⟨l, 0, none⟩), .slice (some ⟨gb, 0, none⟩) 3 cb, .slice (some ⟨gx, 0, none⟩) 3 3] 123)).alloc (.cells #[.int .i64 0, .int .i64 0] 69)) = W := ⟨_, rfl⟩
  rw [hwA] at m4
  rw [hwA]
  have HBA : Hid (Below wF.heap.size wF wA) := HB1.out.trans (m4.mono HB1.out.size)
  have hx : Rc wA (some ⟨gx, 0, none⟩) dvX := HR1.out.1.below m4
  clear hwA m4
  refine (dv_psolution (HNT.out.below HBA.out) hx).mono ?_
  rintro e2 w2 ⟨gv, ga, rfl, hv, ha, hg, hb2⟩
  have HB2 : Hid (Below wF.heap.size wF w2) := HBA.out.trans (hb2.mono HBA.out.size)
  have HR2 := hidS (And.intro hv (And.intro ha (show R + 2 ≤ gv ∧ R + 2 ≤ ga by have e1 := HF.out.2.2.1; have e2 := HBA.out.size; omega)))
  clear hv ha hg hb2 hx
  have e1 := HF.out.2.2.1
  have hb9 : Below w.heap.size w w2 := HF.out.2.2.2.trans (HB2.out.mono HF.out.2.2.2.size)
  have q1 : w2.heap[R]? = some (.cells #[.float .f64 0, .slice none 0 0, .slice none 0 0] 35 (0, 0)) := by rw [HB2.out.block R (by omega)]; exact HF.out.1
  have q2 : w2.heap[R + 1]? = some (.cells #[.int .i64 0, .int .i64 0] 69 (0, 0)) := by rw [HB2.out.block (R + 1) (by omega)]; exact HF.out.2.1
  obtain ⟨z0, z1, z2, z3, z4, z5⟩ := th_c q1
  obtain ⟨x0, x1, x2, x3⟩ := tw_c q2
  have hrf := rf_of q1 q2 (by omega) (.float .f64 dvO) (.slice (some ⟨gv, 0, none⟩) 2 2) (.slice (some ⟨ga, 0, none⟩) 1 1) (.int .i64 0) (.int .i64 0)
  obtain ⟨g0, g1, g2, g3⟩ := hrf.g
  rw [x0] at g0
  rw [x1] at g1
  have HRF2 := hidS hrf
  have HE9 := hidS (tw_bel (th_bel hb9 (Nat.le_of_eq hR) (.float .f64 dvO) (.slice (some ⟨gv, 0, none⟩) 2 2) (.slice (some ⟨ga, 0, none⟩) 1 1)) (f := R + 1) (by omega) (.int .i64 0) (.int .i64 0))
  clear hrf q1 q2
  go_wp2_with fail
  obtain ⟨r0, r1, r2⟩ := HRF2.out.r
  obtain ⟨t0, t1⟩ := HRF2.out.t
  (try simp only [Exit.inBlock, Exit.then])
  refine bodyPost_ret (by simp [results, Tryz.results29, go_sem, r0, r1, r2, t0, t1]; try rfl) rfl ?_
  have e7 := HR2.out.2.2
  refine ⟨gv, ga, rfl, rc_but HR2.out.1 (by simp) ?_, rc_but HR2.out.2.1 (by simp) ?_, HE9.out⟩
  · rw [heap_setCell_other _ _ _ _ (by simp; omega), heap_setCell_other _ _ _ _ (by simp; omega), heap_setCell_other _ _ _ _ (by simp; omega), heap_setCell_other _ _ _ _ (by simp; omega), heap_setCell_other _ _ _ _ (by simp; omega)]
  · rw [heap_setCell_other _ _ _ _ (by simp; omega), heap_setCell_other _ _ _ _ (by simp; omega), heap_setCell_other _ _ _ _ (by simp; omega), heap_setCell_other _ _ _ _ (by simp; omega), heap_setCell_other _ _ _ _ (by simp; omega)]
end Go.Proofs.YtmpkcioeodlbcaaGreatDoor
