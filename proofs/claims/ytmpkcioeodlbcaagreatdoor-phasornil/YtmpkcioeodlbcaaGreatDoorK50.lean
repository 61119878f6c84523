/-
  Several texts in one: Phh Phi.
-/
import Derived.Test.YtmpkcioeodlbcaaGreatDoorK49
namespace Go.Proofs.YtmpkcioeodlbcaaGreatDoor
open Fl Go.Maps Go.RowKit Joins Deep
set_option linter.unusedVariables false
set_option maxRecDepth 20000
theorem dv_text {w : World} (hw : Wow w) : Calls Tryz.prog 34 #[.string dvS] w fun e w' => ∃ p base b, e = .returned (.pointer (some ⟨p, 0, none⟩)) ∧ Nt w' base p dvN b ∧ Below w.heap.size w w' := by
  have HP : Hid (Calls Tryz.prog 79 #[.string dvS] w fun e w' => ∃ base p b, e = .returned (.tuple #[.pointer (some ⟨p, 0, none⟩), .agg #[.int .i64 0, .int .i64 0]]) ∧ Nt w' base p dvN b ∧ Below w.heap.size w w') := by
    refine (parse_main dvS w (by decide) hw dv_er).mono ?_
    rintro e w' ⟨hb, ⟨-, -, base, p, b, rfl, hN, hp⟩ | ⟨h1, -⟩⟩
    · rw [dv_a, dv_of] at hN
      exact ⟨base, p, b, rfl, hN, hb⟩
    · rw [dv_e] at h1; exact absurd rfl h1
  clear hw
  obtain ⟨s, hs⟩ : ∃ s, dvS = s := ⟨_, rfl⟩
  rw [hs] at HP
  rw [hs]
  clear hs
  go_enter Tryz.func34, Tryz.ntmps34
  go_wp2_with fail
  refine HP.out.mono ?_
  rintro e1 w1 ⟨base, p, b, rfl, hN, hb⟩
  have HN := hidS (hN.below (bal w1 (.cells #[.int .i64 0, .int .i64 0] 69)))
  have HB := hidS (hb.alloc hb.size (.cells #[.int .i64 0, .int .i64 0] 69))
  clear hN hb
  go_wp2_with fail
  go_ret
  exact ⟨p, base, b, rfl, HN.out, HB.out⟩
theorem dv_divider {w : World} (hw : Wow w) : Calls Tryz.prog 33 #[] w fun e w' => ∃ p base b, e = .returned (.pointer (some ⟨p, 0, none⟩)) ∧ Nt w' base p dvN b ∧ Below w.heap.size w w' := by
  have HT := hidS (dv_text hw)
  unfold dvS at HT
  go_enter Tryz.func33, Tryz.ntmps33
  go_wp2_with (go_at_call 34; (with_reducible refine HT.out.mono ?_); rintro e v ⟨p, base, b, rfl, hN, hb⟩; (have HN := hidS (And.intro hN hb)); clear hN hb)
  go_ret
  exact ⟨p, base, b, rfl, HN.out.1, HN.out.2⟩
theorem ph_al2 (W : World) (a b : Cw) (t : TypeId) (B : Nat) (hB : W.heap.size = B) : Rc (W.alloc (.cells #[.complex .f64 a.1 a.2, .complex .f64 b.1 b.2] t)) (some ⟨B, 0, none⟩) [a, b] := fun k hk => by
  have h := heap_alloc_new W (.cells #[.complex .f64 a.1 a.2, .complex .f64 b.1 b.2] t)
  rw [hB] at h
  have hk2 : k < 2 := hk
  refine ⟨B, 0, rfl, by rw [← hB]; simp, ?_⟩
  rw [Nat.zero_add, cell_of_row _ B k _ t (0, 0) h]
  rcases (by omega : k = 0 ∨ k = 1) with rfl | rfl <;> rfl
theorem ph_al1 (W : World) (a : Cw) (t : TypeId) (B : Nat) (hB : W.heap.size = B) : Rc (W.alloc (.cells #[.complex .f64 a.1 a.2] t)) (some ⟨B, 0, none⟩) [a] := fun k hk => by
  have h := heap_alloc_new W (.cells #[.complex .f64 a.1 a.2] t)
  rw [hB] at h
  have hk2 : k < 1 := hk
  obtain rfl : k = 0 := by omega
  refine ⟨B, 0, rfl, by rw [← hB]; simp, ?_⟩
  rw [Nat.zero_add, cell_of_row _ B 0 _ t (0, 0) h]
  rfl
set_option maxHeartbeats 1000000 in
theorem lives20 {w : World} (hw : Wow w) : Calls Tryz.prog 8 #[] w fun e w' => e = .returned (.bool true) ∧ Below w.heap.size w w' := by
  have HD := hidS (dv_divider hw)
  have HS : Hid (∀ (W : World) (base p : Nat) (b : Nb), Nt W base p dvN b → Calls Tryz.prog 29 #[.pointer (some ⟨p, 0, none⟩), .float .f64 4607182418800017408] W fun e w' => ∃ gv ga, e = .returned (.tuple #[.agg #[.float .f64 4607182418800017408, .slice (some ⟨gv, 0, none⟩) 2 2, .slice (some ⟨ga, 0, none⟩) 1 1], .agg #[.int .i64 0, .int .i64 0]]) ∧ Rc w' (some ⟨gv, 0, none⟩) [(4620693217682128896, 0), (4616189618054758400, 0)] ∧ Rc w' (some ⟨ga, 0, none⟩) [(13835058055282163712, 0)] ∧ Below W.heap.size W w') := fun W base p b h => dv_psolve h
  have q1 : FloatKind.f64.format.order 4607182418800017408 4607182418800017408 = some .eq := by kernel_rfl
  clear hw
  go_enter Tryz.func8, Tryz.ntmps8
  go_wp2_with fail
  refine HD.out.mono ?_
  rintro e1 w1 ⟨p, base, b, rfl, hN, hb1⟩
  have HN := hidS hN
  have HB1 := hidS hb1
  clear hN hb1 HD
  go_wp2_with fail
  refine (HS.out w1 base p b HN.out).mono ?_
  rintro e2 w2 ⟨gv, ga, rfl, hv, ha, hb2⟩
  have HB2 := hidS (HB1.out.trans (hb2.mono HB1.out.size))
  have HR2 := hidS (And.intro hv ha)
  clear hv ha hb2 HS
  go_wp2_with fail
  obtain ⟨D, hD⟩ : ∃ D, w2.heap.size = D := ⟨_, rfl⟩
  have hX1 : ((w2.alloc (.cells #[.float .f64 4607182418800017408, .slice (some ⟨gv, 0, none⟩) 2 2, .slice (some ⟨ga, 0, none⟩) 1 1] 35)).alloc (.cells #[.int .i64 0, .int .i64 0] 69)).heap.size = D + 1 + 1 := by rw [← hD]; simp
  have hX2 : ((w2.alloc (.cells #[.float .f64 4607182418800017408, .slice (some ⟨gv, 0, none⟩) 2 2, .slice (some ⟨ga, 0, none⟩) 1 1] 35)).alloc (.cells #[.int .i64 0, .int .i64 0] 69)).heap[D]? = some (.cells #[.float .f64 4607182418800017408, .slice (some ⟨gv, 0, none⟩) 2 2, .slice (some ⟨ga, 0, none⟩) 1 1] 35 (0, 0)) := by
    rw [(bal _ _).block D (by rw [← hD]; simp), ← hD]; exact heap_alloc_new w2 _
  have hX4 : Below w2.heap.size w2 ((w2.alloc (.cells #[.float .f64 4607182418800017408, .slice (some ⟨gv, 0, none⟩) 2 2, .slice (some ⟨ga, 0, none⟩) 1 1] 35)).alloc (.cells #[.int .i64 0, .int .i64 0] 69)) := (bal w2 _).alloc (bal w2 _).size _
  rw [hD]
  obtain ⟨wX, hwX⟩ : ∃ W, ((w2.alloc (.cells #[.float .f64 4607182418800017408, .slice (some ⟨gv, 0, none⟩) 2 2, .slice (some ⟨ga, 0, none⟩) 1 1] 35)).alloc (.cells #[.int .i64 0, .int .i64 0] 69)) = W := ⟨_, rfl⟩
  rw [hwX] at hX1 hX2 hX4
  rw [hwX]
  clear hwX
  have HX := hidS (And.intro hX1 (And.intro hX2 hX4))
  clear hX1 hX2 hX4
  have hb3 := bal wX (.cells #[.complex .f64 4620693217682128896 0, .complex .f64 4616189618054758400 0] 39)
  refine (kequal_len 2 _ _ 2 2 [(4620693217682128896, 0), (4616189618054758400, 0)] [(4620693217682128896, 0), (4616189618054758400, 0)] _ (by decide) rfl rfl ((HR2.out.1.below HX.out.2.2).below hb3) (ph_al2 wX (4620693217682128896, 0) (4616189618054758400, 0) 39 _ HX.out.1) (by
    intro k hk
    rcases (by omega : k = 0 ∨ k = 1) with rfl | rfl <;> exact ⟨by kernel_rfl, by kernel_rfl⟩)).mono ?_
  rintro e3 w3 ⟨n3, rfl, hw3⟩
  have HB3 : Hid (Below wX.heap.size wX w3) := by rw [hw3]; exact below_dN hb3 n3
  clear hw3 hb3
  have n1 : w3.heap[D]? = some (.cells #[.float .f64 4607182418800017408, .slice (some ⟨gv, 0, none⟩) 2 2, .slice (some ⟨ga, 0, none⟩) 1 1] 35 (0, 0)) := by rw [HB3.out.block D (by have := HX.out.1; omega)]; exact HX.out.2.1
  obtain ⟨y0, y1, y2, -, -, -⟩ := th_c n1
  clear n1
  go_wp2_with fail
  clear y0 y1 y2
  have hb4 := bal w3 (.cells #[.complex .f64 13835058055282163712 0] 39)
  refine (kequal_len 1 _ _ 1 1 [(13835058055282163712, 0)] [(13835058055282163712, 0)] _ (by decide) rfl rfl (((HR2.out.2.below HX.out.2.2).below HB3.out).below hb4) (ph_al1 w3 (13835058055282163712, 0) 39 _ rfl) (by
    intro k hk
    obtain rfl : k = 0 := by omega
    exact ⟨by kernel_rfl, by kernel_rfl⟩)).mono ?_
  rintro e4 w4 ⟨n4, rfl, hw4⟩
  have HB4 : Hid (Below w3.heap.size w3 w4) := by rw [hw4]; exact below_dN hb4 n4
  clear hw4 hb4
  go_wp2_with fail
  go_ret
  have h1 := HB2.out.trans (HX.out.2.2.mono HB2.out.size)
  have h2 := h1.trans (HB3.out.mono h1.size)
  exact ⟨rfl, h2.trans (HB4.out.mono h2.size)⟩
end Go.Proofs.YtmpkcioeodlbcaaGreatDoor
namespace Go.Proofs.YtmpkcioeodlbcaaGreatDoor
open Fl Go.Maps Go.RowKit Joins Deep
set_option linter.unusedVariables false
set_option maxRecDepth 20000
theorem ss_zero (w : World) : Calls Tryz.prog 32 #[.agg #[.float .f64 0, .slice none 0 0, .slice none 0 0], .agg #[.float .f64 0, .slice none 0 0, .slice none 0 0]] w fun e w' => e = .returned (.bool true) ∧ Below w.heap.size w w' := by
  have HR : Hid (∀ W, Calls Tryz.prog 54 #[.float .f64 0, .float .f64 0] W fun e w' => e = .returned (.bool true) ∧ w' = W) := fun W => by
    have h := ksameR_any 0 0 W
    rwa [smB_self] at h
  have HN := hidS (fun W => tsame_none W)
  have HB := hidS ((bal w (.cells #[.float .f64 0, .slice none 0 0, .slice none 0 0] 35)).alloc (bal w _).size (.cells #[.float .f64 0, .slice none 0 0, .slice none 0 0] 35))
  go_enter Tryz.func32, Tryz.ntmps32
  go_wp2_with (first
    | (go_at_call 54; (with_reducible refine (HR.out _).mono ?_); rintro e v ⟨rfl, hv⟩; subst v)
    | (go_at_call 78; (with_reducible refine (HN.out _).mono ?_); rintro e v ⟨m, rfl, hv⟩; subst v))
  go_ret
  exact ⟨rfl, below_drewN HB.out _⟩
/-- what PhasorNil lays ahead of its loop -/
theorem pn_st (w : World) : ∃ ws, (((w.alloc (.cells #[.slice none 0 0, .slice none 0 0, .map none, .slice none 0 0, .map none, .slice none 0 0, .map none] 66)).alloc (.cells #[.pointer none, .pointer (some ⟨w.heap.size, 0, none⟩)] 26)).alloc (.cells #[.int .i64 1, .int .i64 (-1)] 69)) = ws ∧ ws.cell? ⟨w.heap.size + 1, 0, none⟩ = some (.pointer none) ∧ ws.cell? ⟨w.heap.size + 1, 1, none⟩ = some (.pointer (some ⟨w.heap.size, 0, none⟩)) ∧ NoNet (.pointer (some ⟨w.heap.size, 0, none⟩)) ws ∧ ws.heap[w.heap.size + 1 + 1]? = some (.cells #[.int .i64 1, .int .i64 (-1)] 69 (0, 0)) ∧ Below w.heap.size w ws := by
  have s1 : (w.alloc (.cells #[.slice none 0 0, .slice none 0 0, .map none, .slice none 0 0, .map none, .slice none 0 0, .map none] 66)).heap.size = w.heap.size + 1 := by simp
  have s2 : ((w.alloc (.cells #[.slice none 0 0, .slice none 0 0, .map none, .slice none 0 0, .map none, .slice none 0 0, .map none] 66)).alloc (.cells #[.pointer none, .pointer (some ⟨w.heap.size, 0, none⟩)] 26)).heap.size = w.heap.size + 1 + 1 := by simp
  have k1 := heap_alloc_new w (.cells #[.slice none 0 0, .slice none 0 0, .map none, .slice none 0 0, .map none, .slice none 0 0, .map none] 66)
  have k2 := heap_alloc_new (w.alloc (.cells #[.slice none 0 0, .slice none 0 0, .map none, .slice none 0 0, .map none, .slice none 0 0, .map none] 66)) (.cells #[.pointer none, .pointer (some ⟨w.heap.size, 0, none⟩)] 26)
  have k3 := heap_alloc_new ((w.alloc (.cells #[.slice none 0 0, .slice none 0 0, .map none, .slice none 0 0, .map none, .slice none 0 0, .map none] 66)).alloc (.cells #[.pointer none, .pointer (some ⟨w.heap.size, 0, none⟩)] 26)) (.cells #[.int .i64 1, .int .i64 (-1)] 69)
  rw [s1] at k2
  rw [s2] at k3
  have k4 : (((w.alloc (.cells #[.slice none 0 0, .slice none 0 0, .map none, .slice none 0 0, .map none, .slice none 0 0, .map none] 66)).alloc (.cells #[.pointer none, .pointer (some ⟨w.heap.size, 0, none⟩)] 26)).alloc (.cells #[.int .i64 1, .int .i64 (-1)] 69)).heap[w.heap.size]? = some (.cells #[.slice none 0 0, .slice none 0 0, .map none, .slice none 0 0, .map none, .slice none 0 0, .map none] 66 (0, 0)) := by
    rw [(bal _ _).block _ (by omega), (bal _ _).block _ (by omega)]; exact k1
  have k5 : (((w.alloc (.cells #[.slice none 0 0, .slice none 0 0, .map none, .slice none 0 0, .map none, .slice none 0 0, .map none] 66)).alloc (.cells #[.pointer none, .pointer (some ⟨w.heap.size, 0, none⟩)] 26)).alloc (.cells #[.int .i64 1, .int .i64 (-1)] 69)).heap[w.heap.size + 1]? = some (.cells #[.pointer none, .pointer (some ⟨w.heap.size, 0, none⟩)] 26 (0, 0)) := by
    rw [(bal _ _).block _ (by omega)]; exact k2
  refine ⟨_, rfl, (tw_c k5).1, (tw_c k5).2.1, .inr ⟨_, rfl, ?_⟩, k3, ((bal w _).alloc (bal w _).size _).alloc ((bal w _).alloc (bal w _).size _).size _⟩
  rw [cell_of_row _ _ 2 _ _ (0, 0) k4]; rfl
set_option maxHeartbeats 4000000 in
theorem phnil_walk (w : World) (o : Nat) (ho : o < 18446744073709551616) (s : ByteArray) (hw : Wow w) : Calls Tryz.prog 5 #[.int .u64 (o : Int), .string s] w fun e w' => e = .returned (.bool true) ∧ Below w.heap.size w w' := by
  obtain ⟨ws, hws, hc0, hc1, hnn, hbad, hbs⟩ := pn_st w
  have HS := hidS (And.intro hc0 (And.intro hc1 (And.intro hnn hbad)))
  have HBS := hidS hbs
  have HW := hidS (hw.kept hbs)
  clear hw hc0 hc1 hnn hbad hbs
  obtain ⟨Z, hZ⟩ : ∃ Z, w.heap.size = Z := ⟨_, rfl⟩
  rw [hZ] at HS hws
  go_enter Tryz.func5, Tryz.ntmps5
  go_wp2_with fail
  clear hws
  go_loopw [8] (fun iv wr => ∃ (k : Nat), k ≤ 2 ∧ iv = .int .i64 k ∧ Hid (Below ws.heap.size ws wr)) (fun iv _ => 2 - (intOf iv).toNat)
  case atStart => exact ⟨0, by omega, rfl, Below.refl _ _⟩
  case round =>
    obtain ⟨k, hle, rfl, HB_wr⟩ := hrel
    by_cases hkn : k < 2
    · have hki : (k : Int) < 2 := by omega
      obtain ⟨P, hP, hN⟩ : ∃ P, wr.cell? ⟨Z + 1, k, none⟩ = some (.pointer P) ∧ NoNet (.pointer P) wr := by
        rcases (by omega : k = 0 ∨ k = 1) with rfl | rfl
        · exact ⟨_, (HB_wr.out.cell (World.block_lt_of_cell? ws _ HS.out.1)).trans HS.out.1, .inl rfl⟩
        · exact ⟨_, (HB_wr.out.cell (World.block_lt_of_cell? ws _ HS.out.2.1)).trans HS.out.2.1, HS.out.2.2.1.below HB_wr.out⟩
      have HN : Hid (NoNet (.pointer P) wr) := hN
      have HA_wr := hidS (Below.refl wr.heap.size wr)
      clear hN
      go_wp2_with fail
      clear hP
      refine (ph_solve_none HN.out o).mono ?_
      rintro e1 w1 ⟨rfl, hb⟩
      have HL_w1 := hidS hb
      have HA_w1 := hidS (HA_wr.out.trans (hb.mono HA_wr.out.size))
      clear hb
      go_wp2_with fail
      obtain ⟨d1, h_d1⟩ : ∃ D, w1.heap.size = D := ⟨_, rfl⟩
      have hs1 : ((w1.alloc (.cells #[.float .f64 0, .slice none 0 0, .slice none 0 0] 35)).alloc (.cells #[.int .i64 1, .int .i64 (-1)] 69)).heap[d1]? = some (.cells #[.float .f64 0, .slice none 0 0, .slice none 0 0] 35 (0, 0)) := by rw [(bal _ _).block d1 (by rw [← h_d1]; simp), ← h_d1]; exact heap_alloc_new w1 _
      have hs2 : ((w1.alloc (.cells #[.float .f64 0, .slice none 0 0, .slice none 0 0] 35)).alloc (.cells #[.int .i64 1, .int .i64 (-1)] 69)).heap[d1 + 1]? = some (.cells #[.int .i64 1, .int .i64 (-1)] 69 (0, 0)) := by have q := heap_alloc_new (w1.alloc (.cells #[.float .f64 0, .slice none 0 0, .slice none 0 0] 35)) (.cells #[.int .i64 1, .int .i64 (-1)] 69); rw [show (w1.alloc (.cells #[.float .f64 0, .slice none 0 0, .slice none 0 0] 35)).heap.size = d1 + 1 by rw [← h_d1]; simp] at q; exact q
      have hs4 : ((w1.alloc (.cells #[.float .f64 0, .slice none 0 0, .slice none 0 0] 35)).alloc (.cells #[.int .i64 1, .int .i64 (-1)] 69)).heap.size = d1 + 2 := by rw [← h_d1]; simp
      have hb : Below w1.heap.size w1 ((w1.alloc (.cells #[.float .f64 0, .slice none 0 0, .slice none 0 0] 35)).alloc (.cells #[.int .i64 1, .int .i64 (-1)] 69)) := (bal w1 _).alloc (bal w1 _).size _
      obtain ⟨a1, h_a1⟩ : ∃ W, ((w1.alloc (.cells #[.float .f64 0, .slice none 0 0, .slice none 0 0] 35)).alloc (.cells #[.int .i64 1, .int .i64 (-1)] 69)) = W := ⟨_, rfl⟩
      rw [h_a1] at hs1 hs4 hb hs2
      have HO_a1 := hidS (And.intro hs1 (And.intro hs4 hs2))
      clear hs1 hs4 hs2
      have HL_a1 := hidS hb
      have HA_a1 := hidS (HA_w1.out.trans (hb.mono HA_w1.out.size))
      clear hb
      rw [h_d1]
      rw [h_a1]
      clear h_a1 h_d1
      refine (ph_refined_none (HN.out.below HA_a1.out) o).mono ?_
      rintro e2 w2 ⟨rfl, hb⟩
      have HL_w2 := hidS hb
      have HA_w2 := hidS (HA_a1.out.trans (hb.mono HA_a1.out.size))
      clear hb
      go_wp2_with fail
      obtain ⟨d2, h_d2⟩ : ∃ D, w2.heap.size = D := ⟨_, rfl⟩
      have hs1 : ((w2.alloc (.cells #[.float .f64 0, .slice none 0 0, .slice none 0 0] 35)).alloc (.cells #[.int .i64 1, .int .i64 (-1)] 69)).heap[d2]? = some (.cells #[.float .f64 0, .slice none 0 0, .slice none 0 0] 35 (0, 0)) := by rw [(bal _ _).block d2 (by rw [← h_d2]; simp), ← h_d2]; exact heap_alloc_new w2 _
      have hs2 : ((w2.alloc (.cells #[.float .f64 0, .slice none 0 0, .slice none 0 0] 35)).alloc (.cells #[.int .i64 1, .int .i64 (-1)] 69)).heap[d2 + 1]? = some (.cells #[.int .i64 1, .int .i64 (-1)] 69 (0, 0)) := by have q := heap_alloc_new (w2.alloc (.cells #[.float .f64 0, .slice none 0 0, .slice none 0 0] 35)) (.cells #[.int .i64 1, .int .i64 (-1)] 69); rw [show (w2.alloc (.cells #[.float .f64 0, .slice none 0 0, .slice none 0 0] 35)).heap.size = d2 + 1 by rw [← h_d2]; simp] at q; exact q
      have hs4 : ((w2.alloc (.cells #[.float .f64 0, .slice none 0 0, .slice none 0 0] 35)).alloc (.cells #[.int .i64 1, .int .i64 (-1)] 69)).heap.size = d2 + 2 := by rw [← h_d2]; simp
      have hb : Below w2.heap.size w2 ((w2.alloc (.cells #[.float .f64 0, .slice none 0 0, .slice none 0 0] 35)).alloc (.cells #[.int .i64 1, .int .i64 (-1)] 69)) := (bal w2 _).alloc (bal w2 _).size _
      obtain ⟨a2, h_a2⟩ : ∃ W, ((w2.alloc (.cells #[.float .f64 0, .slice none 0 0, .slice none 0 0] 35)).alloc (.cells #[.int .i64 1, .int .i64 (-1)] 69)) = W := ⟨_, rfl⟩
      rw [h_a2] at hs1 hs4 hb hs2
      have HO_a2 := hidS (And.intro hs1 (And.intro hs4 hs2))
      clear hs1 hs4 hs2
      have HL_a2 := hidS hb
      have HA_a2 := hidS (HA_w2.out.trans (hb.mono HA_w2.out.size))
      clear hb
      rw [h_d2]
      rw [h_a2]
      clear h_a2 h_d2
      refine (ph_with_none (HN.out.below HA_a2.out) o).mono ?_
      rintro e3 w3 ⟨rfl, hb⟩
      have HL_w3 := hidS hb
      have HA_w3 := hidS (HA_a2.out.trans (hb.mono HA_a2.out.size))
      clear hb
      have hq1 : ((w3.alloc (.cells #[.float .f64 0, .slice none 0 0, .slice none 0 0] 35)).alloc (.cells #[.int .i64 1, .int .i64 (-1)] 69)).heap[d1]? = some (.cells #[.float .f64 0, .slice none 0 0, .slice none 0 0] 35 (0, 0)) := by
        have z := HO_a1.out.2.1
        have z1 := HL_w2.out.size
        have z2 := HL_a2.out.size
        have z3 := HL_w3.out.size
        rw [(bal _ _).block d1 (by simp; omega), (bal _ _).block d1 (by omega), HL_w3.out.block d1 (by omega), HL_a2.out.block d1 (by omega), HL_w2.out.block d1 (by omega)]
        exact HO_a1.out.1
      obtain ⟨m0, m1, m2, -, -, -⟩ := th_c hq1
      clear hq1
      go_wp2_with fail
      clear m0 m1 m2
      obtain ⟨d3, h_d3⟩ : ∃ D, w3.heap.size = D := ⟨_, rfl⟩
      have hs1 : ((w3.alloc (.cells #[.float .f64 0, .slice none 0 0, .slice none 0 0] 35)).alloc (.cells #[.int .i64 1, .int .i64 (-1)] 69)).heap[d3]? = some (.cells #[.float .f64 0, .slice none 0 0, .slice none 0 0] 35 (0, 0)) := by rw [(bal _ _).block d3 (by rw [← h_d3]; simp), ← h_d3]; exact heap_alloc_new w3 _
      have hs2 : ((w3.alloc (.cells #[.float .f64 0, .slice none 0 0, .slice none 0 0] 35)).alloc (.cells #[.int .i64 1, .int .i64 (-1)] 69)).heap[d3 + 1]? = some (.cells #[.int .i64 1, .int .i64 (-1)] 69 (0, 0)) := by have q := heap_alloc_new (w3.alloc (.cells #[.float .f64 0, .slice none 0 0, .slice none 0 0] 35)) (.cells #[.int .i64 1, .int .i64 (-1)] 69); rw [show (w3.alloc (.cells #[.float .f64 0, .slice none 0 0, .slice none 0 0] 35)).heap.size = d3 + 1 by rw [← h_d3]; simp] at q; exact q
      have hs4 : ((w3.alloc (.cells #[.float .f64 0, .slice none 0 0, .slice none 0 0] 35)).alloc (.cells #[.int .i64 1, .int .i64 (-1)] 69)).heap.size = d3 + 2 := by rw [← h_d3]; simp
      have hb : Below w3.heap.size w3 ((w3.alloc (.cells #[.float .f64 0, .slice none 0 0, .slice none 0 0] 35)).alloc (.cells #[.int .i64 1, .int .i64 (-1)] 69)) := (bal w3 _).alloc (bal w3 _).size _
      obtain ⟨a3, h_a3⟩ : ∃ W, ((w3.alloc (.cells #[.float .f64 0, .slice none 0 0, .slice none 0 0] 35)).alloc (.cells #[.int .i64 1, .int .i64 (-1)] 69)) = W := ⟨_, rfl⟩
      rw [h_a3] at hs1 hs4 hb hs2
      have HO_a3 := hidS (And.intro hs1 (And.intro hs4 hs2))
      clear hs1 hs4 hs2
      have HL_a3 := hidS hb
      have HA_a3 := hidS (HA_w3.out.trans (hb.mono HA_w3.out.size))
      clear hb
      rw [h_d3]
      rw [h_a3]
      clear h_a3 h_d3
      refine (ph_volt_none (HN.out.below HA_a3.out) s).mono ?_
      rintro e4 w4 ⟨rfl, hb⟩
      have HL_w4 := hidS hb
      have HA_w4 := hidS (HA_a3.out.trans (hb.mono HA_a3.out.size))
      clear hb
      have hq1 : w4.heap[d1]? = some (.cells #[.float .f64 0, .slice none 0 0, .slice none 0 0] 35 (0, 0)) := by
        have z := HO_a1.out.2.1
        have z_w2 := HL_w2.out.size
        have z_a2 := HL_a2.out.size
        have z_w3 := HL_w3.out.size
        have z_a3 := HL_a3.out.size
        have z_w4 := HL_w4.out.size
        rw [HL_w4.out.block (d1) (by omega), HL_a3.out.block (d1) (by omega), HL_w3.out.block (d1) (by omega), HL_a2.out.block (d1) (by omega), HL_w2.out.block (d1) (by omega)]
        exact HO_a1.out.1
      obtain ⟨m0, m1, m2, -, -, -⟩ := th_c hq1
      clear hq1
      go_wp2_with fail
      clear m0 m1 m2
      refine (ph_across_none (HN.out.below HA_w4.out) s).mono ?_
      rintro e5 w5 ⟨rfl, hb⟩
      have HL_w5 := hidS hb
      have HA_w5 := hidS (HA_w4.out.trans (hb.mono HA_w4.out.size))
      clear hb
      have hq1 : w5.heap[d1]? = some (.cells #[.float .f64 0, .slice none 0 0, .slice none 0 0] 35 (0, 0)) := by
        have z := HO_a1.out.2.1
        have z_w2 := HL_w2.out.size
        have z_a2 := HL_a2.out.size
        have z_w3 := HL_w3.out.size
        have z_a3 := HL_a3.out.size
        have z_w4 := HL_w4.out.size
        have z_w5 := HL_w5.out.size
        rw [HL_w5.out.block (d1) (by omega), HL_w4.out.block (d1) (by omega), HL_a3.out.block (d1) (by omega), HL_w3.out.block (d1) (by omega), HL_a2.out.block (d1) (by omega), HL_w2.out.block (d1) (by omega)]
        exact HO_a1.out.1
      obtain ⟨m0, m1, m2, -, -, -⟩ := th_c hq1
      clear hq1
      go_wp2_with fail
      clear m0 m1 m2
      refine (ph_branch_none (HN.out.below HA_w5.out) s).mono ?_
      rintro e6 w6 ⟨rfl, hb⟩
      have HL_w6 := hidS hb
      have HA_w6 := hidS (HA_w5.out.trans (hb.mono HA_w5.out.size))
      clear hb
      go_wp2_with fail
      refine (ph_scaled_none (HN.out.below HA_w6.out) o).mono ?_
      rintro e7 w7 ⟨rfl, hb⟩
      have HL_w7 := hidS hb
      have HA_w7 := hidS (HA_w6.out.trans (hb.mono HA_w6.out.size))
      clear hb
      have HB7 := hidS (HB_wr.out.trans (HA_w7.out.mono HB_wr.out.size))
      obtain ⟨d7, h_d7⟩ : ∃ D, w7.heap.size = D := ⟨_, rfl⟩
      have hs1 : (w7.alloc (.cells #[.float .f64 0, .slice none 0 0, .slice none 0 0] 35)).heap[d7]? = some (.cells #[.float .f64 0, .slice none 0 0, .slice none 0 0] 35 (0, 0)) := by rw [← h_d7]; exact heap_alloc_new w7 _
      have hs4 : (w7.alloc (.cells #[.float .f64 0, .slice none 0 0, .slice none 0 0] 35)).heap.size = d7 + 1 := by rw [← h_d7]; simp
      have hb : Below w7.heap.size w7 (w7.alloc (.cells #[.float .f64 0, .slice none 0 0, .slice none 0 0] 35)) := bal w7 _
      have HO_a7 := hidS (And.intro hs1 (And.intro hs4 trivial))
      clear hs1 hs4
      have HL_a7 := hidS hb
      have HA_a7 := hidS (HA_w7.out.trans (hb.mono HA_w7.out.size))
      clear hb
      have hf : (w7.alloc (.cells #[.float .f64 0, .slice none 0 0, .slice none 0 0] 35)).heap[d1 + 1]? = some (.cells #[.int .i64 1, .int .i64 (-1)] 69 (0, 0)) := by
        have z := HO_a1.out.2.1
        have z_w2 := HL_w2.out.size
        have z_a2 := HL_a2.out.size
        have z_w3 := HL_w3.out.size
        have z_a3 := HL_a3.out.size
        have z_w4 := HL_w4.out.size
        have z_w5 := HL_w5.out.size
        have z_w6 := HL_w6.out.size
        have z_w7 := HL_w7.out.size
        have z_a7 := HL_a7.out.size
        rw [HL_a7.out.block (d1 + 1) (by omega), HL_w7.out.block (d1 + 1) (by omega), HL_w6.out.block (d1 + 1) (by omega), HL_w5.out.block (d1 + 1) (by omega), HL_w4.out.block (d1 + 1) (by omega), HL_a3.out.block (d1 + 1) (by omega), HL_w3.out.block (d1 + 1) (by omega), HL_a2.out.block (d1 + 1) (by omega), HL_w2.out.block (d1 + 1) (by omega)]
        exact HO_a1.out.2.2
      obtain ⟨f1a, f1b, -, -⟩ := tw_c hf
      clear hf
      have hf : (w7.alloc (.cells #[.float .f64 0, .slice none 0 0, .slice none 0 0] 35)).heap[d2 + 1]? = some (.cells #[.int .i64 1, .int .i64 (-1)] 69 (0, 0)) := by
        have z := HO_a2.out.2.1
        have z_w3 := HL_w3.out.size
        have z_a3 := HL_a3.out.size
        have z_w4 := HL_w4.out.size
        have z_w5 := HL_w5.out.size
        have z_w6 := HL_w6.out.size
        have z_w7 := HL_w7.out.size
        have z_a7 := HL_a7.out.size
        rw [HL_a7.out.block (d2 + 1) (by omega), HL_w7.out.block (d2 + 1) (by omega), HL_w6.out.block (d2 + 1) (by omega), HL_w5.out.block (d2 + 1) (by omega), HL_w4.out.block (d2 + 1) (by omega), HL_a3.out.block (d2 + 1) (by omega), HL_w3.out.block (d2 + 1) (by omega)]
        exact HO_a2.out.2.2
      obtain ⟨f2a, f2b, -, -⟩ := tw_c hf
      clear hf
      have hf : (w7.alloc (.cells #[.float .f64 0, .slice none 0 0, .slice none 0 0] 35)).heap[d3 + 1]? = some (.cells #[.int .i64 1, .int .i64 (-1)] 69 (0, 0)) := by
        have z := HO_a3.out.2.1
        have z_w4 := HL_w4.out.size
        have z_w5 := HL_w5.out.size
        have z_w6 := HL_w6.out.size
        have z_w7 := HL_w7.out.size
        have z_a7 := HL_a7.out.size
        rw [HL_a7.out.block (d3 + 1) (by omega), HL_w7.out.block (d3 + 1) (by omega), HL_w6.out.block (d3 + 1) (by omega), HL_w5.out.block (d3 + 1) (by omega), HL_w4.out.block (d3 + 1) (by omega)]
        exact HO_a3.out.2.2
      obtain ⟨f3a, f3b, -, -⟩ := tw_c hf
      clear hf
      have HB8 := hidS (HB7.out.trans (HL_a7.out.mono HB7.out.size))
      have hf : (w7.alloc (.cells #[.float .f64 0, .slice none 0 0, .slice none 0 0] 35)).heap[Z + 1 + 1]? = some (.cells #[.int .i64 1, .int .i64 (-1)] 69 (0, 0)) := by rw [HB8.out.block _ (Array.getElem?_eq_some_iff.1 HS.out.2.2.2).1]; exact HS.out.2.2.2
      obtain ⟨f4a, f4b, -, -⟩ := tw_c hf
      clear hf
      have hf : (w7.alloc (.cells #[.float .f64 0, .slice none 0 0, .slice none 0 0] 35)).heap[d1]? = some (.cells #[.float .f64 0, .slice none 0 0, .slice none 0 0] 35 (0, 0)) := by
        have z := HO_a1.out.2.1
        have z_w2 := HL_w2.out.size
        have z_a2 := HL_a2.out.size
        have z_w3 := HL_w3.out.size
        have z_a3 := HL_a3.out.size
        have z_w4 := HL_w4.out.size
        have z_w5 := HL_w5.out.size
        have z_w6 := HL_w6.out.size
        have z_w7 := HL_w7.out.size
        have z_a7 := HL_a7.out.size
        rw [HL_a7.out.block (d1) (by omega), HL_w7.out.block (d1) (by omega), HL_w6.out.block (d1) (by omega), HL_w5.out.block (d1) (by omega), HL_w4.out.block (d1) (by omega), HL_a3.out.block (d1) (by omega), HL_w3.out.block (d1) (by omega), HL_a2.out.block (d1) (by omega), HL_w2.out.block (d1) (by omega)]
        exact HO_a1.out.1
      obtain ⟨s1a, s1b, s1c, -, -, -⟩ := th_c hf
      clear hf
      have hf : (w7.alloc (.cells #[.float .f64 0, .slice none 0 0, .slice none 0 0] 35)).heap[d7]? = some (.cells #[.float .f64 0, .slice none 0 0, .slice none 0 0] 35 (0, 0)) := by
        have z := HO_a7.out.2.1
        exact HO_a7.out.1
      obtain ⟨s7a, s7b, s7c, -, -, -⟩ := th_c hf
      clear hf
      have HQU := hidS (ph_quiet_none (HN.out.below HA_a7.out))
      have q0 : FloatKind.f64.format.order 0 0 = some .eq := by kernel_rfl
      go_wp2_with (go_at_call 20; (with_reducible refine HQU.out.mono ?_); rintro e v ⟨rfl, hv⟩; subst v)
      clear f1a f1b f2a f2b f3a f3b f4a f4b s1a s1b s1c s7a s7b s7c HQU
      refine (ss_zero _).mono ?_
      rintro e8 w8 ⟨rfl, hb⟩
      have HL_w8 := hidS hb
      have HA_w8 := hidS (HA_a7.out.trans (hb.mono HA_a7.out.size))
      clear hb
      have hf : w8.heap[d2]? = some (.cells #[.float .f64 0, .slice none 0 0, .slice none 0 0] 35 (0, 0)) := by
        have z := HO_a2.out.2.1
        have z_w3 := HL_w3.out.size
        have z_a3 := HL_a3.out.size
        have z_w4 := HL_w4.out.size
        have z_w5 := HL_w5.out.size
        have z_w6 := HL_w6.out.size
        have z_w7 := HL_w7.out.size
        have z_a7 := HL_a7.out.size
        have z_w8 := HL_w8.out.size
        rw [HL_w8.out.block (d2) (by omega), HL_a7.out.block (d2) (by omega), HL_w7.out.block (d2) (by omega), HL_w6.out.block (d2) (by omega), HL_w5.out.block (d2) (by omega), HL_w4.out.block (d2) (by omega), HL_a3.out.block (d2) (by omega), HL_w3.out.block (d2) (by omega)]
        exact HO_a2.out.1
      obtain ⟨s2a, s2b, s2c, -, -, -⟩ := th_c hf
      clear hf
      have hf : w8.heap[d7]? = some (.cells #[.float .f64 0, .slice none 0 0, .slice none 0 0] 35 (0, 0)) := by
        have z := HO_a7.out.2.1
        have z_w8 := HL_w8.out.size
        rw [HL_w8.out.block (d7) (by omega)]
        exact HO_a7.out.1
      obtain ⟨s7a, s7b, s7c, -, -, -⟩ := th_c hf
      clear hf
      go_wp2_with fail
      clear s2a s2b s2c s7a s7b s7c
      refine (ss_zero _).mono ?_
      rintro e9 w9 ⟨rfl, hb⟩
      have HL_w9 := hidS hb
      have HA_w9 := hidS (HA_w8.out.trans (hb.mono HA_w8.out.size))
      clear hb
      have hf : w9.heap[d3]? = some (.cells #[.float .f64 0, .slice none 0 0, .slice none 0 0] 35 (0, 0)) := by
        have z := HO_a3.out.2.1
        have z_w4 := HL_w4.out.size
        have z_w5 := HL_w5.out.size
        have z_w6 := HL_w6.out.size
        have z_w7 := HL_w7.out.size
        have z_a7 := HL_a7.out.size
        have z_w8 := HL_w8.out.size
        have z_w9 := HL_w9.out.size
        rw [HL_w9.out.block (d3) (by omega), HL_w8.out.block (d3) (by omega), HL_a7.out.block (d3) (by omega), HL_w7.out.block (d3) (by omega), HL_w6.out.block (d3) (by omega), HL_w5.out.block (d3) (by omega), HL_w4.out.block (d3) (by omega)]
        exact HO_a3.out.1
      obtain ⟨s3a, s3b, s3c, -, -, -⟩ := th_c hf
      clear hf
      have hf : w9.heap[d7]? = some (.cells #[.float .f64 0, .slice none 0 0, .slice none 0 0] 35 (0, 0)) := by
        have z := HO_a7.out.2.1
        have z_w8 := HL_w8.out.size
        have z_w9 := HL_w9.out.size
        rw [HL_w9.out.block (d7) (by omega), HL_w8.out.block (d7) (by omega)]
        exact HO_a7.out.1
      obtain ⟨s7a, s7b, s7c, -, -, -⟩ := th_c hf
      clear hf
      go_wp2_with fail
      clear s3a s3b s3c s7a s7b s7c
      refine (ss_zero _).mono ?_
      rintro e10 w10 ⟨rfl, hb⟩
      have HL_w10 := hidS hb
      have HA_w10 := hidS (HA_w9.out.trans (hb.mono HA_w9.out.size))
      clear hb
      have HE := hidS (HB_wr.out.trans (HA_w10.out.mono HB_wr.out.size))
      go_wp2_with fail
      go_roundw
      case rel => exact ⟨k + 1, by omega, by go_num, HE⟩
      case measure => simp [intOf]; omega
    · obtain rfl : k = 2 := by omega
      go_wp2_with fail
      refine (lives20 (HW.out.kept HB_wr.out)).mono ?_
      rintro e v ⟨rfl, hb⟩
      have HE := hidS (HB_wr.out.trans (hb.mono HB_wr.out.size))
      clear hb
      go_wp2_with fail
      go_ret
      exact ⟨rfl, HBS.out.trans (HE.out.mono HBS.out.size)⟩
end Go.Proofs.YtmpkcioeodlbcaaGreatDoor
