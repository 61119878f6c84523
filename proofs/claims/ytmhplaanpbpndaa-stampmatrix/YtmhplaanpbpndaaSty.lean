/-
  What was set up, cut out of the sheet: a matrix of as many rows as the net has.
-/
import Derived.Test.YtmhplaanpbpndaaStx
import Derived.Test.YtmhplaanpbpndaaBsd
import Derived.Deep.AppendLies
import Derived.Deep.Onto
namespace Go.Proofs.Ytmhplaanpbpndaa
open Go.ChangeShapes Go.WideShapes Go.ChangeAt Fl Go.Maps RowKit Joins Deep
set_option linter.unusedVariables false
set_option maxRecDepth 20000

theorem run_mkC0 (n : Nat) (hn : n ≤ 65536) (w : World) : (Instr.makeSlice 37 (.int .i64 0) (.int .i64 (n : Int))).run Try.prog w = .ok (.slice (some ⟨w.heap.size, 0, none⟩) 0 n) (w.alloc (.cells (madeCells #[.complex .f64 0 0] n) 75)) := by
  obtain ⟨i0, hi, hz0, hz1, hz2⟩ := info_parts Try.infoC
  have h := run_make (P := Try.prog) w 37 75 i0 (.complex .f64 0 0) Try.underlying37 hi hz0 .i64 .i64 0 n (by omega) (by omega) (by rw [hz2]; omega) (by omega)
  simp only [Int.toNat_natCast, hz1, Nat.mul_one] at h
  exact h
/-- a row of the sheet, as words -/
theorem Sp.words {w : World} {s : Nat} {v : Value} {o nn : Nat} {S : Sh} (h : Sp w s v o nn S) {i m : Nat} (hi : i < 64) (hm : m ≤ 64) : ∃ rs : List Cw, rs.length = m ∧ ∀ j, j < m → w.cell? ⟨s, 3 + i * 64 + j, none⟩ = some (cx (zat rs j)) ∧ repz (S.m i j) (zat rs j) := by
  have each : ∀ j, j < m → ∃ r : Cw, w.cell? ⟨s, 3 + i * 64 + j, none⟩ = some (cx r) ∧ repz (S.m i j) r := fun j hj => h.ent i j hi (by omega)
  obtain ⟨F, hF⟩ := choose_lt each
  refine ⟨(List.range m).map F, by simp, fun j hj => ?_⟩
  have : zat ((List.range m).map F) j = F j := by simp [zat, List.getD_eq_getElem?_getD, hj]
  rw [this]; exact hF j hj
/-- three cells written at once -/
theorem th_c {w : World} {B : Nat} {a b c : Value} {T : TypeId} (h : w.heap[B]? = some (.cells #[a, b, c] T (0, 0))) : w.cell? ⟨B, 0, none⟩ = some a ∧ w.cell? ⟨B, 1, none⟩ = some b ∧ w.cell? ⟨B, 2, none⟩ = some c ∧ w.frozen? ⟨B, 0, none⟩ = false ∧ w.frozen? ⟨B, 1, none⟩ = false ∧ w.frozen? ⟨B, 2, none⟩ = false :=
  ⟨by rw [cell_of_row w B 0 _ T (0, 0) h]; rfl, by rw [cell_of_row w B 1 _ T (0, 0) h]; rfl, by rw [cell_of_row w B 2 _ T (0, 0) h]; rfl, frozen_of_row w B 0 _ T h, frozen_of_row w B 1 _ T h, frozen_of_row w B 2 _ T h⟩
theorem th_set {w : World} {B : Nat} {a b c : Value} {T : TypeId} (h : w.heap[B]? = some (.cells #[a, b, c] T (0, 0))) (x y z : Value) : (((w.setCell ⟨B, 0, none⟩ x).setCell ⟨B, 1, none⟩ y).setCell ⟨B, 2, none⟩ z).heap[B]? = some (.cells #[x, y, z] T (0, 0)) :=
  set_at (set_at (set_at h rfl) rfl) rfl
theorem th_bel {w w' : World} {f n : Nat} (h : Below n w w') (hf : n ≤ f) (x y z : Value) : Below n w (((w'.setCell ⟨f, 0, none⟩ x).setCell ⟨f, 1, none⟩ y).setCell ⟨f, 2, none⟩ z) :=
  ((h.setCell (p := ⟨f, 0, none⟩) hf _).setCell (p := ⟨f, 1, none⟩) hf _).setCell (p := ⟨f, 2, none⟩) hf _
/-- the matrix's numbers, row by row -/
def mxR (m : Nat) (S : Sh) : Nat → Cn := fun k => S.m (k / m) (k % m)
set_option maxHeartbeats 4000000 in
theorem smx_any {w0 w : World} {s nb p : Nat} {N : Ns} {b : Nb} {o : Nat} {S : Sh} (h : Sn w0 w s nb p N b o S) : Calls Try.prog 29 #[.pointer (some ⟨s, 0, none⟩)] w fun e w' => ∃ v, e = .returned (.agg #[.int .i64 ((N.nd.length + N.br.length : Nat) : Int), .int .i64 ((N.nd.length + N.br.length : Nat) : Int), v]) ∧ Nr w' w.heap.size v ((N.nd.length + N.br.length) * (N.nd.length + N.br.length)) (mxR (N.nd.length + N.br.length) S) ∧ Below w.heap.size w w' := by
  obtain ⟨i0, hi0, hz0, hz1, hz2⟩ := info_parts Try.infoC
  have HS := hidS (h.on (bal w (.cells #[.int .i64 0, .int .i64 0, .slice none 0 0] 39)))
  have HB := hidS (bal w (.cells #[.int .i64 0, .int .i64 0, .slice none 0 0] 39))
  obtain ⟨wR, hwR⟩ : ∃ wR, w.alloc (.cells #[.int .i64 0, .int .i64 0, .slice none 0 0] 39) = wR := ⟨_, rfl⟩
  have HRB : Hid (wR.heap[w.heap.size]? = some (.cells #[.int .i64 0, .int .i64 0, .slice none 0 0] 39 (0, 0)) ∧ wR.heap.size = w.heap.size + 1) := by
    rw [← hwR]; exact ⟨heap_alloc_new w _, by simp⟩
  rw [hwR] at HS HB
  obtain ⟨m, hm⟩ : ∃ m, N.nd.length + N.br.length = m := ⟨_, rfl⟩
  have hm9 : m ≤ 64 := by have := h.nb; omega
  have HO : Hid (Calls Try.prog 21 #[.pointer (some ⟨p, 0, none⟩)] wR fun e w' => e = .returned (.int .i64 (m : Int)) ∧ Below wR.heap.size wR w') := by
    rw [← hm]
    exact norder_made HS.out.net (by have := h.nd; omega) (by have := h.nb; omega)
  have c0 := HS.out.sp.c0
  have hmm : m * m ≤ 4096 := Nat.mul_le_mul hm9 hm9
  obtain ⟨M, hM⟩ : ∃ M, m * m = M := ⟨_, rfl⟩
  have hMi : (m : Int) * (m : Int) = (M : Int) := by rw [← hM]; rfl
  have HMK := hidS (fun W => run_mkC0 M (by omega) W)
  have HMM := hidS hM
  have HSL := hidS h.lt
  rw [hm, hM]
  rw [hM] at hmm
  clear h hm hM
  go_enter Try.func29, Try.ntmps29
  go_wp2_with (go_at_call 21; (with_reducible refine HO.out.mono ?_); rintro e w1 ⟨rfl, hb1⟩; (have HB1 := hidS hb1); clear hb1; (have hmk := HMK.out w1))
  have HO0 : Hid (∃ ws : List Cw, (w1.alloc (.cells (madeCells #[.complex .f64 0 0] M) 75)).ownsRow wR.heap.size 75 1 (.slice (some ⟨w1.heap.size, 0, none⟩) 0 M) (0 * m) (ws.map cx) ∧ ws.length = 0 * m ∧ (∀ k, k < 0 * m → repz (S.m (k / m) (k % m)) (zat ws k)) ∧ Below wR.heap.size wR (w1.alloc (.cells (madeCells #[.complex .f64 0 0] M) 75))) := by
    refine ⟨[], ?_, by simp, fun k hk => by omega, HB1.out.alloc HB1.out.size _⟩
    rw [Nat.zero_mul]
    exact World.ownsRow_made w1 (madeCells #[.complex .f64 0 0] M) M HB1.out.size (by unfold maxLen; omega) (by simp [madeCells])
  clear hmk HMK c0 HO hwR
  go_loopw [16, 4] (fun iv vv wr => ∃ (i : Nat), i ≤ m ∧ iv = .int .i64 i ∧ Hid (∃ ws : List Cw, wr.ownsRow wR.heap.size 75 1 vv (i * m) (ws.map cx) ∧ ws.length = i * m ∧ (∀ k, k < i * m → repz (S.m (k / m) (k % m)) (zat ws k)) ∧ Below wR.heap.size wR wr)) (fun iv vv _ => m - (intOf iv).toNat)
  case atStart => exact ⟨0, Nat.zero_le _, rfl, HO0⟩
  case round =>
    obtain ⟨i, hle, rfl, HI0⟩ := hrel
    clear HO0
    obtain ⟨ws, hown, hwl, hwr, hbl⟩ := HI0.out
    obtain ⟨Ao, co, hov⟩ := drow_slice hown
    subst hov
    have HI := hidS (And.intro hown (And.intro hwl (And.intro hwr hbl)))
    clear hown hwl hwr hbl HI0
    by_cases hlt : i < m
    · have hli : (i : Int) < (m : Int) := by omega
      have hsp := HS.out.sp.below HI.out.2.2.2 (by have := HSL.out; have := HRB.out.2; omega)
      obtain ⟨rs, hrl, hrw⟩ := hsp.words (i := i) (by omega) hm9
      have HRS := hidS (And.intro hrl hrw)
      clear hsp hrl hrw
      have hi64 : (i : Int) < 64 := by omega
      have hm64 : (m : Int) ≤ 64 := by omega
      have him : i * m ≤ 64 * 64 := Nat.mul_le_mul (by omega) hm9
      have him2 : i * m + m ≤ 4160 := by omega
      go_wp2_with (at_builtin; refine wpList_append_own _ (by rfl) _ _ 37 (by rfl) wR.heap.size 75 i0 (.complex .f64 0 0) 1 16 Try.underlying37 hi0 hz0 hz1 hz2 (by rfl) (by decide) _ _ _ (by rfl) HI.out.1 ⟨s, 3 + i * 64, none⟩ m 64 (rs.map cx) (by rfl) (by simp [HRS.out.1]) ?qc2 ?qc3 (by unfold maxLen; omega) (by omega) HI.out.2.2.2.size ?_)
      case qc2 =>
        intro j u hj
        have hjm : j < m := by have := (List.getElem?_eq_some_iff.1 hj).1; rw [List.length_map, HRS.out.1] at this; exact this
        rw [List.getElem?_map, zat_lt (by rw [HRS.out.1]; exact hjm)] at hj
        have hu : cx (zat rs j) = u := by simpa using hj
        rw [Addr.add_lit, ← hu]
        exact (HRS.out.2 j hjm).1
      case qc3 =>
        intro u hu
        obtain ⟨z, _, rfl⟩ := List.mem_map.1 hu
        rfl
      intro v4 w4 hown4 hgrow4 hnil4
      have HN : Hid (∃ ws' : List Cw, w4.ownsRow wR.heap.size 75 1 v4 ((i + 1) * m) (ws'.map cx) ∧ ws'.length = (i + 1) * m ∧ (∀ k, k < (i + 1) * m → repz (S.m (k / m) (k % m)) (zat ws' k)) ∧ Below wR.heap.size wR w4) := by
        have e : (i + 1) * m = i * m + m := Nat.succ_mul i m
        refine ⟨ws ++ rs, ?_, ?_, ?_, ?_⟩
        · rw [e, List.map_append]; exact hown4
        · rw [List.length_append, HI.out.2.1, HRS.out.1, e]
        · intro k hk
          have hm0 : 0 < m := by omega
          by_cases hki : k < i * m
          · have : zat (ws ++ rs) k = zat ws k := by
              simp only [zat, List.getD_eq_getElem?_getD]
              rw [List.getElem?_append_left (by rw [HI.out.2.1]; exact hki)]
            rw [this]; exact HI.out.2.2.1 k hki
          · obtain ⟨j, rfl⟩ : ∃ j, k = i * m + j := ⟨k - i * m, by omega⟩
            have hj : j < m := by omega
            have h1 : (i * m + j) / m = i := by rw [Nat.add_comm, Nat.add_mul_div_right _ _ hm0, Nat.div_eq_of_lt hj, Nat.zero_add]
            have h2 : (i * m + j) % m = j := by rw [Nat.add_comm, Nat.add_mul_mod_self_right, Nat.mod_eq_of_lt hj]
            have : zat (ws ++ rs) (i * m + j) = zat rs j := by
              simp only [zat, List.getD_eq_getElem?_getD]
              rw [List.getElem?_append_right (by rw [HI.out.2.1]; omega), HI.out.2.1, Nat.add_sub_cancel_left]
            rw [h1, h2, this]
            exact (HRS.out.2 j hj).2
        · exact HI.out.2.2.2.trans ⟨hgrow4.os, hgrow4.tape, hgrow4.output, hgrow4.size, fun q hq => hgrow4.block q (Nat.lt_of_lt_of_le hq HI.out.2.2.2.size) (fun e => by have := (HI.out.1.lt q e.symm).1; omega)⟩
      clear hown4 hgrow4 hnil4
      go_wp2_with fail
      go_roundw
      case rel => exact ⟨i + 1, by omega, by go_num, HN⟩
      case measure => simp [intOf]; omega
    · have ei : i = m := by omega
      subst ei
      have hnlt : ¬ ((i : Int) < (i : Int)) := by omega
      have hRB : wr.heap[w.heap.size]? = some (.cells #[.int .i64 0, .int .i64 0, .slice none 0 0] 39 (0, 0)) := by rw [HI.out.2.2.2.block _ (by have := HRB.out.2; omega)]; exact HRB.out.1
      obtain ⟨z0, z1, z2, z3, z4, z5⟩ := th_c hRB
      obtain ⟨y0, y1, y2, _, _, _⟩ := th_c (th_set hRB (.int .i64 (i : Int)) (.int .i64 (i : Int)) (.slice Ao (i * i) co))
      have HE := hidS (th_bel (HB.out.trans (HI.out.2.2.2.mono HB.out.size)) (Nat.le_refl _) (.int .i64 (i : Int)) (.int .i64 (i : Int)) (.slice Ao (i * i) co))
      go_wp2_with fail
      (try simp only [Exit.inBlock, Exit.then])
      refine bodyPost_ret (by simp [results, Try.results29, go_sem, y0, y1, y2]; try rfl) rfl ?_
      refine ⟨_, rfl, ?_, HE.out⟩
      rw [← HMM.out]
      refine ⟨ws, ⟨HI.out.2.1, ?_⟩, HI.out.2.2.1⟩
      have hk : ∀ g, (Value.slice Ao (i * i) co).ownBlock = some g → g ≠ w.heap.size := fun g hg => by have := (HI.out.1.lt g hg).1; have := HRB.out.2; omega
      refine row_block (World.ownsRow.mono HI.out.1 (by have := HRB.out.2; omega)) (fun g hg => ?_)
      have := hk g hg
      rw [heap_setCell_other _ _ _ _ (by simp; omega), heap_setCell_other _ _ _ _ (by simp; omega), heap_setCell_other _ _ _ _ (by simp; omega)]
end Go.Proofs.Ytmhplaanpbpndaa
