/-
  Several texts in one: Stx Sty Stma.
-/
import Derived.Test.YtmpkcioeodlbcaaGreatDoorK38
import Derived.Test.YtmpkcioeodlbcaaGreatDoorK40
import Derived.Test.YtmpkcioeodlbcaaGreatDoorK42
import Derived.Test.YtmpkcioeodlbcaaGreatDoorK43
import Derived.Test.YtmpkcioeodlbcaaGreatDoorK29
import Derived.Deep.RegionHeldLaw
import Derived.BigQuiet
import Derived.Deep.QuietTactic
import Derived.Deep.AppendLies
import Derived.Deep.Onto
namespace Go.Proofs.YtmpkcioeodlbcaaGreatDoor
open Fl Go.Maps RowKit Joins Deep
set_option linter.unusedVariables false
set_option maxRecDepth 20000
/-- what a kind's stamp does -/
def StP (w0 w : World) (s nb p : Nat) (N : Ns) (b : Nb) (o : Nat) (x : Elm) (S : Sh) (e : Ending) (w' : World) : Prop :=
  e = .returned (.tuple #[]) ∧ Kp s w w' ∧ (stR o x = 0 → Sn w0 w' s nb p N b o (stE N o x S)) ∧ (stR o x ≠ 0 → w'.cell? ⟨s, 4099, none⟩ = some (.int .i64 (stR o x)))
theorem Md.small {N : Ns} (h : Md N) {x : Elm} (hx : x ∈ N.es) : x.small := by
  obtain ⟨h1, h2, h3, h4, h5⟩ := h.sh hx
  exact ⟨by omega, by omega, by omega, by omega, by omega, (h.ok x hx).v⟩
theorem stamp_any {w0 w : World} {s nb p : Nat} {N : Ns} {b : Nb} {o : Nat} {S : Sh} (h : Sn w0 w s nb p N b o S) (ho : o < 18446744073709551616) {x : Elm} (hx : x.small) (hk : x.ok) : Calls Tryz.prog (stF_Stw x.k) #[.pointer (some ⟨s, 0, none⟩), elV x] w (StP w0 w s nb p N b o x S) := by
  unfold stF_Stw
  by_cases k4 : x.k = 4
  · rw [if_pos k4]
    refine (snothing_any w s x).mono ?_
    rintro e w' ⟨rfl, hb⟩
    have h0 : stR o x = 0 := by unfold stR; rw [if_pos (.inl k4)]
    refine ⟨rfl, Kp.of hb h.lt, fun _ => ?_, fun q => absurd h0 q⟩
    have : stE N o x S = S := by unfold stE; rw [if_pos k4]
    rw [this]; exact h.on hb
  rw [if_neg k4]
  by_cases k5 : x.k = 5
  · rw [if_pos k5]
    refine (sbranch_any h x hx.n hx.a hx.b).mono ?_
    rintro e w' ⟨rfl, h1, h2⟩
    have h0 : stR o x = 0 := by unfold stR; rw [if_pos (.inr (.inl k5))]
    refine ⟨rfl, h2, fun _ => ?_, fun q => absurd h0 q⟩
    have : stE N o x S = bra N x S := by unfold stE; rw [if_neg k4, if_pos k5]
    rw [this]; exact h1
  rw [if_neg k5]
  by_cases k6 : x.k = 6
  · rw [if_pos k6]
    refine (stransfer_any h x hx).mono ?_
    rintro e w' ⟨rfl, h1, h2⟩
    have h0 : stR o x = 0 := by unfold stR; rw [if_pos (.inr (.inr (.inl k6)))]
    refine ⟨rfl, h2, fun _ => ?_, fun q => absurd h0 q⟩
    have : stE N o x S = tra N x S := by unfold stE; rw [if_neg k4, if_neg k5, if_pos k6]
    rw [this]; exact h1
  rw [if_neg k6]
  by_cases k7 : x.k = 7
  · rw [if_pos k7]
    refine (samplifier_any h x hx).mono ?_
    rintro e w' ⟨rfl, h1, h2⟩
    have h0 : stR o x = 0 := by unfold stR; rw [if_pos (.inr (.inr (.inr k7)))]
    refine ⟨rfl, h2, fun _ => ?_, fun q => absurd h0 q⟩
    have : stE N o x S = amp N x S := by unfold stE; rw [if_neg k4, if_neg k5, if_neg k6, if_pos k7]
    rw [this]; exact h1
  rw [if_neg k7]
  have hR : stR o x = (ofT x o).2.2 := by unfold stR; rw [if_neg (by omega)]
  have hE : stE N o x S = adm N x (ans (ofT x o).1, ans (ofT x o).2.1) S := by unfold stE; rw [if_neg k4, if_neg k5, if_neg k6, if_neg k7]
  by_cases h0 : (ofT x o).2.2 = 0
  · refine (sadm_ok h x hx hk ho (y1 := (ofT x o).1) (y2 := (ofT x o).2.1) (by rw [← h0])).mono ?_
    rintro e w' ⟨rfl, h1, h2⟩
    exact ⟨rfl, h2, fun _ => by rw [hE]; exact h1, fun q => absurd (hR.trans h0) q⟩
  · refine (sadm_no h x hx hk ho (y1 := (ofT x o).1) (y2 := (ofT x o).2.1) rfl h0).mono ?_
    rintro e w' ⟨rfl, h1, h2⟩
    exact ⟨rfl, h2, fun q => absurd (hR ▸ q) h0, fun _ => by rw [hR]; exact h1⟩
theorem ent_stF (k : Nat) : Ent (stF_Stw k) := by
  unfold stF_Stw
  split
  · exact fun args w => by kernel_rfl
  split
  · exact fun args w => by kernel_rfl
  split
  · exact fun args w => by kernel_rfl
  split
  · exact fun args w => by kernel_rfl
  · exact fun args w => by kernel_rfl
/-- the stamps by kind, in memory -/
def stC : Array Value := #[.nilFunc, .func (.func 174) #[] #[], .func (.func 174) #[] #[], .func (.func 174) #[] #[], .func (.func 175) #[] #[], .func (.func 176) #[] #[], .func (.func 177) #[] #[], .func (.func 178) #[] #[], .func (.func 174) #[] #[]]
theorem ltr_k {k : Nat} (h : ltr k ≠ 0) : 1 ≤ k ∧ k ≤ 8 := by
  refine ⟨?_, ?_⟩
  · rcases Nat.eq_zero_or_pos k with e | e
    · rw [e] at h; exact absurd rfl h
    · exact e
  · rcases Nat.lt_or_ge 8 k with e | e
    · exact absurd (nat_none (.inr e)).1 h
    · exact e
theorem stC_at {k : Nat} (h : 1 ≤ k ∧ k ≤ 8) : stC[k]? = some (.func (.func (stF_Stw k)) #[] #[]) := by
  obtain ⟨h1, h2⟩ := h
  rcases (by omega : k = 1 ∨ k = 2 ∨ k = 3 ∨ k = 4 ∨ k = 5 ∨ k = 6 ∨ k = 7 ∨ k = 8) with rfl | rfl | rfl | rfl | rfl | rfl | rfl | rfl <;> rfl
theorem Md.kd {N : Ns} (h : Md N) {x : Elm} (hx : x ∈ N.es) : 1 ≤ x.k ∧ x.k ≤ 8 := ltr_k (h.nv.el x hx).2.2.lt
end Go.Proofs.YtmpkcioeodlbcaaGreatDoor
namespace Go.Proofs.YtmpkcioeodlbcaaGreatDoor
open Go.ChangeShapes Go.WideShapes Go.ChangeAt Fl Go.Maps RowKit Joins Deep
set_option linter.unusedVariables false
set_option maxRecDepth 20000
theorem run_mkC0 (n : Nat) (hn : n ≤ 65536) (w : World) : (Instr.makeSlice 32 (.int .i64 0) (.int .i64 (n : Int))).run Tryz.prog w = .ok (.slice (some ⟨w.heap.size, 0, none⟩) 0 n) (w.alloc (.cells (madeCells #[.complex .f64 0 0] n) 39)) := by
  obtain ⟨i0, hi, hz0, hz1, hz2⟩ := info_parts Tryz.infoC
  have h := run_make (P := Tryz.prog) w 32 39 i0 (.complex .f64 0 0) Tryz.underlying32 hi hz0 .i64 .i64 0 n (by omega) (by omega) (by rw [hz2]; omega) (by omega)
  simp only [Int.toNat_natCast, hz1, Nat.mul_one] at h
  exact h
/-- a row of the sheet, as words -/
theorem Sp.words {w : World} {s : Nat} {v : Value} {o nn : Nat} {S : Sh} (h : Sp w s v o nn S) {i m : Nat} (hi : i < 64) (hm : m ≤ 64) : ∃ rs : List Cw, rs.length = m ∧ ∀ j, j < m → w.cell? ⟨s, 3 + i * 64 + j, none⟩ = some (cx (zat rs j)) ∧ repz (S.m i j) (zat rs j) := by
  have each : ∀ j, j < m → ∃ r : Cw, w.cell? ⟨s, 3 + i * 64 + j, none⟩ = some (cx r) ∧ repz (S.m i j) r := fun j hj => h.ent i j hi (by omega)
  obtain ⟨F, hF⟩ := choose_lt each
  refine ⟨(List.range m).map F, by simp, fun j hj => ?_⟩
  have : zat ((List.range m).map F) j = F j := by simp [zat, List.getD_eq_getElem?_getD, hj]
  rw [this]; exact hF j hj
/-- three cells written at once -/
theorem th_c {w : World} {B : Nat} {a b c : Value} {T : TypeId} (h : w.heap[B]? = some (.cells #[a, b, c] T (0, 0))) : w.cell? ⟨B, 0, none⟩ = some a ∧ w.cell? ⟨B, 1, none⟩ = some b ∧ w.cell? ⟨B, 2, none⟩ = some c ∧ w.frozen? ⟨B, 0, none⟩ = false ∧ w.frozen? ⟨B, 1, none⟩ = false ∧ w.frozen? ⟨B, 2, none⟩ = false :=
  ⟨by rw [cell_of_row w B 0 _ T (0, 0) h]; rfl, by rw [cell_of_row w B 1 _ T (0, 0) h]; rfl, by rw [cell_of_row w B 2 _ T (0, 0) h]; rfl, frozen_of_row w B 0 _ T h, frozen_of_row w B 1 _ T h, frozen_of_row w B 2 _ T h⟩
theorem th_set {w : World} {B : Nat} {a b c : Value} {T : TypeId} (h : w.heap[B]? = some (.cells #[a, b, c] T (0, 0))) (x y z : Value) : (((w.setCell ⟨B, 0, none⟩ x).setCell ⟨B, 1, none⟩ y).setCell ⟨B, 2, none⟩ z).heap[B]? = some (.cells #[x, y, z] T (0, 0)) :=
  set_at (set_at (set_at h rfl) rfl) rfl
theorem th_bel {w w' : World} {f n : Nat} (h : Below n w w') (hf : n ≤ f) (x y z : Value) : Below n w (((w'.setCell ⟨f, 0, none⟩ x).setCell ⟨f, 1, none⟩ y).setCell ⟨f, 2, none⟩ z) :=
  ((h.setCell (p := ⟨f, 0, none⟩) hf _).setCell (p := ⟨f, 1, none⟩) hf _).setCell (p := ⟨f, 2, none⟩) hf _
/-- the matrix's numbers, row by row -/
def mxR (m : Nat) (S : Sh) : Nat → Cn := fun k => S.m (k / m) (k % m)
set_option maxHeartbeats 4000000 in
theorem smx_any {w0 w : World} {s nb p : Nat} {N : Ns} {b : Nb} {o : Nat} {S : Sh} (h : Sn w0 w s nb p N b o S) : Calls Tryz.prog 136 #[.pointer (some ⟨s, 0, none⟩)] w fun e w' => ∃ v, e = .returned (.agg #[.int .i64 ((N.nd.length + N.br.length : Nat) : Int), .int .i64 ((N.nd.length + N.br.length : Nat) : Int), v]) ∧ Nr w' w.heap.size v ((N.nd.length + N.br.length) * (N.nd.length + N.br.length)) (mxR (N.nd.length + N.br.length) S) ∧ Below w.heap.size w w' := by
  obtain ⟨i0, hi0, hz0, hz1, hz2⟩ := info_parts Tryz.infoC
  have HS := hidS (h.on (bal w (.cells #[.int .i64 0, .int .i64 0, .slice none 0 0] 120)))
  have HB := hidS (bal w (.cells #[.int .i64 0, .int .i64 0, .slice none 0 0] 120))
  obtain ⟨wR, hwR⟩ : ∃ wR, w.alloc (.cells #[.int .i64 0, .int .i64 0, .slice none 0 0] 120) = wR := ⟨_, rfl⟩
  have HRB : Hid (wR.heap[w.heap.size]? = some (.cells #[.int .i64 0, .int .i64 0, .slice none 0 0] 120 (0, 0)) ∧ wR.heap.size = w.heap.size + 1) := by
    rw [← hwR]; exact ⟨heap_alloc_new w _, by simp⟩
  rw [hwR] at HS HB
  obtain ⟨m, hm⟩ : ∃ m, N.nd.length + N.br.length = m := ⟨_, rfl⟩
  have hm9 : m ≤ 64 := by have := h.nb; omega
  have HO : Hid (Calls Tryz.prog 74 #[.pointer (some ⟨p, 0, none⟩)] wR fun e w' => e = .returned (.int .i64 (m : Int)) ∧ Below wR.heap.size wR w') := by
    rw [← hm]
    exact norder_made HS.out.net (by have := h.nd; omega) (by have := h.nb; omega)
  have c0 := HS.out.sp.c0
  have hmm : m * m ≤ 4096 := Nat.mul_le_mul hm9 hm9
  obtain ⟨M, hM⟩ : ∃ M, m * m = M := ⟨_, rfl⟩
  have hMi : (m : Int) * (m : Int) = (M : Int) := by rw [← hM]; rfl
  have HMK := hidS (fun W => run_mkC0 M (by omega) W)
  have HMM := hidS hM
  have HSL := hidS h.lt
  rw [hm, hM]
  rw [hM] at hmm
  clear h hm hM
  go_enter Tryz.func136, Tryz.ntmps136
  go_wp2_with (go_at_call 74; (with_reducible refine HO.out.mono ?_); rintro e w1 ⟨rfl, hb1⟩; (have HB1 := hidS hb1); clear hb1; (have hmk := HMK.out w1))
  have HO0 : Hid (∃ ws : List Cw, (w1.alloc (.cells (madeCells #[.complex .f64 0 0] M) 39)).ownsRow wR.heap.size 39 1 (.slice (some ⟨w1.heap.size, 0, none⟩) 0 M) (0 * m) (ws.map cx) ∧ ws.length = 0 * m ∧ (∀ k, k < 0 * m → repz (S.m (k / m) (k % m)) (zat ws k)) ∧ Below wR.heap.size wR (w1.alloc (.cells (madeCells #[.complex .f64 0 0] M) 39))) := by
    refine ⟨[], ?_, by simp, fun k hk => by omega, HB1.out.alloc HB1.out.size _⟩
    rw [Nat.zero_mul]
    exact World.ownsRow_made w1 (madeCells #[.complex .f64 0 0] M) M HB1.out.size (by unfold maxLen; omega) (by simp [madeCells])
  clear hmk HMK c0 HO hwR
  go_loopw [16, 4] (fun iv vv wr => ∃ (i : Nat), i ≤ m ∧ iv = .int .i64 i ∧ Hid (∃ ws : List Cw, wr.ownsRow wR.heap.size 39 1 vv (i * m) (ws.map cx) ∧ ws.length = i * m ∧ (∀ k, k < i * m → repz (S.m (k / m) (k % m)) (zat ws k)) ∧ Below wR.heap.size wR wr)) (fun iv vv _ => m - (intOf iv).toNat)
  case atStart => exact ⟨0, Nat.zero_le _, rfl, HO0⟩
  case round =>
    obtain ⟨i, hle, rfl, HI0⟩ := hrel
    clear HO0
    obtain ⟨ws, hown, hwl, hwr, hbl⟩ := HI0.out
    obtain ⟨Ao, co, hov⟩ := drow_slice hown
    subst hov
    have HI := hidS (And.intro hown (And.intro hwl (And.intro hwr hbl)))
    clear hown hwl hwr hbl HI0
    by_cases hlt : i < m
    · have hli : (i : Int) < (m : Int) := by omega
      have hsp := HS.out.sp.below HI.out.2.2.2 (by have := HSL.out; have := HRB.out.2; omega)
      obtain ⟨rs, hrl, hrw⟩ := hsp.words (i := i) (by omega) hm9
      have HRS := hidS (And.intro hrl hrw)
      clear hsp hrl hrw
      have hi64 : (i : Int) < 64 := by omega
      have hm64 : (m : Int) ≤ 64 := by omega
      have him : i * m ≤ 64 * 64 := Nat.mul_le_mul (by omega) hm9
      have him2 : i * m + m ≤ 4160 := by omega
      go_wp2_with (at_builtin; refine wpList_append_own _ (by rfl) _ _ 32 (by rfl) wR.heap.size 39 i0 (.complex .f64 0 0) 1 16 Tryz.underlying32 hi0 hz0 hz1 hz2 (by rfl) (by decide) _ _ _ (by rfl) HI.out.1 ⟨s, 3 + i * 64, none⟩ m 64 (rs.map cx) (by rfl) (by simp [HRS.out.1]) ?qc2 ?qc3 (by unfold maxLen; omega) (by omega) HI.out.2.2.2.size ?_)
      case qc2 =>
        intro j u hj
        have hjm : j < m := by have := (List.getElem?_eq_some_iff.1 hj).1; rw [List.length_map, HRS.out.1] at this; exact this
        rw [List.getElem?_map, zat_lt (by rw [HRS.out.1]; exact hjm)] at hj
        have hu : cx (zat rs j) = u := by simpa using hj
        rw [Addr.add_lit, ← hu]
        exact (HRS.out.2 j hjm).1
      case qc3 =>
        intro u hu
        obtain ⟨z, _, rfl⟩ := List.mem_map.1 hu
        rfl
      intro v4 w4 hown4 hgrow4 hnil4
      have HN : Hid (∃ ws' : List Cw, w4.ownsRow wR.heap.size 39 1 v4 ((i + 1) * m) (ws'.map cx) ∧ ws'.length = (i + 1) * m ∧ (∀ k, k < (i + 1) * m → repz (S.m (k / m) (k % m)) (zat ws' k)) ∧ Below wR.heap.size wR w4) := by
        have e : (i + 1) * m = i * m + m := Nat.succ_mul i m
        refine ⟨ws ++ rs, ?_, ?_, ?_, ?_⟩
        · rw [e, List.map_append]; exact hown4
        · rw [List.length_append, HI.out.2.1, HRS.out.1, e]
        · intro k hk
          have hm0 : 0 < m := by omega
          by_cases hki : k < i * m
          · have : zat (ws ++ rs) k = zat ws k := by
              simp only [zat, List.getD_eq_getElem?_getD]
              rw [List.getElem?_append_left (by rw [HI.out.2.1]; exact hki)]
            rw [this]; exact HI.out.2.2.1 k hki
          · obtain ⟨j, rfl⟩ : ∃ j, k = i * m + j := ⟨k - i * m, by omega⟩
            have hj : j < m := by omega
            have h1 : (i * m + j) / m = i := by rw [Nat.add_comm, Nat.add_mul_div_right _ _ hm0, Nat.div_eq_of_lt hj, Nat.zero_add]
            have h2 : (i * m + j) % m = j := by rw [Nat.add_comm, Nat.add_mul_mod_self_right, Nat.mod_eq_of_lt hj]
            have : zat (ws ++ rs) (i * m + j) = zat rs j := by
              simp only [zat, List.getD_eq_getElem?_getD]
              rw [List.getElem?_append_right (by rw [HI.out.2.1]; omega), HI.out.2.1, Nat.add_sub_cancel_left]
            rw [h1, h2, this]
            exact (HRS.out.2 j hj).2
        · exact HI.out.2.2.2.trans ⟨hgrow4.os, hgrow4.tape, hgrow4.output, hgrow4.size, fun q hq => hgrow4.block q (Nat.lt_of_lt_of_le hq HI.out.2.2.2.size) (fun e => by have := (HI.out.1.lt q e.symm).1; omega)⟩
      clear hown4 hgrow4 hnil4
      go_wp2_with fail
      go_roundw
      case rel => exact ⟨i + 1, by omega, by go_num, HN⟩
      case measure => simp [intOf]; omega
    · have ei : i = m := by omega
      subst ei
      have hnlt : ¬ ((i : Int) < (i : Int)) := by omega
      have hRB : wr.heap[w.heap.size]? = some (.cells #[.int .i64 0, .int .i64 0, .slice none 0 0] 120 (0, 0)) := by rw [HI.out.2.2.2.block _ (by have := HRB.out.2; omega)]; exact HRB.out.1
      obtain ⟨z0, z1, z2, z3, z4, z5⟩ := th_c hRB
      obtain ⟨y0, y1, y2, _, _, _⟩ := th_c (th_set hRB (.int .i64 (i : Int)) (.int .i64 (i : Int)) (.slice Ao (i * i) co))
      have HE := hidS (th_bel (HB.out.trans (HI.out.2.2.2.mono HB.out.size)) (Nat.le_refl _) (.int .i64 (i : Int)) (.int .i64 (i : Int)) (.slice Ao (i * i) co))
      go_wp2_with fail
      (try simp only [Exit.inBlock, Exit.then])
      refine bodyPost_ret (by simp [results, Tryz.results136, go_sem, y0, y1, y2]; try rfl) rfl ?_
      refine ⟨_, rfl, ?_, HE.out⟩
      rw [← HMM.out]
      refine ⟨ws, ⟨HI.out.2.1, ?_⟩, HI.out.2.2.1⟩
      have hk : ∀ g, (Value.slice Ao (i * i) co).ownBlock = some g → g ≠ w.heap.size := fun g hg => by have := (HI.out.1.lt g hg).1; have := HRB.out.2; omega
      refine row_block (World.ownsRow.mono HI.out.1 (by have := HRB.out.2; omega)) (fun g hg => ?_)
      have := hk g hg
      rw [heap_setCell_other _ _ _ _ (by simp; omega), heap_setCell_other _ _ _ _ (by simp; omega), heap_setCell_other _ _ _ _ (by simp; omega)]
end Go.Proofs.YtmpkcioeodlbcaaGreatDoor
namespace Go.Proofs.YtmpkcioeodlbcaaGreatDoor
open Fl Go.Maps RowKit Joins Deep
set_option linter.unusedVariables false
set_option maxRecDepth 20000
/-- what Matrix tells: the matrix, or the fault -/
def MxP (w : World) (N : Ns) (o : Nat) (e : Ending) (w' : World) : Prop :=
  Below w.heap.size w w' ∧ ((stA N o).1 = (0, 0) ∧ (∃ v, e = .returned (.tuple #[.agg #[.int .i64 ((N.nd.length + N.br.length : Nat) : Int), .int .i64 ((N.nd.length + N.br.length : Nat) : Int), v], .agg #[.int .i64 0, .int .i64 0]]) ∧ Nr w' w.heap.size v ((N.nd.length + N.br.length) * (N.nd.length + N.br.length)) (mxR (N.nd.length + N.br.length) (stA N o).2)) ∨ (stA N o).1.1 ≠ 0 ∧ e = .returned (.tuple #[.agg #[.int .i64 0, .int .i64 0, .slice none 0 0], .agg #[.int .i64 (stA N o).1.1, .int .i64 (stA N o).1.2]]))
/-- while Matrix goes on -/
structure Mt (w0 wr : World) (s nb p : Nat) (N : Ns) (b : Nb) (o B1 qs : Nat) (v2 : Value) (S : Sh) : Prop where
  sn : Sn w0 wr s nb p N b o S
  el : wr.ownsRow B1 96 8 v2 N.es.length (elCs N.es)
  st : wr.heap[qs]? = some (.cells stC 205 (0, 0))
  sb : s < B1
  sq : s < qs
theorem Mt.on {w0 w w' : World} {s nb p : Nat} {N : Ns} {b : Nb} {o B1 qs : Nat} {v2 : Value} {S : Sh} (h : Mt w0 w s nb p N b o B1 qs v2 S) (hb : Below w.heap.size w w') : Mt w0 w' s nb p N b o B1 qs v2 S :=
  ⟨h.sn.on hb, own_below h.el hb, by rw [hb.block qs (Array.getElem?_eq_some_iff.1 h.st).1]; exact h.st, h.sb, h.sq⟩
theorem Mt.kp {w0 w w' : World} {s nb p : Nat} {N : Ns} {b : Nb} {o B1 qs : Nat} {v2 : Value} {S S' : Sh} (h : Mt w0 w s nb p N b o B1 qs v2 S) (h1 : Sn w0 w' s nb p N b o S') (k : Kp s w w') : Mt w0 w' s nb p N b o B1 qs v2 S' :=
  ⟨h1, row_block h.el (fun g hg => k.ot g (h.el.lt g hg).2 (fun e => by have := (h.el.lt g hg).1; have := h.sb; omega)), by rw [k.ot qs (Array.getElem?_eq_some_iff.1 h.st).1 (by have := h.sq; omega)]; exact h.st, h.sb, h.sq⟩
/-- the answer's five cells, as the walk reads them -/
structure Rf (w : World) (R F : Nat) (a b c x y : Value) : Prop where
  f0 : ((((w.setCell ⟨R, 0, none⟩ a).setCell ⟨R, 1, none⟩ b).setCell ⟨R, 2, none⟩ c).cell? ⟨F, 0, none⟩).isSome = true
  g : (((w.setCell ⟨R, 0, none⟩ a).setCell ⟨R, 1, none⟩ b).setCell ⟨R, 2, none⟩ c).cell? ⟨F, 0, none⟩ = w.cell? ⟨F, 0, none⟩ ∧ (((w.setCell ⟨R, 0, none⟩ a).setCell ⟨R, 1, none⟩ b).setCell ⟨R, 2, none⟩ c).cell? ⟨F, 1, none⟩ = w.cell? ⟨F, 1, none⟩ ∧ (((w.setCell ⟨R, 0, none⟩ a).setCell ⟨R, 1, none⟩ b).setCell ⟨R, 2, none⟩ c).frozen? ⟨F, 0, none⟩ = false ∧ (((w.setCell ⟨R, 0, none⟩ a).setCell ⟨R, 1, none⟩ b).setCell ⟨R, 2, none⟩ c).frozen? ⟨F, 1, none⟩ = false
  r : (((((w.setCell ⟨R, 0, none⟩ a).setCell ⟨R, 1, none⟩ b).setCell ⟨R, 2, none⟩ c).setCell ⟨F, 0, none⟩ x).setCell ⟨F, 1, none⟩ y).cell? ⟨R, 0, none⟩ = some a ∧ (((((w.setCell ⟨R, 0, none⟩ a).setCell ⟨R, 1, none⟩ b).setCell ⟨R, 2, none⟩ c).setCell ⟨F, 0, none⟩ x).setCell ⟨F, 1, none⟩ y).cell? ⟨R, 1, none⟩ = some b ∧ (((((w.setCell ⟨R, 0, none⟩ a).setCell ⟨R, 1, none⟩ b).setCell ⟨R, 2, none⟩ c).setCell ⟨F, 0, none⟩ x).setCell ⟨F, 1, none⟩ y).cell? ⟨R, 2, none⟩ = some c
  t : (((((w.setCell ⟨R, 0, none⟩ a).setCell ⟨R, 1, none⟩ b).setCell ⟨R, 2, none⟩ c).setCell ⟨F, 0, none⟩ x).setCell ⟨F, 1, none⟩ y).cell? ⟨F, 0, none⟩ = some x ∧ (((((w.setCell ⟨R, 0, none⟩ a).setCell ⟨R, 1, none⟩ b).setCell ⟨R, 2, none⟩ c).setCell ⟨F, 0, none⟩ x).setCell ⟨F, 1, none⟩ y).cell? ⟨F, 1, none⟩ = some y
theorem rf_of {w : World} {R F : Nat} {a' b' c' x' y' : Value} {T U : TypeId} (hR : w.heap[R]? = some (.cells #[a', b', c'] T (0, 0))) (hF : w.heap[F]? = some (.cells #[x', y'] U (0, 0))) (hne : R ≠ F) (a b c x y : Value) : Rf w R F a b c x y := by
  have h1 := th_set hR a b c
  have h2 : (((w.setCell ⟨R, 0, none⟩ a).setCell ⟨R, 1, none⟩ b).setCell ⟨R, 2, none⟩ c).heap[F]? = some (.cells #[x', y'] U (0, 0)) := by
    rw [heap_setCell_other _ _ _ _ (by simpa using hne.symm), heap_setCell_other _ _ _ _ (by simpa using hne.symm), heap_setCell_other _ _ _ _ (by simpa using hne.symm)]; exact hF
  obtain ⟨w1, hw1⟩ : ∃ w1, ((w.setCell ⟨R, 0, none⟩ a).setCell ⟨R, 1, none⟩ b).setCell ⟨R, 2, none⟩ c = w1 := ⟨_, rfl⟩
  rw [hw1] at h1 h2
  obtain ⟨q0, q1, q2, q3⟩ := tw_c h2
  obtain ⟨p0, p1, _, _⟩ := tw_c hF
  have h3 : ((w1.setCell ⟨F, 0, none⟩ x).setCell ⟨F, 1, none⟩ y).heap[R]? = some (.cells #[a, b, c] T (0, 0)) := by
    rw [heap_setCell_other _ _ _ _ (by simpa using hne), heap_setCell_other _ _ _ _ (by simpa using hne)]; exact h1
  obtain ⟨r0, r1, r2, _, _, _⟩ := th_c h3
  obtain ⟨t0, t1⟩ := tw_set h2 x y
  refine ⟨?_, ?_, ?_, ?_⟩
  · rw [hw1, q0]; rfl
  · rw [hw1, q0, q1, p0, p1]; exact ⟨rfl, rfl, q2, q3⟩
  · rw [hw1]; exact ⟨r0, r1, r2⟩
  · rw [hw1]; exact ⟨t0, t1⟩
set_option maxHeartbeats 8000000 in
theorem smatrix_any {w : World} {nb p : Nat} {N : Ns} {b : Nb} (h : Nt w nb p N b) (hm : Md N) {o : Nat} (ho : o < 18446744073709551616) :
    Calls Tryz.prog 101 #[.pointer (some ⟨p, 0, none⟩), .float .f64 o] w (MxP w N o) := by
  have HM := hidS (And.intro hm ho)
  have hwb : Below w.heap.size w ((w.alloc (.cells #[.int .i64 0, .int .i64 0, .slice none 0 0] 120)).alloc (.cells #[.int .i64 0, .int .i64 0] 69)) := (bal w _).alloc (bal w _).size _
  have hw1 := heap_alloc_new w (.cells #[.int .i64 0, .int .i64 0, .slice none 0 0] 120)
  have hs1 : (w.alloc (.cells #[.int .i64 0, .int .i64 0, .slice none 0 0] 120)).heap.size = w.heap.size + 1 := by simp
  obtain ⟨wR, hwR⟩ : ∃ wR, w.alloc (.cells #[.int .i64 0, .int .i64 0, .slice none 0 0] 120) = wR := ⟨_, rfl⟩
  rw [hwR] at hwb hw1 hs1
  have hw2 := heap_alloc_new wR (.cells #[.int .i64 0, .int .i64 0] 69)
  have hs2 : (wR.alloc (.cells #[.int .i64 0, .int .i64 0] 69)).heap.size = wR.heap.size + 1 := by simp
  have hw3 : (wR.alloc (.cells #[.int .i64 0, .int .i64 0] 69)).heap[w.heap.size]? = some (.cells #[.int .i64 0, .int .i64 0, .slice none 0 0] 120 (0, 0)) := by rw [(bal wR _).block _ (by omega)]; exact hw1
  obtain ⟨wF, hwF⟩ : ∃ wF, wR.alloc (.cells #[.int .i64 0, .int .i64 0] 69) = wF := ⟨_, rfl⟩
  rw [hwF] at hwb hw2 hs2 hw3
  obtain ⟨R, hR⟩ : ∃ R, w.heap.size = R := ⟨_, rfl⟩
  obtain ⟨F, hF⟩ : ∃ F, wR.heap.size = F := ⟨_, rfl⟩
  rw [hF] at hw2 hs2 hs1
  rw [hR] at hw3 hs1
  have HF : Hid (wF.heap[R]? = some (.cells #[.int .i64 0, .int .i64 0, .slice none 0 0] 120 (0, 0)) ∧ wF.heap[F]? = some (.cells #[.int .i64 0, .int .i64 0] 69 (0, 0)) ∧ wF.heap.size = F + 1 ∧ F = R + 1 ∧ w.heap.size = R ∧ Below w.heap.size w wF) := ⟨hw3, hw2, hs2, hs1, hR, hwb⟩
  have HNT := hidS (h.below hwb)
  clear hw1 hw2 hw3 hs1 hs2 hwb h hm ho
  have HRF := hidS (srefused_any HNT.out HM.out.1.nn HM.out.2)
  by_cases hf : frI o = 0
  · have HA : Hid (stA N o = stL N o Sh.zero 0 N.es) := by
      show _ = _
      unfold stA; rw [if_neg (by simp [hf])]
    rw [hf] at HRF
    clear hf
    obtain ⟨d, hd⟩ : ∃ d, N.nd.length = d := ⟨_, rfl⟩
    have HD := hidS hd
    obtain ⟨cs, hcs⟩ : ∃ cs, ((Tryz.zeroCells203.setIfInBounds 0 (.pointer (some ⟨p, 0, none⟩))).setIfInBounds 1 (.float .f64 o)).setIfInBounds 2 (.int .i64 (d : Int)) = cs := ⟨_, rfl⟩
    have HCS : Hid (IsSh p o d cs) := hcs.symm
    go_enter Tryz.func101, Tryz.ntmps101
    go_wp2_with (go_at_call 134; (with_reducible refine HRF.out.mono ?_); rintro e v ⟨rfl, hv⟩; subst v)
    refine (nodes_made HNT.out (by have := HM.out.1.nd; omega)).mono ?_
    rintro e1 w1 ⟨v1, rfl, ho1, hb1⟩
    obtain ⟨A1, c1, rfl⟩ := drow_slice ho1
    have HB1 := hidS hb1
    have HN1 := hidS (HNT.out.below hb1)
    rw [hd]
    clear ho1 hb1 hd
    go_wp2_with fail
    have HS1 : Hid (Sn w1 (w1.alloc (.cells cs 203)) w1.heap.size nb p N b o Sh.zero) := ⟨HN1.out, bal w1 _, Nat.le_refl _, HM.out.1.nd, HM.out.1.nb, by
      rw [HD.out]; exact sp_new HCS.out (heap_alloc_new w1 _)⟩
    obtain ⟨wS, hwS⟩ : ∃ wS, w1.alloc (.cells cs 203) = wS := ⟨_, rfl⟩
    obtain ⟨s, hs⟩ : ∃ s, w1.heap.size = s := ⟨_, rfl⟩
    rw [hwS, hs] at HS1
    rw [hwS, hs]
    have HSZ := hidS hs
    clear hwS hs hcs HCS HNT HRF
    refine (bykind wS).mono ?_
    rintro e2 w2 ⟨rfl, hb2⟩
    have HS2 := hidS (HS1.out.on hb2)
    have hql := heap_alloc_new w2 (.cells stC 205)
    have HS3 := hidS (HS2.out.on (bal w2 (.cells stC 205)))
    have hsq : s < w2.heap.size := HS2.out.lt
    have hqs : w2.heap.size < (w2.alloc (.cells stC 205)).heap.size := by simp
    clear hb2
    unfold stC at hql HS3 hqs
    obtain ⟨wQ, hwQ⟩ : ∃ wQ, w2.alloc (.cells #[.nilFunc, .func (.func 174) #[] #[], .func (.func 174) #[] #[], .func (.func 174) #[] #[], .func (.func 175) #[] #[], .func (.func 176) #[] #[], .func (.func 177) #[] #[], .func (.func 178) #[] #[], .func (.func 174) #[] #[]] 205) = wQ := ⟨_, rfl⟩
    obtain ⟨qs, hq⟩ : ∃ q, w2.heap.size = q := ⟨_, rfl⟩
    rw [hwQ] at hql HS3 hqs
    rw [hq] at hql hsq hqs
    have HQ := hidS (And.intro hql (And.intro hsq hqs))
    clear hql hsq hqs
    go_wp2_with fail
    clear hwQ hq
    refine (elements_made HS3.out.net (by have := HM.out.1.ln; omega)).mono ?_
    rintro e3 w3 ⟨v3, rfl, ho3, hb3⟩
    obtain ⟨A3, cA, rfl⟩ := drow_slice ho3
    have HT : Hid (Mt w1 w3 s nb p N b o wQ.heap.size qs (.slice A3 N.es.length cA) Sh.zero) := ⟨HS3.out.on hb3, ho3, by rw [hb3.block qs HQ.out.2.2]; exact HQ.out.1, HS3.out.lt, HQ.out.2.1⟩
    obtain ⟨B3, hB3⟩ : ∃ B3, wQ.heap.size = B3 := ⟨_, rfl⟩
    rw [hB3] at HT
    clear ho3 hb3 HS3 HQ hB3 HS2 HS1
    have HLN := hidS HM.out.1.ln
    obtain ⟨n, hn⟩ : ∃ n, N.es.length = n := ⟨_, rfl⟩
    have HN := hidS hn
    rw [hn]
    have hn9 : n ≤ 256 := by have := HLN.out; omega
    have HT0 : Hid (∃ S, Mt w1 w3 s nb p N b o B3 qs (.slice A3 n cA) S ∧ stL N o S 0 (N.es.drop 0) = stL N o Sh.zero 0 N.es ∧ S.ov = false) := ⟨Sh.zero, by rw [← hn]; exact HT.out, rfl, rfl⟩
    clear hn HT
    go_wp2_with fail
    go_loopw [30] (fun iv wr => ∃ (i : Nat), i ≤ n ∧ iv = .int .i64 i ∧ Hid (∃ S, Mt w1 wr s nb p N b o B3 qs (.slice A3 n cA) S ∧ stL N o S i (N.es.drop i) = stL N o Sh.zero 0 N.es ∧ S.ov = false)) (fun iv _ => n - (intOf iv).toNat)
    case atStart => exact ⟨0, Nat.zero_le _, rfl, HT0⟩
    case round =>
      obtain ⟨i, hle, rfl, HI0⟩ := hrel
      clear HT0
      obtain ⟨S, hMt, hrest, hov⟩ := HI0.out
      have HI := hidS hMt
      have HRS := hidS (And.intro hrest hov)
      clear hMt hrest hov HI0
      by_cases hlt : i < n
      · have hli : (i : Int) < (n : Int) := by omega
        obtain ⟨x, hx⟩ : ∃ x, N.es[i]? = some x := ⟨_, List.getElem?_eq_getElem (by have := HN.out; omega)⟩
        have hel := HI.out.el
        rw [HN.out] at hel
        obtain ⟨ga, ca, he, hE⟩ := de8_row hel HN.out hx
        clear hel
        injection he with he1 he2 he3
        subst he1 he3
        clear he2
        obtain ⟨c0, c1, c2, c3, c4, c5, c6, c7⟩ := hE
        have HXM := hidS (List.mem_of_getElem? hx)
        have HX := hidS hx
        clear hx
        have hkd := HM.out.1.kd HXM.out
        have hk9 : (x.k : Int) < 9 := by omega
        have HDR : Hid (N.es.drop i = x :: N.es.drop (i + 1)) := by
          show _ = _
          obtain ⟨h1, h2⟩ := List.getElem?_eq_some_iff.1 HX.out
          rw [List.drop_eq_getElem_cons h1, h2]
        obtain ⟨we, hwe⟩ : ∃ we, wr.alloc (.cells #[.int .u8 (x.k : Int), .string x.n, .string x.a, .string x.b, .string x.c, .string x.d, .float .f64 x.v, .int .i64 x.ph] 96) = we := ⟨_, rfl⟩
        obtain ⟨q, hq⟩ : ∃ q, wr.heap.size = q := ⟨_, rfl⟩
        have HE : Hid (Mt w1 we s nb p N b o B3 qs (.slice (some ⟨ga, 0, none⟩) n cA) S ∧ we.heap[q]? = some (.cells (elA x) 96 (0, 0)) ∧ q < we.heap.size) := by
          rw [← hwe, ← hq]
          exact ⟨HI.out.on (bal wr _), heap_alloc_new wr _, by simp⟩
        have HSQ : Hid (s < q) := by rw [← hq]; exact HI.out.sn.lt
        obtain ⟨⟨d0, d1, d2, d3, d4, d5, d6, d7⟩, z8⟩ := eight HE.out.2.1
        have hfc : we.cell? ⟨qs, x.k, none⟩ = some (.func (.func (stF_Stw x.k)) #[] #[]) := by rw [cell_of_row we qs x.k _ _ (0, 0) HE.out.1.st]; exact stC_at hkd
        have hEnt := ent_stF x.k
        unfold Ent at hEnt
        have HST := hidS (fun W (q : Sn w1 W s nb p N b o S) => stamp_any q HM.out.2 (HM.out.1.small HXM.out) (HM.out.1.ok x HXM.out))
        unfold elV at HST
        obtain ⟨fk, hfk⟩ : ∃ fk, stF_Stw x.k = fk := ⟨_, rfl⟩
        rw [hfk] at hfc hEnt HST
        clear hfk HI z8
        go_wp2_with fail
        clear hwe hq c0 c1 c2 c3 c4 c5 c6 c7
        have HSN := hidS HE.out.1.sn
        go_region_held_law (fun W => W.cell? ⟨q, 0, none⟩ = some (.int .u8 (x.k : Int)) ∧ W.cell? ⟨q, 1, none⟩ = some (.string x.n) ∧ W.cell? ⟨q, 2, none⟩ = some (.string x.a) ∧ W.cell? ⟨q, 3, none⟩ = some (.string x.b) ∧ W.cell? ⟨q, 4, none⟩ = some (.string x.c) ∧ W.cell? ⟨q, 5, none⟩ = some (.string x.d) ∧ W.cell? ⟨q, 6, none⟩ = some (.float .f64 x.v) ∧ W.cell? ⟨q, 7, none⟩ = some (.int .i64 x.ph) ∧ W.cell? ⟨qs, x.k, none⟩ = some (.func (.func fk) #[] #[])) (first | exact ⟨d0, d1, d2, d3, d4, d5, d6, d7, hfc⟩ | exact ⟨k0, k1, k2, k3, k4, k5, k6, k7, k8⟩ | go_keep) (first
          | ((refine (HST.out _ (by repeat first | with_reducible exact HSN.out | with_reducible refine Sn.drew ?_)).mono ?_); rintro e w4 ⟨rfl, hk, hz, hnz⟩; (have HKP : Hid (Kp s we w4) := (by first | exact hk | exact (Kp.dN s _ 1).trans hk)); (have HZ := hidS (And.intro hz hnz)); (have hq4 : w4.heap[q]? = some (.cells (elA x) 96 (0, 0)) := (by rw [HKP.out.ot q HE.out.2.2 (fun e => by have := HSQ.out; omega)]; exact HE.out.2.1)); (obtain ⟨⟨k0, k1, k2, k3, k4, k5, k6, k7⟩, z9⟩ := eight hq4); (have k8 : w4.cell? ⟨qs, x.k, none⟩ = some (.func (.func fk) #[] #[]) := (by rw [World.cell?_of_block (HKP.out.ot qs (Array.getElem?_eq_some_iff.1 HE.out.1.st).1 (by have := HE.out.1.sq; omega))]; exact hfc)); clear hk hz hnz hq4 z9))
        all_goals rename_i hHeld
        all_goals clear hHeld
        clear k0 k1 k2 k3 k4 k5 k6 k7 k8 d0 d1 d2 d3 d4 d5 d6 d7 hfc
        have HBK : Hid (Below w1.heap.size w1 w4) := HSN.out.bel.trans (HKP.out.bel.mono HSN.out.lo)
        by_cases hR : stR o x = 0
        · have hs4 := HZ.out.1 hR
          have HM4 := hidS (HE.out.1.kp hs4 HKP.out)
          have hR0 := hidS hR
          obtain ⟨ov, hov⟩ : ∃ ov, (stE N o x S).ov = ov := ⟨_, rfl⟩
          have herr := hs4.sp.err
          rw [hov] at herr
          have HOV := hidS hov
          clear hs4 hR hov
          cases ov
          · have HI1 : Hid (∃ S', Mt w1 w4 s nb p N b o B3 qs (.slice (some ⟨ga, 0, none⟩) n cA) S' ∧ stL N o S' (i + 1) (N.es.drop (i + 1)) = stL N o Sh.zero 0 N.es ∧ S'.ov = false) :=
              ⟨stE N o x S, HM4.out, by rw [← HRS.out.1, HDR.out, stL_go hR0.out HOV.out], HOV.out⟩
            go_wp2_with fail
            go_roundw
            case rel => exact ⟨i + 1, by omega, by go_num, HI1⟩
            case measure => simp [intOf]; omega
          · have HA2 : Hid (stA N o = ((6, (i : Int)), stE N o x S)) := by
              show _ = _
              rw [HA.out, ← HRS.out.1, HDR.out, stL_over hR0.out HOV.out]
            have HRX : Hid (w4.heap[R]? = some (.cells #[.int .i64 0, .int .i64 0, .slice none 0 0] 120 (0, 0)) ∧ w4.heap[F]? = some (.cells #[.int .i64 0, .int .i64 0] 69 (0, 0)) ∧ Below w.heap.size w w4) := by
              have e1 := HF.out.2.2.1
              have e2 := HF.out.2.2.2.1
              have e3 := HF.out.2.2.2.2.1
              have e4 := HB1.out.size
              refine ⟨?_, ?_, ?_⟩
              · rw [HBK.out.block R (by omega), HB1.out.block R (by omega)]; exact HF.out.1
              · rw [HBK.out.block F (by omega), HB1.out.block F (by omega)]; exact HF.out.2.1
              · exact (HF.out.2.2.2.2.2.trans (HB1.out.mono (by omega))).trans (HBK.out.mono (by omega))
            obtain ⟨z0, z1, z2, z3, z4, z5⟩ := th_c HRX.out.1
            obtain ⟨x0, x1, x2, x3⟩ := tw_c HRX.out.2.1
            have hrf := rf_of HRX.out.1 HRX.out.2.1 (by have := HF.out.2.2.2.1; omega) (.int .i64 0) (.int .i64 0) (.slice none 0 0) (.int .i64 (6)) (.int .i64 (i : Int))
            obtain ⟨g0, g1, g2, g3⟩ := hrf.g
            rw [x0] at g0
            rw [x1] at g1
            have HRF2 := hidS hrf
            have HE9 := hidS (tw_bel (th_bel HRX.out.2.2 (Nat.le_of_eq HF.out.2.2.2.2.1) (.int .i64 0) (.int .i64 0) (.slice none 0 0)) (f := F) (by have := HF.out.2.2.2.1; have := HF.out.2.2.2.2.1; omega) (.int .i64 (6)) (.int .i64 (i : Int)))
            clear hrf
            go_wp2_with fail
            have hRs : s ≠ R := by have := HF.out.2.2.1; have := HF.out.2.2.2.1; have := HB1.out.size; have := HSN.out.lo; omega
            have hFs : s ≠ F := by have := HF.out.2.2.1; have := HB1.out.size; have := HSN.out.lo; omega
            have hsR := hRs.symm
            have hsF := hFs.symm
            go_region_held_law (fun W => W.cell? ⟨s, 4099, none⟩ = some (.int .i64 6)) (first | exact herr | go_keep) (fail)
            obtain ⟨r0, r1, r2⟩ := HRF2.out.r
            obtain ⟨t0, t1⟩ := HRF2.out.t
            go_wp2_with fail
            (try simp only [Exit.inBlock, Exit.then])
            refine bodyPost_ret (by simp [results, Tryz.results101, go_sem, r0, r1, r2, t0, t1]; try rfl) rfl ?_
            refine ⟨HE9.out.drew, .inr ⟨by rw [HA2.out]; exact (by decide : (6 : Int) ≠ 0), by rw [HA2.out]⟩⟩
        · have herr := HZ.out.2 hR
          have HA2 : Hid (stA N o = ((stR o x, (i : Int)), S)) := by
            show _ = _
            rw [HA.out, ← HRS.out.1, HDR.out, stL_bad hR]
          have HRN := hidS hR
          obtain ⟨er, her⟩ : ∃ er, stR o x = er := ⟨_, rfl⟩
          rw [her] at herr HA2 HRN
          have hq : (er != 0) = true := by simp [HRN.out]
          clear her hR
          have HRX : Hid (w4.heap[R]? = some (.cells #[.int .i64 0, .int .i64 0, .slice none 0 0] 120 (0, 0)) ∧ w4.heap[F]? = some (.cells #[.int .i64 0, .int .i64 0] 69 (0, 0)) ∧ Below w.heap.size w w4) := by
            have e1 := HF.out.2.2.1
            have e2 := HF.out.2.2.2.1
            have e3 := HF.out.2.2.2.2.1
            have e4 := HB1.out.size
            refine ⟨?_, ?_, ?_⟩
            · rw [HBK.out.block R (by omega), HB1.out.block R (by omega)]; exact HF.out.1
            · rw [HBK.out.block F (by omega), HB1.out.block F (by omega)]; exact HF.out.2.1
            · exact (HF.out.2.2.2.2.2.trans (HB1.out.mono (by omega))).trans (HBK.out.mono (by omega))
          obtain ⟨z0, z1, z2, z3, z4, z5⟩ := th_c HRX.out.1
          obtain ⟨x0, x1, x2, x3⟩ := tw_c HRX.out.2.1
          have hrf := rf_of HRX.out.1 HRX.out.2.1 (by have := HF.out.2.2.2.1; omega) (.int .i64 0) (.int .i64 0) (.slice none 0 0) (.int .i64 (er)) (.int .i64 (i : Int))
          obtain ⟨g0, g1, g2, g3⟩ := hrf.g
          rw [x0] at g0
          rw [x1] at g1
          have HRF2 := hidS hrf
          have HE9 := hidS (tw_bel (th_bel HRX.out.2.2 (Nat.le_of_eq HF.out.2.2.2.2.1) (.int .i64 0) (.int .i64 0) (.slice none 0 0)) (f := F) (by have := HF.out.2.2.2.1; have := HF.out.2.2.2.2.1; omega) (.int .i64 (er)) (.int .i64 (i : Int)))
          clear hrf
          go_wp2_with fail
          have hRs : s ≠ R := by have := HF.out.2.2.1; have := HF.out.2.2.2.1; have := HB1.out.size; have := HSN.out.lo; omega
          have hFs : s ≠ F := by have := HF.out.2.2.1; have := HB1.out.size; have := HSN.out.lo; omega
          have hsR := hRs.symm
          have hsF := hFs.symm
          go_region_held_law (fun W => W.cell? ⟨s, 4099, none⟩ = some (.int .i64 er)) (first | exact herr | go_keep) (fail)
          obtain ⟨r0, r1, r2⟩ := HRF2.out.r
          obtain ⟨t0, t1⟩ := HRF2.out.t
          go_wp2_with fail
          (try simp only [Exit.inBlock, Exit.then])
          refine bodyPost_ret (by simp [results, Tryz.results101, go_sem, r0, r1, r2, t0, t1]; try rfl) rfl ?_
          refine ⟨HE9.out.drew, .inr ⟨by rw [HA2.out]; exact HRN.out, by rw [HA2.out]⟩⟩
      · have ei : i = n := by omega
        subst ei
        have hnlt : ¬ ((i : Int) < (i : Int)) := by omega
        have HA2 : Hid (stA N o = ((0, 0), S)) := by
          show _ = _
          rw [HA.out, ← HRS.out.1, List.drop_eq_nil_of_le (by have := HN.out; omega)]; rfl
        obtain ⟨m, hmm⟩ : ∃ m, N.nd.length + N.br.length = m := ⟨_, rfl⟩
        have HMM := hidS hmm
        have HMX := hidS (smx_any HI.out.sn)
        rw [hmm] at HMX
        clear hmm
        go_wp2_with fail
        refine HMX.out.mono ?_
        rintro e5 w5 ⟨v5, rfl, hN5, hb5⟩
        obtain ⟨A5, c5, rfl⟩ := hN5.sh
        have HN5 := hidS hN5
        have HB5 := hidS hb5
        have HBK : Hid (Below w1.heap.size w1 w5) := HI.out.sn.bel.trans (hb5.mono HI.out.sn.bel.size)
        clear hN5 hb5
        have HRX : Hid (w5.heap[R]? = some (.cells #[.int .i64 0, .int .i64 0, .slice none 0 0] 120 (0, 0)) ∧ w5.heap[F]? = some (.cells #[.int .i64 0, .int .i64 0] 69 (0, 0)) ∧ Below w.heap.size w w5) := by
          have e1 := HF.out.2.2.1
          have e2 := HF.out.2.2.2.1
          have e3 := HF.out.2.2.2.2.1
          have e4 := HB1.out.size
          refine ⟨?_, ?_, ?_⟩
          · rw [HBK.out.block R (by omega), HB1.out.block R (by omega)]; exact HF.out.1
          · rw [HBK.out.block F (by omega), HB1.out.block F (by omega)]; exact HF.out.2.1
          · exact (HF.out.2.2.2.2.2.trans (HB1.out.mono (by omega))).trans (HBK.out.mono (by omega))
        obtain ⟨z0, z1, z2, z3, z4, z5⟩ := th_c HRX.out.1
        obtain ⟨x0, x1, x2, x3⟩ := tw_c HRX.out.2.1
        have hrf := rf_of HRX.out.1 HRX.out.2.1 (by have := HF.out.2.2.2.1; omega) (.int .i64 (m : Int)) (.int .i64 (m : Int)) (.slice A5 (m * m) c5) (.int .i64 0) (.int .i64 0)
        obtain ⟨g0, g1, g2, g3⟩ := hrf.g
        rw [x0] at g0
        rw [x1] at g1
        have HRF2 := hidS hrf
        have HE9 := hidS (tw_bel (th_bel HRX.out.2.2 (Nat.le_of_eq HF.out.2.2.2.2.1) (.int .i64 (m : Int)) (.int .i64 (m : Int)) (.slice A5 (m * m) c5)) (f := F) (by have := HF.out.2.2.2.1; have := HF.out.2.2.2.2.1; omega) (.int .i64 0) (.int .i64 0))
        clear hrf
        go_wp2_with fail
        obtain ⟨r0, r1, r2⟩ := HRF2.out.r
        obtain ⟨t0, t1⟩ := HRF2.out.t
        (try simp only [Exit.inBlock, Exit.then])
        refine bodyPost_ret (by simp [results, Tryz.results101, go_sem, r0, r1, r2, t0, t1]; try rfl) rfl ?_
        refine ⟨HE9.out, .inl ⟨by rw [HA2.out], .slice A5 (m * m) c5, by rw [HMM.out], ?_⟩⟩
        rw [HA2.out, HMM.out]
        have e5 : F < wr.heap.size := by
          have e1 := HF.out.2.2.1
          have e4 := HB1.out.size
          have e6 := HI.out.sn.bel.size
          omega
        have e7 := HF.out.2.2.2.1
        have e8 := HF.out.2.2.2.2.1
        refine (HN5.out.but (fun q k1 k2 => ?_)).lower (by omega)
        rw [heap_setCell_other _ _ _ _ (by simp; omega), heap_setCell_other _ _ _ _ (by simp; omega), heap_setCell_other _ _ _ _ (by simp; omega), heap_setCell_other _ _ _ _ (by simp; omega), heap_setCell_other _ _ _ _ (by simp; omega)]
  · have hA : stA N o = ((frI o, -1), Sh.zero) := by unfold stA; rw [if_pos hf]
    have HA := hidS hA
    obtain ⟨f, hff⟩ : ∃ f, frI o = f := ⟨_, rfl⟩
    rw [hff] at HRF hf HA
    have HFN := hidS hf
    have hq : (f != 0) = true := by simp [hf]
    obtain ⟨z0, z1, z2, z3, z4, z5⟩ := th_c HF.out.1
    obtain ⟨x0, x1, x2, x3⟩ := tw_c HF.out.2.1
    have hrf := rf_of HF.out.1 HF.out.2.1 (by have := HF.out.2.2.2.1; omega) (.int .i64 0) (.int .i64 0) (.slice none 0 0) (.int .i64 f) (.int .i64 (-1))
    obtain ⟨g0, g1, g2, g3⟩ := hrf.g
    rw [x0] at g0
    rw [x1] at g1
    obtain ⟨r0, r1, r2⟩ := hrf.r
    obtain ⟨t0, t1⟩ := hrf.t
    have HE := hidS (tw_bel (th_bel HF.out.2.2.2.2.2 (Nat.le_of_eq HF.out.2.2.2.2.1) (.int .i64 0) (.int .i64 0) (.slice none 0 0)) (f := F) (by have := HF.out.2.2.2.1; have := HF.out.2.2.2.2.1; omega) (.int .i64 f) (.int .i64 (-1)))
    clear hA hff hf hrf
    go_enter Tryz.func101, Tryz.ntmps101
    go_wp2_with (go_at_call 134; (with_reducible refine HRF.out.mono ?_); rintro e v ⟨rfl, hv⟩; subst v)
    (try simp only [Exit.inBlock, Exit.then])
    refine bodyPost_ret (by simp [results, Tryz.results101, go_sem, r0, r1, r2, t0, t1]; try rfl) rfl ?_
    refine ⟨HE.out, .inr ⟨by rw [HA.out]; exact HFN.out, by rw [HA.out]⟩⟩
end Go.Proofs.YtmpkcioeodlbcaaGreatDoor
