/-
  What lower's column hands back.
-/
import Derived.Test.YtklbgibhbnijaaaLwb
namespace Go.Proofs.Ytklbgibhbnijaaa
open Fl RowKit

theorem ro_zero (n : Nat) : List.replicate n ((0, 0) : Cw) = ro n (fun _ => (0, 0)) := by
  apply List.ext_getElem?
  intro i
  by_cases hi : i < n
  · simp [ro, hi]
  · rw [List.getElem?_eq_none (by simp; omega), List.getElem?_eq_none (by rw [ro_len]; omega)]
set_option maxHeartbeats 2000000 in
theorem lcolumn_any (b p n gr go : Nat) (bl : Nat → Nat) (M : Nat → Nat → Cw) (o : Nat → Nat) (s : Int) (k : Nat) (w : World) (hn : n ≤ 64) (hk : k < n) (h : Lo w b p n gr go bl M o s) :
    Calls Try.prog 84 #[.pointer (some ⟨p, 0, none⟩), .int .i64 k] w fun e w' => ∃ g, e = .returned (.slice (some ⟨g, 0, none⟩) n n) ∧ Rw w' w.heap.size (.slice (some ⟨g, 0, none⟩) n n) n (ro n (fun i => M i k)) ∧ Below w.heap.size w w' := by
  obtain ⟨i0, hi, hz0, hz1, hz2⟩ := info_parts Try.infoC
  have v0 := h.v.c0
  have hl := h.v.lt
  have HL := hid_o h
  clear h
  go_enter Try.func84, Try.ntmps84
  go_wp2_with (at_make; refine wpList_make_full _ rfl _ _ 24 rfl w.heap.size 52 i0 (.complex .f64 0 0) 1 Try.underlying24 hi hz0 hz1 _ _ _ _ n rfl rfl rfl rfl (by rw [hz2]; omega) (by unfold maxLen; omega) (Nat.le_refl _) ?_; intro w1 hown hgrow; (have BB : Below w.heap.size w w1 := (Below.refl _ _).grown hgrow (Nat.le_refl _) (by intro k hk; simp at hk)); (have v1 := (HL.out.below BB).v.c0); (have l1 := (HL.out.below BB).v.lt); rw [made_zeroC, ro_zero] at hown; (have RW : Hid (Rw w1 w.heap.size (.slice (some ⟨w.heap.size, 0, none⟩) n n) n (ro n (fun _ => (0, 0)))) := ⟨ro_len _ _, hown⟩); (have HB := hid_o BB); clear hown hgrow BB v0 hl)
  go_loopw [19] (fun iv wr => ∃ (i : Nat) (f : Nat → Cw), i ≤ n ∧ iv = .int .i64 i ∧ (∀ j, j < i → f j = M j k) ∧ Rw wr w.heap.size (.slice (some ⟨w.heap.size, 0, none⟩) n n) n (ro n f) ∧ Below w.heap.size w wr) (fun iv _ => n - (intOf iv).toNat)
  case atStart => exact ⟨0, _, Nat.zero_le _, rfl, fun j hj => absurd hj (by omega), RW.out, HB.out⟩
  case round =>
    clear RW HB v1 l1
    obtain ⟨i, f, hin, rfl, hf, hrw, hbel⟩ := hrel
    by_cases hlt : i < n
    · have hL := HL.out.below hbel
      have d1 := hL.cell hlt
      have d2 := hL.cellM hlt hk
      have d3 := rw_cell hrw hlt
      have fz := hrw.own.frozenAt i
      have g1 := hrw.lt.2
      have g2 := (hL.rows.lt gr rfl).2
      have g3 := ((hL.row i hlt).own.lt (bl i) rfl).2
      have HF := hid_o hf
      have HRW := hid_o hrw
      have HB := hid_o hbel
      obtain ⟨x, hxe⟩ : ∃ x, x = M i k := ⟨_, rfl⟩
      rw [← hxe] at d2
      have HX := hid_o hxe
      clear hxe hf hrw hbel hL
      unfold cx at d2 d3
      go_wp2
      go_roundw
      case measure => simp [intOf]; omega
      case rel =>
        refine ⟨i + 1, upz f i x, by omega, by go_num, fun j hj => ?_, rw_set HRW.out i x, HB.out.setCell (p := ⟨w.heap.size, i, none⟩) (Nat.le_refl _) _⟩
        by_cases e : j = i
        · subst e; rw [upz_self]; exact HX.out
        · rw [upz_ne _ _ e]; exact HF.out j (by omega)
    · have e : i = n := by omega
      subst e
      clear HL
      go_wp2
      go_ret
      exact ⟨_, rfl, by rw [← ro_congr hf]; exact hrw, hbel⟩

end Go.Proofs.Ytklbgibhbnijaaa
