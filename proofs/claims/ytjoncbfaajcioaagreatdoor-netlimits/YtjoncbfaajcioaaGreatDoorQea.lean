/-
  each of the package quantity, with a closure of spanOf: the three that stand over the one are turned.
-/
import Derived.Test.YtjoncbfaajcioaaGreatDoorQev
namespace Go.Proofs.YtjoncbfaajcioaaGreatDoor
open RowKit

set_option maxRecDepth 10000 in
set_option maxHeartbeats 4000000 in
theorem each1_any {w : World} {p base L n q : Nat} {cur : Array Value} {vs : Nat → Value} {zs : Nat → Nat} {ends : Bool} (h : Sp w p cur base vs zs ends L) (hq : Vr w q ((n : Nat) : Int)) (hq1 : ∀ j, j < 4 → ¬ Ob (vs j) q) (hz : ∀ j, j < 4 → 0 < zs j) (hL : L ≤ 50000) (hn : n ≤ 1000000) :
    Calls Tryz.prog 135 #[.pointer (some ⟨p, 0, none⟩), .func (.func 136) #[] #[.pointer (some ⟨q, 0, none⟩)]] w fun e w' => e = .returned (.tuple #[]) ∧
      ∃ cur' us, Sp w' p cur' base us (upd (upd (upd zs 0 (zs 0 * 2 ^ n)) 2 (zs 2 * 2 ^ n)) 3 (zs 3 * 2 ^ n)) ends (L + n / 64 + 1) ∧ Only (fun k => Ob (vs 0) k ∨ Ob (vs 2) k ∨ Ob (vs 3) k ∨ k = p) w w' := by
  have X0a := h.cell 0 (by decide)
  have X0b := h.cell 2 (by decide)
  have X0c := h.cell 3 (by decide)
  have E0 := Ev.start h
  go_enter Tryz.func135, Tryz.ntmps135
  go_region_with (first
    | (go_at_call 136; (with_reducible refine (ev_call1 E0 (i := 0) (.inl rfl) rfl hq hq1 (hz 0 (by decide)) (by exact hL) hn).mono ?_); rintro e1 w1 ⟨a1, b1, c1, rfl, E1⟩; have X1 := E1.cells h; obtain ⟨⟨X1a, X1b, X1c⟩, X1d, X1e, X1f⟩ := X1)
    | (go_at_call 136; (with_reducible refine (ev_call1 E1 (i := 2) (.inr (.inl rfl)) (upd_other _ _ (by decide)) hq hq1 (by rw [upd_other _ _ (by decide)]; exact hz 2 (by decide)) (by rw [upd_other _ _ (by decide)]; exact hL) hn).mono ?_); rintro e2 w2 ⟨a2, b2, c2, rfl, E2⟩; have X2 := E2.cells h; obtain ⟨⟨X2a, X2b, X2c⟩, X2d, X2e, X2f⟩ := X2)
    | (go_at_call 136; (with_reducible refine (ev_call1 E2 (i := 3) (.inr (.inr rfl)) ((upd_other _ _ (by decide)).trans (upd_other _ _ (by decide))) hq hq1 (by rw [upd_other _ _ (by decide), upd_other _ _ (by decide)]; exact hz 3 (by decide)) (by rw [upd_other _ _ (by decide), upd_other _ _ (by decide)]; exact hL) hn).mono ?_); rintro e3 w3 ⟨a3, b3, c3, rfl, E3⟩; have X3 := E3.cells h; obtain ⟨⟨X3a, X3b, X3c⟩, X3d, X3e, X3f⟩ := X3))
  all_goals
    go_wp2_with fail
    go_end0
    refine ⟨rfl, ?_⟩
    first
      | exact E3.fin h (by intro i hi; rcases (by omega : i = 0 ∨ i = 1 ∨ i = 2 ∨ i = 3) with q | q | q | q <;> subst q <;> simp [upd] <;> omega) (by simp [upd]) rfl (by simp [upd]) (by simp [upd]) (by simp [upd]) (by decide) (by decide)
      | (refine E3.fin h (fun i hi => ?_) ?_ rfl ?_ ?_ ?_ ?_ ?_
         · rcases (by omega : i = 0 ∨ i = 1 ∨ i = 2 ∨ i = 3) with q | q | q | q <;> subst q <;> simp [upd] <;> omega
         · simp [upd]
         · simp [upd]
         · simp [upd]
         · simp [upd]
         · decide
         · decide)
      | (trace_state; sorry)

end Go.Proofs.YtjoncbfaajcioaaGreatDoor
