/-
  Elements: the document's Check.
-/
import Derived.Test.YtcakfclfggnmbaaElg
namespace Go.Proofs.Ytcakfclfggnmbaa
open Fl RowKit
set_option linter.unusedVariables false

def rwA (k : Nat) : Array Value := #[.int .u8 ((rk k : Nat) : Int), .int .u8 (ltr k : Nat), .string (unS k), .bool (abv k), .bool (phs k), .bool (fou k)]
/-- a row of the table that lies in memory -/
structure RC (W : World) (q : Nat) (k : Nat) : Prop where
  n : W.heap[q]? = some (.cells (rwA k) 121 (0, 0))
theorem RC.lt {W : World} {p k : Nat} (h : RC W p k) : p < W.heap.size := (Array.getElem?_eq_some_iff.1 h.n).1
theorem RC.below {W W' : World} {p k : Nat} (h : RC W p k) (hb : Below W.heap.size W W') : RC W' p k := ⟨by rw [hb.block p h.lt]; exact h.n⟩
theorem RC.f {W : World} {p k : Nat} (h : RC W p k) : p < W.heap.size ∧ W.cell? ⟨p, 3, none⟩ = some (.bool (abv k)) ∧ W.cell? ⟨p, 4, none⟩ = some (.bool (phs k)) ∧ W.cell? ⟨p, 5, none⟩ = some (.bool (fou k)) := by
  refine ⟨h.lt, ?_, ?_, ?_⟩ <;> rw [cell_of_row W p _ _ _ (0, 0) h.n] <;> rfl
theorem rc_new (W : World) (k : Nat) : RC (W.alloc (.cells (rwA k) 121)) W.heap.size k := ⟨heap_alloc_new W _⟩
theorem gt_iff {v : Nat} (h : nan v = false) : posV v = true ↔ FloatKind.f64.format.order v 0 = some .gt := by
  have := gt_zero h
  cases hp : posV v
  · rw [hp] at this; simpa using this
  · rw [hp] at this; simpa using this
set_option maxRecDepth 100000 in
set_option maxHeartbeats 4000000 in
theorem vrcheck_any (x : Elm) (w : World) (h : x.ok) :
    Calls Try.prog 56 #[elV x] w fun e w' => e = .returned (.int .i64 (chkI x)) ∧ Below w.heap.size w w' := by
  have E0 : Hid (EC w (w.alloc (.cells (elA x) 56)) w.heap.size x) := ec_new w x
  by_cases hl : ltr x.k = 0
  · have hl2 : (ltr x.k != 0) = false := by simp [hl]
    have hc : chkI x = 2 := by unfold chkI; rw [if_pos hl]
    rw [hc]
    clear hc hl
    unfold elV
    go_enter Try.func56, Try.ntmps56
    go_wp2_with (first
      | (go_at_call 72; (with_reducible refine (vrow_any x.k _ h.k).mono ?_); rintro e w1 ⟨rfl, hb⟩; (have E1 : Hid _ := E0.out.below hb); (rw [hl2]); unfold rowV; clear hb E0))
    go_ret
    exact ⟨rfl, (E1.out.al _).bel⟩
  · have hl2 : (ltr x.k != 0) = true := by simp [hl]
    have HL : Hid (¬ ltr x.k = 0) := hl
    clear hl
    have HK : Hid (∀ W, Calls Try.prog 75 #[.float .f64 x.v] W fun e w' => e = .returned (.int .i64 (kdB x.v)) ∧ w' = W) := fun W => rkind_any x.v W
    have HZ : Hid (¬ 2 < kdB x.v → (posV x.v = true ↔ FloatKind.f64.format.order x.v 0 = some .gt)) := fun q => gt_iff (kd_fin q)
    unfold elV
    go_enter Try.func56, Try.ntmps56
    go_wp2_with (first
      | (go_at_call 72; (with_reducible refine (vrow_any x.k _ h.k).mono ?_); rintro e w1 ⟨rfl, hb⟩; (have E1 : Hid _ := (E0.out.below hb).al (.cells (rwA x.k) 121)); (have N1 : Hid _ := rc_new w1 x.k); (obtain ⟨l1, c10, c11, c12, c13, c14, c15, c16, c17⟩ := (E0.out.below hb).f); unfold rowV; rw [hl2]; clear hb E0)
      | (go_at_call 73; (with_reducible refine (rname_any x.n _ h.n).mono ?_); rintro e w2 ⟨rfl, hb⟩; (have E2 : Hid _ := E1.out.below hb); (have N2 : Hid _ := N1.out.below hb); (obtain ⟨l2, c20, c21, c22, c23, c24, c25, c26, c27⟩ := E2.out.f); (obtain ⟨m2, n23, n24, n25⟩ := N2.out.f); clear hb E1 N1 c10 c11 c12 c13 c14 c15 c16 c17)
      | (go_at_call 74; (with_reducible refine (rnode_any x.a _ h.a).mono ?_); rintro e w3 ⟨rfl, rfl⟩)
      | (go_at_call 74; (with_reducible refine (rnode_any x.b _ h.b).mono ?_); rintro e w3 ⟨rfl, rfl⟩)
      | (go_at_call 74; (with_reducible refine (rnode_any x.c _ h.c).mono ?_); rintro e w3 ⟨rfl, rfl⟩)
      | (go_at_call 74; (with_reducible refine (rnode_any x.d _ h.d).mono ?_); rintro e w3 ⟨rfl, rfl⟩)
      | (go_at_call 75; (with_reducible refine (HK.out _).mono ?_); rintro e w4 ⟨rfl, rfl⟩))
    all_goals go_ret
    all_goals refine ⟨ret1 ?_, E2.out.bel⟩
    all_goals (have hl := HL.out)
    all_goals (have hz := HZ.out)
    all_goals (clear HL HZ HK E2 N2 c20 c21 c22 c23 c24 c25 c26 c27 n23 n24 n25)
    all_goals first | (simp_all [chkI, naF, spF, Int.ofNat_inj]; done) | (simp_all [chkI, naF, spF, Int.ofNat_inj]; omega) | ((repeat' split) <;> simp_all [chkI, naF, spF, Int.ofNat_inj] <;> omega)
end Go.Proofs.Ytcakfclfggnmbaa
