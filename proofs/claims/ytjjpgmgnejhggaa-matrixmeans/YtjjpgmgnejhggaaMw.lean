/-
  What the statements' own small functions hand back: matrices handed in, laid out, held against each other.
-/
import Derived.Test.YtjjpgmgnejhggaaMl
import Derived.Test.YtjjpgmgnejhggaaVfr
namespace Go.Proofs.Ytjjpgmgnejhggaa
open Fl RowKit

theorem large_any (R C : Int) (ao : Option Addr) (n cap : Nat) (w : World) (hn : n ≤ 1000000000000000) : Calls Try.prog 8 #[.agg #[.int .i64 R, .int .i64 C, .slice ao n cap]] w fun e w' => e = .returned (.bool (decide (4098 < n))) ∧ w' = w.alloc (.cells #[.int .i64 R, .int .i64 C, .slice ao n cap] 24) := by
  by_cases h : 4098 < n
  · rw [decide_eq_true h]
    have h' : (4098 : Int) < (n : Int) := by omega
    go_enter Try.func8, Try.ntmps8
    go_wp2
    go_ret
    exact ⟨rfl, rfl⟩
  · rw [decide_eq_false h]
    have h' : ¬ (4098 : Int) < (n : Int) := by omega
    go_enter Try.func8, Try.ntmps8
    go_wp2
    go_ret
    exact ⟨rfl, rfl⟩
theorem rw_src {w : World} {b n c : Nat} {A : Option Addr} {xs : List Cw} (h : Rw w b (.slice A n c) n xs) (hx : okl xs) : Src w A c n xs := by
  have h1 := h.len
  have h2 := h.own
  rw [← h1] at h2
  obtain ⟨ao, cap, hv, hs⟩ := own_sl h2
  cases hv
  exact ⟨h1, hx, hs⟩
theorem numbersR {ao : Option Addr} {cap n : Nat} {xs : List Cw} {w : World} (hn : xs.length = n) (hsz : n * 16 ≤ 140737488355328) (hc : Rz w ao xs) :
    Calls Try.prog 35 #[.slice ao n cap] w fun e w' => ∃ A C, e = .returned (.slice A n C) ∧ Rw w' w.heap.size (.slice A n C) n xs ∧ Below w.heap.size w w' := by
  subst hn
  refine (numbers_any ao cap xs w hsz hc).mono ?_
  rintro e w' ⟨v, rfl, ho, hb⟩
  obtain ⟨A, C, rfl, hs⟩ := own_sl ho
  exact ⟨A, C, rfl, ⟨rfl, ho⟩, hb⟩
theorem Rw.set3 {w : World} {b n p : Nat} {v : Value} {zs : List Cw} (h : Rw w b v n zs) (hp : p < b) (x y z : Value) : Rw (Go.Proofs.Ytjjpgmgnejhggaa.set3 w p x y z) b v n zs :=
  ⟨h.len, own_at h.own (fun q hq => set3_block (by have := (h.own.lt q hq).1; omega))⟩
set_option maxHeartbeats 1000000 in
theorem plain_any {R C : Int} {ao : Option Addr} {n cap : Nat} {xs : List Cw} {w : World} (hn : xs.length = n) (hsz : n * 16 ≤ 140737488355328) (hc : Rz w ao xs) : Calls Try.prog 9 #[.agg #[.int .i64 R, .int .i64 C, .slice ao n cap]] w fun e w' => ∃ A c, e = .returned (.agg #[.int .i64 R, .int .i64 C, .slice A n c]) ∧ Rw w' w.heap.size (.slice A n c) n xs ∧ Below w.heap.size w w' := by
  obtain ⟨wA, hwA⟩ : ∃ wA, wA = (w.alloc (.cells #[.int .i64 R, .int .i64 C, .slice ao n cap] 24)).alloc (.cells #[.int .i64 0, .int .i64 0, .slice none 0 0] 28) := ⟨_, rfl⟩
  have Va : V3 w.heap.size (.int .i64 R) (.int .i64 C) (.slice ao n cap) wA := by rw [hwA]; exact (v3_new w _ _ _ _).below (bal _ _)
  have Vr : V3 (w.heap.size + 1) (.int .i64 0) (.int .i64 0) (.slice none 0 0) wA := by rw [hwA]; exact v3_at _ _ _ _ _ (size_al _ _)
  have BA : Below w.heap.size w wA := by rw [hwA]; exact ba (bal _ _) _
  have sA : wA.heap.size = w.heap.size + 1 + 1 := by rw [hwA, size_al, size_al]
  have a0 := Va.c0
  have a1 := Va.c1
  have a2 := Va.c2
  go_enter Try.func9, Try.ntmps9
  go_wp2_with fail
  rw [← hwA]
  clear hwA
  have hcA := hc.below BA
  have n1 : w.heap.size ≠ w.heap.size + 1 := by omega
  go_region_held_law (fun V => V.cell? ⟨w.heap.size, 0, none⟩ = some (.int .i64 R) ∧ V.cell? ⟨w.heap.size, 1, none⟩ = some (.int .i64 C) ∧ V.cell? ⟨w.heap.size, 2, none⟩ = some (.slice ao n cap))
    (first | with_reducible exact ⟨D1.c0, D1.c1, D1.c2⟩ | with_reducible exact ⟨(D1.other3 (Ne.symm n1) _ _ _).c0, (D1.other3 (Ne.symm n1) _ _ _).c1, (D1.other3 (Ne.symm n1) _ _ _).c2⟩ | go_keep)
    ((first
      | (go_at_call 35; (with_reducible refine (numbersR hn hsz (hcA.below (by first | exact below_self _ | exact (below_self _).drew | exact (below_self _).drew.drew))).mono ?_); rintro e w1 ⟨A, c, rfl, hS, bb1⟩; have B1 : Below wA.heap.size wA w1 := (by first | exact bb1 | exact undrew bb1); have D1 := Va.below B1; have Dr := Vr.below B1; have R3 := Dr.reads; obtain ⟨_, q0, q1, q2, q3, q4, q5⟩ := Dr)))
  go_wp2
  obtain ⟨m0, m1, m2⟩ := R3
  refine bodyPost_ret (by simp [results, Try.results9, go_sem, m0, m1, m2]; try rfl) rfl ?_
  have hS' : Rw w1 (w.heap.size + 1 + 1) (.slice A n c) n xs := rw_base hS (Nat.le_of_eq sA.symm)
  exact ⟨_, _, rfl, rw_base (hS'.set3 (p := w.heap.size + 1) (by omega) _ _ _) (by omega), below_set3 (b_of BA B1 BA.size) (by omega) _ _ _⟩
theorem lmade_any (R C : Int) (A : Option Addr) (n c : Nat) (w : World) : Calls Try.prog 60 #[.int .i64 R, .int .i64 C, .slice A n c] w fun e w' => e = .returned (.agg #[.int .i64 R, .int .i64 C, .slice A n c]) ∧ w' = w.alloc (.cells #[.int .i64 R, .int .i64 C, .slice A n c] 28) := by
  go_enter Try.func60, Try.ntmps60
  go_wp2
  refine bodyPost_ret (by simp [results, Try.results60, go_sem]; try rfl) rfl ?_
  exact ⟨rfl, rfl⟩
theorem lis_any (R C : Int) (A : Option Addr) (n c : Nat) (w : World) (hn : n ≤ 1000000000000000) : Calls Try.prog 52 #[.agg #[.int .i64 R, .int .i64 C, .slice A n c]] w fun e w' => e = .returned (.bool (mb R C n)) ∧ Below w.heap.size w w' := by
  cases hm : mb R C n
  all_goals
    go_enter Try.func52, Try.ntmps52
    go_wp2_with (go_at_call 28; (refine (mcheck _ _ _ _ _ _ hn).mono ?_); (rintro e w1 ⟨rfl, hb⟩); (rw [hm]))
    go_ret
    exact ⟨rfl, b_of (bal _ _) hb (by simp)⟩
theorem lentry_any (R C i j : Nat) (A : Option Addr) (c : Nat) (xs : List Cw) (w : World) (hn : xs.length = R * C) (hR : R ≤ 64) (hC : C ≤ 64) (hi : i < R) (hj : j < C) (hc : Rc w A xs) :
    Calls Try.prog 56 #[.agg #[.int .i64 R, .int .i64 C, .slice A (R * C) c], .int .i64 i, .int .i64 j] w fun e w' => e = .returned (cx (zat xs (i * C + j))) ∧ w' = w.alloc (.cells #[.int .i64 R, .int .i64 C, .slice A (R * C) c] 28) := by
  have hk := place_lt hi hj
  have h4 := le_4096 hR hC
  obtain ⟨b, off, rfl, hb, hcx⟩ := hc (i * C + j) (by omega)
  have hm := wrap_mul (i := i) (C := C) (by omega) (by omega)
  obtain ⟨x, hx⟩ : ∃ x, x = zat xs (i * C + j) := ⟨_, rfl⟩
  rw [← hx] at hcx ⊢
  obtain ⟨k, hke⟩ : ∃ k, k = i * C := ⟨_, rfl⟩
  obtain ⟨n, hne⟩ : ∃ n, n = R * C := ⟨_, rfl⟩
  rw [← hke] at hm hk hcx
  rw [← hne] at hk h4 ⊢
  clear hn hc hke hne hx
  unfold cx at hcx ⊢
  go_enter Try.func56, Try.ntmps56
  go_wp2
  go_ret
  exact ⟨rfl, rfl⟩
theorem lent {w : World} {R C c i j : Nat} {A : Option Addr} {F : Nat → Cn} {xs : List Cw} (h : Mx w R C A c F xs) (hi : i < R) (hj : j < C) :
    Calls Try.prog 56 #[.agg #[.int .i64 R, .int .i64 C, .slice A (R * C) c], .int .i64 i, .int .i64 j] w fun e w' => ∃ r : Cw, e = .returned (.complex .f64 r.1 r.2) ∧ repz (F (i * C + j)) r ∧ Below w.heap.size w w' :=
  (lentry_any R C i j A c xs w h.len h.hR h.hC hi hj h.sl.rd).mono (by rintro e w' ⟨rfl, rfl⟩; exact ⟨_, rfl, h.at hi hj, bal _ _⟩)
theorem ksameM {n ca cb : Nat} {ao bo : Option Addr} {F : Nat → Cn} {xs ys : List Cw} {w : World} (R C : Int) (h : Lst w ao n F xs) (k : Lst w bo n F ys) (hsz : n * 16 ≤ 140737488355328) :
    Calls Try.prog 48 #[.agg #[.int .i64 R, .int .i64 C, .slice ao n ca], .agg #[.int .i64 R, .int .i64 C, .slice bo n cb]] w fun e w' => e = .returned (.bool true) ∧ Below w.heap.size w w' := by
  have hb2 : ∀ o p, Below w.heap.size w ((w.alloc o).alloc p) := fun o p => ba (bal _ _) _
  go_enter Try.func48, Try.ntmps48
  go_wp2_with (go_at_call 49; (refine (tsame (h.below (hb2 _ _)) (k.below (hb2 _ _)) hsz).mono ?_); (rintro e w1 ⟨m, rfl, hw1⟩); subst w1)
  go_ret
  exact ⟨rfl, below_drewN (hb2 _ _) _⟩

end Go.Proofs.Ytjjpgmgnejhggaa
