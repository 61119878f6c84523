/-
  The law's matrix: a matrix handed in, laid out. A weight over itself is 1.
-/
import Derived.Test.YtgpjlobclcbniaaMe
import Derived.Test.YtgpjlobclcbniaaVfr
import Derived.Test.YtgpjlobclcbniaaTw
import Derived.Test.YtgpjlobclcbniaaXc
namespace Go.Proofs.Ytgpjlobclcbniaa
open Fl RowKit

theorem rw_src {w : World} {b n c : Nat} {A : Option Addr} {xs : List Cw} (h : Rw w b (.slice A n c) n xs) (hx : okl xs) : Src w A c n xs := by
  have h1 := h.len
  have h2 := h.own
  rw [← h1] at h2
  obtain ⟨ao, cap, hv, hs⟩ := own_sl h2
  cases hv
  exact ⟨h1, hx, hs⟩
theorem numbersR {ao : Option Addr} {cap n : Nat} {xs : List Cw} {w : World} (hn : xs.length = n) (hsz : n * 16 ≤ 140737488355328) (hc : Rz w ao xs) :
    Calls Try.prog 9 #[.slice ao n cap] w fun e w' => ∃ A C, e = .returned (.slice A n C) ∧ Rw w' w.heap.size (.slice A n C) n xs ∧ Below w.heap.size w w' := by
  subst hn
  refine (numbers_any ao cap xs w hsz hc).mono ?_
  rintro e w' ⟨v, rfl, ho, hb⟩
  obtain ⟨A, C, rfl, hs⟩ := own_sl ho
  exact ⟨A, C, rfl, ⟨rfl, ho⟩, hb⟩
theorem Rw.set3 {w : World} {b n p : Nat} {v : Value} {zs : List Cw} (h : Rw w b v n zs) (hp : p < b) (x y z : Value) : Rw (Go.Proofs.Ytgpjlobclcbniaa.set3 w p x y z) b v n zs :=
  ⟨h.len, own_at h.own (fun q hq => set3_block (by have := (h.own.lt q hq).1; omega))⟩
set_option maxHeartbeats 1000000 in
theorem lmat_any {R C : Int} {ao : Option Addr} {n cap : Nat} {xs : List Cw} {w : World} (hn : xs.length = n) (hsz : n * 16 ≤ 140737488355328) (hc : Rz w ao xs) : Calls Try.prog 16 #[.agg #[.int .i64 R, .int .i64 C, .slice ao n cap]] w fun e w' => ∃ A c, e = .returned (.agg #[.int .i64 R, .int .i64 C, .slice A n c]) ∧ Rw w' w.heap.size (.slice A n c) n xs ∧ Below w.heap.size w w' := by
  obtain ⟨wA, hwA⟩ : ∃ wA, wA = (w.alloc (.cells #[.int .i64 R, .int .i64 C, .slice ao n cap] 33)).alloc (.cells #[.int .i64 0, .int .i64 0, .slice none 0 0] 35) := ⟨_, rfl⟩
  have Va : V3 w.heap.size (.int .i64 R) (.int .i64 C) (.slice ao n cap) wA := by rw [hwA]; exact (v3_new w _ _ _ _).below (bal _ _)
  have Vr : V3 (w.heap.size + 1) (.int .i64 0) (.int .i64 0) (.slice none 0 0) wA := by rw [hwA]; exact v3_at _ _ _ _ _ (size_al _ _)
  have BA : Below w.heap.size w wA := by rw [hwA]; exact ba (bal _ _) _
  have sA : wA.heap.size = w.heap.size + 1 + 1 := by rw [hwA, size_al, size_al]
  have a0 := Va.c0
  have a1 := Va.c1
  have a2 := Va.c2
  go_enter Try.func16, Try.ntmps16
  go_wp2_with fail
  rw [← hwA]
  clear hwA
  have hcA := hc.below BA
  have n1 : w.heap.size ≠ w.heap.size + 1 := by omega
  go_region_held_law (fun V => V.cell? ⟨w.heap.size, 0, none⟩ = some (.int .i64 R) ∧ V.cell? ⟨w.heap.size, 1, none⟩ = some (.int .i64 C) ∧ V.cell? ⟨w.heap.size, 2, none⟩ = some (.slice ao n cap))
    (first | with_reducible exact ⟨D1.c0, D1.c1, D1.c2⟩ | with_reducible exact ⟨(D1.other3 (Ne.symm n1) _ _ _).c0, (D1.other3 (Ne.symm n1) _ _ _).c1, (D1.other3 (Ne.symm n1) _ _ _).c2⟩ | go_keep)
    ((first
      | (go_at_call 9; (with_reducible refine (numbersR hn hsz (hcA.below (by first | exact below_self _ | exact (below_self _).drew | exact (below_self _).drew.drew))).mono ?_); rintro e w1 ⟨A, c, rfl, hS, bb1⟩; have B1 : Below wA.heap.size wA w1 := (by first | exact bb1 | exact undrew bb1); have D1 := Va.below B1; have Dr := Vr.below B1; have R3 := Dr.reads; obtain ⟨_, q0, q1, q2, q3, q4, q5⟩ := Dr)))
  go_wp2
  obtain ⟨m0, m1, m2⟩ := R3
  refine bodyPost_ret (by simp [results, Try.results16, go_sem, m0, m1, m2]; try rfl) rfl ?_
  have hS' : Rw w1 (w.heap.size + 1 + 1) (.slice A n c) n xs := rw_base hS (Nat.le_of_eq sA.symm)
  exact ⟨_, _, rfl, rw_base (hS'.set3 (p := w.heap.size + 1) (by omega) _ _ _) (by omega), below_set3 (b_of BA B1 BA.size) (by omega) _ _ _⟩
theorem nr_one : nr (2 * 2 ^ 54 + ((0 : Nat) != 0).toNat) (-55) = 4607182418800017408 := by kernel_rfl
theorem dq_self {x : Nat} (h : 0 < sig x) : dq x x = 4607182418800017408 := by
  unfold dq
  have e1 : 54 + (sig x).log2 - (sig x).log2 = 54 := by omega
  rw [e1, Nat.mul_comm (sig x), Nat.mul_div_cancel _ h, Nat.mul_mod_left]
  have e2 : ((ex x : Int) - (ex x : Int) - ((54 : Nat) : Int) - 1) = -55 := by omega
  rw [e2]
  exact nr_one
theorem div_self {x : Nat} (h0 : 0 < x) (h1 : x < 9218868437227405312) : divO x x = some 4607182418800017408 := by
  have m : mg x = x := Nat.mod_eq_of_lt (by omega)
  have f : Fl.fin x := by unfold Fl.fin; omega
  have hs : 0 < sig x := by
    rcases Nat.eq_zero_or_pos (sig x) with h | h
    · have := sz_pos h0
      unfold sz at this
      rw [h, Nat.zero_mul] at this
      omega
    · exact h
  rw [div_gen f f (by rw [m]; omega), m, dq_self hs, Bool.xor_self, word_false]
theorem div_inf : divO 9218868437227405312 9218868437227405312 = none := by kernel_rfl

end Go.Proofs.Ytgpjlobclcbniaa
