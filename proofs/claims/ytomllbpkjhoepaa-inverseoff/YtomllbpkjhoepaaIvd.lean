/-
  What inverse's isSquare and Off hand back.
-/
import Derived.Test.YtomllbpkjhoepaaIvc
namespace Go.Proofs.Ytomllbpkjhoepaa
open Fl RowKit

def sqB (R C : Int) (n : Nat) : Bool := mb R C n && (R == C)
theorem issq_any (R C : Int) (A : Option Addr) (n c : Nat) (w : World) (hn : n ≤ 1000000000000000) :
    Calls Try.prog 26 #[.agg #[.int .i64 R, .int .i64 C, .slice A n c]] w fun e w' => e = .returned (.bool (sqB R C n)) ∧ Below w.heap.size w w' := by
  have HC := hid_o (fun (W : World) => mcheck R C A n c W hn)
  have V := hid_o (v3_new w (.int .i64 R) (.int .i64 C) (.slice A n c) 28)
  have B := hid_o (bal w (.cells #[.int .i64 R, .int .i64 C, .slice A n c] 28))
  unfold sqB
  cases hm : mb R C n
  · rw [hm] at HC
    clear hm
    go_enter Try.func26, Try.ntmps26
    go_wp2_with (go_at_call 52; (with_reducible refine (HC.out _).mono ?_); rintro e w1 ⟨rfl, hb⟩; (have B1 := hid_o (bt B.out hb)); clear hb)
    go_ret
    exact ⟨rfl, B1.out⟩
  · rw [hm] at HC
    clear hm
    obtain ⟨D, hD⟩ : ∃ D, (R == C) = D := ⟨_, rfl⟩
    go_enter Try.func26, Try.ntmps26
    go_wp2_with (go_at_call 52; (with_reducible refine (HC.out _).mono ?_); rintro e w1 ⟨rfl, hb⟩; (have B1 := hid_o (bt B.out hb)); (obtain ⟨_, c0, c1, c2, _, _, _⟩ := V.out.below hb); clear hb)
    go_ret
    exact ⟨by rw [Bool.true_and, hD]; first | rfl | simp, B1.out⟩
theorem inorm_mx {W : World} {A : Option Addr} {c N : Nat} {F : Nat → Cn} {xs : List Cw} (h : Mx W N N A c F xs) :
    Calls Try.prog 30 #[.agg #[.int .i64 N, .int .i64 N, .slice A (N * N) c]] W fun e w' => e = .returned (.float .f64 (mxF (colT F N N) N)) ∧ Below W.heap.size W w' := by
  have H : Hid (∀ w, Below W.heap.size W w → Calls Try.prog 63 #[.agg #[.int .i64 N, .int .i64 N, .slice A (N * N) c]] w fun e w' => e = .returned (.tuple #[.float .f64 (mxF (colT F N N) N), .int .i64 0]) ∧ Below w.heap.size w w') := fun w hb => mnorm (h.below hb)
  obtain ⟨x, hx⟩ : ∃ x, x = mxF (colT F N N) N := ⟨_, rfl⟩
  obtain ⟨T, hT⟩ : ∃ T, T = N * N := ⟨_, rfl⟩
  rw [← hx, ← hT] at H ⊢
  clear hx hT h
  go_enter Try.func30, Try.ntmps30
  go_wp2_with (go_at_call 63; (with_reducible refine (H.out _ (bal _ _)).mono ?_); rintro e w1 ⟨rfl, hb⟩; (have HB := hid_o (bt (bal W (.cells #[.int .i64 N, .int .i64 N, .slice A T c] 28)) hb)); clear hb)
  go_ret
  exact ⟨rfl, HB.out⟩
/-- the product of two, and what is left of it without the ones -/
def prF (N : Nat) (F G : Nat → Cn) : Nat → Cn := flat N (fun i j => sumZ (fun k => mulZ (F (i * N + k)) (G (k * N + j))) N)
def offF (N : Nat) (F G : Nat → Cn) : Nat → Cn := zipF subZ (prF N F G) (flat N idE)
def offW (N : Nat) (F G : Nat → Cn) : Nat := mxF (colT (offF N F G) N N) N
set_option maxHeartbeats 4000000 in
theorem off_ok {W : World} {A A' : Option Addr} {c c' N : Nat} {F G : Nat → Cn} {xs ys : List Cw} (h : Mx W N N A c F xs) (h' : Mx W N N A' c' G ys) :
    Calls Try.prog 9 #[.agg #[.int .i64 N, .int .i64 N, .slice A (N * N) c], .agg #[.int .i64 N, .int .i64 N, .slice A' (N * N) c']] W fun e w' => e = .returned (.tuple #[.float .f64 (offW N F G), .int .i64 0]) ∧ Below W.heap.size W w' := by
  have hN := h.hR
  have hn := small (le_4096 hN hN)
  have hs : sqB N N (N * N) = true := by unfold sqB; rw [h.mb]; simp
  have HQ : Hid (∀ (w : World) (A : Option Addr) (c : Nat), Calls Try.prog 26 #[.agg #[.int .i64 N, .int .i64 N, .slice A (N * N) c]] w fun e w' => e = .returned (.bool true) ∧ Below w.heap.size w w') := fun w A c => by
    have := issq_any N N A (N * N) c w hn
    rw [hs] at this
    exact this
  have HMU : Hid (∀ w, Below W.heap.size W w → Calls Try.prog 27 #[.agg #[.int .i64 N, .int .i64 N, .slice A (N * N) c], .agg #[.int .i64 N, .int .i64 N, .slice A' (N * N) c']] w fun e w' => ∃ g zs, e = .returned (.tuple #[.agg #[.int .i64 N, .int .i64 N, .slice (some ⟨g, 0, none⟩) (N * N) (N * N)], .int .i64 0]) ∧ Mx w' N N (some ⟨g, 0, none⟩) (N * N) (prF N F G) zs ∧ Below w.heap.size w w') := fun w hb => by
    refine (mmul (h.below hb) (h'.below hb)).mono ?_
    rintro e w' ⟨g, zs, rfl, hN', hb'⟩
    exact ⟨g, zs, rfl, new_mx hN' hN hN, hb'⟩
  have HID : Hid (∀ w, Calls Try.prog 28 #[.int .i64 N] w fun e w' => ∃ g zs, e = .returned (.tuple #[.agg #[.int .i64 N, .int .i64 N, .slice (some ⟨g, 0, none⟩) (N * N) (N * N)], .int .i64 0]) ∧ Mx w' N N (some ⟨g, 0, none⟩) (N * N) (flat N idE) zs ∧ Below w.heap.size w w') := fun w => by
    refine (midentity w hN).mono ?_
    rintro e w' ⟨g, zs, rfl, hN', hb'⟩
    exact ⟨g, zs, rfl, new_mx hN' hN hN, hb'⟩
  have HSU : Hid (∀ (w : World) (g g' : Nat) (zs zs' : List Cw), Mx w N N (some ⟨g, 0, none⟩) (N * N) (prF N F G) zs → Mx w N N (some ⟨g', 0, none⟩) (N * N) (flat N idE) zs' → Calls Try.prog 29 #[.agg #[.int .i64 N, .int .i64 N, .slice (some ⟨g, 0, none⟩) (N * N) (N * N)], .agg #[.int .i64 N, .int .i64 N, .slice (some ⟨g', 0, none⟩) (N * N) (N * N)]] w fun e w' => ∃ g zs, e = .returned (.tuple #[.agg #[.int .i64 N, .int .i64 N, .slice (some ⟨g, 0, none⟩) (N * N) (N * N)], .int .i64 0]) ∧ Mx w' N N (some ⟨g, 0, none⟩) (N * N) (offF N F G) zs ∧ Below w.heap.size w w') := fun w g g' zs zs' k k' => by
    refine (msub k k').mono ?_
    rintro e w' ⟨g, zs, rfl, hN', hb'⟩
    exact ⟨g, zs, rfl, new_mx hN' hN hN, hb'⟩
  have HNO : Hid (∀ (w : World) (g : Nat) (zs : List Cw), Mx w N N (some ⟨g, 0, none⟩) (N * N) (offF N F G) zs → Calls Try.prog 30 #[.agg #[.int .i64 N, .int .i64 N, .slice (some ⟨g, 0, none⟩) (N * N) (N * N)]] w fun e w' => e = .returned (.float .f64 (offW N F G)) ∧ Below w.heap.size w w') := fun w g zs k => inorm_mx k
  obtain ⟨x, hx⟩ : ∃ x, x = offW N F G := ⟨_, rfl⟩
  rw [← hx] at HNO ⊢
  obtain ⟨wb, hwb⟩ : ∃ wb, wb = (W.alloc (.cells #[.int .i64 N, .int .i64 N, .slice A (N * N) c] 28)).alloc (.cells #[.int .i64 N, .int .i64 N, .slice A' (N * N) c'] 28) := ⟨_, rfl⟩
  have VA : Hid (V3 W.heap.size (.int .i64 N) (.int .i64 N) (.slice A (N * N) c) wb) := by rw [hwb]; exact (v3_new _ _ _ _ _).below (bal _ _)
  have VB : Hid (V3 (W.heap.size + 1) (.int .i64 N) (.int .i64 N) (.slice A' (N * N) c') wb) := by rw [hwb]; exact v3_at _ _ _ _ _ (by simp)
  have Bb : Hid (Below W.heap.size W wb) := by rw [hwb]; exact (bal _ _).alloc (by simp) _
  generalize N * N = T at *
  clear h h' hn hs hx
  have st : Stg 0 := ⟨trivial⟩
  go_enter Try.func9, Try.ntmps9
  go_wp2_with (first
    | ((have _ := (st : Stg 0)); go_at_call 26; (rw [← hwb]); (with_reducible refine (HQ.out _ _ _).mono ?_); rintro e w1 ⟨rfl, hb⟩; (have B1 := hid_o hb); (obtain ⟨al, a0, a1, a2, _, _, _⟩ := VA.out.below hb); (obtain ⟨bl, b0, b1, b2, _, _, _⟩ := VB.out.below hb); clear hb st; (have st : Stg 1 := ⟨trivial⟩))
    | ((have _ := (st : Stg 1)); go_at_call 26; (with_reducible refine (HQ.out _ _ _).mono ?_); rintro e w2 ⟨rfl, hb⟩; (have B2 := hid_o (bt B1.out hb)); (clear al a0 a1 a2 bl b0 b1 b2); (obtain ⟨al, a0, a1, a2, _, _, _⟩ := VA.out.below B2.out); (obtain ⟨bl, b0, b1, b2, _, _, _⟩ := VB.out.below B2.out); clear hb st)
    | (go_at_call 27; (with_reducible refine (HMU.out _ (bt Bb.out B2.out)).mono ?_); rintro e w3 ⟨g3, z3, rfl, hM, hb⟩; (have B3 := hid_o (bt (bt B2.out hb) (bal _ (.cells #[.int .i64 N, .int .i64 N, .slice (some ⟨g3, 0, none⟩) T T] 28)))); (have V3' := hid_o (v3_new w3 (.int .i64 N) (.int .i64 N) (.slice (some ⟨g3, 0, none⟩) T T) 28)); (have M3 := hid_o (hM.below (bal _ (.cells #[.int .i64 N, .int .i64 N, .slice (some ⟨g3, 0, none⟩) T T] 28)))); (clear al a0 a1 a2 bl b0 b1 b2); (obtain ⟨al, a0, a1, a2, _, _, _⟩ := VA.out.below B3.out); clear hb hM)
    | (go_at_call 28; (with_reducible refine (HID.out _).mono ?_); rintro e w4 ⟨g4, z4, rfl, hM, hb⟩; (have M4 := hid_o ((M3.out.below hb).below (bal _ (.cells #[.int .i64 N, .int .i64 N, .slice (some ⟨g4, 0, none⟩) T T] 28)))); (have I4 := hid_o (hM.below (bal _ (.cells #[.int .i64 N, .int .i64 N, .slice (some ⟨g4, 0, none⟩) T T] 28)))); (have B4 := hid_o (bt (bt B3.out hb) (bal _ (.cells #[.int .i64 N, .int .i64 N, .slice (some ⟨g4, 0, none⟩) T T] 28)))); (clear al a0 a1 a2); (obtain ⟨al, a0, a1, a2, _, _, _⟩ := (V3'.out.below hb).below (bal _ (.cells #[.int .i64 N, .int .i64 N, .slice (some ⟨g4, 0, none⟩) T T] 28))); clear hb hM)
    | (go_at_call 29; (with_reducible refine (HSU.out _ _ _ _ _ M4.out I4.out).mono ?_); rintro e w5 ⟨g5, z5, rfl, hM, hb⟩; (have M5 := hid_o (hM.below (bal _ (.cells #[.int .i64 N, .int .i64 N, .slice (some ⟨g5, 0, none⟩) T T] 28)))); (have B5 := hid_o (bt (bt B4.out hb) (bal _ (.cells #[.int .i64 N, .int .i64 N, .slice (some ⟨g5, 0, none⟩) T T] 28)))); (clear al a0 a1 a2); clear hb hM)
    | (go_at_call 30; (with_reducible refine (HNO.out _ _ _ M5.out).mono ?_); rintro e w6 ⟨rfl, hb⟩; (have B6 := hid_o (bt B5.out hb)); clear hb))
  go_ret2
  exact ⟨rfl, bt Bb.out B6.out⟩

end Go.Proofs.Ytomllbpkjhoepaa
