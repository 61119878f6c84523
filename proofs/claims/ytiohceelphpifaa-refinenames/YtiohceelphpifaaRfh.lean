/-
  What is left in a row: the program's leftInRow.
-/
import Derived.Test.YtiohceelphpifaaRfg
namespace Go.Proofs.Ytiohceelphpifaa
open Fl RowKit

/-- the terms of a row, and what rounding took off its products -/
def reT (z x : Nat → Cw) : Nat → List (Option Nat)
  | 0 => []
  | k + 1 => reT z x k ++ [negA (mulO (z k).1 (x k).1)] ++ [mulO (z k).2 (x k).2]
def reL (z x : Nat → Cw) : Nat → List (Option Nat)
  | 0 => []
  | k + 1 => reL z x k ++ [negA (tpE (z k).1 (x k).1)] ++ [tpE (z k).2 (x k).2]
def imT (z x : Nat → Cw) : Nat → List (Option Nat)
  | 0 => []
  | k + 1 => imT z x k ++ [negA (mulO (z k).1 (x k).2)] ++ [negA (mulO (z k).2 (x k).1)]
def imL (z x : Nat → Cw) : Nat → List (Option Nat)
  | 0 => []
  | k + 1 => imL z x k ++ [negA (tpE (z k).1 (x k).2)] ++ [negA (tpE (z k).2 (x k).1)]
theorem reT_len (z x : Nat → Cw) (k : Nat) : (reT z x k).length = 2 * k := by induction k with | zero => rfl | succ k ih => simp [reT, ih]; omega
theorem reL_len (z x : Nat → Cw) (k : Nat) : (reL z x k).length = 2 * k := by induction k with | zero => rfl | succ k ih => simp [reL, ih]; omega
theorem imT_len (z x : Nat → Cw) (k : Nat) : (imT z x k).length = 2 * k := by induction k with | zero => rfl | succ k ih => simp [imT, ih]; omega
theorem imL_len (z x : Nat → Cw) (k : Nat) : (imL z x k).length = 2 * k := by induction k with | zero => rfl | succ k ih => simp [imL, ih]; omega
/-- what is left of a number, once a row times a solution is taken off -/
def leftZ (n : Nat) (z x : Nat → Cw) (b : Cw) : Cn := (partA (ans b.1 :: reT z x n) (reL z x n), partA (ans b.2 :: imT z x n) (imL z x n))
/-- the two accounts of a row -/
structure LRow (b p q : Nat) (z x : Nat → Cw) (c : Cw) (k : Nat) (w0 w : World) : Prop where
  tw : Tw2 b p q (ans c.1 :: reT z x k) (reL z x k) (ans c.2 :: imT z x k) (imL z x k) w
  bl : Below b w0 w
theorem lrow_start {w w1 w2 : World} {p q gt ct gl cl gt' ct' gl' cl' : Nat} {z x : Nat → Cw} {c : Cw} (hc : okz c) (h1 : Acc w.heap.size p gt ct gl cl [c.1] [] w1) (b1 : Below w.heap.size w w1) (h2 : Acc w1.heap.size q gt' ct' gl' cl' [c.2] [] w2) (b2 : Below w1.heap.size w1 w2) : LRow w.heap.size p q z x c 0 w w2 :=
  ⟨⟨[c.1], [], [c.2], [], two_new h1 h2 b2, ⟨rfl, rfl, rfl, rfl⟩, fun k => by cases k with | zero => exact hc.1 | succ k => simp, fun k => by simp, fun k => by cases k with | zero => exact hc.2 | succ k => simp, fun k => by simp⟩, b1.trans (b2.mono b1.size)⟩
set_option maxHeartbeats 4000000 in
theorem lirow_any (ao bo : Option Addr) (ca cb n nx : Nat) (row xs : List Cw) (c : Cw) (w : World) (hn : row.length = n) (hx : xs.length = nx) (hnx : n ≤ nx) (h4 : nx ≤ 4096) (hr : Rc w ao row) (hs : Rc w bo xs) (hc : okz c) :
    Calls Try.prog 35 #[.slice ao n ca, .slice bo nx cb, .complex .f64 c.1 c.2] w fun e w' => ∃ r : Cw, e = .returned (.complex .f64 r.1 r.2) ∧ repz (leftZ n (zat row) (zat xs) c) r ∧ Below w.heap.size w w' := by
  have HR := hid_o hr
  have HS := hid_o hs
  have HC := hid_o hc
  clear hr hs hc
  go_enter Try.func35, Try.ntmps35
  go_wp2_with (first
    | (go_at_call 56; (with_reducible refine (rbegun_any c.1 n w (by omega)).mono ?_); rintro e w1 ⟨p, gt, ct, gl, cl, rfl, A1, B1⟩; have HA1 := hid_o A1; have HB1 := hid_o B1; clear A1 B1)
    | (go_at_call 56; (with_reducible refine (rbegun_any c.2 n w1 (by omega)).mono ?_); rintro e w2 ⟨q, gt', ct', gl', cl', rfl, A2, B2⟩; have HL := hid_o (lrow_start (z := zat row) (x := zat xs) HC.out HA1.out HB1.out A2 B2); clear A2 B2 HA1 HB1))
  go_loopw [27] (fun iv wr => ∃ k : Nat, k ≤ n ∧ iv = .int .i64 k ∧ LRow w.heap.size p q (zat row) (zat xs) c k w wr) (fun iv _ => n - (intOf iv).toNat)
  case atStart => exact ⟨0, Nat.zero_le _, rfl, HL.out⟩
  case round =>
    obtain ⟨k, hk, rfl, hL⟩ := hrel
    have HK := hid_o hL
    clear hL HL
    by_cases hlt : k < n
    · obtain ⟨b1, o1, rfl, hb1, hc1⟩ := HR.out k (by omega)
      obtain ⟨b2, o2, rfl, hb2, hc2⟩ := HS.out k (by omega)
      have d1 := (HK.out.bl.cell (p := ⟨b1, o1 + k, none⟩) hb1).trans hc1
      have d2 := (HK.out.bl.cell (p := ⟨b2, o2 + k, none⟩) hb2).trans hc2
      obtain ⟨z, hz⟩ : ∃ z, z = zat row k := ⟨_, rfl⟩
      obtain ⟨x, hxx⟩ : ∃ x, x = zat xs k := ⟨_, rfl⟩
      rw [← hz] at d1
      rw [← hxx] at d2
      unfold cx at d1 d2
      have HZ := hid_o hz
      have HX := hid_o hxx
      clear hz hxx hc1 hc2
      have t0 := hid_o HK.out.tw
      have l1 : (ans c.1 :: reT (zat row) (zat xs) k).length ≤ 900000 := by rw [List.length_cons, reT_len]; omega
      have l2 : (reL (zat row) (zat xs) k).length ≤ 900000 := by rw [reL_len]; omega
      have l3 : (ans c.2 :: imT (zat row) (zat xs) k).length ≤ 900000 := by rw [List.length_cons, imT_len]; omega
      have l4 : (imL (zat row) (zat xs) k).length ≤ 900000 := by rw [imL_len]; omega
      have HL1 := hid_o l1
      have HL2 := hid_o l2
      have HL3 := hid_o l3
      have HL4 := hid_o l4
      clear l1 l2 l3 l4
      go_wp2
      go_region
      all_goals go_wp2_with (first
        | (go_at_call 57; (with_reducible refine (tw_take (t0.out.later (Below.refl _ wr).drew) (by have := HL1.out; omega) (by have := HL2.out; omega)).mono ?_); rintro e v1 ⟨rfl, t1', B1'⟩; have t1 := hid_o t1'; have B1 := hid_o (HK.out.bl.drew.trans B1'); clear t1' B1' t0)
        | (go_at_call 58; (with_reducible refine (tw_put t1.out (by have := HL1.out; rw [List.length_append]; simp only [List.length_singleton]; omega) (by have := HL2.out; rw [List.length_append]; simp only [List.length_singleton]; omega)).mono ?_); rintro e v2 ⟨rfl, t2', B2'⟩; have t2 := hid_o t2'.symm; have B2 := hid_o (B1.out.trans B2'); clear t2' B2' t1 B1)
        | (go_at_call 57; (with_reducible refine (tw_take t2.out (by have := HL3.out; omega) (by have := HL4.out; omega)).mono ?_); rintro e v3 ⟨rfl, t3', B3'⟩; have t3 := hid_o t3'; have B3 := hid_o (B2.out.trans B3'); clear t3' B3' t2 B2)
        | (go_at_call 57; (with_reducible refine (tw_take t3.out (by have := HL3.out; rw [List.length_append]; simp only [List.length_singleton]; omega) (by have := HL4.out; rw [List.length_append]; simp only [List.length_singleton]; omega)).mono ?_); rintro e v4 ⟨rfl, t4', B4'⟩; have t4 := hid_o t4'.symm; have B4 := hid_o (B3.out.trans B4'); clear t4' B4' t3 B3))
      all_goals go_roundw
      case rel =>
        refine ⟨k + 1, by omega, by go_num, ⟨?_, B4.out⟩⟩
        have := t4.out
        rw [HZ.out, HX.out] at this
        exact this
      case measure => simp [intOf]; omega
    · have e : k = n := by omega
      subst e
      have l1 : 0 < (ans c.1 :: reT (zat row) (zat xs) k).length := by simp
      have l1' : (ans c.1 :: reT (zat row) (zat xs) k).length ≤ 1000000 := by rw [List.length_cons, reT_len]; omega
      have l2 : (reL (zat row) (zat xs) k).length ≤ 1000000 := by rw [reL_len]; omega
      have l3 : 0 < (ans c.2 :: imT (zat row) (zat xs) k).length := by simp
      have l3' : (ans c.2 :: imT (zat row) (zat xs) k).length ≤ 1000000 := by rw [List.length_cons, imT_len]; omega
      have l4 : (imL (zat row) (zat xs) k).length ≤ 1000000 := by rw [imL_len]; omega
      have HL1 := hid_o l1
      have HL1' := hid_o l1'
      have HL2 := hid_o l2
      have HL3 := hid_o l3
      have HL3' := hid_o l3'
      have HL4 := hid_o l4
      clear l1 l1' l2 l3 l3' l4
      go_wp2_with (first
        | (go_at_call 59; (with_reducible refine (tw_sum HK.out.tw HL1.out HL1'.out HL2.out).mono ?_); rintro e v1 ⟨r1, rfl, h1, B1'⟩; have G1 := hid_o h1; have B1 := hid_o B1'; clear h1 B1')
        | (go_at_call 59; (with_reducible refine (tw_sum (HK.out.tw.later B1.out).symm HL3.out HL3'.out HL4.out).mono ?_); rintro e v2 ⟨r2, rfl, h2, B2'⟩; have G2 := hid_o h2; have B2 := hid_o B2'; clear h2 B2'))
      go_ret
      refine ⟨(r1, r2), rfl, ⟨G1.out, G2.out⟩, (HK.out.bl.trans (B1.out.mono HK.out.bl.size)).trans (B2.out.mono (Nat.le_trans HK.out.bl.size B1.out.size))⟩
end Go.Proofs.Ytiohceelphpifaa
