/-
  The statements' of: a matrix is eliminated as the document does it; what was handed in stays, and may be written over.
-/
import Derived.Test.YtklbgibhbnijaaaLtc
namespace Go.Proofs.Ytklbgibhbnijaaa
open Fl RowKit
set_option linter.unusedVariables false

set_option maxHeartbeats 2000000 in
theorem lentM9 {R C : Int} {A : Option Addr} {c n : Nat} {xs : List Cw} {w : World} (h : Src w A c n xs) (hsz : n * 16 + 96 ≤ 140737488355328) :
    Calls Try.prog 30 #[.agg #[.int .i64 R, .int .i64 C, .slice A n c]] w fun e w' => ∃ g c', e = .returned (.tuple #[.agg #[.int .i64 R, .int .i64 C, .slice (some ⟨g, 0, none⟩) n c'], .slice (some ⟨g, 0, none⟩) (n + 6) c']) ∧ (n + 6 ≤ c' ∧ c' ≤ maxLen) ∧ Rw w' w.heap.size (.slice (some ⟨g, 0, none⟩) (n + 6) c') (n + 6) (xs ++ marks 7 6) ∧ Below w.heap.size w w' := by
  obtain ⟨wA, hwA⟩ : ∃ wA, wA = (w.alloc (.cells #[.int .i64 R, .int .i64 C, .slice A n c] 26)).alloc (.cells #[.int .i64 0, .int .i64 0, .slice none 0 0] 26) := ⟨_, rfl⟩
  have Va : V3 w.heap.size (.int .i64 R) (.int .i64 C) (.slice A n c) wA := by rw [hwA]; exact (v3_new w _ _ _ _).below (bal _ _)
  have Vr : V3 (w.heap.size + 1) (.int .i64 0) (.int .i64 0) (.slice none 0 0) wA := by rw [hwA]; exact v3_at _ _ _ _ _ (size_al _ _)
  have BA : Below w.heap.size w wA := by rw [hwA]; exact ba (bal _ _) _
  have sA : wA.heap.size = w.heap.size + 1 + 1 := by rw [hwA, size_al, size_al]
  have SA := h.below BA
  subst hwA
  have n1 : w.heap.size ≠ w.heap.size + 1 := by omega
  go_enter Try.func30, Try.ntmps30
  go_wp2_with (first
    | (go_at_call 65; (with_reducible refine (tlent SA hsz).mono ?_); rintro e w1 ⟨g, c', rfl, ⟨hc1, hc2⟩, RX, bb1⟩; have D1 := Va.below bb1; have Dr := Vr.below bb1; have R3 := (Dr.other (q := ⟨w.heap.size, 2, none⟩) n1 (.slice (some ⟨g, 0, none⟩) n c')).reads; have BW := hid_o (b_of BA bb1 BA.size); have HRX := hid_o RX; obtain ⟨_, a0, a1, a2, a3, a4, a5⟩ := D1; obtain ⟨_, q0, q1, q2, q3, q4, q5⟩ := Dr; clear Va Vr BA SA bb1 RX))
  obtain ⟨m0, m1, m2⟩ := R3
  refine bodyPost_ret (by simp [results, Try.results30, go_sem, m0, m1, m2]; try rfl) rfl ?_
  have RX' : Rw w1 (w.heap.size + 1 + 1) (.slice (some ⟨g, 0, none⟩) (n + 6) c') (n + 6) (xs ++ marks 7 6) := rw_base HRX.out (Nat.le_of_eq sA.symm)
  have hg := RX'.lt
  have R1 : Rw (w1.setCell ⟨w.heap.size, 2, none⟩ (.slice (some ⟨g, 0, none⟩) n c')) (w.heap.size + 1 + 1) (.slice (some ⟨g, 0, none⟩) (n + 6) c') (n + 6) (xs ++ marks 7 6) := ⟨RX'.len, own_at RX'.own (fun q hq => by
    have : g = q := by simpa [Value.ownBlock] using hq
    exact Below.heap_setCell _ _ _ _ (by show q ≠ w.heap.size; omega))⟩
  exact ⟨g, c', rfl, ⟨hc1, hc2⟩, rw_base (R1.set3 (p := w.heap.size + 1) (by omega) _ _ _) (by omega), below_set3 (BW.out.setCell (p := ⟨w.heap.size, 2, none⟩) (Nat.le_refl _) _) (by omega) _ _ _⟩
theorem sl_pr9 {w : World} {b g n m c : Nat} {xs ms : List Cw} (h : Rw w b (.slice (some ⟨g, 0, none⟩) (n + m) c) (n + m) (xs ++ ms)) (hl : xs.length = n) (hc : n ≤ c) : Sl w (some ⟨g, 0, none⟩) c xs := by
  refine ⟨fun k hk => ?_, .inr ⟨g, 0, rfl⟩, by omega⟩
  obtain ⟨b', off, e, hb, hcell⟩ := h.rc k (by rw [List.length_append]; omega)
  refine ⟨b', off, e, hb, ?_⟩
  rw [hcell]
  have : zat (xs ++ ms) k = zat xs k := by simp [zat, List.getD_eq_getElem?_getD, List.getElem?_append_left hk]
  rw [this]

set_option maxRecDepth 10000 in
set_option maxHeartbeats 8000000 in
theorem of_fails {R C E a : Int} {A : Option Addr} {l c : Nat} {xs : List Cw} {w : World} (SA0 : Src w A c l xs) (hz : l * 16 + 96 ≤ 140737488355328)
    (HO0 : ∀ (W : World) (g c' : Nat), l ≤ c' → Sl W (some ⟨g, 0, none⟩) c' xs → Calls Try.prog 14 #[.agg #[.int .i64 R, .int .i64 C, .slice (some ⟨g, 0, none⟩) l c']] W fun e w' => e = .returned (.tuple #[.pointer none, .agg #[.int .i64 E, .int .i64 a]]) ∧ Below W.heap.size W w')
    (HR0 : ∀ (W : World), Src W A c l xs → Calls Try.prog 11 #[.agg #[.int .i64 R, .int .i64 C, .slice A l c]] W fun e w' => e = .returned (.tuple #[.pointer none, .agg #[.int .i64 E, .int .i64 a]]) ∧ Below W.heap.size W w') :
    Calls Try.prog 8 #[.agg #[.int .i64 R, .int .i64 C, .slice A l c]] w fun e w' => e = .returned (.bool true) ∧ Below w.heap.size w w' := by
  have V0 := hid_o (v3_new w (.int .i64 R) (.int .i64 C) (.slice A l c) 26)
  have SA1 := hid_o (SA0.below (bal w (.cells #[.int .i64 R, .int .i64 C, .slice A l c] 26)))
  have hl0 := SA0.len
  have HO := hid_o HO0
  have HR := hid_o HR0
  clear SA0 HO0 HR0
  go_enter Try.func8, Try.ntmps8
  go_wp2_with (first
    | (go_at_call 30; (with_reducible refine (lentM9 SA1.out hz).mono ?_); rintro e w1 ⟨g, c', rfl, ⟨hc1, hc2⟩, hr, hb⟩; (have RX1 := hid_o hr); (have B1 := hid_o (bt (bal w _) hb)); (have VM1 := hid_o (V0.out.below hb)); (have SA2 := hid_o (SA1.out.below hb)); (have G1 : Hid (w.heap.size + 1 ≤ g ∧ g < w1.heap.size) := ⟨by have := hr.lt.1; rw [size_al] at this; omega, hr.lt.2⟩); clear hr hb V0 SA1)
    | (go_at_call 14; (with_reducible refine (HO.out _ g c' (by omega) (sl_pr9 (RX1.out.below (bal _ _)) hl0 (by omega))).mono ?_); rintro e w2 ⟨rfl, hb⟩; (have K2 := hid_o (bt (bal w1 _) hb)); (have RX2 := hid_o (RX1.out.below K2.out)); (have B2 := hid_o (bt B1.out K2.out)); (have VM2 := hid_o (VM1.out.below K2.out)); (have SA3 := hid_o (SA2.out.below K2.out)); (have F2 := hid_o (v2_new w2 (.int .i64 E) (.int .i64 a) 35)); (have m0 := VM2.out.c0); (have m1 := VM2.out.c1); (have m2 := VM2.out.c2); (have ml := VM2.out.lt); clear hb RX1 B1 VM1 SA2)
    | (go_at_call 11; (with_reducible refine (HR.out _ (SA3.out.below (bal _ _))).mono ?_); rintro e w3 ⟨rfl, hb⟩; (have K3 := hid_o (bt (bal w2 _) hb)); (have RX3 := hid_o (RX2.out.below K3.out)); (have B3 := hid_o (bt B2.out K3.out)); (have VM3 := hid_o (VM2.out.below K3.out)); (have SA4 := hid_o (SA3.out.below K3.out)); (have F3 := F2.out.below hb); (have f0 := F3.c0); (have f1 := F3.c1); (have fl := F3.lt); (have p2 := VM3.out.c2); (have pq := VM3.out.lt); (have Q3 := hid_o K3.out.size); (have Q2 := hid_o K2.out.size); clear hb RX2 B2 VM2 SA3 F2 F3 K3 K2 m0 m1 m2 ml)
    | (go_at_call 31; (with_reducible refine (tkept (SA4.out.below (bal _ _)) hz (RX3.out.below (bal _ _))).mono ?_); rintro e w5 ⟨rfl, hb⟩; (have K5 := hid_o (bt (bal w3 _) hb)); (have RX5 := hid_o (RX3.out.below K5.out)); (have B5 := hid_o (bt B3.out K5.out)); (have Q5 := hid_o K5.out.size); clear hb RX3 B3 VM3 SA4 K5 f0 f1 fl p2 pq)
    | (go_at_call 32; (with_reducible refine (tover RX5.out (by omega)).mono ?_); rintro e w6 ⟨rfl, hr, ho⟩; (have B6 := hid_o (below_only B5.out ho (by have := G1.out; omega))); clear hr ho RX5 B5))
  go_ret
  exact ⟨rfl, B6.out⟩
set_option maxRecDepth 10000 in
set_option maxHeartbeats 8000000 in
theorem of_tells {R C : Int} {A : Option Addr} {l c N : Nat} {xs : List Cw} {w : World} {M : Nat → Nat → Cw} {o : Nat → Nat} {s : Int} {RR : World → Nat → Nat → Prop} (SA0 : Src w A c l xs) (hz : l * 16 + 96 ≤ 140737488355328)
    (RA0 : ∀ (W W' : World) (b p : Nat), RR W b p → W.heap.size ≤ W'.heap.size → (∀ q, b ≤ q → q < W.heap.size → W'.heap[q]? = W.heap[q]?) → RR W' b p)
    (HT0 : ∀ (W : World) (b1 b2 p1 p2 gr gO : Nat) (bl : Nat → Nat), Lo W b1 p1 N gr gO bl M o s → RR W b2 p2 → Calls Try.prog 33 #[.pointer (some ⟨p1, 0, none⟩), .pointer (some ⟨p2, 0, none⟩)] W fun e w' => e = .returned (.bool true) ∧ Below W.heap.size W w')
    (HO0 : ∀ (W : World) (g c' : Nat), l ≤ c' → Sl W (some ⟨g, 0, none⟩) c' xs → Calls Try.prog 14 #[.agg #[.int .i64 R, .int .i64 C, .slice (some ⟨g, 0, none⟩) l c']] W fun e w' => ∃ p gr gO bl, e = .returned (.tuple #[.pointer (some ⟨p, 0, none⟩), .agg #[.int .i64 0, .int .i64 0]]) ∧ Lo w' W.heap.size p N gr gO bl M o s ∧ Below W.heap.size W w')
    (HR0 : ∀ (W : World), Src W A c l xs → Calls Try.prog 11 #[.agg #[.int .i64 R, .int .i64 C, .slice A l c]] W fun e w' => ∃ p, e = .returned (.tuple #[.pointer (some ⟨p, 0, none⟩), .agg #[.int .i64 0, .int .i64 0]]) ∧ RR w' W.heap.size p ∧ Below W.heap.size W w') :
    Calls Try.prog 8 #[.agg #[.int .i64 R, .int .i64 C, .slice A l c]] w fun e w' => e = .returned (.bool true) ∧ Below w.heap.size w w' := by
  have V0 := hid_o (v3_new w (.int .i64 R) (.int .i64 C) (.slice A l c) 26)
  have SA1 := hid_o (SA0.below (bal w (.cells #[.int .i64 R, .int .i64 C, .slice A l c] 26)))
  have hl0 := SA0.len
  have HO := hid_o HO0
  have HR := hid_o HR0
  have RA := hid_o RA0
  have HTT := hid_o HT0
  clear SA0 HO0 HR0 RA0 HT0
  go_enter Try.func8, Try.ntmps8
  go_wp2_with (first
    | (go_at_call 30; (with_reducible refine (lentM9 SA1.out hz).mono ?_); rintro e w1 ⟨g, c', rfl, ⟨hc1, hc2⟩, hr, hb⟩; (have RX1 := hid_o hr); (have B1 := hid_o (bt (bal w _) hb)); (have VM1 := hid_o (V0.out.below hb)); (have SA2 := hid_o (SA1.out.below hb)); (have G1 : Hid (w.heap.size + 1 ≤ g ∧ g < w1.heap.size) := ⟨by have := hr.lt.1; rw [size_al] at this; omega, hr.lt.2⟩); clear hr hb V0 SA1)
    | (go_at_call 14; (with_reducible refine (HO.out _ g c' (by omega) (sl_pr9 (RX1.out.below (bal _ _)) hl0 (by omega))).mono ?_); rintro e w2 ⟨pl, gr, gO, bl, rfl, hl, hb⟩; (have LO2 := hid_o hl); clear hl; (have K2 := hid_o (bt (bal w1 _) hb)); (have RX2 := hid_o (RX1.out.below K2.out)); (have B2 := hid_o (bt B1.out K2.out)); (have VM2 := hid_o (VM1.out.below K2.out)); (have SA3 := hid_o (SA2.out.below K2.out)); (have F2 := hid_o (v2_new w2 (.int .i64 0) (.int .i64 0) 35)); (have m0 := VM2.out.c0); (have m1 := VM2.out.c1); (have m2 := VM2.out.c2); (have ml := VM2.out.lt); clear hb RX1 B1 VM1 SA2)
    | (go_at_call 11; (with_reducible refine (HR.out _ (SA3.out.below (bal _ _))).mono ?_); rintro e w3 ⟨pr, rfl, hl, hb⟩; (have RR3 := hid_o hl); (have LO3 := hid_o (LO2.out.below (bt (bal w2 _) hb))); clear hl LO2; (have K3 := hid_o (bt (bal w2 _) hb)); (have RX3 := hid_o (RX2.out.below K3.out)); (have B3 := hid_o (bt B2.out K3.out)); (have VM3 := hid_o (VM2.out.below K3.out)); (have SA4 := hid_o (SA3.out.below K3.out)); (have F3 := F2.out.below hb); (have f0 := F3.c0); (have f1 := F3.c1); (have fl := F3.lt); (have p2 := VM3.out.c2); (have pq := VM3.out.lt); (have Q3 := hid_o K3.out.size); (have Q2 := hid_o K2.out.size); clear hb RX2 B2 VM2 SA3 F2 F3 K3 K2 m0 m1 m2 ml)
    | (go_at_call 31; (with_reducible refine (tkept (SA4.out.below (bal _ _)) hz (RX3.out.below (bal _ _))).mono ?_); rintro e w5 ⟨rfl, hb⟩; (have LO5 := hid_o (LO3.out.below (bt (bal w3 _) hb))); (have RR5 := hid_o (RA.out _ _ _ _ RR3.out (bt (bal w3 _) hb).size (fun q _ hq => (bt (bal w3 _) hb).block q hq))); clear LO3 RR3; (have K5 := hid_o (bt (bal w3 _) hb)); (have RX5 := hid_o (RX3.out.below K5.out)); (have B5 := hid_o (bt B3.out K5.out)); (have Q5 := hid_o K5.out.size); clear hb RX3 B3 VM3 SA4 K5 f0 f1 fl p2 pq)
    | (go_at_call 32; (have NB : Hid (w1.heap.size ≤ (w1.alloc (.cells #[.int .i64 R, .int .i64 C, .slice (some ⟨g, 0, none⟩) l c'] 26)).heap.size ∧ w1.heap.size ≤ (w2.alloc (.cells #[.int .i64 0, .int .i64 0] 35)).heap.size) := ⟨by rw [size_al]; omega, by rw [size_al]; have := Q2.out; omega⟩); (with_reducible refine (tover RX5.out (by omega)).mono ?_); rintro e w6 ⟨rfl, hr, ho⟩; (have LO6 := hid_o (LO5.out.at (Nat.le_of_eq ho.size.symm) (fun q hq _ => ho.block q (by have := G1.out; have := NB.out; omega)))); (have RR6 := hid_o (RA.out _ _ _ _ RR5.out (Nat.le_of_eq ho.size.symm) (fun q hq _ => ho.block q (by have := G1.out; have := NB.out; omega)))); clear LO5 RR5; (have B6 := hid_o (below_only B5.out ho (by have := G1.out; omega))); clear hr ho RX5 B5)
    | (go_at_call 33; (with_reducible refine (HTT.out _ _ _ _ _ _ _ _ LO6.out RR6.out).mono ?_); rintro e w7 ⟨rfl, hb⟩; (have B7 := hid_o (bt B6.out hb)); clear hb))
  go_ret
  exact ⟨rfl, B7.out⟩
end Go.Proofs.Ytklbgibhbnijaaa
