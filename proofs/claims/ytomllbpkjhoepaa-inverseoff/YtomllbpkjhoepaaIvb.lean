/-
  What inverse's Of, norm and Carried hand back.
-/
import Derived.Test.YtomllbpkjhoepaaIva
import Derived.Test.YtomllbpkjhoepaaBnc
import Derived.Test.YtomllbpkjhoepaaLdt
import Derived.Deep.RegionWith
import Derived.Deep.DeepCutAuto
namespace Go.Proofs.Ytomllbpkjhoepaa
open Fl RowKit

theorem v1_new (w : World) (a : Value) (t : TypeId) : (w.alloc (.cells #[a] t)).cell? ⟨w.heap.size, 0, none⟩ = some a := World.cell?_alloc_new w _ _ 0
/-- the numbers of the inverse, by places -/
def ivW (n : Nat) (S : Es) (k : Nat) : Cw := toW (inX n S.M S.o (k % n) (k / n))
theorem inK_fin {n : Nat} {M : Nat → Nat → Cw} {o : Nat → Nat} {j i : Nat} (h : inK n M o j = true) (hi : i < n) : finN (inX n M o j i) = true := by
  unfold inK solK okS at h
  rw [Bool.and_eq_true] at h
  exact finS_iff.1 h.2 i hi
theorem ivW_of {n : Nat} {S : Es} {d : Nat → Cw} (hK : fstN (inK n S.M S.o) n = n) (h : ∀ i j, i < n → j < n → repz (inX n S.M S.o j i) (d (i * n + j))) : ro (n * n) d = ro (n * n) (ivW n S) := by
  refine ro_congr fun k hk => ?_
  obtain ⟨h1, h2⟩ := div_lt' hk
  have := h (k / n) (k % n) h1 h2
  rw [Nat.div_add_mod' k n] at this
  exact (toW_rep this (inK_fin (fstN_iff.1 hK _ h2) h1)).symm
def InvFails (N : Nat) (f : Nat → Cw) (E a : Int) : Prop := ∀ (W : World) (A : Option Addr) (c : Nat), N * N ≤ c → Rc W A (ro (N * N) f) → Calls Try.prog 13 #[.agg #[.int .i64 N, .int .i64 N, .slice A (N * N) c]] W fun e w' => e = .returned (.tuple #[.agg #[.int .i64 0, .int .i64 0, .slice none 0 0], .agg #[.int .i64 E, .int .i64 a]]) ∧ Below W.heap.size W w'
def InvMakes (N : Nat) (f g : Nat → Cw) : Prop := ∀ (W : World) (A : Option Addr) (c : Nat), N * N ≤ c → Rc W A (ro (N * N) f) → Calls Try.prog 13 #[.agg #[.int .i64 N, .int .i64 N, .slice A (N * N) c]] W fun e w' => ∃ B, e = .returned (.tuple #[.agg #[.int .i64 N, .int .i64 N, .slice (some ⟨B, 0, none⟩) (N * N) (N * N)], .agg #[.int .i64 0, .int .i64 0]]) ∧ Rw w' W.heap.size (.slice (some ⟨B, 0, none⟩) (N * N) (N * N)) (N * N) (ro (N * N) g) ∧ Below W.heap.size W w'
set_option maxHeartbeats 4000000 in
theorem inv_fails {N : Nat} {f : Nat → Cw} {E a : Int} (hE : ¬ E = 0) (h : OfFails N f E a) : InvFails N f E a := by
  intro W A c hc hr
  have H := hid_o h
  unfold OfFails at H
  obtain ⟨T, hT⟩ : ∃ T, T = N * N := ⟨_, rfl⟩
  rw [← hT] at H hc hr ⊢
  have HR := hid_o hr
  clear h hr hT
  obtain ⟨wb, hwb⟩ : ∃ wb, wb = ((W.alloc (.cells #[.int .i64 N, .int .i64 N, .slice A T c] 28)).alloc (.cells #[.int .i64 0, .int .i64 0, .slice none 0 0] 28)).alloc (.cells #[.int .i64 0, .int .i64 0] 39) := ⟨_, rfl⟩
  have hsb : Hid (wb.heap.size = W.heap.size + 1 + 1 + 1) := by rw [hwb]; show _ = _; simp
  have VM : Hid (V3 (W.heap.size + 1) (.int .i64 0) (.int .i64 0) (.slice none 0 0) wb) := by rw [hwb]; exact (v3_at _ _ _ _ _ (by simp)).below (bal _ _)
  have VF : Hid (V2 (W.heap.size + 1 + 1) (.int .i64 0) (.int .i64 0) wb) := by rw [hwb]; exact v2_at _ _ _ _ (by simp)
  have Bb : Hid (Below W.heap.size W wb) := by rw [hwb]; exact ((bal _ _).alloc (by simp) _).alloc (by simp; omega) _
  go_enter Try.func13, Try.ntmps13
  go_wp2_with (go_at_call 38; (rw [← hwb]); (with_reducible refine (H.out _ _ _ hc (HR.out.below Bb.out)).mono ?_); rintro e w2 ⟨rfl, hb⟩; (have B2 := hid_o hb); clear hb)
  obtain ⟨wd, hwd⟩ : ∃ wd, wd = (w2.alloc (.cells #[.pointer none] 69)).alloc (.cells #[.int .i64 E, .int .i64 a] 39) := ⟨_, rfl⟩
  have Bd : Below w2.heap.size w2 wd := by rw [hwd]; exact (bal _ _).alloc (by simp) _
  have VE : V2 (w2.heap.size + 1) (.int .i64 E) (.int .i64 a) wd := by rw [hwd]; exact v2_at _ _ _ _ (by simp)
  have B3 := hid_o (bt B2.out Bd)
  have VM3 := hid_o (VM.out.below B3.out)
  have VF3 := hid_o (VF.out.below B3.out)
  have hw2 : W.heap.size + 1 + 1 + 1 ≤ w2.heap.size := by have := B2.out.size; rw [hsb.out] at this; exact this
  rw [← hwd]
  obtain ⟨rl, r0, r1, r2, r3, r4, r5⟩ := VM3.out
  obtain ⟨sl, s0, s1, s3, s4⟩ := VF3.out
  obtain ⟨tl, t0, t1, t3, t4⟩ := VE
  clear hwd Bd
  go_region
  go_wp2
  have M := reads5 (by omega : W.heap.size + 1 ≠ W.heap.size + 1 + 1) VM3.out VF3.out (.int .i64 0) (.int .i64 0) (.slice none 0 0) (.int .i64 E) (.int .i64 a)
  have B5 := (below_set5 (p := W.heap.size + 1) (q := W.heap.size + 1 + 1) (bt Bb.out B3.out) (by omega) (by omega) (.int .i64 0) (.int .i64 0) (.slice none 0 0) (.int .i64 E) (.int .i64 a)).drew
  unfold set5 set3 at M B5
  obtain ⟨m0, m1, m2, m3, m4⟩ := M
  refine bodyPost_ret (by simp [results, Try.results13, go_sem, m0, m1, m2, m3, m4]; try rfl) rfl ?_
  exact ⟨rfl, B5⟩
theorem ofcol_ok {N : Nat} {w : World} {caps : Array Value} {S : Es} (hn : N ≤ 64) (hF : SaysC w 41 caps N (inX N S.M S.o) (inK N S.M S.o)) (hK : fstN (inK N S.M S.o) N = N) :
    Calls Try.prog 40 #[.int .i64 N, .func (.func 41) #[] caps] w fun e w' => ∃ B, e = .returned (.tuple #[.agg #[.int .i64 N, .int .i64 N, .slice (some ⟨B, 0, none⟩) (N * N) (N * N)], .agg #[.int .i64 0, .int .i64 0]]) ∧ Rw w' w.heap.size (.slice (some ⟨B, 0, none⟩) (N * N) (N * N)) (N * N) (ro (N * N) (ivW N S)) ∧ Below w.heap.size w w' := by
  refine (ofcol_any _ caps _ _ N w hn ent_of1 hF).mono ?_
  rintro e w' ⟨hG, hb⟩
  rcases hG with ⟨_, g, d, rfl, h1, h2⟩ | ⟨h, _⟩
  · rw [ivW_of hK h1] at h2
    exact ⟨g, rfl, h2, hb⟩
  · omega
theorem ofcol_no {N : Nat} {w : World} {caps : Array Value} {S : Es} (hn : N ≤ 64) (hF : SaysC w 41 caps N (inX N S.M S.o) (inK N S.M S.o)) (hK : fstN (inK N S.M S.o) N < N) :
    Calls Try.prog 40 #[.int .i64 N, .func (.func 41) #[] caps] w fun e w' => e = .returned (.tuple #[.agg #[.int .i64 0, .int .i64 0, .slice none 0 0], .agg #[.int .i64 6, .int .i64 (fstN (inK N S.M S.o) N : Nat)]]) ∧ Below w.heap.size w w' := by
  refine (ofcol_any _ caps _ _ N w hn ent_of1 hF).mono ?_
  rintro e w' ⟨hG, hb⟩
  rcases hG with ⟨h, _⟩ | ⟨_, h⟩
  · omega
  · exact ⟨h, hb⟩
set_option maxHeartbeats 4000000 in
theorem inv_makes0 {N : Nat} {f : Nat → Cw} {S : Es} (hN : N ≤ 64) (h : OfMakes N f S) (e : Eok N S) (hin : inO N S.o) (hK : fstN (inK N S.M S.o) N = N) (W : World) (A : Option Addr) (c : Nat) (hc : N * N ≤ c) (hr : Rc W A (ro (N * N) f)) :
    Calls Try.prog 13 #[.agg #[.int .i64 N, .int .i64 N, .slice A (N * N) c]] W fun e w' => ∃ B, e = .returned (.tuple #[.agg #[.int .i64 N, .int .i64 N, .slice (some ⟨B, 0, none⟩) (N * N) (N * N)], .agg #[.int .i64 0, .int .i64 0]]) ∧ Rw w' W.heap.size (.slice (some ⟨B, 0, none⟩) (N * N) (N * N)) (N * N) (ro (N * N) (ivW N S)) ∧ Below W.heap.size W w' := by
  have H := hid_o h
  unfold OfMakes at H
  have HE := hid_o e
  have HI := hid_o hin
  have HKK := hid_o hK
  have HS : Hid (¬ S.s = 0) := by show ¬ S.s = 0; have := e.pm; omega
  have HOC := hid_o (fun (w : World) (caps : Array Value) (hF : SaysC w 41 caps N (inX N S.M S.o) (inK N S.M S.o)) => ofcol_ok hN hF hK)
  obtain ⟨T, hT⟩ : ∃ T, T = N * N := ⟨_, rfl⟩
  rw [← hT] at H hc hr HOC ⊢
  have HR := hid_o hr
  clear h hr hT e hin hK
  obtain ⟨wb, hwb⟩ : ∃ wb, wb = ((W.alloc (.cells #[.int .i64 N, .int .i64 N, .slice A T c] 28)).alloc (.cells #[.int .i64 0, .int .i64 0, .slice none 0 0] 28)).alloc (.cells #[.int .i64 0, .int .i64 0] 39) := ⟨_, rfl⟩
  have hsb : Hid (wb.heap.size = W.heap.size + 1 + 1 + 1) := by rw [hwb]; show _ = _; simp
  have VM : Hid (V3 (W.heap.size + 1) (.int .i64 0) (.int .i64 0) (.slice none 0 0) wb) := by rw [hwb]; exact (v3_at _ _ _ _ _ (by simp)).below (bal _ _)
  have VF : Hid (V2 (W.heap.size + 1 + 1) (.int .i64 0) (.int .i64 0) wb) := by rw [hwb]; exact v2_at _ _ _ _ (by simp)
  have Bb : Hid (Below W.heap.size W wb) := by rw [hwb]; exact ((bal _ _).alloc (by simp) _).alloc (by simp; omega) _
  go_enter Try.func13, Try.ntmps13
  go_wp2_with (first
    | (go_at_call 38; (rw [← hwb]); (with_reducible refine (H.out _ _ _ hc (HR.out.below Bb.out)).mono ?_); rintro e w2 ⟨pl, gr, go, bl, rfl, hL, hb⟩; (have B2 := hid_o hb); (have HL := hid_o hL.lh); clear hb hL)
    | (go_at_call 39; (with_reducible refine (lh_size ((HL.out.below (bal _ _)).below (bal _ _))).mono ?_); rintro e w3 ⟨rfl, hb⟩; (have B3 := hid_o (bt (bt (bt B2.out (bal _ (.cells #[.pointer (some ⟨pl, 0, none⟩)] 69))) (bal _ (.cells #[.int .i64 0, .int .i64 0] 39))) hb)); (have C3 := cell_below hb (cell_below (bal _ _) (v1_new w2 (.pointer (some ⟨pl, 0, none⟩)) 69))); (have L3 := hid_o (((HL.out.below (bal _ _)).below (bal _ _)).below hb)); clear hb)
    | (go_at_call 40; (refine (HOC.out _ _ (says_of1 hN (v1_new w3 (.int .i64 N) 3) (cell_below (bal _ _) C3) (L3.out.below (bal _ _)) HS.out HE.out.ok HI.out)).mono ?_); rintro e w4 ⟨B, rfl, hRW, hb⟩; (have HRW := hid_o hRW); (have hw3 := hid_o (B3.out.size)); (have BX := bt (bt B3.out (bal _ (.cells #[.int .i64 N] 3))) hb); (have B4 := hid_o BX); (have VM4 := hid_o (VM.out.below BX)); (have VF4 := hid_o (VF.out.below BX)); (obtain ⟨rl, r0, r1, r2, r3, r4, r5⟩ := VM.out.below BX); (obtain ⟨sl, s0, s1, s3, s4⟩ := VF.out.below BX); clear hb BX hRW))
  have M := reads5 (by omega : W.heap.size + 1 ≠ W.heap.size + 1 + 1) VM4.out VF4.out (.int .i64 N) (.int .i64 N) (.slice (some ⟨B, 0, none⟩) T T) (.int .i64 0) (.int .i64 0)
  have B5 := hid_o (below_set5 (p := W.heap.size + 1) (q := W.heap.size + 1 + 1) (bt Bb.out B4.out) (by omega) (by omega) (.int .i64 N) (.int .i64 N) (.slice (some ⟨B, 0, none⟩) T T) (.int .i64 0) (.int .i64 0))
  have HRW5 : Hid (Rw (set5 w4 (W.heap.size + 1) (W.heap.size + 1 + 1) (.int .i64 N) (.int .i64 N) (.slice (some ⟨B, 0, none⟩) T T) (.int .i64 0) (.int .i64 0)) W.heap.size (.slice (some ⟨B, 0, none⟩) T T) T (ro T (ivW N S))) := by
    have hlt := HRW.out.lt.1
    have h3 := hw3.out
    rw [hsb.out] at h3
    simp only [size_al] at hlt
    refine ⟨HRW.out.len, own_at (own_base HRW.out.own (by simp only [size_al]; omega)) (fun q hq => ?_)⟩
    cases hq
    exact set5_block (show B ≠ W.heap.size + 1 by omega) (show B ≠ W.heap.size + 1 + 1 by omega)
  unfold set5 set3 at M B5 HRW5
  obtain ⟨m0, m1, m2, m3, m4⟩ := M
  refine bodyPost_ret (by simp [results, Try.results13, go_sem, m0, m1, m2, m3, m4]; try rfl) rfl ?_
  exact ⟨B, rfl, HRW5.out, B5.out⟩
set_option maxHeartbeats 4000000 in
theorem inv_over0 {N : Nat} {f : Nat → Cw} {S : Es} (hN : N ≤ 64) (h : OfMakes N f S) (e : Eok N S) (hin : inO N S.o) (hK : fstN (inK N S.M S.o) N < N) (W : World) (A : Option Addr) (c : Nat) (hc : N * N ≤ c) (hr : Rc W A (ro (N * N) f)) :
    Calls Try.prog 13 #[.agg #[.int .i64 N, .int .i64 N, .slice A (N * N) c]] W fun e w' => e = .returned (.tuple #[.agg #[.int .i64 0, .int .i64 0, .slice none 0 0], .agg #[.int .i64 6, .int .i64 (fstN (inK N S.M S.o) N : Nat)]]) ∧ Below W.heap.size W w' := by
  have H := hid_o h
  unfold OfMakes at H
  have HE := hid_o e
  have HI := hid_o hin
  have HKK := hid_o hK
  have HS : Hid (¬ S.s = 0) := by show ¬ S.s = 0; have := e.pm; omega
  have HOC := hid_o (fun (w : World) (caps : Array Value) (hF : SaysC w 41 caps N (inX N S.M S.o) (inK N S.M S.o)) => ofcol_no hN hF hK)
  obtain ⟨T, hT⟩ : ∃ T, T = N * N := ⟨_, rfl⟩
  rw [← hT] at H hc hr ⊢
  obtain ⟨q, hq⟩ : ∃ q : Nat, q = fstN (inK N S.M S.o) N := ⟨_, rfl⟩
  rw [← hq] at HOC ⊢
  clear hq
  have HR := hid_o hr
  clear h hr hT e hin hK
  obtain ⟨wb, hwb⟩ : ∃ wb, wb = ((W.alloc (.cells #[.int .i64 N, .int .i64 N, .slice A T c] 28)).alloc (.cells #[.int .i64 0, .int .i64 0, .slice none 0 0] 28)).alloc (.cells #[.int .i64 0, .int .i64 0] 39) := ⟨_, rfl⟩
  have hsb : Hid (wb.heap.size = W.heap.size + 1 + 1 + 1) := by rw [hwb]; show _ = _; simp
  have VM : Hid (V3 (W.heap.size + 1) (.int .i64 0) (.int .i64 0) (.slice none 0 0) wb) := by rw [hwb]; exact (v3_at _ _ _ _ _ (by simp)).below (bal _ _)
  have VF : Hid (V2 (W.heap.size + 1 + 1) (.int .i64 0) (.int .i64 0) wb) := by rw [hwb]; exact v2_at _ _ _ _ (by simp)
  have Bb : Hid (Below W.heap.size W wb) := by rw [hwb]; exact ((bal _ _).alloc (by simp) _).alloc (by simp; omega) _
  go_enter Try.func13, Try.ntmps13
  go_wp2_with (first
    | (go_at_call 38; (rw [← hwb]); (with_reducible refine (H.out _ _ _ hc (HR.out.below Bb.out)).mono ?_); rintro e w2 ⟨pl, gr, go, bl, rfl, hL, hb⟩; (have B2 := hid_o hb); (have HL := hid_o hL.lh); clear hb hL)
    | (go_at_call 39; (with_reducible refine (lh_size ((HL.out.below (bal _ _)).below (bal _ _))).mono ?_); rintro e w3 ⟨rfl, hb⟩; (have B3 := hid_o (bt (bt (bt B2.out (bal _ (.cells #[.pointer (some ⟨pl, 0, none⟩)] 69))) (bal _ (.cells #[.int .i64 0, .int .i64 0] 39))) hb)); (have C3 := cell_below hb (cell_below (bal _ _) (v1_new w2 (.pointer (some ⟨pl, 0, none⟩)) 69))); (have L3 := hid_o (((HL.out.below (bal _ _)).below (bal _ _)).below hb)); clear hb)
    | (go_at_call 40; (refine (HOC.out _ _ (says_of1 hN (v1_new w3 (.int .i64 N) 3) (cell_below (bal _ _) C3) (L3.out.below (bal _ _)) HS.out HE.out.ok HI.out)).mono ?_); rintro e w4 ⟨rfl, hb⟩; (have BX := bt (bt B3.out (bal _ (.cells #[.int .i64 N] 3))) hb); (have B4 := hid_o BX); (have VM4 := hid_o (VM.out.below BX)); (have VF4 := hid_o (VF.out.below BX)); (obtain ⟨rl, r0, r1, r2, r3, r4, r5⟩ := VM.out.below BX); (obtain ⟨sl, s0, s1, s3, s4⟩ := VF.out.below BX); clear hb BX ))
  have M := reads5 (by omega : W.heap.size + 1 ≠ W.heap.size + 1 + 1) VM4.out VF4.out (.int .i64 0) (.int .i64 0) (.slice none 0 0) (.int .i64 6) (.int .i64 q)
  have B5 := hid_o (below_set5 (p := W.heap.size + 1) (q := W.heap.size + 1 + 1) (bt Bb.out B4.out) (by omega) (by omega) (.int .i64 0) (.int .i64 0) (.slice none 0 0) (.int .i64 6) (.int .i64 q))
  unfold set5 set3 at M B5
  obtain ⟨m0, m1, m2, m3, m4⟩ := M
  refine bodyPost_ret (by simp [results, Try.results13, go_sem, m0, m1, m2, m3, m4]; try rfl) rfl ?_
  exact ⟨rfl, B5.out⟩

end Go.Proofs.Ytomllbpkjhoepaa
