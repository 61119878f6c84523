/-
  What the document's Of hands back of a square matrix with a number that is not finite, and of one of no rows.
-/
import Derived.Test.YtklbgibhbnijaaaLrj
import Derived.Test.YtklbgibhbnijaaaSla
namespace Go.Proofs.Ytklbgibhbnijaaa
open Fl RowKit

theorem fin_first {xs : List Cw} : ∀ n, finL xs n = true ∨ ∃ k, k < n ∧ finL xs k = true ∧ finZ (zat xs k) = false := by
  intro n
  induction n with
  | zero => exact .inl rfl
  | succ n ih =>
    rcases ih with h | ⟨k, h1, h2, h3⟩
    · cases hz : finZ (zat xs n)
      · exact .inr ⟨n, by omega, h, hz⟩
      · left; show (finL xs n && finZ (zat xs n)) = true; rw [h, hz]; rfl
    · exact .inr ⟨k, by omega, h2, h3⟩
theorem nff_first {xs : List Cw} {n : Nat} (h : nff xs n < n) : finL xs (nff xs n) = true ∧ finZ (zat xs (nff xs n)) = false := by
  rcases fin_first (xs := xs) n with h1 | ⟨k, h1, h2, h3⟩
  · rw [nff_all h1] at h; omega
  · rw [nff_at h2 h3 n h1]; exact ⟨h2, h3⟩
theorem nff_before {xs : List Cw} {n j : Nat} (h : nff xs n < n) (hj : j < nff xs n) : finZ (zat xs j) = true := finL_iff.1 (nff_first h).1 j hj
set_option maxHeartbeats 4000000 in
theorem rshaped_any (N Q c : Nat) (A : Option Addr) (w : World) (hN : N ≤ 64) (hQ : Q = N * N) : Calls Try.prog 35 #[.agg #[.int .i64 N, .int .i64 N, .slice A Q c]] w fun e w' => e = .returned (.bool true) ∧ Below w.heap.size w w' := by
  have k1 : N ≤ 1000 := by omega
  have h0 : (0 : Int) ≤ N := by omega
  have h1 : (N : Int) ≤ 64 := by omega
  have hm := wrap_mul k1 k1
  rw [← hQ] at hm
  clear hQ k1 hN
  go_enter Try.func35, Try.ntmps35
  go_wp2
  go_ret
  exact ⟨rfl, bal _ _⟩
theorem rfin_zz {W : World} (x : Cw) : Calls Try.prog 36 #[.complex .f64 x.1 x.2] W fun e w' => ∃ n, e = .returned (.bool (finZ x)) ∧ w' = W.drewN n := rfin_any x.1 x.2 W
set_option maxRecDepth 4000 in
set_option maxHeartbeats 8000000 in
theorem rof_number (N Q c : Nat) (A : Option Addr) (xs : List Cw) (w : World) (hN : N ≤ 64) (hQ : Q = N * N) (hl : xs.length = Q) (hc : Rc w A xs) (hf : nff xs Q < Q) :
    Calls Try.prog 11 #[.agg #[.int .i64 N, .int .i64 N, .slice A Q c]] w fun e w' => e = .returned (.tuple #[.pointer none, .agg #[.int .i64 5, .int .i64 (nff xs Q : Nat)]]) ∧ Below w.heap.size w w' := by
  have h4 : Q ≤ 4096 := by rw [hQ]; exact le_4096 hN hN
  have HC := hid_o hc.rcb
  have HQ := hid_o hQ
  have HL := hid_o hl
  have F1 : Hid (∀ j, j < nff xs Q → finZ (zat xs j) = true) := fun j hj => nff_before hf hj
  have F2 : Hid (finZ (zat xs (nff xs Q)) = false) := (nff_first hf).2
  obtain ⟨f, hfe⟩ : ∃ f, f = nff xs Q := ⟨_, rfl⟩
  rw [← hfe] at hf F1 F2 ⊢
  have V0 := hid_o (v3_new w (.int .i64 N) (.int .i64 N) (.slice A Q c) 26)
  clear hc hQ hl hfe
  go_enter Try.func11, Try.ntmps11
  go_wp2_with (go_at_call 35; (with_reducible refine (rshaped_any N Q c A _ hN HQ.out).mono ?_); rintro e w1 ⟨rfl, hb1⟩; have HB1 := hid_o ((ba (bal w _) (.cells #[.int .i64 0, .int .i64 0] 35)).trans (hb1.mono (by simp; omega))); have HV1 := hid_o ((V0.out.below (bal _ _)).below hb1); have HU1 := hid_o ((v2_new (w.alloc (.cells #[.int .i64 N, .int .i64 N, .slice A Q c] 26)) (.int .i64 0) (.int .i64 0) 35).below hb1); clear hb1 V0)
  go_loopw [4] (fun iv wr => ∃ (q m : Nat), q ≤ f ∧ iv = .int .i64 q ∧ wr = w1.drewN m) (fun iv _ => Q - (intOf iv).toNat)
  case atStart => exact ⟨0, 0, Nat.zero_le _, rfl, rfl⟩
  case round =>
    obtain ⟨q, m, hq, rfl, rfl⟩ := hrel
    have c2 := HV1.out.c2
    have hlt : q < Q := by omega
    obtain ⟨b1, o1, rfl, hb1, hc1⟩ := (HC.out.later HB1.out) q (by rw [HL.out]; exact hlt)
    obtain ⟨x, hxe⟩ : ∃ x, x = zat xs q := ⟨_, rfl⟩
    rw [← hxe] at hc1
    unfold cx at hc1
    have d2 : ∀ k, (w1.drewN k).cell? ⟨w.heap.size, 2, none⟩ = some (.slice (some ⟨b1, o1, none⟩) Q c) := fun k => c2
    have d1 : ∀ k, (w1.drewN k).cell? ⟨b1, o1 + q, none⟩ = some (.complex .f64 x.1 x.2) := fun k => hc1
    by_cases hqf : q < f
    · have HFZ : Hid (finZ x = true) := by rw [hxe]; exact F1.out q hqf
      clear hxe
      go_wp2_with (go_at_call 36; (with_reducible refine (rfin_zz x).mono ?_); rintro e w8 ⟨m8, rfl, rfl⟩; rw [HFZ.out])
      go_roundw
      case measure => simp [intOf]; omega
      case rel => exact ⟨q + 1, m + m8, by omega, by go_num, by first | rfl | simp only [World.drewN_drewN]⟩
    · have e : q = f := by omega
      have HFZ : Hid (finZ x = false) := by rw [hxe, e]; exact F2.out
      have HE := hid_o e
      have hu2 : V2 (w.heap.size + 1) (.int .i64 0) (.int .i64 0) w1 := by simpa using HU1.out
      have HU2 := hid_o hu2
      clear hxe e hu2
      go_wp2_with (go_at_call 36; (with_reducible refine (rfin_zz x).mono ?_); rintro e w8 ⟨m8, rfl, rfl⟩; rw [HFZ.out]; have U5 := HU2.out.drewN (m + m8); have q0 := U5.c0; have q1 := U5.c1; have q2 := U5.f0; have q3 := U5.f1; have ql := U5.lt; have rr := U5.reads; clear U5)
      refine bodyPost_ret (by simp [results, Try.results11, go_sem, rr.1, rr.2]; try rfl) rfl ?_
      exact ⟨by rw [HE.out], below_set2 (below_drewN HB1.out _) (by omega) _ _⟩
theorem v6_new (W : World) (a b c d e f : Value) (t : TypeId) : V6 W.heap.size a b c d e f (W.alloc (.cells #[a, b, c, d, e, f] t)) := by
  have hh := heap_alloc_new W (.cells #[a, b, c, d, e, f] t)
  refine ⟨by simp, ?_, ?_, ?_, ?_, ?_, ?_, fun j => ?_⟩
  all_goals first | (unfold World.cell?; rw [hh]; rfl) | (unfold World.frozen?; rw [hh]; simp)
set_option maxRecDepth 4000 in
set_option maxHeartbeats 8000000 in
theorem rof_0 (c : Nat) (A : Option Addr) (w : World) :
    Calls Try.prog 11 #[.agg #[.int .i64 0, .int .i64 0, .slice A 0 c]] w fun e w' => ∃ p, e = .returned (.tuple #[.pointer (some ⟨p, 0, none⟩), .agg #[.int .i64 0, .int .i64 0]]) ∧ (w.heap.size ≤ p ∧ V6 p (.int .i64 0) (.slice none 0 0) (.slice none 0 0) (.bool false) (.bool false) (.bool true) w') ∧ Below w.heap.size w w' := by
  have V0 := hid_o (v3_new w (.int .i64 0) (.int .i64 0) (.slice A 0 c) 26)
  go_enter Try.func11, Try.ntmps11
  go_wp2_with (go_at_call 35; refine (rshaped_any 0 0 c A _ (by decide) rfl).mono ?_; rintro e w1 ⟨rfl, hb1⟩; have HB1 := hid_o ((ba (bal w _) (.cells #[.int .i64 0, .int .i64 0] 35)).trans (hb1.mono (by simp; omega))); have HV1 := hid_o ((V0.out.below (bal _ _)).below hb1); have HU1 := hid_o ((v2_new (w.alloc (.cells #[.int .i64 0, .int .i64 0, .slice A 0 c] 26)) (.int .i64 0) (.int .i64 0) 35).below hb1); clear hb1 V0)
  go_loopw [4] (fun iv wr => iv = .int .i64 0 ∧ wr = w1) (fun _ _ => 0)
  case atStart => exact ⟨rfl, rfl⟩
  case round =>
    obtain ⟨rfl, rfl⟩ := hrel
    obtain ⟨wr0, hwr0⟩ : ∃ W, W = wr := ⟨_, rfl⟩
    subst hwr0
    have c2 := HV1.out.c2
    have c0 := HV1.out.c0
    have hu2 : V2 (w.heap.size + 1) (.int .i64 0) (.int .i64 0) wr0 := by simpa using HU1.out
    have HV6 := hid_o (v6_new wr0 (.int .i64 0) (.slice none 0 0) (.slice none 0 0) (.bool false) (.bool false) (.bool true) 40)
    have HU2 := hid_o (hu2.below (bal wr0 (.cells #[.int .i64 0, .slice none 0 0, .slice none 0 0, .bool false, .bool false, .bool true] 40)))
    have HB2 := hid_o (HB1.out.alloc HB1.out.size (.cells #[.int .i64 0, .slice none 0 0, .slice none 0 0, .bool false, .bool false, .bool true] 40))
    have hul := hid_o hu2.lt
    have hsz := hid_o HB1.out.size
    clear hu2 HU1 HB1 HV1
    go_wp2
    clear c0 c2
    obtain ⟨W3, hW3⟩ : ∃ W3, W3 = wr0.alloc (.cells #[.int .i64 0, .slice none 0 0, .slice none 0 0, .bool false, .bool false, .bool true] 40) := ⟨_, rfl⟩
    rw [← hW3] at HV6 HU2 HB2 ⊢
    clear hW3
    go_loopw [7] (fun iv wx => iv = .int .i64 0 ∧ wx = W3) (fun _ _ => 0)
    case atStart => exact ⟨rfl, rfl⟩
    case round =>
      obtain ⟨rfl, rfl⟩ := hrel
      go_wp2
      obtain ⟨W4, hW4⟩ : ∃ W4, W4 = wr := ⟨_, rfl⟩
      subst hW4
      obtain ⟨p, hp⟩ : ∃ p, p = wr0.heap.size := ⟨_, rfl⟩
      rw [← hp] at HV6 hul hsz ⊢
      go_loopw [10] (fun kv wx => kv = .int .i64 0 ∧ wx = W4) (fun _ _ => 0)
      case atStart => exact ⟨rfl, rfl⟩
      case round =>
        obtain ⟨rfl, hw⟩ := hrel
        subst hw
        have q0 := HU2.out.c0
        have q1 := HU2.out.c1
        have q2 := HU2.out.f0
        have q3 := HU2.out.f1
        have ql := HU2.out.lt
        have rr := HU2.out.reads
        clear hp
        go_wp2
        refine bodyPost_ret (by simp [results, Try.results11, go_sem, rr.1, rr.2]; try rfl) rfl ?_
        refine ⟨p, rfl, ⟨hsz.out, HV6.out.at (by simp) ?_⟩, below_set2 HB2.out (by omega) _ _⟩
        have := hul.out
        rw [Below.heap_setCell _ _ _ p (by show p ≠ w.heap.size + 1; omega), Below.heap_setCell _ _ _ p (by show p ≠ w.heap.size + 1; omega)]
end Go.Proofs.Ytklbgibhbnijaaa
