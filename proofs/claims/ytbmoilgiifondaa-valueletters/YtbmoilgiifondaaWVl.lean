/-
  The walk of ValueLetters.
-/
import Derived.Test.YtbmoilgiifondaaEll
namespace Go.Proofs.Ytbmoilgiifondaa
open Fl RowKit
set_option linter.unusedVariables false

/-- how many bytes below k are letters of kinds -/
def cntL : Nat → Nat
  | 0 => 0
  | k + 1 => cntL k + (if ofK k = 0 then 0 else 1)
theorem cnt_le (k : Nat) : cntL k ≤ k := by
  induction k with
  | zero => exact Nat.le_refl _
  | succ k ih => unfold cntL; split <;> omega
theorem cnt_256 : cntL 256 = 8 := by decide +kernel
theorem kinds_in {k : Nat} (h1 : 1 ≤ k) (h8 : k ≤ 8) : ofK k = 0 ∧ ltr k ≠ 0 := by
  rcases (show k = 1 ∨ k = 2 ∨ k = 3 ∨ k = 4 ∨ k = 5 ∨ k = 6 ∨ k = 7 ∨ k = 8 from by omega) with rfl | rfl | rfl | rfl | rfl | rfl | rfl | rfl <;> exact ⟨rfl, by decide⟩
theorem bwf {w a b : World} (h : Below w.heap.size w a) (h2 : Below a.heap.size a b) : Below w.heap.size w b := h.trans (h2.mono h.size)
theorem letter_z {k : Nat} {z : Nat} (h : ltr k = z) (w : World) : Calls Try.prog 14 #[.int .u8 (k : Int)] w fun e w' => e = .returned (.int .u8 (z : Int)) ∧ Below w.heap.size w w' := by
  have := letter_any k w; rw [h] at this; exact this
theorem of_z {c : Nat} {z : Nat} (h : ofK c = z) (hc : c < 256) (w : World) : Calls Try.prog 10 #[.int .u8 (c : Int)] w fun e w' => e = .returned (.tuple #[.int .u8 (z : Int), .bool (z != 0)]) ∧ Below w.heap.size w w' := by
  have := of_any c w hc; rw [h] at this; exact this
theorem of_0 {c : Nat} (h : ofK c = 0) (hc : c < 256) (w : World) : Calls Try.prog 10 #[.int .u8 (c : Int)] w fun e w' => e = .returned (.tuple #[.int .u8 0, .bool false]) ∧ Below w.heap.size w w' := of_z h hc w
theorem of_1 {c z : Nat} (h : ofK c = z) (hz : z ≠ 0) (hc : c < 256) (w : World) : Calls Try.prog 10 #[.int .u8 (c : Int)] w fun e w' => e = .returned (.tuple #[.int .u8 (z : Int), .bool true]) ∧ Below w.heap.size w w' := by
  have := of_z h hc w; rw [show (z != 0) = true from by simp [hz]] at this; exact this
theorem letter_0 {k : Nat} (h : ltr k = 0) (w : World) : Calls Try.prog 14 #[.int .u8 (k : Int)] w fun e w' => e = .returned (.int .u8 0) ∧ Below w.heap.size w w' := letter_z h w
theorem of_00 (w : World) : Calls Try.prog 10 #[.int .u8 0] w fun e w' => e = .returned (.tuple #[.int .u8 0, .bool false]) ∧ Below w.heap.size w w' := of_0 (c := 0) rfl (by omega) w
theorem letter_00 (w : World) : Calls Try.prog 14 #[.int .u8 0] w fun e w' => e = .returned (.int .u8 0) ∧ Below w.heap.size w w' := letter_0 (k := 0) rfl w
set_option maxRecDepth 100000 in
set_option maxHeartbeats 2000000 in
theorem letters_walk (w : World) : Calls Try.prog 6 #[] w fun e w' => e = .returned (.bool true) ∧ Below w.heap.size w w' := by
  go_enter Try.func6, Try.ntmps6
  go_wp2_with fail
  go_loopw [1, 2] (fun nv kv wr => ∃ k : Nat, nv = .int .i64 (cntL k : Nat) ∧ kv = .int .i64 k ∧ k ≤ 256 ∧ Below w.heap.size w wr) (fun _ kv _ => 256 - (intOf kv).toNat)
  case atStart => exact ⟨0, rfl, rfl, by omega, Below.refl _ _⟩
  case round =>
    obtain ⟨k, rfl, rfl, hk, hb0⟩ := hrel
    have B0 : Hid (Below w.heap.size w wr) := hb0
    clear hb0
    by_cases hlt : k < 256
    · have hw : IntKind.u8.wrap (k : Int) = (k : Int) := by rw [IntKind.wrap_u8]; omega
      have hcl := cnt_le k
      have hc0 : Hid (ofK k = 0 → cntL (k + 1) = cntL k) := fun q => by show cntL k + _ = _; rw [if_pos q]; rfl
      have hc1 : Hid (ofK k ≠ 0 → cntL (k + 1) = cntL k + 1) := fun q => by show cntL k + _ = _; rw [if_neg q]
      obtain ⟨m, hm⟩ : ∃ m, m = cntL k := ⟨_, rfl⟩
      rw [← hm] at hcl ⊢
      have HM : Hid (m = cntL k) := hm
      clear hm
      by_cases hin : 1 ≤ k ∧ k ≤ 8
      · obtain ⟨h1, h8⟩ := hin
        obtain ⟨z1, z2⟩ := kinds_in h1 h8
        have z3 := of_ltr h1 h8
        have z4 := ltr_lt k
        obtain ⟨l, hl⟩ : ∃ l, ltr k = l := ⟨_, rfl⟩
        rw [hl] at z2 z3 z4
        have g1 : ((l : Int) != 0) = true := by simp [z2]
        have g2 : decide ((k : Int) ≤ 8) = true := by simp; omega
        have HZ : Hid (ofK k = 0 ∧ ltr k = l ∧ ofK l = k ∧ l < 256 ∧ k ≠ 0) := ⟨z1, hl, z3, z4, by omega⟩
        clear z1 hl z3 z4
        go_wp2_with (first
          | (go_at_call 10; (with_reducible refine (of_0 HZ.out.1 hlt _).mono ?_); rintro e w1 ⟨rfl, hb⟩; (have B1 : Hid (Below w.heap.size w w1) := bwf B0.out hb); clear hb)
          | (go_at_call 14; (with_reducible refine (letter_z HZ.out.2.1 w1).mono ?_); rintro e w2 ⟨rfl, hb⟩; (have B2 : Hid (Below w.heap.size w w2) := bwf B1.out hb); clear hb)
          | (go_at_call 14; (with_reducible refine (letter_z HZ.out.2.1 w2).mono ?_); rintro e w3 ⟨rfl, hb⟩; (have B3 : Hid (Below w.heap.size w w3) := bwf B2.out hb); clear hb)
          | (go_at_call 10; (with_reducible refine (of_1 HZ.out.2.2.1 HZ.out.2.2.2.2 HZ.out.2.2.2.1 w3).mono ?_); rintro e w4 ⟨rfl, hb⟩; (have B4 : Hid (Below w.heap.size w w4) := bwf B3.out hb); clear hb)
          | (go_at_call 14; (with_reducible refine (letter_z HZ.out.2.1 w4).mono ?_); rintro e w5 ⟨rfl, hb⟩; (have B5 : Hid (Below w.heap.size w w5) := bwf B4.out hb); clear hb))
        go_roundw
        case rel => exact ⟨k + 1, by rw [hc0.out HZ.out.1, ← HM.out], by go_num, by omega, B5.out⟩
        case measure => simp [intOf]; omega
      · have hl : ltr k = 0 := (nat_none (by omega)).1
        have g2 : (decide ((1 : Int) ≤ (k : Int)) && decide ((k : Int) ≤ 8)) = false := by simp; omega
        have HZ : Hid (ltr k = 0) := hl
        clear hl
        by_cases h0 : ofK k = 0
        · have HO : Hid (ofK k = 0) := h0
          clear h0
          rcases (show k = 0 ∨ 8 < k from by omega) with hk0 | hk8
          · subst hk0
            go_wp2_with (first
              | (go_at_call 10; (with_reducible refine (of_00 _).mono ?_); rintro e w1 ⟨rfl, hb⟩; (have B1 : Hid (Below w.heap.size w w1) := bwf B0.out hb); clear hb)
              | (go_at_call 14; (with_reducible refine (letter_00 w1).mono ?_); rintro e w2 ⟨rfl, hb⟩; (have B2 : Hid (Below w.heap.size w w2) := bwf B1.out hb); clear hb)
              | (go_at_call 14; (with_reducible refine (letter_00 w2).mono ?_); rintro e w3 ⟨rfl, hb⟩; (have B3 : Hid (Below w.heap.size w w3) := bwf B2.out hb); clear hb))
            go_roundw
            case rel => exact ⟨0 + 1, by rw [hc0.out HO.out, ← HM.out], by go_num, by omega, B3.out⟩
            case measure => simp [intOf]
          · have g3 : decide ((k : Int) ≤ 8) = false := by simp; omega
            go_wp2_with (first
              | (go_at_call 10; (with_reducible refine (of_0 HO.out hlt _).mono ?_); rintro e w1 ⟨rfl, hb⟩; (have B1 : Hid (Below w.heap.size w w1) := bwf B0.out hb); clear hb)
              | (go_at_call 14; (with_reducible refine (letter_0 HZ.out w1).mono ?_); rintro e w2 ⟨rfl, hb⟩; (have B2 : Hid (Below w.heap.size w w2) := bwf B1.out hb); clear hb)
              | (go_at_call 14; (with_reducible refine (letter_0 HZ.out w2).mono ?_); rintro e w3 ⟨rfl, hb⟩; (have B3 : Hid (Below w.heap.size w w3) := bwf B2.out hb); clear hb))
            go_roundw
            case rel => exact ⟨k + 1, by rw [hc0.out HO.out, ← HM.out], by go_num, by omega, B3.out⟩
            case measure => simp [intOf]; omega
        · have hlz := ltr_of h0
          obtain ⟨z, hz⟩ : ∃ z, ofK k = z := ⟨_, rfl⟩
          rw [hz] at hlz
          have hk0 : k ≠ 0 := fun q => h0 (by rw [q]; rfl)
          have HO : Hid (ofK k = z ∧ z ≠ 0 ∧ ltr z = k ∧ ofK k ≠ 0) := ⟨hz, fun q => h0 (hz.trans q), hlz, h0⟩
          clear hz hlz h0
          have g3 : decide ((k : Int) ≤ 8) = false := by simp; omega
          have g4 : ((k : Int) != (k : Int)) = false := by simp
          go_wp2_with (first
            | (go_at_call 10; (with_reducible refine (of_1 HO.out.1 HO.out.2.1 hlt _).mono ?_); rintro e w1 ⟨rfl, hb⟩; (have B1 : Hid (Below w.heap.size w w1) := bwf B0.out hb); clear hb)
            | (go_at_call 14; (with_reducible refine (letter_z HO.out.2.2.1 w1).mono ?_); rintro e w2 ⟨rfl, hb⟩; (have B2 : Hid (Below w.heap.size w w2) := bwf B1.out hb); clear hb)
            | (go_at_call 14; (with_reducible refine (letter_0 HZ.out w2).mono ?_); rintro e w3 ⟨rfl, hb⟩; (have B3 : Hid (Below w.heap.size w w3) := bwf B2.out hb); clear hb)
            | (go_at_call 14; (with_reducible refine (letter_0 HZ.out w3).mono ?_); rintro e w4 ⟨rfl, hb⟩; (have B4 : Hid (Below w.heap.size w w4) := bwf B3.out hb); clear hb))
          go_roundw
          case rel => exact ⟨k + 1, by rw [hc1.out HO.out.2.2.2, ← HM.out]; go_num, by go_num, by omega, B4.out⟩
          case measure => simp [intOf]; omega
    · have e : k = 256 := by omega
      subst e
      rw [cnt_256]
      go_wp2_with (first
        | (go_at_call 23; (with_reducible refine (awake13 _).mono ?_); rintro e w1 ⟨rfl, hb⟩; (have B1 : Hid (Below w.heap.size w w1) := bwf B0.out hb); clear hb))
      go_ret
      exact ⟨rfl, B1.out⟩
end Go.Proofs.Ytbmoilgiifondaa
