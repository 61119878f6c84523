/-
  Several texts in one: Qxp Qpf.
-/
import Derived.Test.YtmpkcioeodlbcaaGreatDoorK15
namespace Go.Proofs.YtmpkcioeodlbcaaGreatDoor
open RowKit
def xS (s : ByteArray) (i : Nat) : Bool := tkb s i 101 || tkb s i 69
def xB (s : ByteArray) (i : Nat) : Bool := tkb s (i + 1) 45
def x3_Qxp (s : ByteArray) (i : Nat) : Nat := if xB s i = true then i + 2 else tk s (i + 1) 43
def xP (s : ByteArray) (i : Nat) : Int := if xS s i = true then (if xB s i = true then -(dV s 4 (x3_Qxp s i) 0 : Nat) else (dV s 4 (x3_Qxp s i) 0 : Nat)) else 0
def xO (s : ByteArray) (i : Nat) : Bool := if xS s i = true then decide (0 < dN s 4 (x3_Qxp s i)) else true
def xA (s : ByteArray) (i : Nat) : Nat := if xS s i = true then x3_Qxp s i + dN s 4 (x3_Qxp s i) else i
theorem dV_bound {s : ByteArray} : ∀ (f i z : Nat), dV s f i z < (z + 1) * 10 ^ f := by
  intro f
  induction f with
  | zero => intro i z; show z < (z + 1) * 1; omega
  | succ f ih =>
    intro i z
    by_cases h : dgb s i = true
    · rw [dV_yes h]
      have h1 := ih (i + 1) (z * 10 + (qbyt s i - 48))
      have h2 := (dgb_lt h).2
      have h3 : (z * 10 + (qbyt s i - 48) + 1) * 10 ^ f ≤ ((z + 1) * 10) * 10 ^ f := Nat.mul_le_mul_right _ (by omega)
      rw [Nat.pow_succ, Nat.mul_comm (10 ^ f), ← Nat.mul_assoc]
      omega
    · rw [dV_no (by simpa using h)]
      have : (z + 1) * 1 ≤ (z + 1) * 10 ^ (f + 1) := Nat.mul_le_mul_left _ (Nat.pow_pos (by decide))
      omega
theorem dN_le {s : ByteArray} : ∀ (f i : Nat), dN s f i ≤ f := by
  intro f
  induction f with
  | zero => intro i; exact Nat.le_refl _
  | succ f ih =>
    intro i
    by_cases h : dgb s i = true
    · rw [dN_yes h]; have := ih (i + 1); omega
    · rw [dN_no (by simpa using h)]; omega
theorem tk_yes {s : ByteArray} {i c : Nat} (h : tkb s i c = true) : tk s i c = i + 1 := if_pos (of_decide_eq_true h)
theorem tk_no {s : ByteArray} {i c : Nat} (h : tkb s i c = false) : tk s i c = i := if_neg (of_decide_eq_false h)
theorem exp_fin {P Q : Int} {b c : Bool} (h1 : P = Q) (h2 : b = c) : Ending.returned (Value.tuple #[.int .i64 P, .bool b]) = .returned (.tuple #[.int .i64 Q, .bool c]) := by rw [h1, h2]
set_option maxRecDepth 10000 in
set_option maxHeartbeats 2000000 in
theorem exp_any {w : World} {p i : Nat} {s : ByteArray} (h : Rdr w p s i) :
    Calls Tryz.prog 240 #[.pointer (some ⟨p, 0, none⟩)] w fun e w' => e = .returned (.tuple #[.int .i64 (xP s i), .bool (xO s i)]) ∧ Rdr w' p s (xA s i) ∧ Only (fun k => k = p) w w' := by
  by_cases hs : xS s i = true
  · have e1 : xP s i = if xB s i = true then -((dV s 4 (x3_Qxp s i) 0 : Nat) : Int) else ((dV s 4 (x3_Qxp s i) 0 : Nat) : Int) := if_pos hs
    have e2 : xO s i = decide (0 < dN s 4 (x3_Qxp s i)) := if_pos hs
    have e3 : xA s i = x3_Qxp s i + dN s 4 (x3_Qxp s i) := if_pos hs
    rw [e1, e2, e3]
    obtain ⟨a, ha⟩ : ∃ a, x3_Qxp s i = a := ⟨_, rfl⟩
    have HA : Hid (x3_Qxp s i = a) := ha
    obtain ⟨neg, hneg⟩ : ∃ neg, xB s i = neg := ⟨_, rfl⟩
    have HG : Hid (xB s i = neg) := hneg
    rw [ha, hneg]
    clear e1 e2 e3
    -- the two ways to the sign
    have hse : tkb s i 101 = true ∨ (tkb s i 101 = false ∧ tkb s i 69 = true) := by
      unfold xS at hs
      cases h1 : tkb s i 101
      · rw [h1] at hs; exact .inr ⟨rfl, by simpa using hs⟩
      · exact .inl rfl
    clear hs
    rcases hse with h1' | ⟨h1', h2'⟩
    · have h1 : Hid (tkb s i 101 = true) := h1'
      clear h1'
      cases neg
      · have hB : Hid (tkb s (i + 1) 45 = false) := HG.out
        have HA : Hid (tk s (i + 1) 43 = a) := by
          show _ = _
          have := HA.out
          unfold x3_Qxp at this
          rw [HG.out] at this
          exact this
        clear ha hneg
        go_enter Tryz.func240, Tryz.ntmps240
        go_wp2_with (first
          | (go_at_call 218; (with_reducible refine (take_any 101 h (by omega)).mono ?_); rintro e1 w1 ⟨rfl, k1, k2⟩; rw [h1.out]; rw [tk_yes h1.out] at k1)
          | (go_at_call 218; (with_reducible refine (take_any 45 k1 (by omega)).mono ?_); rintro e3 w3 ⟨rfl, q1, q2⟩; rw [hB.out]; rw [tk_no hB.out] at q1)
          | (go_at_call 218; (with_reducible refine (take_any 43 q1 (by omega)).mono ?_); rintro e4 w4 ⟨rfl, q3, q4⟩; rw [HA.out] at q3))
        have R0 : Rdr _ p s a := q3
        have O0 := (k2.trans q2).trans q4
        have d1 := R0.c1
        go_quiet (fail)
        go_wp2_with fail
        go_loopw [5] (fun pv wr => ∃ j z0 : Nat, pv = .int .i64 z0 ∧ j ≤ 4 ∧ z0 < 10 ^ j ∧ Rdr wr p s (a + j) ∧ dN s (4 - j) (a + j) + j = dN s 4 a ∧ dV s (4 - j) (a + j) z0 = dV s 4 a 0 ∧ Only (fun k => k = p) w wr) (fun _ wr => 100 - atOf wr p)
        case atStart => exact ⟨0, 0, rfl, by omega, by decide, R0.drewN _, rfl, rfl, O0.drewN _⟩
        case round =>
          clear d1 R0 O0
          obtain ⟨j, z0, rfl, hj, hz0, R, hN, hV, hO⟩ := hrel
          have hle := R.le
          have hs64 := R.sz
          have hat := R.at
          have d1 := R.c1
          have hz4 : z0 < 10000 := Nat.lt_of_lt_of_le hz0 (Nat.le_trans (Nat.pow_le_pow_right (by decide) hj) (by decide))
          by_cases hj4 : j < 4
          · have hjI : (a : Int) + (j : Int) < (a : Int) + 4 := by omega
            obtain ⟨f, hf⟩ : ∃ f, 4 - j = f + 1 := ⟨3 - j, by omega⟩
            rw [hf] at hN hV
            by_cases hd : dgb s (a + j) = true
            · obtain ⟨hlt, hb9⟩ := dgb_lt hd
              rw [dN_yes hd] at hN
              rw [dV_yes hd] at hV
              obtain ⟨m, hm⟩ : ∃ m, m = qbyt s (a + j) - 48 := ⟨_, rfl⟩
              rw [← hm] at hV hb9
              have HM : Hid (m = qbyt s (a + j) - 48) := hm
              have HN : Hid (dN s f (a + j + 1) + 1 + j = dN s 4 a) := hN
              have HV : Hid (dV s f (a + j + 1) (z0 * 10 + m) = dV s 4 a 0) := hV
              have HZ : Hid (z0 < 10 ^ j) := hz0
              have HO : Hid (Only (fun k => k = p) w wr) := hO
              clear hm hN hV hO hz0
              go_wp2_with (go_at_call 260; (with_reducible refine (digit_yes R hd).mono ?_); rintro e5 w5 ⟨rfl, j1, j2⟩; rw [← HM.out])
              go_roundw
              case rel =>
                refine ⟨j + 1, z0 * 10 + m, congrArg (Value.int .i64) (by omega), by omega, ?_, j1, ?_, ?_, HO.out.trans j2⟩
                · have := HZ.out; rw [Nat.pow_succ]; omega
                · rw [show 4 - (j + 1) = f by omega]; have := HN.out; show dN s f (a + j + 1) + (j + 1) = _; omega
                · rw [show 4 - (j + 1) = f by omega]; exact HV.out
              case measure => rw [hat, j1.at]; omega
            · have hd0 : dgb s (a + j) = false := by simpa using hd
              rw [dN_no hd0] at hN
              rw [dV_no hd0] at hV
              have HN : Hid (dN s 4 a = j) := by show _ = _; omega
              have HV : Hid (dV s 4 a 0 = z0) := hV.symm
              have HO : Hid (Only (fun k => k = p) w wr) := hO
              clear hN hV hO hz0 hj4
              go_wp2_with (go_at_call 260; (with_reducible refine (digit_no R hd0).mono ?_); rintro e5 w5 ⟨rfl, j1, j2⟩; have g1 := j1.c1)
              go_quiet (fail)
              go_wp2
              go_ret2
              rw [HN.out, HV.out]
              exact ⟨exp_fin (by first | rfl | omega | (simp; omega) | simp) (decide_eq_decide.2 (by omega)), j1.drewN _, (HO.out.trans j2).drewN _⟩
          · have e4 : j = 4 := by omega
            subst e4
            have hjI : ¬ (a : Int) + ((4 : Nat) : Int) < (a : Int) + 4 := by omega
            have HN : Hid (dN s 4 a = 4) := by show _ = _; have : dN s (4 - 4) (a + 4) = 0 := rfl; omega
            have HV : Hid (dV s 4 a 0 = z0) := by show _ = _; rw [← hV]; rfl
            have HO : Hid (Only (fun k => k = p) w wr) := hO
            clear hN hV hO hz0
            go_wp2_with fail
            go_quiet (fail)
            go_wp2
            go_ret2
            rw [HN.out, HV.out]
            exact ⟨exp_fin (by first | rfl | omega | (simp; omega) | simp) (decide_eq_decide.2 (by omega)), R.drewN _, HO.out.drewN _⟩
      · have hB : Hid (tkb s (i + 1) 45 = true) := HG.out
        have HA : Hid (i + 2 = a) := by
          show _ = _
          have := HA.out
          unfold x3_Qxp at this
          rw [HG.out] at this
          exact this
        clear ha hneg
        go_enter Tryz.func240, Tryz.ntmps240
        go_wp2_with (first
          | (go_at_call 218; (with_reducible refine (take_any 101 h (by omega)).mono ?_); rintro e1 w1 ⟨rfl, k1, k2⟩; rw [h1.out]; rw [tk_yes h1.out] at k1)
          | (go_at_call 218; (with_reducible refine (take_any 45 k1 (by omega)).mono ?_); rintro e3 w3 ⟨rfl, q1, q2⟩; rw [hB.out]; rw [tk_yes hB.out] at q1))
        have R0 : Rdr _ p s a := HA.out ▸ q1
        have O0 := k2.trans q2
        have d1 := R0.c1
        go_quiet (fail)
        go_wp2_with fail
        go_loopw [5] (fun pv wr => ∃ j z0 : Nat, pv = .int .i64 z0 ∧ j ≤ 4 ∧ z0 < 10 ^ j ∧ Rdr wr p s (a + j) ∧ dN s (4 - j) (a + j) + j = dN s 4 a ∧ dV s (4 - j) (a + j) z0 = dV s 4 a 0 ∧ Only (fun k => k = p) w wr) (fun _ wr => 100 - atOf wr p)
        case atStart => exact ⟨0, 0, rfl, by omega, by decide, R0.drewN _, rfl, rfl, O0.drewN _⟩
        case round =>
          clear d1 R0 O0
          obtain ⟨j, z0, rfl, hj, hz0, R, hN, hV, hO⟩ := hrel
          have hle := R.le
          have hs64 := R.sz
          have hat := R.at
          have d1 := R.c1
          have hz4 : z0 < 10000 := Nat.lt_of_lt_of_le hz0 (Nat.le_trans (Nat.pow_le_pow_right (by decide) hj) (by decide))
          by_cases hj4 : j < 4
          · have hjI : (a : Int) + (j : Int) < (a : Int) + 4 := by omega
            obtain ⟨f, hf⟩ : ∃ f, 4 - j = f + 1 := ⟨3 - j, by omega⟩
            rw [hf] at hN hV
            by_cases hd : dgb s (a + j) = true
            · obtain ⟨hlt, hb9⟩ := dgb_lt hd
              rw [dN_yes hd] at hN
              rw [dV_yes hd] at hV
              obtain ⟨m, hm⟩ : ∃ m, m = qbyt s (a + j) - 48 := ⟨_, rfl⟩
              rw [← hm] at hV hb9
              have HM : Hid (m = qbyt s (a + j) - 48) := hm
              have HN : Hid (dN s f (a + j + 1) + 1 + j = dN s 4 a) := hN
              have HV : Hid (dV s f (a + j + 1) (z0 * 10 + m) = dV s 4 a 0) := hV
              have HZ : Hid (z0 < 10 ^ j) := hz0
              have HO : Hid (Only (fun k => k = p) w wr) := hO
              clear hm hN hV hO hz0
              go_wp2_with (go_at_call 260; (with_reducible refine (digit_yes R hd).mono ?_); rintro e5 w5 ⟨rfl, j1, j2⟩; rw [← HM.out])
              go_roundw
              case rel =>
                refine ⟨j + 1, z0 * 10 + m, congrArg (Value.int .i64) (by omega), by omega, ?_, j1, ?_, ?_, HO.out.trans j2⟩
                · have := HZ.out; rw [Nat.pow_succ]; omega
                · rw [show 4 - (j + 1) = f by omega]; have := HN.out; show dN s f (a + j + 1) + (j + 1) = _; omega
                · rw [show 4 - (j + 1) = f by omega]; exact HV.out
              case measure => rw [hat, j1.at]; omega
            · have hd0 : dgb s (a + j) = false := by simpa using hd
              rw [dN_no hd0] at hN
              rw [dV_no hd0] at hV
              have HN : Hid (dN s 4 a = j) := by show _ = _; omega
              have HV : Hid (dV s 4 a 0 = z0) := hV.symm
              have HO : Hid (Only (fun k => k = p) w wr) := hO
              clear hN hV hO hz0 hj4
              go_wp2_with (go_at_call 260; (with_reducible refine (digit_no R hd0).mono ?_); rintro e5 w5 ⟨rfl, j1, j2⟩; have g1 := j1.c1)
              go_quiet (fail)
              go_wp2
              go_ret2
              rw [HN.out, HV.out]
              exact ⟨exp_fin (by first | rfl | omega | (simp; omega) | simp) (decide_eq_decide.2 (by omega)), j1.drewN _, (HO.out.trans j2).drewN _⟩
          · have e4 : j = 4 := by omega
            subst e4
            have hjI : ¬ (a : Int) + ((4 : Nat) : Int) < (a : Int) + 4 := by omega
            have HN : Hid (dN s 4 a = 4) := by show _ = _; have : dN s (4 - 4) (a + 4) = 0 := rfl; omega
            have HV : Hid (dV s 4 a 0 = z0) := by show _ = _; rw [← hV]; rfl
            have HO : Hid (Only (fun k => k = p) w wr) := hO
            clear hN hV hO hz0
            go_wp2_with fail
            go_quiet (fail)
            go_wp2
            go_ret2
            rw [HN.out, HV.out]
            exact ⟨exp_fin (by first | rfl | omega | (simp; omega) | simp) (decide_eq_decide.2 (by omega)), R.drewN _, HO.out.drewN _⟩
    · have h1 : Hid (tkb s i 101 = false) := h1'
      have h2 : Hid (tkb s i 69 = true) := h2'
      clear h1' h2'
      cases neg
      · have hB : Hid (tkb s (i + 1) 45 = false) := HG.out
        have HA : Hid (tk s (i + 1) 43 = a) := by
          show _ = _
          have := HA.out
          unfold x3_Qxp at this
          rw [HG.out] at this
          exact this
        clear ha hneg
        go_enter Tryz.func240, Tryz.ntmps240
        go_wp2_with (first
          | (go_at_call 218; (with_reducible refine (take_any 101 h (by omega)).mono ?_); rintro e1 w1 ⟨rfl, k1, k2⟩; rw [h1.out]; rw [tk_no h1.out] at k1)
          | (go_at_call 218; (with_reducible refine (take_any 69 k1 (by omega)).mono ?_); rintro e2 w2 ⟨rfl, k3, k4⟩; rw [h2.out]; rw [tk_yes h2.out] at k3)
          | (go_at_call 218; (with_reducible refine (take_any 45 k3 (by omega)).mono ?_); rintro e3 w3 ⟨rfl, q1, q2⟩; rw [hB.out]; rw [tk_no hB.out] at q1)
          | (go_at_call 218; (with_reducible refine (take_any 43 q1 (by omega)).mono ?_); rintro e4 w4 ⟨rfl, q3, q4⟩; rw [HA.out] at q3))
        have R0 : Rdr _ p s a := q3
        have O0 := ((k2.trans k4).trans q2).trans q4
        have d1 := R0.c1
        go_quiet (fail)
        go_wp2_with fail
        go_loopw [5] (fun pv wr => ∃ j z0 : Nat, pv = .int .i64 z0 ∧ j ≤ 4 ∧ z0 < 10 ^ j ∧ Rdr wr p s (a + j) ∧ dN s (4 - j) (a + j) + j = dN s 4 a ∧ dV s (4 - j) (a + j) z0 = dV s 4 a 0 ∧ Only (fun k => k = p) w wr) (fun _ wr => 100 - atOf wr p)
        case atStart => exact ⟨0, 0, rfl, by omega, by decide, R0.drewN _, rfl, rfl, O0.drewN _⟩
        case round =>
          clear d1 R0 O0
          obtain ⟨j, z0, rfl, hj, hz0, R, hN, hV, hO⟩ := hrel
          have hle := R.le
          have hs64 := R.sz
          have hat := R.at
          have d1 := R.c1
          have hz4 : z0 < 10000 := Nat.lt_of_lt_of_le hz0 (Nat.le_trans (Nat.pow_le_pow_right (by decide) hj) (by decide))
          by_cases hj4 : j < 4
          · have hjI : (a : Int) + (j : Int) < (a : Int) + 4 := by omega
            obtain ⟨f, hf⟩ : ∃ f, 4 - j = f + 1 := ⟨3 - j, by omega⟩
            rw [hf] at hN hV
            by_cases hd : dgb s (a + j) = true
            · obtain ⟨hlt, hb9⟩ := dgb_lt hd
              rw [dN_yes hd] at hN
              rw [dV_yes hd] at hV
              obtain ⟨m, hm⟩ : ∃ m, m = qbyt s (a + j) - 48 := ⟨_, rfl⟩
              rw [← hm] at hV hb9
              have HM : Hid (m = qbyt s (a + j) - 48) := hm
              have HN : Hid (dN s f (a + j + 1) + 1 + j = dN s 4 a) := hN
              have HV : Hid (dV s f (a + j + 1) (z0 * 10 + m) = dV s 4 a 0) := hV
              have HZ : Hid (z0 < 10 ^ j) := hz0
              have HO : Hid (Only (fun k => k = p) w wr) := hO
              clear hm hN hV hO hz0
              go_wp2_with (go_at_call 260; (with_reducible refine (digit_yes R hd).mono ?_); rintro e5 w5 ⟨rfl, j1, j2⟩; rw [← HM.out])
              go_roundw
              case rel =>
                refine ⟨j + 1, z0 * 10 + m, congrArg (Value.int .i64) (by omega), by omega, ?_, j1, ?_, ?_, HO.out.trans j2⟩
                · have := HZ.out; rw [Nat.pow_succ]; omega
                · rw [show 4 - (j + 1) = f by omega]; have := HN.out; show dN s f (a + j + 1) + (j + 1) = _; omega
                · rw [show 4 - (j + 1) = f by omega]; exact HV.out
              case measure => rw [hat, j1.at]; omega
            · have hd0 : dgb s (a + j) = false := by simpa using hd
              rw [dN_no hd0] at hN
              rw [dV_no hd0] at hV
              have HN : Hid (dN s 4 a = j) := by show _ = _; omega
              have HV : Hid (dV s 4 a 0 = z0) := hV.symm
              have HO : Hid (Only (fun k => k = p) w wr) := hO
              clear hN hV hO hz0 hj4
              go_wp2_with (go_at_call 260; (with_reducible refine (digit_no R hd0).mono ?_); rintro e5 w5 ⟨rfl, j1, j2⟩; have g1 := j1.c1)
              go_quiet (fail)
              go_wp2
              go_ret2
              rw [HN.out, HV.out]
              exact ⟨exp_fin (by first | rfl | omega | (simp; omega) | simp) (decide_eq_decide.2 (by omega)), j1.drewN _, (HO.out.trans j2).drewN _⟩
          · have e4 : j = 4 := by omega
            subst e4
            have hjI : ¬ (a : Int) + ((4 : Nat) : Int) < (a : Int) + 4 := by omega
            have HN : Hid (dN s 4 a = 4) := by show _ = _; have : dN s (4 - 4) (a + 4) = 0 := rfl; omega
            have HV : Hid (dV s 4 a 0 = z0) := by show _ = _; rw [← hV]; rfl
            have HO : Hid (Only (fun k => k = p) w wr) := hO
            clear hN hV hO hz0
            go_wp2_with fail
            go_quiet (fail)
            go_wp2
            go_ret2
            rw [HN.out, HV.out]
            exact ⟨exp_fin (by first | rfl | omega | (simp; omega) | simp) (decide_eq_decide.2 (by omega)), R.drewN _, HO.out.drewN _⟩
      · have hB : Hid (tkb s (i + 1) 45 = true) := HG.out
        have HA : Hid (i + 2 = a) := by
          show _ = _
          have := HA.out
          unfold x3_Qxp at this
          rw [HG.out] at this
          exact this
        clear ha hneg
        go_enter Tryz.func240, Tryz.ntmps240
        go_wp2_with (first
          | (go_at_call 218; (with_reducible refine (take_any 101 h (by omega)).mono ?_); rintro e1 w1 ⟨rfl, k1, k2⟩; rw [h1.out]; rw [tk_no h1.out] at k1)
          | (go_at_call 218; (with_reducible refine (take_any 69 k1 (by omega)).mono ?_); rintro e2 w2 ⟨rfl, k3, k4⟩; rw [h2.out]; rw [tk_yes h2.out] at k3)
          | (go_at_call 218; (with_reducible refine (take_any 45 k3 (by omega)).mono ?_); rintro e3 w3 ⟨rfl, q1, q2⟩; rw [hB.out]; rw [tk_yes hB.out] at q1))
        have R0 : Rdr _ p s a := HA.out ▸ q1
        have O0 := (k2.trans k4).trans q2
        have d1 := R0.c1
        go_quiet (fail)
        go_wp2_with fail
        go_loopw [5] (fun pv wr => ∃ j z0 : Nat, pv = .int .i64 z0 ∧ j ≤ 4 ∧ z0 < 10 ^ j ∧ Rdr wr p s (a + j) ∧ dN s (4 - j) (a + j) + j = dN s 4 a ∧ dV s (4 - j) (a + j) z0 = dV s 4 a 0 ∧ Only (fun k => k = p) w wr) (fun _ wr => 100 - atOf wr p)
        case atStart => exact ⟨0, 0, rfl, by omega, by decide, R0.drewN _, rfl, rfl, O0.drewN _⟩
        case round =>
          clear d1 R0 O0
          obtain ⟨j, z0, rfl, hj, hz0, R, hN, hV, hO⟩ := hrel
          have hle := R.le
          have hs64 := R.sz
          have hat := R.at
          have d1 := R.c1
          have hz4 : z0 < 10000 := Nat.lt_of_lt_of_le hz0 (Nat.le_trans (Nat.pow_le_pow_right (by decide) hj) (by decide))
          by_cases hj4 : j < 4
          · have hjI : (a : Int) + (j : Int) < (a : Int) + 4 := by omega
            obtain ⟨f, hf⟩ : ∃ f, 4 - j = f + 1 := ⟨3 - j, by omega⟩
            rw [hf] at hN hV
            by_cases hd : dgb s (a + j) = true
            · obtain ⟨hlt, hb9⟩ := dgb_lt hd
              rw [dN_yes hd] at hN
              rw [dV_yes hd] at hV
              obtain ⟨m, hm⟩ : ∃ m, m = qbyt s (a + j) - 48 := ⟨_, rfl⟩
              rw [← hm] at hV hb9
              have HM : Hid (m = qbyt s (a + j) - 48) := hm
              have HN : Hid (dN s f (a + j + 1) + 1 + j = dN s 4 a) := hN
              have HV : Hid (dV s f (a + j + 1) (z0 * 10 + m) = dV s 4 a 0) := hV
              have HZ : Hid (z0 < 10 ^ j) := hz0
              have HO : Hid (Only (fun k => k = p) w wr) := hO
              clear hm hN hV hO hz0
              go_wp2_with (go_at_call 260; (with_reducible refine (digit_yes R hd).mono ?_); rintro e5 w5 ⟨rfl, j1, j2⟩; rw [← HM.out])
              go_roundw
              case rel =>
                refine ⟨j + 1, z0 * 10 + m, congrArg (Value.int .i64) (by omega), by omega, ?_, j1, ?_, ?_, HO.out.trans j2⟩
                · have := HZ.out; rw [Nat.pow_succ]; omega
                · rw [show 4 - (j + 1) = f by omega]; have := HN.out; show dN s f (a + j + 1) + (j + 1) = _; omega
                · rw [show 4 - (j + 1) = f by omega]; exact HV.out
              case measure => rw [hat, j1.at]; omega
            · have hd0 : dgb s (a + j) = false := by simpa using hd
              rw [dN_no hd0] at hN
              rw [dV_no hd0] at hV
              have HN : Hid (dN s 4 a = j) := by show _ = _; omega
              have HV : Hid (dV s 4 a 0 = z0) := hV.symm
              have HO : Hid (Only (fun k => k = p) w wr) := hO
              clear hN hV hO hz0 hj4
              go_wp2_with (go_at_call 260; (with_reducible refine (digit_no R hd0).mono ?_); rintro e5 w5 ⟨rfl, j1, j2⟩; have g1 := j1.c1)
              go_quiet (fail)
              go_wp2
              go_ret2
              rw [HN.out, HV.out]
              exact ⟨exp_fin (by first | rfl | omega | (simp; omega) | simp) (decide_eq_decide.2 (by omega)), j1.drewN _, (HO.out.trans j2).drewN _⟩
          · have e4 : j = 4 := by omega
            subst e4
            have hjI : ¬ (a : Int) + ((4 : Nat) : Int) < (a : Int) + 4 := by omega
            have HN : Hid (dN s 4 a = 4) := by show _ = _; have : dN s (4 - 4) (a + 4) = 0 := rfl; omega
            have HV : Hid (dV s 4 a 0 = z0) := by show _ = _; rw [← hV]; rfl
            have HO : Hid (Only (fun k => k = p) w wr) := hO
            clear hN hV hO hz0
            go_wp2_with fail
            go_quiet (fail)
            go_wp2
            go_ret2
            rw [HN.out, HV.out]
            exact ⟨exp_fin (by first | rfl | omega | (simp; omega) | simp) (decide_eq_decide.2 (by omega)), R.drewN _, HO.out.drewN _⟩
  · have hs0 : xS s i = false := by simpa using hs
    have e1 : xP s i = 0 := if_neg hs
    have e2 : xO s i = true := if_neg hs
    have e3 : xA s i = i := if_neg hs
    rw [e1, e2, e3]
    unfold xS at hs0
    have h1 : Hid (tkb s i 101 = false) := (Bool.or_eq_false_iff.1 hs0).1
    have h2 : Hid (tkb s i 69 = false) := (Bool.or_eq_false_iff.1 hs0).2
    clear e1 e2 e3 hs hs0
    go_enter Tryz.func240, Tryz.ntmps240
    go_wp2_with (first
      | (go_at_call 218; (with_reducible refine (take_any 101 h (by omega)).mono ?_); rintro e1 w1 ⟨rfl, k1, k2⟩; rw [h1.out]; rw [tk_no h1.out] at k1)
      | (go_at_call 218; (with_reducible refine (take_any 69 k1 (by omega)).mono ?_); rintro e2 w2 ⟨rfl, q1, q2⟩; rw [h2.out]; rw [tk_no h2.out] at q1))
    go_ret2
    exact ⟨rfl, q1, k2.trans q2⟩

end Go.Proofs.YtmpkcioeodlbcaaGreatDoor
namespace Go.Proofs.YtmpkcioeodlbcaaGreatDoor
open RowKit
def pfV (c : Nat) : Int := if c = 102 then (-15) else if c = 112 then (-12) else if c = 110 then (-9) else if c = 117 then (-6) else if c = 109 then (-3) else if c = 107 then 3 else if c = 77 then 6 else if c = 71 then 9 else if c = 84 then 12 else 0
def pfB (c : Nat) : Bool := c == 102 || c == 112 || c == 110 || c == 117 || c == 109 || c == 107 || c == 77 || c == 71 || c == 84
theorem pf_bound (c : Nat) : -15 ≤ pfV c ∧ pfV c ≤ 12 := by
  unfold pfV
  repeat' split
  all_goals omega
set_option maxRecDepth 10000 in
set_option maxHeartbeats 1000000 in
theorem Prefix_any (c : Nat) (w : World) : Calls Tryz.prog 262 #[.int .u8 c] w fun e w' => e = .returned (.tuple #[.int .i64 (pfV c), .bool (pfB c)]) ∧ w' = w := by
  by_cases h0 : c = 102
  · subst h0
    go_enter Tryz.func262, Tryz.ntmps262
    go_wp2
    go_ret2
    exact ⟨rfl, rfl⟩
  by_cases h1 : c = 112
  · subst h1
    go_enter Tryz.func262, Tryz.ntmps262
    go_wp2
    go_ret2
    exact ⟨rfl, rfl⟩
  by_cases h2 : c = 110
  · subst h2
    go_enter Tryz.func262, Tryz.ntmps262
    go_wp2
    go_ret2
    exact ⟨rfl, rfl⟩
  by_cases h3 : c = 117
  · subst h3
    go_enter Tryz.func262, Tryz.ntmps262
    go_wp2
    go_ret2
    exact ⟨rfl, rfl⟩
  by_cases h4 : c = 109
  · subst h4
    go_enter Tryz.func262, Tryz.ntmps262
    go_wp2
    go_ret2
    exact ⟨rfl, rfl⟩
  by_cases h5 : c = 107
  · subst h5
    go_enter Tryz.func262, Tryz.ntmps262
    go_wp2
    go_ret2
    exact ⟨rfl, rfl⟩
  by_cases h6 : c = 77
  · subst h6
    go_enter Tryz.func262, Tryz.ntmps262
    go_wp2
    go_ret2
    exact ⟨rfl, rfl⟩
  by_cases h7 : c = 71
  · subst h7
    go_enter Tryz.func262, Tryz.ntmps262
    go_wp2
    go_ret2
    exact ⟨rfl, rfl⟩
  by_cases h8 : c = 84
  · subst h8
    go_enter Tryz.func262, Tryz.ntmps262
    go_wp2
    go_ret2
    exact ⟨rfl, rfl⟩
  have g0 : ((c : Int) == 102) = false := by simp; omega
  have g1 : ((c : Int) == 112) = false := by simp; omega
  have g2 : ((c : Int) == 110) = false := by simp; omega
  have g3 : ((c : Int) == 117) = false := by simp; omega
  have g4 : ((c : Int) == 109) = false := by simp; omega
  have g5 : ((c : Int) == 107) = false := by simp; omega
  have g6 : ((c : Int) == 77) = false := by simp; omega
  have g7 : ((c : Int) == 71) = false := by simp; omega
  have g8 : ((c : Int) == 84) = false := by simp; omega
  have e1 : pfV c = 0 := by unfold pfV; rw [if_neg h0, if_neg h1, if_neg h2, if_neg h3, if_neg h4, if_neg h5, if_neg h6, if_neg h7, if_neg h8]
  have e2 : pfB c = false := by simp [pfB, h0, h1, h2, h3, h4, h5, h6, h7, h8]
  rw [e1, e2]
  clear e1 e2
  go_enter Tryz.func262, Tryz.ntmps262
  go_wp2
  go_ret2
  exact ⟨rfl, rfl⟩
/-- what prefix reads -/
def pxB (s : ByteArray) (i : Nat) : Bool := decide (i < s.size) && pfB (qbyt s i)
def pxV (s : ByteArray) (i : Nat) : Int := if i < s.size then pfV (qbyt s i) else 0
def pxA (s : ByteArray) (i : Nat) : Nat := if pxB s i = true then i + 1 else i
set_option maxRecDepth 10000 in
set_option maxHeartbeats 1000000 in
theorem prefix_any {w : World} {p i : Nat} {s : ByteArray} (h : Rdr w p s i) :
    Calls Tryz.prog 241 #[.pointer (some ⟨p, 0, none⟩)] w fun e w' => e = .returned (.int .i64 (pxV s i)) ∧ Rdr w' p s (pxA s i) ∧ Only (fun k => k = p) w w' := by
  have c0 := h.c0
  have c1 := h.c1
  have fz := h.fz
  have hl := h.le
  have hs := h.sz
  by_cases hi : i < s.size
  · have hne : ((i : Int) == (s.size : Int)) = false := by simp; omega
    have hg := qbyt_get hi
    have e1 : pxV s i = pfV (qbyt s i) := if_pos hi
    rw [e1]
    have HP : Hid (pxB s i = pfB (qbyt s i)) := by show _ = _; unfold pxB; rw [decide_eq_true hi, Bool.true_and]
    obtain ⟨b, hb⟩ : ∃ b, b = qbyt s i := ⟨_, rfl⟩
    rw [← hb] at hg HP ⊢
    clear e1 hb
    obtain ⟨pv, hpv⟩ : ∃ pv, pfV b = pv := ⟨_, rfl⟩
    have HV : Hid (pfV b = pv) := hpv
    rw [hpv]
    clear hpv
    cases hpb : pfB b
    · have HB : Hid (pfB b = false) := hpb
      have e2 : pxA s i = i := if_neg (by rw [HP.out, hpb]; decide)
      rw [e2]
      clear hpb e2
      go_enter Tryz.func241, Tryz.ntmps241
      go_wp2_with fail
      go_quiet (fail)
      go_wp2_with fail
      go_region_with (go_at_call 262; (with_reducible refine (Prefix_any b _).mono ?_); rintro e1 w1 ⟨rfl, rfl⟩; rw [HV.out, HB.out])
      all_goals
        go_wp2
        go_ret
        exact ⟨rfl, h.drewN (nq + 1), (Only.refl _ w).drewN (nq + 1)⟩
    · have HB : Hid (pfB b = true) := hpb
      have e2 : pxA s i = i + 1 := if_pos (by rw [HP.out, hpb])
      rw [e2]
      clear hpb e2
      go_enter Tryz.func241, Tryz.ntmps241
      go_wp2_with fail
      go_quiet (fail)
      go_wp2_with fail
      go_region_with (go_at_call 262; (with_reducible refine (Prefix_any b _).mono ?_); rintro e1 w1 ⟨rfl, rfl⟩; rw [HV.out, HB.out])
      all_goals
        go_wp2
        go_ret
        obtain ⟨R, O⟩ := h.step hi (nq + 1)
        exact ⟨rfl, R, O⟩
  · have e1 : pxV s i = 0 := if_neg hi
    have e2 : pxA s i = i := if_neg (by unfold pxB; rw [decide_eq_false hi, Bool.false_and]; decide)
    have e : i = s.size := by omega
    rw [e1, e2]
    clear e1 e2
    subst e
    go_enter Tryz.func241, Tryz.ntmps241
    go_wp2_with fail
    go_quiet (fail)
    go_wp2
    go_ret
    exact ⟨rfl, h.drewN nq, (Only.refl _ w).drewN nq⟩

end Go.Proofs.YtmpkcioeodlbcaaGreatDoor
