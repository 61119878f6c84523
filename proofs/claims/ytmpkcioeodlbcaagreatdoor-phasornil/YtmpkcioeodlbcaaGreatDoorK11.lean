/-
  Kept of Qw.
-/
import Derived.Test.YtmpkcioeodlbcaaGreatDoorK10
namespace Go.Proofs.YtmpkcioeodlbcaaGreatDoor
open RowKit
/-- 53 digits of a ratio below 1, rounded -/
def fr53 (r o : Nat) : Nat := r * 9007199254740992 / o + (rUp (r * 9007199254740992 % o) o (r * 9007199254740992 / o)).toNat
theorem dig_step (A o : Nat) : A * 2 / o = 2 * (A / o) + A % o * 2 / o ∧ A * 2 % o = A % o * 2 % o := by
  have e : A * 2 = A % o * 2 + 2 * (A / o) * o := by
    have := Nat.div_add_mod A o
    have h2 : 2 * (A / o) * o = 2 * (o * (A / o)) := by rw [Nat.mul_assoc, Nat.mul_comm (A / o)]
    omega
  rcases Nat.eq_zero_or_pos o with h | h
  · subst h; simp
  · constructor
    · rw [e, Nat.add_mul_div_right _ _ h, Nat.add_comm]
    · rw [e, Nat.add_mul_mod_self_right]
theorem dig_lt {r o i : Nat} (h : r < o) (hi : i ≤ 53) : r * 2 ^ i / o < 9007199254740992 := by
  have h1 : r * 2 ^ i / o < 2 ^ i := by
    rw [Nat.div_lt_iff_lt_mul (by omega), Nat.mul_comm]
    exact Nat.mul_lt_mul_of_pos_left h (Nat.two_pow_pos i)
  have h2 : 2 ^ i ≤ 2 ^ 53 := Nat.pow_le_pow_right (by decide) hi
  have h3 : (2 : Nat) ^ 53 = 9007199254740992 := by decide
  omega
theorem wh_one (w : World) (base x L : Nat) (hb : base ≤ w.heap.size) (hx : 0 < x) (hx2 : x < 18446744073709551616) (hL : 1 ≤ L) : Wh (w.alloc (.cells #[.int .u64 (x : Int)] 47)) base (.slice (some ⟨w.heap.size, 0, none⟩) 1 1) x L :=
  ⟨[x], World.ownsRow_lit w _ 1 hb (by unfold maxLen; omega) rfl, fun y hy => by simp at hy; omega, fun _ => by simp; omega, by simp [qn], hL⟩
/-- a power of ten, as it is taken -/
def clp (pw : Int) : Int := if pw < -400 then -400 else if 400 < pw then 400 else pw
theorem clp_le (pw : Int) : -400 ≤ clp pw ∧ clp pw ≤ 400 := by unfold clp; split <;> (try split) <;> omega
def pP (z : Nat) (c : Int) : Nat := z * 10 ^ c.toNat
def pQ (c : Int) : Nat := 10 ^ (-c).toNat
theorem qnear_zero (base L : Nat) (v : Value) (pw : Int) (w : World) (hv : Wh w base v 0 L) : Calls Tryz.prog 220 #[v, .int .i64 pw] w fun e w' => e = .returned (.int .u64 0) ∧ w' = w := by
  obtain ⟨ws, h1, h2, h3, h4, h5⟩ := hv
  have hl := (qn_pos h3).1 h4
  obtain ⟨ao, ca, rfl, _⟩ := own_rd h1
  rw [hl]
  go_enter Tryz.func220, Tryz.ntmps220
  go_wp2
  go_ret
  exact ⟨rfl, rfl⟩
theorem qtensI {v : Value} {base z L : Nat} (n : Nat) {N : Int} {w : World} (hv : Wh w base v z L) (hN : N = ((n : Nat) : Int)) (hL : L + n ≤ 100000) (hbase : base ≤ w.heap.size) :
    Calls Tryz.prog 242 #[v, .int .i64 N] w fun e w' => ∃ v', e = .returned v' ∧ Wh w' base v' (z * 10 ^ n) (L + n) ∧ Only (Ob v) w w' ∧ (∀ k, Ob v' k → Ob v k ∨ w.heap.size ≤ k) := by
  subst hN
  exact qtens_any v base z L n w hv hL hbase
set_option maxRecDepth 10000 in
set_option maxHeartbeats 2000000 in
theorem qnear_any (base z L : Nat) (v : Value) (pw : Int) (w : World) (hv : Wh w base v z L) (hz : 0 < z) (hL1 : 1 ≤ L) (hL : L ≤ 100) (hbase : base ≤ w.heap.size) :
    Calls Tryz.prog 220 #[v, .int .i64 pw] w fun e w' => ∃ bw D r' o' : Nat, e = .returned (.int .u64 bw) ∧ Good (pP z (clp pw)) (pQ (clp pw)) r' o' D ∧ (bw : Int) = (((D * 4503599627370496) % 18446744073709551616 + fr53 r' o') % 18446744073709551616 : Nat) ∧ Below base w w' := by
  have hlt : ∀ k, Ob v k → k < w.heap.size := fun k hk => (hv.lt hk).1
  obtain ⟨sa, sn, sc, rfl⟩ := hv.sl
  have hsn : sn ≠ 0 := by
    intro h0
    obtain ⟨ws, h1, h2, h3, h4, h5⟩ := hv
    obtain ⟨ao, ca, he, _⟩ := own_rd h1
    simp only [Value.slice.injEq] at he
    have := (qn_pos h3).2 (by omega)
    omega
  have hsI : ((sn : Int) == 0) = false := by simp; omega
  obtain ⟨c, hc⟩ : ∃ c, c = clp pw := ⟨_, rfl⟩
  have hcb := clp_le pw
  rw [← hc] at hcb ⊢
  obtain ⟨W0, hW0⟩ : ∃ W0, W0 = (w.alloc (.cells #[.int .u64 1] 47)).alloc (.cells #[.slice sa sn sc, .slice (some ⟨w.heap.size, 0, none⟩) 1 1] 318) := ⟨_, rfl⟩
  have OW : Below base w W0 := by rw [hW0]; exact ((Below.refl base w).alloc hbase _).alloc (by simp; omega) _
  have R0 : Rt W0 (w.heap.size + 1) 318 #[.slice sa sn sc, .slice (some ⟨w.heap.size, 0, none⟩) 1 1] base (.slice sa sn sc) (.slice (some ⟨w.heap.size, 0, none⟩) 1 1) z 1 L := by
    rw [hW0]
    refine ⟨?_, rfl, rfl, wh_alloc (wh_alloc hv _) _, wh_alloc (wh_one w base 1 L hbase (by omega) (by omega) hL1) _, fun k hk hk2 => ?_, fun hk => ?_, fun hk => ?_, ?_⟩
    · have := heap_alloc_new (w.alloc (.cells #[.int .u64 1] 47)) (.cells #[.slice sa sn sc, .slice (some ⟨w.heap.size, 0, none⟩) 1 1] 318)
      simpa using this
    · have := hlt k hk; simp [Ob, Value.ownBlock] at hk2; omega
    · have := hlt _ hk; omega
    · simp [Ob, Value.ownBlock] at hk
    · simp; omega
  have c0 := R0.cell0
  have c1 := R0.cell1
  rcases (by omega : pw < -400 ∨ (-400 ≤ pw ∧ pw < 0) ∨ (0 ≤ pw ∧ pw ≤ 400) ∨ 400 < pw) with h1 | h1 | h1 | h1
  · obtain ⟨n, hn⟩ : ∃ n : Nat, n = 400 := ⟨_, rfl⟩
    have hc' : Hid (c = -(n : Int)) := by show _ = _; rw [hc, hn]; unfold clp; rw [if_pos h1]; rfl
    have hn4 : n ≤ 400 := by omega
    have h1I : ¬ (400 : Int) < -400 := by decide
    go_enter Tryz.func220, Tryz.ntmps220
    go_wp2_with fail
    rw [← hW0]
    clear hW0
    go_wp2_with (first
      | (go_at_call 242; (with_reducible refine (qtensI n R0.wo (by omega) (by omega) R0.bs).mono ?_); rintro e1 w1 ⟨v1, rfl, k1, k2, k3⟩; obtain ⟨kc0, kc1, kf0, kf1⟩ := R0.cells k2 R0.po; obtain ⟨s1, s2, s3, rfl⟩ := k1.sl))
    obtain ⟨R1, O1⟩ := R0.put1 k2 k1 k3 (by omega)
    have B1 := OW.trans (O1.below base R0.bs (fun i hi => by rcases hi with hi | hi; exact (R0.wo.lt hi).2; omega))
    obtain ⟨W1, hW1⟩ : ∃ W1, W1 = w1.setCell ⟨w.heap.size + 1, 1, none⟩ (.slice s1 s2 s3) := ⟨_, rfl⟩
    rw [← hW1] at R1 B1 ⊢
    clear hW1 kc0 kc1 kf0 kf1 O1 k1 k2 k3 c0 c1 R0 OW
    go_wp2_with (go_at_call 243; (with_reducible refine (qbelow_any R1 hz (Nat.mul_pos (by omega) (Nat.pow_pos (by omega))) (by omega)).mono ?_); rintro e2 w2 ⟨D, rfl, hD, cur2, vr2, vo2, r2, o2, HG, R2, O2⟩)
    have B2 := B1.trans (O2.below base R1.bs (fun i hi => by rcases hi with hi | hi | hi; exact (R1.wr.lt hi).2; exact (R1.wo.lt hi).2; omega))
    have HG' : Hid (Good (z) (1 * 10 ^ n) r2 o2 D) := HG
    have hro : r2 < o2 := HG.1
    clear HG O2 B1 R1
    go_loopw [7, 32] (fun fv iv wq => ∃ (i f : Nat) (vr : Value) (cur : Array Value), fv = .int .u64 f ∧ iv = .int .i64 i ∧ i ≤ 53 ∧ f = r2 * 2 ^ i / o2 ∧ Rt wq (w.heap.size + 1) 318 cur base vr vo2 (r2 * 2 ^ i % o2) o2 2000 ∧ Below base w wq) (fun _ iv _ => 53 - (intOf iv).toNat)
    case atStart => exact ⟨0, 0, vr2, cur2, rfl, rfl, by omega, by rw [Nat.pow_zero, Nat.mul_one, Nat.div_eq_of_lt hro], by rw [Nat.pow_zero, Nat.mul_one, Nat.mod_eq_of_lt hro]; exact R2.mono' (by omega), B2⟩
    case round =>
      clear R2 B2
      obtain ⟨i, f, vr, cur, rfl, rfl, hi, hf, R, B⟩ := hrel
      have hfl := dig_lt hro hi
      rw [← hf] at hfl
      have HF : Hid (f = r2 * 2 ^ i / o2) := hf
      have hrl : r2 * 2 ^ i % o2 < o2 := Nat.mod_lt _ (by omega)
      have HB : Hid (Below base w wr) := B
      clear hf B
      by_cases hi3 : i < 53
      · have hiI : (i : Int) < 53 := by omega
        go_wp2_with (go_at_call 244; (with_reducible refine (qnext_any R hrl (b := 2) (by omega) (by omega) (by omega) (by omega)).mono ?_); rintro e3 w3 ⟨dd, rfl, hdd', v3, R3, O3, F3⟩; have hdd : Hid (dd = r2 * 2 ^ i % o2 * 2 / o2) := hdd'; clear hdd')
        have B3 := HB.out.trans (O3.below base R.bs (fun i hi => by rcases hi with hi | hi; exact (R.wr.lt hi).2; omega))
        obtain ⟨E1, E2⟩ := dig_step (r2 * 2 ^ i) o2
        have hd2 : dd < 2 := by rw [hdd.out]; exact next_lt hrl (Nat.div_mul_le_self _ _) (by omega)
        rw [Nat.mul_assoc, ← Nat.pow_succ] at E1 E2
        rw [← E2] at R3
        go_roundw
        case rel =>
          refine ⟨i + 1, 2 * f + dd, v3, _, ?_, by go_num, by omega, by rw [E1, HF.out, hdd.out], R3, B3⟩
          first | rfl | (refine congrArg (Value.int .u64) ?_; rw [IntKind.wrap_u64]; omega) | (refine congrArg (Value.int .u64) ?_; omega)
        case measure => simp [intOf]; omega
      · have e53 : i = 53 := by omega
        subst e53
        have hiI : ¬ ((53 : Nat) : Int) < 53 := by omega
        have ho2 : 0 < o2 := by omega
        obtain ⟨up, hup⟩ : ∃ up, up = rUp (r2 * 2 ^ 53 % o2) o2 f := ⟨_, rfl⟩
        have HU : Hid (rUp (r2 * 2 ^ 53 % o2) o2 f = up) := hup.symm
        clear hup
        cases up
        all_goals
          go_wp2_with (go_at_call 245; (with_reducible refine (qround_any R (Nat.le_of_lt hrl) ho2 (by omega) (by omega)).mono ?_); rintro e4 w4 ⟨rfl, B4⟩; rw [HU.out])
          go_ret
          have B5 := HB.out.trans (⟨B4.os, B4.tape, B4.output, B4.size, fun k hk => B4.block k (Nat.lt_of_lt_of_le hk R.bs)⟩ : Below base wr w4)
          have HF' := HF.out
          have HU' := HU.out
          rw [show (2 : Nat) ^ 53 = 9007199254740992 by decide] at HF' HU'
          refine ⟨((D * 4503599627370496) % 18446744073709551616 + fr53 r2 o2) % 18446744073709551616, D, r2, o2, congrArg Ending.returned (congrArg (Value.int .u64) ?_), ?_, rfl, B5⟩
          · unfold fr53
            rw [← HF', HU', IntKind.wrap_u64, IntKind.wrap_u64]
            simp only [Bool.toNat_false, Bool.toNat_true]
            omega
          · rw [hc'.out]
            unfold pP pQ
            have := HG'.out
            simpa using this
  · obtain ⟨n, hn⟩ : ∃ n : Nat, pw = -(n : Int) := ⟨(-pw).toNat, by omega⟩
    subst hn
    have hc' : Hid (c = -(n : Int)) := by show _ = _; rw [hc]; unfold clp; rw [if_neg (by omega), if_neg (by omega)]
    have hn4 : n ≤ 400 := by omega
    have h2 : ¬ -(n : Int) < -400 := by omega
    have h3 : ¬ 400 < -(n : Int) := by omega
    have h4 : -(n : Int) < 0 := by omega
    go_enter Tryz.func220, Tryz.ntmps220
    go_wp2_with fail
    rw [← hW0]
    clear hW0
    go_wp2_with (first
      | (go_at_call 242; (with_reducible refine (qtensI n R0.wo (by omega) (by omega) R0.bs).mono ?_); rintro e1 w1 ⟨v1, rfl, k1, k2, k3⟩; obtain ⟨kc0, kc1, kf0, kf1⟩ := R0.cells k2 R0.po; obtain ⟨s1, s2, s3, rfl⟩ := k1.sl))
    obtain ⟨R1, O1⟩ := R0.put1 k2 k1 k3 (by omega)
    have B1 := OW.trans (O1.below base R0.bs (fun i hi => by rcases hi with hi | hi; exact (R0.wo.lt hi).2; omega))
    obtain ⟨W1, hW1⟩ : ∃ W1, W1 = w1.setCell ⟨w.heap.size + 1, 1, none⟩ (.slice s1 s2 s3) := ⟨_, rfl⟩
    rw [← hW1] at R1 B1 ⊢
    clear hW1 kc0 kc1 kf0 kf1 O1 k1 k2 k3 c0 c1 R0 OW
    go_wp2_with (go_at_call 243; (with_reducible refine (qbelow_any R1 hz (Nat.mul_pos (by omega) (Nat.pow_pos (by omega))) (by omega)).mono ?_); rintro e2 w2 ⟨D, rfl, hD, cur2, vr2, vo2, r2, o2, HG, R2, O2⟩)
    have B2 := B1.trans (O2.below base R1.bs (fun i hi => by rcases hi with hi | hi | hi; exact (R1.wr.lt hi).2; exact (R1.wo.lt hi).2; omega))
    have HG' : Hid (Good (z) (1 * 10 ^ n) r2 o2 D) := HG
    have hro : r2 < o2 := HG.1
    clear HG O2 B1 R1
    go_loopw [7, 32] (fun fv iv wq => ∃ (i f : Nat) (vr : Value) (cur : Array Value), fv = .int .u64 f ∧ iv = .int .i64 i ∧ i ≤ 53 ∧ f = r2 * 2 ^ i / o2 ∧ Rt wq (w.heap.size + 1) 318 cur base vr vo2 (r2 * 2 ^ i % o2) o2 2000 ∧ Below base w wq) (fun _ iv _ => 53 - (intOf iv).toNat)
    case atStart => exact ⟨0, 0, vr2, cur2, rfl, rfl, by omega, by rw [Nat.pow_zero, Nat.mul_one, Nat.div_eq_of_lt hro], by rw [Nat.pow_zero, Nat.mul_one, Nat.mod_eq_of_lt hro]; exact R2.mono' (by omega), B2⟩
    case round =>
      clear R2 B2
      obtain ⟨i, f, vr, cur, rfl, rfl, hi, hf, R, B⟩ := hrel
      have hfl := dig_lt hro hi
      rw [← hf] at hfl
      have HF : Hid (f = r2 * 2 ^ i / o2) := hf
      have hrl : r2 * 2 ^ i % o2 < o2 := Nat.mod_lt _ (by omega)
      have HB : Hid (Below base w wr) := B
      clear hf B
      by_cases hi3 : i < 53
      · have hiI : (i : Int) < 53 := by omega
        go_wp2_with (go_at_call 244; (with_reducible refine (qnext_any R hrl (b := 2) (by omega) (by omega) (by omega) (by omega)).mono ?_); rintro e3 w3 ⟨dd, rfl, hdd', v3, R3, O3, F3⟩; have hdd : Hid (dd = r2 * 2 ^ i % o2 * 2 / o2) := hdd'; clear hdd')
        have B3 := HB.out.trans (O3.below base R.bs (fun i hi => by rcases hi with hi | hi; exact (R.wr.lt hi).2; omega))
        obtain ⟨E1, E2⟩ := dig_step (r2 * 2 ^ i) o2
        have hd2 : dd < 2 := by rw [hdd.out]; exact next_lt hrl (Nat.div_mul_le_self _ _) (by omega)
        rw [Nat.mul_assoc, ← Nat.pow_succ] at E1 E2
        rw [← E2] at R3
        go_roundw
        case rel =>
          refine ⟨i + 1, 2 * f + dd, v3, _, ?_, by go_num, by omega, by rw [E1, HF.out, hdd.out], R3, B3⟩
          first | rfl | (refine congrArg (Value.int .u64) ?_; rw [IntKind.wrap_u64]; omega) | (refine congrArg (Value.int .u64) ?_; omega)
        case measure => simp [intOf]; omega
      · have e53 : i = 53 := by omega
        subst e53
        have hiI : ¬ ((53 : Nat) : Int) < 53 := by omega
        have ho2 : 0 < o2 := by omega
        obtain ⟨up, hup⟩ : ∃ up, up = rUp (r2 * 2 ^ 53 % o2) o2 f := ⟨_, rfl⟩
        have HU : Hid (rUp (r2 * 2 ^ 53 % o2) o2 f = up) := hup.symm
        clear hup
        cases up
        all_goals
          go_wp2_with (go_at_call 245; (with_reducible refine (qround_any R (Nat.le_of_lt hrl) ho2 (by omega) (by omega)).mono ?_); rintro e4 w4 ⟨rfl, B4⟩; rw [HU.out])
          go_ret
          have B5 := HB.out.trans (⟨B4.os, B4.tape, B4.output, B4.size, fun k hk => B4.block k (Nat.lt_of_lt_of_le hk R.bs)⟩ : Below base wr w4)
          have HF' := HF.out
          have HU' := HU.out
          rw [show (2 : Nat) ^ 53 = 9007199254740992 by decide] at HF' HU'
          refine ⟨((D * 4503599627370496) % 18446744073709551616 + fr53 r2 o2) % 18446744073709551616, D, r2, o2, congrArg Ending.returned (congrArg (Value.int .u64) ?_), ?_, rfl, B5⟩
          · unfold fr53
            rw [← HF', HU', IntKind.wrap_u64, IntKind.wrap_u64]
            simp only [Bool.toNat_false, Bool.toNat_true]
            omega
          · rw [hc'.out]
            unfold pP pQ
            have := HG'.out
            simpa using this
  · obtain ⟨n, hn⟩ : ∃ n : Nat, pw = (n : Int) := ⟨pw.toNat, by omega⟩
    subst hn
    have hc' : Hid (c = (n : Int)) := by show _ = _; rw [hc]; unfold clp; rw [if_neg (by omega), if_neg (by omega)]
    have hn4 : n ≤ 400 := by omega
    have h2 : ¬ (n : Int) < -400 := by omega
    have h3 : ¬ 400 < (n : Int) := by omega
    have h4 : ¬ (n : Int) < 0 := by omega
    go_enter Tryz.func220, Tryz.ntmps220
    go_wp2_with fail
    rw [← hW0]
    clear hW0
    go_wp2_with (first
      | (go_at_call 242; (with_reducible refine (qtensI n R0.wr (by omega) (by omega) R0.bs).mono ?_); rintro e1 w1 ⟨v1, rfl, k1, k2, k3⟩; obtain ⟨kc0, kc1, kf0, kf1⟩ := R0.cells k2 R0.pr; obtain ⟨s1, s2, s3, rfl⟩ := k1.sl))
    obtain ⟨R1, O1⟩ := R0.put k2 k1 k3 (by omega)
    have B1 := OW.trans (O1.below base R0.bs (fun i hi => by rcases hi with hi | hi; exact (R0.wr.lt hi).2; omega))
    obtain ⟨W1, hW1⟩ : ∃ W1, W1 = w1.setCell ⟨w.heap.size + 1, 0, none⟩ (.slice s1 s2 s3) := ⟨_, rfl⟩
    rw [← hW1] at R1 B1 ⊢
    clear hW1 kc0 kc1 kf0 kf1 O1 k1 k2 k3 c0 c1 R0 OW
    go_wp2_with (go_at_call 243; (with_reducible refine (qbelow_any R1 (Nat.mul_pos hz (Nat.pow_pos (by omega))) (by omega) (by omega)).mono ?_); rintro e2 w2 ⟨D, rfl, hD, cur2, vr2, vo2, r2, o2, HG, R2, O2⟩)
    have B2 := B1.trans (O2.below base R1.bs (fun i hi => by rcases hi with hi | hi | hi; exact (R1.wr.lt hi).2; exact (R1.wo.lt hi).2; omega))
    have HG' : Hid (Good (z * 10 ^ n) (1) r2 o2 D) := HG
    have hro : r2 < o2 := HG.1
    clear HG O2 B1 R1
    go_loopw [7, 32] (fun fv iv wq => ∃ (i f : Nat) (vr : Value) (cur : Array Value), fv = .int .u64 f ∧ iv = .int .i64 i ∧ i ≤ 53 ∧ f = r2 * 2 ^ i / o2 ∧ Rt wq (w.heap.size + 1) 318 cur base vr vo2 (r2 * 2 ^ i % o2) o2 2000 ∧ Below base w wq) (fun _ iv _ => 53 - (intOf iv).toNat)
    case atStart => exact ⟨0, 0, vr2, cur2, rfl, rfl, by omega, by rw [Nat.pow_zero, Nat.mul_one, Nat.div_eq_of_lt hro], by rw [Nat.pow_zero, Nat.mul_one, Nat.mod_eq_of_lt hro]; exact R2.mono' (by omega), B2⟩
    case round =>
      clear R2 B2
      obtain ⟨i, f, vr, cur, rfl, rfl, hi, hf, R, B⟩ := hrel
      have hfl := dig_lt hro hi
      rw [← hf] at hfl
      have HF : Hid (f = r2 * 2 ^ i / o2) := hf
      have hrl : r2 * 2 ^ i % o2 < o2 := Nat.mod_lt _ (by omega)
      have HB : Hid (Below base w wr) := B
      clear hf B
      by_cases hi3 : i < 53
      · have hiI : (i : Int) < 53 := by omega
        go_wp2_with (go_at_call 244; (with_reducible refine (qnext_any R hrl (b := 2) (by omega) (by omega) (by omega) (by omega)).mono ?_); rintro e3 w3 ⟨dd, rfl, hdd', v3, R3, O3, F3⟩; have hdd : Hid (dd = r2 * 2 ^ i % o2 * 2 / o2) := hdd'; clear hdd')
        have B3 := HB.out.trans (O3.below base R.bs (fun i hi => by rcases hi with hi | hi; exact (R.wr.lt hi).2; omega))
        obtain ⟨E1, E2⟩ := dig_step (r2 * 2 ^ i) o2
        have hd2 : dd < 2 := by rw [hdd.out]; exact next_lt hrl (Nat.div_mul_le_self _ _) (by omega)
        rw [Nat.mul_assoc, ← Nat.pow_succ] at E1 E2
        rw [← E2] at R3
        go_roundw
        case rel =>
          refine ⟨i + 1, 2 * f + dd, v3, _, ?_, by go_num, by omega, by rw [E1, HF.out, hdd.out], R3, B3⟩
          first | rfl | (refine congrArg (Value.int .u64) ?_; rw [IntKind.wrap_u64]; omega) | (refine congrArg (Value.int .u64) ?_; omega)
        case measure => simp [intOf]; omega
      · have e53 : i = 53 := by omega
        subst e53
        have hiI : ¬ ((53 : Nat) : Int) < 53 := by omega
        have ho2 : 0 < o2 := by omega
        obtain ⟨up, hup⟩ : ∃ up, up = rUp (r2 * 2 ^ 53 % o2) o2 f := ⟨_, rfl⟩
        have HU : Hid (rUp (r2 * 2 ^ 53 % o2) o2 f = up) := hup.symm
        clear hup
        cases up
        all_goals
          go_wp2_with (go_at_call 245; (with_reducible refine (qround_any R (Nat.le_of_lt hrl) ho2 (by omega) (by omega)).mono ?_); rintro e4 w4 ⟨rfl, B4⟩; rw [HU.out])
          go_ret
          have B5 := HB.out.trans (⟨B4.os, B4.tape, B4.output, B4.size, fun k hk => B4.block k (Nat.lt_of_lt_of_le hk R.bs)⟩ : Below base wr w4)
          have HF' := HF.out
          have HU' := HU.out
          rw [show (2 : Nat) ^ 53 = 9007199254740992 by decide] at HF' HU'
          refine ⟨((D * 4503599627370496) % 18446744073709551616 + fr53 r2 o2) % 18446744073709551616, D, r2, o2, congrArg Ending.returned (congrArg (Value.int .u64) ?_), ?_, rfl, B5⟩
          · unfold fr53
            rw [← HF', HU', IntKind.wrap_u64, IntKind.wrap_u64]
            simp only [Bool.toNat_false, Bool.toNat_true]
            omega
          · rw [hc'.out]
            unfold pP pQ
            have := HG'.out
            simpa using this
  · obtain ⟨n, hn⟩ : ∃ n : Nat, n = 400 := ⟨_, rfl⟩
    have hc' : Hid (c = (n : Int)) := by show _ = _; rw [hc, hn]; unfold clp; rw [if_neg (by omega), if_pos h1]; rfl
    have hn4 : n ≤ 400 := by omega
    have h2 : ¬ pw < -400 := by omega
    go_enter Tryz.func220, Tryz.ntmps220
    go_wp2_with fail
    rw [← hW0]
    clear hW0
    go_wp2_with (first
      | (go_at_call 242; (with_reducible refine (qtensI n R0.wr (by omega) (by omega) R0.bs).mono ?_); rintro e1 w1 ⟨v1, rfl, k1, k2, k3⟩; obtain ⟨kc0, kc1, kf0, kf1⟩ := R0.cells k2 R0.pr; obtain ⟨s1, s2, s3, rfl⟩ := k1.sl))
    obtain ⟨R1, O1⟩ := R0.put k2 k1 k3 (by omega)
    have B1 := OW.trans (O1.below base R0.bs (fun i hi => by rcases hi with hi | hi; exact (R0.wr.lt hi).2; omega))
    obtain ⟨W1, hW1⟩ : ∃ W1, W1 = w1.setCell ⟨w.heap.size + 1, 0, none⟩ (.slice s1 s2 s3) := ⟨_, rfl⟩
    rw [← hW1] at R1 B1 ⊢
    clear hW1 kc0 kc1 kf0 kf1 O1 k1 k2 k3 c0 c1 R0 OW
    go_wp2_with (go_at_call 243; (with_reducible refine (qbelow_any R1 (Nat.mul_pos hz (Nat.pow_pos (by omega))) (by omega) (by omega)).mono ?_); rintro e2 w2 ⟨D, rfl, hD, cur2, vr2, vo2, r2, o2, HG, R2, O2⟩)
    have B2 := B1.trans (O2.below base R1.bs (fun i hi => by rcases hi with hi | hi | hi; exact (R1.wr.lt hi).2; exact (R1.wo.lt hi).2; omega))
    have HG' : Hid (Good (z * 10 ^ n) (1) r2 o2 D) := HG
    have hro : r2 < o2 := HG.1
    clear HG O2 B1 R1
    go_loopw [7, 32] (fun fv iv wq => ∃ (i f : Nat) (vr : Value) (cur : Array Value), fv = .int .u64 f ∧ iv = .int .i64 i ∧ i ≤ 53 ∧ f = r2 * 2 ^ i / o2 ∧ Rt wq (w.heap.size + 1) 318 cur base vr vo2 (r2 * 2 ^ i % o2) o2 2000 ∧ Below base w wq) (fun _ iv _ => 53 - (intOf iv).toNat)
    case atStart => exact ⟨0, 0, vr2, cur2, rfl, rfl, by omega, by rw [Nat.pow_zero, Nat.mul_one, Nat.div_eq_of_lt hro], by rw [Nat.pow_zero, Nat.mul_one, Nat.mod_eq_of_lt hro]; exact R2.mono' (by omega), B2⟩
    case round =>
      clear R2 B2
      obtain ⟨i, f, vr, cur, rfl, rfl, hi, hf, R, B⟩ := hrel
      have hfl := dig_lt hro hi
      rw [← hf] at hfl
      have HF : Hid (f = r2 * 2 ^ i / o2) := hf
      have hrl : r2 * 2 ^ i % o2 < o2 := Nat.mod_lt _ (by omega)
      have HB : Hid (Below base w wr) := B
      clear hf B
      by_cases hi3 : i < 53
      · have hiI : (i : Int) < 53 := by omega
        go_wp2_with (go_at_call 244; (with_reducible refine (qnext_any R hrl (b := 2) (by omega) (by omega) (by omega) (by omega)).mono ?_); rintro e3 w3 ⟨dd, rfl, hdd', v3, R3, O3, F3⟩; have hdd : Hid (dd = r2 * 2 ^ i % o2 * 2 / o2) := hdd'; clear hdd')
        have B3 := HB.out.trans (O3.below base R.bs (fun i hi => by rcases hi with hi | hi; exact (R.wr.lt hi).2; omega))
        obtain ⟨E1, E2⟩ := dig_step (r2 * 2 ^ i) o2
        have hd2 : dd < 2 := by rw [hdd.out]; exact next_lt hrl (Nat.div_mul_le_self _ _) (by omega)
        rw [Nat.mul_assoc, ← Nat.pow_succ] at E1 E2
        rw [← E2] at R3
        go_roundw
        case rel =>
          refine ⟨i + 1, 2 * f + dd, v3, _, ?_, by go_num, by omega, by rw [E1, HF.out, hdd.out], R3, B3⟩
          first | rfl | (refine congrArg (Value.int .u64) ?_; rw [IntKind.wrap_u64]; omega) | (refine congrArg (Value.int .u64) ?_; omega)
        case measure => simp [intOf]; omega
      · have e53 : i = 53 := by omega
        subst e53
        have hiI : ¬ ((53 : Nat) : Int) < 53 := by omega
        have ho2 : 0 < o2 := by omega
        obtain ⟨up, hup⟩ : ∃ up, up = rUp (r2 * 2 ^ 53 % o2) o2 f := ⟨_, rfl⟩
        have HU : Hid (rUp (r2 * 2 ^ 53 % o2) o2 f = up) := hup.symm
        clear hup
        cases up
        all_goals
          go_wp2_with (go_at_call 245; (with_reducible refine (qround_any R (Nat.le_of_lt hrl) ho2 (by omega) (by omega)).mono ?_); rintro e4 w4 ⟨rfl, B4⟩; rw [HU.out])
          go_ret
          have B5 := HB.out.trans (⟨B4.os, B4.tape, B4.output, B4.size, fun k hk => B4.block k (Nat.lt_of_lt_of_le hk R.bs)⟩ : Below base wr w4)
          have HF' := HF.out
          have HU' := HU.out
          rw [show (2 : Nat) ^ 53 = 9007199254740992 by decide] at HF' HU'
          refine ⟨((D * 4503599627370496) % 18446744073709551616 + fr53 r2 o2) % 18446744073709551616, D, r2, o2, congrArg Ending.returned (congrArg (Value.int .u64) ?_), ?_, rfl, B5⟩
          · unfold fr53
            rw [← HF', HU', IntKind.wrap_u64, IntKind.wrap_u64]
            simp only [Bool.toNat_false, Bool.toNat_true]
            omega
          · rw [hc'.out]
            unfold pP pQ
            have := HG'.out
            simpa using this

end Go.Proofs.YtmpkcioeodlbcaaGreatDoor
