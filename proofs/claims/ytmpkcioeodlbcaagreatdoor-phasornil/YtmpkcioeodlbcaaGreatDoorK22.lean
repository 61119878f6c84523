/-
  Several texts in one: Qz Qbt Qpa.
-/
import Derived.Test.YtmpkcioeodlbcaaGreatDoorK16
import Derived.Test.YtmpkcioeodlbcaaGreatDoorK21
import Derived.Test.YtmpkcioeodlbcaaGreatDoorK18
namespace Go.Proofs.YtmpkcioeodlbcaaGreatDoor
open Fl
theorem K74_split : (2 : Nat) ^ K74 = 2 ^ E21 * 9007199254740992 := by
  rw [show (9007199254740992 : Nat) = 2 ^ 53 by decide, ← Nat.pow_add]
  exact congrArg (fun k => (2 : Nat) ^ k) (show K74 = E21 + 53 from rfl)
theorem good_scale {P Q r o D : Nat} (h : Good P Q r o D) : P * 2 ^ K74 * o = r * 9007199254740992 * (Q * 2 ^ D) := by
  have e := h.2.2.1
  rw [K74_split]
  generalize 2 ^ E21 = y at *
  generalize 2 ^ D = x at *
  generalize (9007199254740992 : Nat) = k
  calc P * (y * k) * o = (P * o * y) * k := by simp only [Nat.mul_comm, Nat.mul_left_comm]
    _ = (r * Q * x) * k := by rw [← e]
    _ = r * k * (Q * x) := by simp only [Nat.mul_comm, Nat.mul_left_comm]
theorem good_near {P Q r o D : Nat} (h : Good P Q r o D) (hP : 0 < P) (hQ : 0 < Q) : nD P Q = D ∧ nR P Q = fr53 r o := by
  have hro := h.1
  have ho : 0 < o := by omega
  have hc : 0 < Q * 2 ^ D := Nat.mul_pos hQ (Nat.two_pow_pos D)
  have hs := good_scale h
  have e1 : nN P Q D = r * 9007199254740992 / o := by
    unfold nN
    rw [← Nat.mul_div_mul_right _ _ ho, hs, Nat.mul_comm (Q * 2 ^ D) o, Nat.mul_div_mul_right _ _ hc]
  have e2 : rdQ (P * 2 ^ K74) (Q * 2 ^ D) = rdQ (r * 9007199254740992) o := by
    rw [← rdQ_up (P * 2 ^ K74) (Q * 2 ^ D) o ho, hs, Nat.mul_comm (Q * 2 ^ D) o, rdQ_up _ _ _ hc]
  have p1 : nN P Q D < 9007199254740992 := by
    rw [e1, Nat.div_lt_iff_lt_mul ho, Nat.mul_comm]
    exact Nat.mul_lt_mul_of_pos_left hro (by decide)
  have p2 : 4503599627370496 ≤ nN P Q D ∨ D = 0 := by
    rcases h.2.1 with h1 | h1
    · left
      rw [e1, Nat.le_div_iff_mul_le ho]
      have : 4503599627370496 * o ≤ 4503599627370496 * (2 * r) := Nat.mul_le_mul_left _ h1
      omega
    · exact .inr h1
  obtain ⟨p3, p4⟩ := nD_props hP hQ
  have hD : nD P Q = D := unit_one p3 p4 p1 p2
  refine ⟨hD, ?_⟩
  rw [nR_rdQ, hD, e2]
  unfold rdQ fr53 rUp
  generalize r * 9007199254740992 = A
  by_cases hc : o < 2 * (A % o) ∨ o = 2 * (A % o) ∧ A / o % 2 = 1
  · rw [if_pos hc, decide_eq_true hc]; rfl
  · rw [if_neg hc, decide_eq_false hc]; rfl

end Go.Proofs.YtmpkcioeodlbcaaGreatDoor
namespace Go.Proofs.YtmpkcioeodlbcaaGreatDoor
open Fl
def K130 : Nat := 130
def K530 : Nat := 530
def K400 : Nat := 400
theorem ten_two (n : Nat) : 10 ^ n ≤ 2 ^ (4 * n) := by
  rw [Nat.pow_mul]; exact Nat.pow_le_pow_left (by decide) n
theorem cZ_lt (s : ByteArray) (i : Nat) : cZ s i < 10 ^ K130 := by
  have h1 := dV_bound (s := s) 65 i 0
  have h2 := dV_bound (s := s) 65 (cI2 s i) (dV s 65 i 0)
  have e : (10 : Nat) ^ K130 = 10 ^ 65 * 10 ^ 65 := by rw [← Nat.pow_add]; exact congrArg (fun k => (10 : Nat) ^ k) (show K130 = 65 + 65 from rfl)
  rw [e]
  rw [Nat.zero_add, Nat.one_mul] at h1
  have hp : 0 < (10 : Nat) ^ 65 := Nat.pow_pos (by decide)
  generalize (10 : Nat) ^ 65 = T at *
  have h3 : (dV s 65 i 0 + 1) * T ≤ T * T := Nat.mul_le_mul_right _ h1
  have h4 : T * 1 ≤ T * T := Nat.mul_le_mul_left _ hp
  unfold cZ
  split <;> omega
theorem pP_nbits {z : Nat} {c : Int} (hz : z < 10 ^ K130) (hc : c ≤ 400) : nbits (pP z c) ≤ 4 * K530 := by
  apply nbits_le
  refine Nat.lt_of_lt_of_le ?_ (ten_two K530)
  have h1 : 10 ^ c.toNat ≤ 10 ^ K400 := Nat.pow_le_pow_right (by decide) (show c.toNat ≤ 400 by omega)
  have e : (10 : Nat) ^ K530 = 10 ^ K130 * 10 ^ K400 := by rw [← Nat.pow_add]; exact congrArg (fun k => (10 : Nat) ^ k) (show K530 = K130 + K400 from rfl)
  unfold pP
  rw [e]
  have hp : 0 < (10 : Nat) ^ c.toNat := Nat.pow_pos (by decide)
  exact Nat.lt_of_lt_of_le (Nat.mul_lt_mul_of_pos_right hz hp) (Nat.mul_le_mul_left _ h1)
theorem nD_small {P Q : Nat} (h : nbits P ≤ 4 * K530) : nD P Q ≤ 3200 := by
  have e : 4 * K530 = 2120 := rfl
  unfold nD nU
  split <;> omega
theorem nR_small {P Q : Nat} (hP : 0 < P) (hQ : 0 < Q) : nR P Q ≤ 9007199254740992 := by
  obtain ⟨h, _⟩ := nD_props hP hQ
  unfold nR
  split <;> omega
/-- the float of z times ten to the power c, by its bits; from the infinity's on there is none -/
def flt (z : Nat) (c : Int) : Nat := if z = 0 then 0 else ldW (nD (pP z c) (pQ c)) (nR (pP z c) (pQ c))
theorem near_bits {z bw r o D : Nat} {c : Int} (hz : 0 < z) (hzb : z < 10 ^ K130) (hc : c ≤ 400) (h : Good (pP z c) (pQ c) r o D) (hb : bw = ((D * 4503599627370496) % 18446744073709551616 + fr53 r o) % 18446744073709551616) :
    bw < 18446744073709551616 ∧ (bw < 9218868437227405312 → flt z c = bw) ∧ (9218868437227405312 ≤ bw → flt z c = 9218868437227405312) := by
  have hP : 0 < pP z c := Nat.mul_pos hz (Nat.pow_pos (by decide))
  have hQ : 0 < pQ c := Nat.pow_pos (by decide)
  obtain ⟨e1, e2⟩ := good_near h hP hQ
  have b1 := nD_small (Q := pQ c) (pP_nbits hzb hc)
  have b2 := nR_small hP hQ
  have ef : flt z c = ldW (nD (pP z c) (pQ c)) (nR (pP z c) (pQ c)) := if_neg (by omega)
  rw [e1] at b1
  rw [e2] at b2
  rw [ef, e1, e2]
  unfold ldW
  generalize fr53 r o = y at *
  refine ⟨by omega, fun hlt => ?_, fun hge => ?_⟩
  · rw [if_pos (by omega)]; omega
  · rw [if_neg (by omega)]

end Go.Proofs.YtmpkcioeodlbcaaGreatDoor
namespace Go.Proofs.YtmpkcioeodlbcaaGreatDoor
open RowKit
/-- where the digits begin -/
def pI (s : ByteArray) : Nat := tk s 0 45
def pBad (s : ByteArray) : Bool := !cOk s (pI s) || decide (cEnd s (pI s) < s.size)
def pF (s : ByteArray) : Nat := flt (cZ s (pI s)) (clp (cP s (pI s)))
/-- the float's bits, the error, the place -/
def paW (s : ByteArray) : Nat := if 64 < s.size then 0 else if pBad s = true then 0 else if 9218868437227405312 ≤ pF s then 0 else if tkb s 0 45 = true then pF s + 9223372036854775808 else pF s
def paE (s : ByteArray) : Int := if 64 < s.size then 3 else if pBad s = true then 150 else if 9218868437227405312 ≤ pF s then 6 else 0
def paA (s : ByteArray) : Int := if 64 < s.size then -1 else if pBad s = true then (cEnd s (pI s) : Int) else if 9218868437227405312 ≤ pF s then -1 else 0
theorem qor_sign {b : Nat} (h : b < 9223372036854775808) : bits .or .u64 (b : Int) 9223372036854775808 = ((b + 9223372036854775808 : Nat) : Int) := by
  have e := bits_or_u64_nat b 9223372036854775808 (by omega) (by omega)
  have e2 : b ||| 9223372036854775808 = b + 9223372036854775808 := by
    have := Nat.two_pow_add_eq_or_of_lt (i := 63) (b := b) (by omega) 1
    rw [Nat.mul_one] at this
    rw [Nat.or_comm, Nat.add_comm]; exact this.symm
  rw [e2] at e
  exact e
/-- the fault's cells -/
structure Flc (w : World) (f : Nat) (a b : Value) : Prop where
  c0 : w.cell? ⟨f, 0, none⟩ = some a
  c1 : w.cell? ⟨f, 1, none⟩ = some b
  z0 : w.frozen? ⟨f, 0, none⟩ = false
  z1 : w.frozen? ⟨f, 1, none⟩ = false
theorem Flc.later {w w' : World} {f B : Nat} {a b : Value} (h : Flc w f a b) (hb : Below B w w') (hf : f < B) : Flc w' f a b :=
  ⟨(hb.cell (by exact hf)).trans h.c0, (hb.cell (by exact hf)).trans h.c1, (hb.frozen (by exact hf)).trans h.z0, (hb.frozen (by exact hf)).trans h.z1⟩
theorem Flc.only {w w' : World} {f p : Nat} {a b : Value} (h : Flc w f a b) (hb : Only (fun k => k = p) w w') (hf : f ≠ p) (hl : f < w.heap.size) : Flc w' f a b :=
  ⟨(World.cell?_of_block (hb.block f hl hf)).trans h.c0, (World.cell?_of_block (hb.block f hl hf)).trans h.c1, (World.frozen?_of_block (hb.block f hl hf)).trans h.z0, (World.frozen?_of_block (hb.block f hl hf)).trans h.z1⟩
theorem flc_new (w : World) (a b : Value) (c : Obj) : Flc ((w.alloc (.cells #[a, b] 69)).alloc c) w.heap.size a b := by
  refine ⟨?_, ?_, ?_, ?_⟩
  · rw [World.cell?_alloc_lt _ _ _ (by simp)]; exact World.cell?_alloc_new w _ _ 0
  · rw [World.cell?_alloc_lt _ _ _ (by simp)]; exact World.cell?_alloc_new w _ _ 1
  · simp
  · simp
theorem Flc.put {w : World} {f : Nat} {a b : Value} (h : Flc w f a b) (x y : Value) : ((w.setCell ⟨f, 0, none⟩ x).setCell ⟨f, 1, none⟩ y).cell? ⟨f, 0, none⟩ = some x ∧ ((w.setCell ⟨f, 0, none⟩ x).setCell ⟨f, 1, none⟩ y).cell? ⟨f, 1, none⟩ = some y := by
  refine ⟨?_, ?_⟩
  · rw [other_cell_Gm _ (by simp) _]; exact World.cell?_setCell_same _ _ _ h.c0
  · exact World.cell?_setCell_same _ _ _ (u := b) (by rw [other_cell_Gm _ (by simp) _]; exact h.c1)
theorem below_put {w w' : World} {f n : Nat} (h : Below n w w') (hf : n ≤ f) (x y : Value) : Below n w ((w'.setCell ⟨f, 0, none⟩ x).setCell ⟨f, 1, none⟩ y) :=
  (h.setCell (p := ⟨f, 0, none⟩) hf _).setCell (p := ⟨f, 1, none⟩) hf _
theorem Wh.by {w : World} {base z L k : Nat} {v : Value} (h : Wh w base v z L) (hz : z < 18446744073709551616 ^ k) : Wh w base v z k := by
  obtain ⟨ws, h1, h2, h3, h4, h5⟩ := h
  refine ⟨ws, h1, h2, h3, h4, ?_⟩
  rcases Nat.lt_or_ge k ws.length with hl | hl
  · exfalso
    have h6 := qn_ge h3 (by omega)
    have h7 : 18446744073709551616 ^ k ≤ 18446744073709551616 ^ (ws.length - 1) := Nat.pow_le_pow_right (by decide) (by omega)
    omega
  · exact hl
def K9 : Nat := 9
theorem cZ_nine (s : ByteArray) (i : Nat) : cZ s i < 18446744073709551616 ^ K9 := by
  refine Nat.lt_of_lt_of_le (cZ_lt s i) (Nat.le_trans (ten_two K130) ?_)
  rw [pow64]
  exact Nat.pow_le_pow_right (by decide) (show 4 * K130 ≤ 64 * K9 by decide)
set_option maxRecDepth 10000 in
set_option maxHeartbeats 2000000 in
theorem Parse_any (s : ByteArray) (w : World) :
    Calls Tryz.prog 193 #[.string s] w fun e w' => e = .returned (.tuple #[.float .f64 (paW s), .agg #[.int .i64 (paE s), .int .i64 (paA s)]]) ∧ Below w.heap.size w w' := by
  by_cases h64 : 64 < s.size
  · have e1 : paW s = 0 := if_pos h64
    have e2 : paE s = 3 := if_pos h64
    have e3 : paA s = -1 := if_pos h64
    have hI : (64 : Int) < s.size := by omega
    rw [e1, e2, e3]
    clear e1 e2 e3
    go_enter Tryz.func193, Tryz.ntmps193
    go_wp2
    refine bodyPost_ret (by simp [results, Tryz.results193, go_sem]; try rfl) rfl ?_
    exact ⟨rfl, (Below.refl _ w).alloc (Nat.le_refl _) _⟩
  · have hI : ¬ (64 : Int) < s.size := by omega
    obtain ⟨W0, hW0⟩ : ∃ W0, W0 = (w.alloc (.cells #[.int .i64 0, .int .i64 0] 69)).alloc (.cells #[.string s, .int .i64 0] 285) := ⟨_, rfl⟩
    have F0 : Flc W0 w.heap.size (.int .i64 0) (.int .i64 0) := by rw [hW0]; exact flc_new _ _ _ _
    have B0 : Below w.heap.size w W0 := by rw [hW0]; exact ((Below.refl w.heap.size w).alloc (Nat.le_refl _) _).alloc (by simp) _
    have S0 : W0.heap.size = w.heap.size + 1 + 1 := by rw [hW0]; simp
    have R0 : Rdr W0 (w.heap.size + 1) s 0 := by
      rw [hW0]
      refine ⟨?_, Nat.zero_le _, by omega⟩
      have := heap_alloc_new (w.alloc (.cells #[.int .i64 0, .int .i64 0] 69)) (.cells #[.string s, .int .i64 0] 285)
      simpa using this
    obtain ⟨neg, hneg⟩ : ∃ neg, tkb s 0 45 = neg := ⟨_, rfl⟩
    have HT : Hid (tkb s 0 45 = neg) := hneg
    by_cases hbad : pBad s = true
    · have e1 : paW s = 0 := by unfold paW; rw [if_neg h64, if_pos hbad]
      have e2 : paE s = 150 := by unfold paE; rw [if_neg h64, if_pos hbad]
      have e3 : paA s = (cEnd s (pI s) : Int) := by unfold paA; rw [if_neg h64, if_pos hbad]
      rw [e1, e2, e3]
      clear e1 e2 e3
      cases hO : cOk s (pI s)
      · have HO : Hid (cOk s (tk s 0 45) = false) := hO
        clear hO hbad hneg
        go_enter Tryz.func193, Tryz.ntmps193
        go_wp2_with fail
        rw [← hW0]
        clear hW0
        go_wp2_with (first
          | (go_at_call 218; (with_reducible refine (take_any 45 R0 (by omega)).mono ?_); rintro e1 w1 ⟨rfl, k1, k2⟩; rw [HT.out]; have F1 := F0.only k2 (by omega) (by omega); have s1 := k2.size)
          | (go_at_call 219; (with_reducible refine (dec_any k1).mono ?_); rintro e2 w2 ⟨v2, P2, rfl, hok2, R2, O2⟩; rw [HO.out]; have F2 := F1.only O2 (by omega) (by omega); have c1 := R2.c1; have f0 := F2.c0; have f1 := F2.c1; have g0 := F2.z0; have g1 := F2.z1))
        go_region
        all_goals
          have B2 : Below w.heap.size w w2 := (B0.trans (k2.below _ B0.size (fun i hi => by omega))).trans (O2.below _ (by omega) (fun i hi => by omega))
          obtain ⟨P0, P1⟩ := F2.put (.int .i64 150) (.int .i64 (cEnd s (tk s 0 45) : Int))
          have P0' : ((w2.setCell ⟨w.heap.size, 0, none⟩ (.int .i64 150)).setCell ⟨w.heap.size, 1, none⟩ (.int .i64 (cEnd s (tk s 0 45) : Int))).drew.cell? ⟨w.heap.size, 0, none⟩ = some (.int .i64 150) := P0
          have P1' : ((w2.setCell ⟨w.heap.size, 0, none⟩ (.int .i64 150)).setCell ⟨w.heap.size, 1, none⟩ (.int .i64 (cEnd s (tk s 0 45) : Int))).drew.cell? ⟨w.heap.size, 1, none⟩ = some (.int .i64 (cEnd s (tk s 0 45) : Int)) := P1
          go_wp2
          refine bodyPost_ret (by simp [results, Tryz.results193, go_sem, P0', P1']; try rfl) rfl ?_
          exact ⟨rfl, (below_put B2 (Nat.le_refl _) _ _).drew⟩
      · have HO : Hid (cOk s (tk s 0 45) = true) := hO
        have hE : ((cEnd s (tk s 0 45) : Nat) : Int) < s.size := by
          have h1 : cEnd s (pI s) < s.size := by
            unfold pBad at hbad
            rw [hO] at hbad
            simpa using hbad
          have h2 : cEnd s (tk s 0 45) < s.size := h1
          omega
        clear hO hbad hneg
        go_enter Tryz.func193, Tryz.ntmps193
        go_wp2_with fail
        rw [← hW0]
        clear hW0
        go_wp2_with (first
          | (go_at_call 218; (with_reducible refine (take_any 45 R0 (by omega)).mono ?_); rintro e1 w1 ⟨rfl, k1, k2⟩; rw [HT.out]; have F1 := F0.only k2 (by omega) (by omega); have s1 := k2.size)
          | (go_at_call 219; (with_reducible refine (dec_any k1).mono ?_); rintro e2 w2 ⟨v2, P2, rfl, hok2, R2, O2⟩; rw [HO.out]; have F2 := F1.only O2 (by omega) (by omega); have c1 := R2.c1; have f0 := F2.c0; have f1 := F2.c1; have g0 := F2.z0; have g1 := F2.z1))
        go_region
        all_goals
          have B2 : Below w.heap.size w w2 := (B0.trans (k2.below _ B0.size (fun i hi => by omega))).trans (O2.below _ (by omega) (fun i hi => by omega))
          obtain ⟨P0, P1⟩ := F2.put (.int .i64 150) (.int .i64 (cEnd s (tk s 0 45) : Int))
          have P0' : ((w2.setCell ⟨w.heap.size, 0, none⟩ (.int .i64 150)).setCell ⟨w.heap.size, 1, none⟩ (.int .i64 (cEnd s (tk s 0 45) : Int))).drew.cell? ⟨w.heap.size, 0, none⟩ = some (.int .i64 150) := P0
          have P1' : ((w2.setCell ⟨w.heap.size, 0, none⟩ (.int .i64 150)).setCell ⟨w.heap.size, 1, none⟩ (.int .i64 (cEnd s (tk s 0 45) : Int))).drew.cell? ⟨w.heap.size, 1, none⟩ = some (.int .i64 (cEnd s (tk s 0 45) : Int)) := P1
          go_wp2
          refine bodyPost_ret (by simp [results, Tryz.results193, go_sem, P0', P1']; try rfl) rfl ?_
          exact ⟨rfl, (below_put B2 (Nat.le_refl _) _ _).drew⟩
    · have hO : cOk s (pI s) = true := by
        unfold pBad at hbad
        cases h : cOk s (pI s)
        · rw [h] at hbad; simp at hbad
        · rfl
      have HO : Hid (cOk s (tk s 0 45) = true) := hO
      have hE : ¬ ((cEnd s (tk s 0 45) : Nat) : Int) < s.size := by
        intro h1
        apply hbad
        unfold pBad
        have h2 : cEnd s (pI s) < s.size := by
          have : cEnd s (tk s 0 45) < s.size := by omega
          exact this
        rw [decide_eq_true h2]; simp
      have HF : Hid (pF s = flt (cZ s (tk s 0 45)) (clp (cP s (tk s 0 45)))) := rfl
      have HW : Hid (paW s = if 9218868437227405312 ≤ pF s then 0 else if neg = true then pF s + 9223372036854775808 else pF s) := by
        show _ = _
        unfold paW
        rw [if_neg h64, if_neg hbad, hneg]
      have HE : Hid (paE s = if 9218868437227405312 ≤ pF s then 6 else 0) := by
        show _ = _
        unfold paE
        rw [if_neg h64, if_neg hbad]
      have HA : Hid (paA s = if 9218868437227405312 ≤ pF s then -1 else 0) := by
        show _ = _
        unfold paA
        rw [if_neg h64, if_neg hbad]
      clear hO hbad hneg
      by_cases hz : cZ s (tk s 0 45) = 0
      · have HZ : Hid (cZ s (tk s 0 45) = 0) := hz
        have hf0 : pF s = 0 := by rw [HF.out, hz]; rfl
        have eW : Hid (paW s = if neg = true then 9223372036854775808 else 0) := by show _ = _; rw [HW.out, hf0, if_neg (by decide)]
        have eE : paE s = 0 := by rw [HE.out, hf0, if_neg (by decide)]
        have eA : paA s = 0 := by rw [HA.out, hf0, if_neg (by decide)]
        have hor0 : bits .or .u64 0 9223372036854775808 = 9223372036854775808 := qor_sign (b := 0) (by decide)
        rw [eE, eA]
        clear hz hf0 eE eA
        cases neg
        all_goals
          go_enter Tryz.func193, Tryz.ntmps193
          go_wp2_with fail
          rw [← hW0]
          clear hW0
          go_wp2_with (first
            | (go_at_call 218; (with_reducible refine (take_any 45 R0 (by omega)).mono ?_); rintro e1 w1 ⟨rfl, k1, k2⟩; rw [HT.out]; have F1 := F0.only k2 (by omega) (by omega); have s1 := k2.size)
            | (go_at_call 219; (with_reducible refine (dec_any k1).mono ?_); rintro e2 w2 ⟨v2, P2, rfl, hok2, R2, O2⟩; rw [HO.out]; have F2 := F1.only O2 (by omega) (by omega); have c1 := R2.c1; have f0 := F2.c0; have f1 := F2.c1; have g0 := F2.z0; have g1 := F2.z1)
            | (go_at_call 220; (with_reducible refine (qnear_zero w1.heap.size 200 v2 P2 w2 (HZ.out ▸ (hok2 HO.out).1)).mono ?_); rintro e3 w3 ⟨rfl, rfl⟩))
          have B2 := (B0.trans (k2.below w.heap.size B0.size (fun i hi => by omega))).trans (O2.below w.heap.size (by omega) (fun i hi => by omega))
          obtain ⟨P0, P1⟩ := F2.put (.int .i64 0) (.int .i64 0)
          refine bodyPost_ret (by simp [results, Tryz.results193, go_sem, P0, P1]; try rfl) rfl ⟨?_, below_put B2 (Nat.le_refl _) _ _⟩
          rw [eW.out]
          rfl
      · have HZ : Hid (0 < cZ s (tk s 0 45)) := Nat.pos_of_ne_zero hz
        clear hz
        cases neg
        all_goals
          go_enter Tryz.func193, Tryz.ntmps193
          go_wp2_with fail
          rw [← hW0]
          clear hW0
          go_wp2_with (first
            | (go_at_call 218; (with_reducible refine (take_any 45 R0 (by omega)).mono ?_); rintro e1 w1 ⟨rfl, k1, k2⟩; rw [HT.out]; have F1 := F0.only k2 (by omega) (by omega); have s1 := k2.size)
            | (go_at_call 219; (with_reducible refine (dec_any k1).mono ?_); rintro e2 w2 ⟨v2, P2, rfl, hok2, R2, O2⟩; rw [HO.out]; have F2 := F1.only O2 (by omega) (by omega); have c1 := R2.c1; have f0 := F2.c0; have f1 := F2.c1; have g0 := F2.z0; have g1 := F2.z1))
          refine (qnear_any w1.heap.size (cZ s (tk s 0 45)) K9 v2 P2 w2 ((hok2 HO.out).1.by (cZ_nine _ _)) HZ.out (by decide) (by decide) O2.size).mono ?_
          rintro e3 w3 ⟨bw, D, r', o', rfl, hG, hbw, B3⟩
          rw [(hok2 HO.out).2] at hG
          have NB : Hid (bw < 18446744073709551616 ∧ (bw < 9218868437227405312 → flt (cZ s (tk s 0 45)) (clp (cP s (tk s 0 45))) = bw) ∧ (9218868437227405312 ≤ bw → flt (cZ s (tk s 0 45)) (clp (cP s (tk s 0 45))) = 9218868437227405312)) := near_bits HZ.out (cZ_lt _ _) (clp_le _).2 hG (Int.ofNat_inj.1 hbw)
          have B2 := ((B0.trans (k2.below w.heap.size B0.size (fun i hi => by omega))).trans (O2.below w.heap.size (by omega) (fun i hi => by omega)))
          have B3' : Below w.heap.size w2 w3 := ⟨B3.os, B3.tape, B3.output, B3.size, fun k hk => B3.block k (by omega)⟩
          have F3 := F2.later B3 (by omega)
          clear hG hbw f0 f1 g0 g1
          have f0 := F3.c0
          have f1 := F3.c1
          have g0 := F3.z0
          have g1 := F3.z1
          by_cases hov : 9218868437227405312 ≤ bw
          · have hd : decide ((9218868437227405312 : Int) ≤ (bw : Int)) = true := decide_eq_true (by omega)
            have HV : Hid (9218868437227405312 ≤ bw) := hov
            clear hov
            go_wp2
            obtain ⟨P0, P1⟩ := F3.put (.int .i64 6) (.int .i64 (-1))
            have hp : pF s = 9218868437227405312 := HF.out.trans (NB.out.2.2 HV.out)
            have eW : paW s = 0 := by rw [HW.out, hp]; rfl
            have eE : paE s = 6 := by rw [HE.out, hp]; rfl
            have eA : paA s = -1 := by rw [HA.out, hp]; rfl
            refine bodyPost_ret (by simp [results, Tryz.results193, go_sem, P0, P1]; try rfl) rfl ⟨?_, below_put (B2.trans B3') (Nat.le_refl _) _ _⟩
            rw [eW, eE, eA]
          · have hd : decide ((9218868437227405312 : Int) ≤ (bw : Int)) = false := decide_eq_false (by omega)
            have HV : Hid (¬ 9218868437227405312 ≤ bw) := hov
            clear hov
            go_wp2
            obtain ⟨P0, P1⟩ := F3.put (.int .i64 0) (.int .i64 0)
            have hp : pF s = bw := HF.out.trans (NB.out.2.1 (Nat.lt_of_not_le HV.out))
            have eE : paE s = 0 := by rw [HE.out, hp, if_neg HV.out]
            have eA : paA s = 0 := by rw [HA.out, hp, if_neg HV.out]
            have eW := HW.out
            rw [hp, if_neg HV.out] at eW
            have hb63 : bw < 9223372036854775808 := Nat.lt_trans (Nat.lt_of_not_le HV.out) (by decide)
            try rw [qor_sign hb63]
            refine bodyPost_ret (by simp [results, Tryz.results193, go_sem, P0, P1]; try rfl) rfl ⟨?_, below_put (B2.trans B3') (Nat.le_refl _) _ _⟩
            rw [eW, eE, eA]
            rfl

end Go.Proofs.YtmpkcioeodlbcaaGreatDoor
