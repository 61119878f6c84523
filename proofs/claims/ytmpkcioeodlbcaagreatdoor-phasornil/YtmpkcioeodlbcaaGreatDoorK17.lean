/-
  Several texts in one: Qdc Qbt Qpa.
-/
import Derived.Test.YtmpkcioeodlbcaaGreatDoorK16
import Derived.Test.YtmpkcioeodlbcaaGreatDoorK15
import Derived.Test.YtmpkcioeodlbcaaGreatDoorK12
namespace Go.Proofs.YtmpkcioeodlbcaaGreatDoor
open RowKit
def cT (s : ByteArray) (i : Nat) : Bool := tkb s (i + dN s 65 i) 46
def cI2 (s : ByteArray) (i : Nat) : Nat := tk s (i + dN s 65 i) 46
def cB (s : ByteArray) (i : Nat) : Nat := if cT s i = true then dN s 65 (cI2 s i) else 0
def cZ (s : ByteArray) (i : Nat) : Nat := if cT s i = true then dV s 65 (cI2 s i) (dV s 65 i 0) else dV s 65 i 0
def cI3 (s : ByteArray) (i : Nat) : Nat := cI2 s i + cB s i
def cSome (s : ByteArray) (i : Nat) : Bool := decide (dN s 65 i + cB s i ≠ 0)
def cOk (s : ByteArray) (i : Nat) : Bool := cSome s i && xO s (cI3 s i)
def cEnd (s : ByteArray) (i : Nat) : Nat := if cSome s i = true then (if xO s (cI3 s i) = true then pxA s (xA s (cI3 s i)) else xA s (cI3 s i)) else cI3 s i
def cP (s : ByteArray) (i : Nat) : Int := xP s (cI3 s i) + pxV s (xA s (cI3 s i)) - (cB s i : Int)
theorem xP_bound (s : ByteArray) (i : Nat) : -10000 < xP s i ∧ xP s i < 10000 := by
  have h := dV_bound (s := s) 4 (x3_Qxp s i) 0
  rw [show (0 + 1) * 10 ^ 4 = 10000 by decide] at h
  unfold xP
  repeat' split
  all_goals omega
theorem px_bound (s : ByteArray) (i : Nat) : -15 ≤ pxV s i ∧ pxV s i ≤ 12 := by
  have := pf_bound (qbyt s i)
  unfold pxV
  split <;> omega
theorem dec_fin {v v' : Value} {P Q : Int} {b c : Bool} (h0 : v = v') (h1 : P = Q) (h2 : b = c) : Ending.returned (Value.tuple #[v, .int .i64 P, .bool b]) = .returned (.tuple #[v', .int .i64 Q, .bool c]) := by rw [h0, h1, h2]
theorem nob_nil {p : Nat} : ¬ Ob (.slice none 0 0) p := fun hk => by simp [Ob, Value.ownBlock] at hk
theorem only_nil {w w' : World} {p : Nat} (h : Only (fun k => Ob (.slice none 0 0) k ∨ k = p) w w') : Only (fun k => k = p) w w' := h.mono (fun _ _ hi => hi.elim (fun q => absurd q nob_nil) id)
theorem fresh_nil {v : Value} {n : Nat} (h : ∀ k, Ob v k → Ob (.slice none 0 0) k ∨ n ≤ k) : ∀ k, Ob v k → n ≤ k := fun k hk => (h k hk).elim (fun q => absurd q nob_nil) id
set_option maxRecDepth 10000 in
set_option maxHeartbeats 2000000 in
theorem dec_any {w : World} {p i : Nat} {s : ByteArray} (h : Rdr w p s i) :
    Calls Tryz.prog 219 #[.pointer (some ⟨p, 0, none⟩)] w fun e w' => ∃ (v' : Value) (P : Int), e = .returned (.tuple #[v', .int .i64 P, .bool (cOk s i)]) ∧ (cOk s i = true → Wh w' w.heap.size v' (cZ s i) 200 ∧ P = cP s i) ∧ Rdr w' p s (cEnd s i) ∧ Only (fun k => k = p) w w' := by
  obtain ⟨n1, hn1⟩ : ∃ n, dN s 65 i = n := ⟨_, rfl⟩
  have HN1 : Hid (dN s 65 i = n1) := hn1
  have hplt := h.plt
  have hnil : Wh w w.heap.size (.slice none 0 0) 0 0 := Wh.nil _ _ _
  have hn65 : n1 ≤ 65 := by rw [← hn1]; exact dN_le _ _
  cases ht : cT s i
  · have HT : Hid (tkb s (i + dN s 65 i) 46 = false) := ht
    have HCB : Hid (cB s i = 0) := if_neg (by rw [ht]; decide)
    have EZ : Hid (cZ s i = dV s 65 i 0) := if_neg (by rw [ht]; decide)
    have E3 : Hid (cI3 s i = tk s (i + dN s 65 i) 46) := by show cI2 s i + cB s i = _; rw [HCB.out]; rfl
    clear ht hn1
    by_cases hz : n1 = 0
    · have ec : cSome s i = false := decide_eq_false (by rw [HN1.out, HCB.out]; omega)
      have eo : cOk s i = false := by unfold cOk; rw [ec]; rfl
      have ee : cEnd s i = cI3 s i := if_neg (by rw [ec]; decide)
      rw [eo, ee]
      clear eo ee ec
      have z1 : n1 = 0 := by omega
      subst z1
      go_enter Tryz.func219, Tryz.ntmps219
      go_wp2_with (first
        | (go_at_call 239; (with_reducible refine (digits_any h hnil nob_nil (by omega) (Nat.le_refl _)).mono ?_); rintro e1 w1 ⟨v1, rfl, k1, k2, k3, k4⟩; rw [HN1.out]; have O1 := only_nil k3; have F1 := fresh_nil k4; clear k3 k4)
        | (go_at_call 218; (with_reducible refine (take_any 46 k2 (by omega)).mono ?_); rintro e2 w2 ⟨rfl, q1, q2⟩; rw [HT.out]; have W2 := k1.only q2 (fun k hk hk2 => by have := F1 k hk; omega); have s2 := O1.size; have s3 := q2.size; have Q1 := q1; rw [← E3.out] at Q1))
      go_ret3
      exact ⟨_, _, rfl, fun hk => absurd hk (by decide), Q1, (O1.trans q2)⟩
    · have hneI : ((n1 : Int) == 0) = false := by simp; omega
      have ec : cSome s i = true := decide_eq_true (by rw [HN1.out, HCB.out]; omega)
      obtain ⟨xp, hxp⟩ : ∃ xp, xP s (cI3 s i) = xp := ⟨_, rfl⟩
      have HXP : Hid (xP s (cI3 s i) = xp) := hxp
      have bx := xP_bound s (cI3 s i)
      rw [hxp] at bx
      obtain ⟨bx1, bx2⟩ := bx
      clear hxp
      cases hx : xO s (cI3 s i)
      · have HX : Hid (xO s (cI3 s i) = false) := hx
        have eo : cOk s i = false := by unfold cOk; rw [ec, hx]; rfl
        have ee : cEnd s i = xA s (cI3 s i) := by unfold cEnd; rw [if_pos ec, if_neg (by rw [hx]; decide)]
        rw [eo, ee]
        clear eo ee ec hx
        go_enter Tryz.func219, Tryz.ntmps219
        go_wp2_with (first
          | (go_at_call 239; (with_reducible refine (digits_any h hnil nob_nil (by omega) (Nat.le_refl _)).mono ?_); rintro e1 w1 ⟨v1, rfl, k1, k2, k3, k4⟩; rw [HN1.out]; have O1 := only_nil k3; have F1 := fresh_nil k4; clear k3 k4)
          | (go_at_call 218; (with_reducible refine (take_any 46 k2 (by omega)).mono ?_); rintro e2 w2 ⟨rfl, q1, q2⟩; rw [HT.out]; have W2 := k1.only q2 (fun k hk hk2 => by have := F1 k hk; omega); have s2 := O1.size; have s3 := q2.size; have Q1 := q1; rw [← E3.out] at Q1)
          | (go_at_call 240; (with_reducible refine (exp_any Q1).mono ?_); rintro e4 w4 ⟨rfl, x1, x2⟩; rw [HXP.out, HX.out]))
        go_ret3
        exact ⟨_, _, rfl, fun hk => absurd hk (by decide), x1, (O1.trans q2).trans x2⟩
      · have HX : Hid (xO s (cI3 s i) = true) := hx
        have eo : cOk s i = true := by unfold cOk; rw [ec, hx]; rfl
        have ee : cEnd s i = pxA s (xA s (cI3 s i)) := by unfold cEnd; rw [if_pos ec, if_pos hx]
        rw [eo, ee]
        clear eo ee ec hx
        obtain ⟨pv, hpv⟩ : ∃ pv, pxV s (xA s (cI3 s i)) = pv := ⟨_, rfl⟩
        have HPV : Hid (pxV s (xA s (cI3 s i)) = pv) := hpv
        have bp := px_bound s (xA s (cI3 s i))
        rw [hpv] at bp
        obtain ⟨bp1, bp2⟩ := bp
        clear hpv
        go_enter Tryz.func219, Tryz.ntmps219
        go_wp2_with (first
          | (go_at_call 239; (with_reducible refine (digits_any h hnil nob_nil (by omega) (Nat.le_refl _)).mono ?_); rintro e1 w1 ⟨v1, rfl, k1, k2, k3, k4⟩; rw [HN1.out]; have O1 := only_nil k3; have F1 := fresh_nil k4; clear k3 k4)
          | (go_at_call 218; (with_reducible refine (take_any 46 k2 (by omega)).mono ?_); rintro e2 w2 ⟨rfl, q1, q2⟩; rw [HT.out]; have W2 := k1.only q2 (fun k hk hk2 => by have := F1 k hk; omega); have s2 := O1.size; have s3 := q2.size; have Q1 := q1; rw [← E3.out] at Q1)
          | (go_at_call 240; (with_reducible refine (exp_any Q1).mono ?_); rintro e4 w4 ⟨rfl, x1, x2⟩; rw [HXP.out, HX.out])
          | (go_at_call 241; (with_reducible refine (prefix_any x1).mono ?_); rintro e5 w5 ⟨rfl, y1, y2⟩; rw [HPV.out]))
        go_ret3
        refine ⟨_, _, dec_fin rfl rfl rfl, fun _ => ⟨?_, ?_⟩, y1, ((O1.trans q2).trans x2).trans y2⟩
        · rw [EZ.out]
          refine ((W2.only x2 (fun k hk hk2 => ?_)).only y2 (fun k hk hk2 => ?_)).mono (by omega)
          all_goals
            have := F1 k hk
            omega
        · unfold cP
          rw [HXP.out, HPV.out, HCB.out]
          try (first | rfl | omega | (unfold wrap64; omega))
  · have HT : Hid (tkb s (i + dN s 65 i) 46 = true) := ht
    obtain ⟨n2, hn2⟩ : ∃ n, dN s 65 (tk s (i + dN s 65 i) 46) = n := ⟨_, rfl⟩
    have HN2 : Hid (dN s 65 (tk s (i + dN s 65 i) 46) = n2) := hn2
    have hn2b : n2 ≤ 65 := by rw [← hn2]; exact dN_le _ _
    have HCB : Hid (cB s i = n2) := by show _ = _; rw [← hn2]; exact if_pos ht
    have EZ : Hid (cZ s i = dV s 65 (tk s (i + dN s 65 i) 46) (dV s 65 i 0)) := if_pos ht
    have E3 : Hid (cI3 s i = tk s (i + dN s 65 i) 46 + dN s 65 (tk s (i + dN s 65 i) 46)) := by show cI2 s i + cB s i = _; rw [HCB.out, ← hn2]; rfl
    clear ht hn1 hn2
    by_cases hz : n1 + n2 = 0
    · have ec : cSome s i = false := decide_eq_false (by rw [HN1.out, HCB.out]; omega)
      have eo : cOk s i = false := by unfold cOk; rw [ec]; rfl
      have ee : cEnd s i = cI3 s i := if_neg (by rw [ec]; decide)
      rw [eo, ee]
      clear eo ee ec
      have z1 : n1 = 0 := by omega
      have z2 : n2 = 0 := by omega
      subst z2
      subst z1
      go_enter Tryz.func219, Tryz.ntmps219
      go_wp2_with (first
        | (go_at_call 239; (with_reducible refine (digits_any h hnil nob_nil (by omega) (Nat.le_refl _)).mono ?_); rintro e1 w1 ⟨v1, rfl, k1, k2, k3, k4⟩; rw [HN1.out]; have O1 := only_nil k3; have F1 := fresh_nil k4; clear k3 k4)
        | (go_at_call 218; (with_reducible refine (take_any 46 k2 (by omega)).mono ?_); rintro e2 w2 ⟨rfl, q1, q2⟩; rw [HT.out]; have W2 := k1.only q2 (fun k hk hk2 => by have := F1 k hk; omega); have s2 := O1.size; have s3 := q2.size)
        | (go_at_call 239; (with_reducible refine (digits_any q1 W2 (fun hk => by have := F1 p hk; omega) (by omega) (by omega)).mono ?_); rintro e3 w3 ⟨v3, rfl, j1, j2, j3, j4⟩; rw [HN2.out]; have O3 : Only (fun k => k = p) w w3 := (O1.trans q2).next j3 (fun i hi => by rcases hi with hi | hi; exact .inr (F1 i hi); exact .inl hi); have F3 : ∀ k, Ob v3 k → w.heap.size ≤ k := (fun k hk => by rcases j4 k hk with hi | hi; exact F1 k hi; omega); rw [← E3.out] at j2))
      go_ret3
      exact ⟨_, _, rfl, fun hk => absurd hk (by decide), j2, O3⟩
    · have hneI : (((n1 : Int) + (n2 : Int)) == 0) = false := by simp; omega
      have ec : cSome s i = true := decide_eq_true (by rw [HN1.out, HCB.out]; omega)
      obtain ⟨xp, hxp⟩ : ∃ xp, xP s (cI3 s i) = xp := ⟨_, rfl⟩
      have HXP : Hid (xP s (cI3 s i) = xp) := hxp
      have bx := xP_bound s (cI3 s i)
      rw [hxp] at bx
      obtain ⟨bx1, bx2⟩ := bx
      clear hxp
      cases hx : xO s (cI3 s i)
      · have HX : Hid (xO s (cI3 s i) = false) := hx
        have eo : cOk s i = false := by unfold cOk; rw [ec, hx]; rfl
        have ee : cEnd s i = xA s (cI3 s i) := by unfold cEnd; rw [if_pos ec, if_neg (by rw [hx]; decide)]
        rw [eo, ee]
        clear eo ee ec hx
        go_enter Tryz.func219, Tryz.ntmps219
        go_wp2_with (first
          | (go_at_call 239; (with_reducible refine (digits_any h hnil nob_nil (by omega) (Nat.le_refl _)).mono ?_); rintro e1 w1 ⟨v1, rfl, k1, k2, k3, k4⟩; rw [HN1.out]; have O1 := only_nil k3; have F1 := fresh_nil k4; clear k3 k4)
          | (go_at_call 218; (with_reducible refine (take_any 46 k2 (by omega)).mono ?_); rintro e2 w2 ⟨rfl, q1, q2⟩; rw [HT.out]; have W2 := k1.only q2 (fun k hk hk2 => by have := F1 k hk; omega); have s2 := O1.size; have s3 := q2.size)
          | (go_at_call 239; (with_reducible refine (digits_any q1 W2 (fun hk => by have := F1 p hk; omega) (by omega) (by omega)).mono ?_); rintro e3 w3 ⟨v3, rfl, j1, j2, j3, j4⟩; rw [HN2.out]; have O3 : Only (fun k => k = p) w w3 := (O1.trans q2).next j3 (fun i hi => by rcases hi with hi | hi; exact .inr (F1 i hi); exact .inl hi); have F3 : ∀ k, Ob v3 k → w.heap.size ≤ k := (fun k hk => by rcases j4 k hk with hi | hi; exact F1 k hi; omega); rw [← E3.out] at j2)
          | (go_at_call 240; (with_reducible refine (exp_any j2).mono ?_); rintro e4 w4 ⟨rfl, x1, x2⟩; rw [HXP.out, HX.out]))
        go_ret3
        exact ⟨_, _, rfl, fun hk => absurd hk (by decide), x1, O3.trans x2⟩
      · have HX : Hid (xO s (cI3 s i) = true) := hx
        have eo : cOk s i = true := by unfold cOk; rw [ec, hx]; rfl
        have ee : cEnd s i = pxA s (xA s (cI3 s i)) := by unfold cEnd; rw [if_pos ec, if_pos hx]
        rw [eo, ee]
        clear eo ee ec hx
        obtain ⟨pv, hpv⟩ : ∃ pv, pxV s (xA s (cI3 s i)) = pv := ⟨_, rfl⟩
        have HPV : Hid (pxV s (xA s (cI3 s i)) = pv) := hpv
        have bp := px_bound s (xA s (cI3 s i))
        rw [hpv] at bp
        obtain ⟨bp1, bp2⟩ := bp
        clear hpv
        go_enter Tryz.func219, Tryz.ntmps219
        go_wp2_with (first
          | (go_at_call 239; (with_reducible refine (digits_any h hnil nob_nil (by omega) (Nat.le_refl _)).mono ?_); rintro e1 w1 ⟨v1, rfl, k1, k2, k3, k4⟩; rw [HN1.out]; have O1 := only_nil k3; have F1 := fresh_nil k4; clear k3 k4)
          | (go_at_call 218; (with_reducible refine (take_any 46 k2 (by omega)).mono ?_); rintro e2 w2 ⟨rfl, q1, q2⟩; rw [HT.out]; have W2 := k1.only q2 (fun k hk hk2 => by have := F1 k hk; omega); have s2 := O1.size; have s3 := q2.size)
          | (go_at_call 239; (with_reducible refine (digits_any q1 W2 (fun hk => by have := F1 p hk; omega) (by omega) (by omega)).mono ?_); rintro e3 w3 ⟨v3, rfl, j1, j2, j3, j4⟩; rw [HN2.out]; have O3 : Only (fun k => k = p) w w3 := (O1.trans q2).next j3 (fun i hi => by rcases hi with hi | hi; exact .inr (F1 i hi); exact .inl hi); have F3 : ∀ k, Ob v3 k → w.heap.size ≤ k := (fun k hk => by rcases j4 k hk with hi | hi; exact F1 k hi; omega); rw [← E3.out] at j2)
          | (go_at_call 240; (with_reducible refine (exp_any j2).mono ?_); rintro e4 w4 ⟨rfl, x1, x2⟩; rw [HXP.out, HX.out])
          | (go_at_call 241; (with_reducible refine (prefix_any x1).mono ?_); rintro e5 w5 ⟨rfl, y1, y2⟩; rw [HPV.out]))
        go_ret3
        refine ⟨_, _, dec_fin rfl rfl rfl, fun _ => ⟨?_, ?_⟩, y1, (O3.trans x2).trans y2⟩
        · rw [EZ.out]
          refine ((j1.only x2 (fun k hk hk2 => ?_)).only y2 (fun k hk hk2 => ?_)).mono (by omega)
          all_goals
            have := F3 k hk
            omega
        · unfold cP
          rw [HXP.out, HPV.out, HCB.out]
          try (first | rfl | omega | (unfold wrap64; omega))

end Go.Proofs.YtmpkcioeodlbcaaGreatDoor
namespace Go.Proofs.YtmpkcioeodlbcaaGreatDoor
open Fl
def K130 : Nat := 130
def K530 : Nat := 530
def K400 : Nat := 400
theorem ten_two (n : Nat) : 10 ^ n ≤ 2 ^ (4 * n) := by
  rw [Nat.pow_mul]; exact Nat.pow_le_pow_left (by decide) n
theorem cZ_lt (s : ByteArray) (i : Nat) : cZ s i < 10 ^ K130 := by
  have h1 := dV_bound (s := s) 65 i 0
  have h2 := dV_bound (s := s) 65 (cI2 s i) (dV s 65 i 0)
  have e : (10 : Nat) ^ K130 = 10 ^ 65 * 10 ^ 65 := by rw [← Nat.pow_add]; exact congrArg (fun k => (10 : Nat) ^ k) (show K130 = 65 + 65 from rfl)
  rw [e]
  rw [Nat.zero_add, Nat.one_mul] at h1
  have hp : 0 < (10 : Nat) ^ 65 := Nat.pow_pos (by decide)
  generalize (10 : Nat) ^ 65 = T at *
  have h3 : (dV s 65 i 0 + 1) * T ≤ T * T := Nat.mul_le_mul_right _ h1
  have h4 : T * 1 ≤ T * T := Nat.mul_le_mul_left _ hp
  unfold cZ
  split <;> omega
theorem pP_nbits {z : Nat} {c : Int} (hz : z < 10 ^ K130) (hc : c ≤ 400) : nbits (pP z c) ≤ 4 * K530 := by
  apply nbits_le
  refine Nat.lt_of_lt_of_le ?_ (ten_two K530)
  have h1 : 10 ^ c.toNat ≤ 10 ^ K400 := Nat.pow_le_pow_right (by decide) (show c.toNat ≤ 400 by omega)
  have e : (10 : Nat) ^ K530 = 10 ^ K130 * 10 ^ K400 := by rw [← Nat.pow_add]; exact congrArg (fun k => (10 : Nat) ^ k) (show K530 = K130 + K400 from rfl)
  unfold pP
  rw [e]
  have hp : 0 < (10 : Nat) ^ c.toNat := Nat.pow_pos (by decide)
  exact Nat.lt_of_lt_of_le (Nat.mul_lt_mul_of_pos_right hz hp) (Nat.mul_le_mul_left _ h1)
theorem nD_small {P Q : Nat} (h : nbits P ≤ 4 * K530) : nD P Q ≤ 3200 := by
  have e : 4 * K530 = 2120 := rfl
  unfold nD nU
  split <;> omega
theorem nR_small {P Q : Nat} (hP : 0 < P) (hQ : 0 < Q) : nR P Q ≤ 9007199254740992 := by
  obtain ⟨h, _⟩ := nD_props hP hQ
  unfold nR
  split <;> omega
/-- the float of z times ten to the power c, by its bits; from the infinity's on there is none -/
def flt (z : Nat) (c : Int) : Nat := if z = 0 then 0 else ldW (nD (pP z c) (pQ c)) (nR (pP z c) (pQ c))
theorem near_bits {z bw r o D : Nat} {c : Int} (hz : 0 < z) (hzb : z < 10 ^ K130) (hc : c ≤ 400) (h : Good (pP z c) (pQ c) r o D) (hb : bw = ((D * 4503599627370496) % 18446744073709551616 + fr53 r o) % 18446744073709551616) :
    bw < 18446744073709551616 ∧ (bw < 9218868437227405312 → flt z c = bw) ∧ (9218868437227405312 ≤ bw → flt z c = 9218868437227405312) := by
  have hP : 0 < pP z c := Nat.mul_pos hz (Nat.pow_pos (by decide))
  have hQ : 0 < pQ c := Nat.pow_pos (by decide)
  obtain ⟨e1, e2⟩ := good_near h hP hQ
  have b1 := nD_small (Q := pQ c) (pP_nbits hzb hc)
  have b2 := nR_small hP hQ
  have ef : flt z c = ldW (nD (pP z c) (pQ c)) (nR (pP z c) (pQ c)) := if_neg (by omega)
  rw [e1] at b1
  rw [e2] at b2
  rw [ef, e1, e2]
  unfold ldW
  generalize fr53 r o = y at *
  refine ⟨by omega, fun hlt => ?_, fun hge => ?_⟩
  · rw [if_pos (by omega)]; omega
  · rw [if_neg (by omega)]

end Go.Proofs.YtmpkcioeodlbcaaGreatDoor
namespace Go.Proofs.YtmpkcioeodlbcaaGreatDoor
open RowKit
/-- where the digits begin -/
def pI (s : ByteArray) : Nat := tk s 0 45
def pBad (s : ByteArray) : Bool := !cOk s (pI s) || decide (cEnd s (pI s) < s.size)
def pF (s : ByteArray) : Nat := flt (cZ s (pI s)) (clp (cP s (pI s)))
/-- the float's bits, the error, the place -/
def paW (s : ByteArray) : Nat := if 64 < s.size then 0 else if pBad s = true then 0 else if 9218868437227405312 ≤ pF s then 0 else if tkb s 0 45 = true then pF s + 9223372036854775808 else pF s
def paE (s : ByteArray) : Int := if 64 < s.size then 3 else if pBad s = true then 150 else if 9218868437227405312 ≤ pF s then 6 else 0
def paA (s : ByteArray) : Int := if 64 < s.size then -1 else if pBad s = true then (cEnd s (pI s) : Int) else if 9218868437227405312 ≤ pF s then -1 else 0
theorem qor_sign {b : Nat} (h : b < 9223372036854775808) : bits .or .u64 (b : Int) 9223372036854775808 = ((b + 9223372036854775808 : Nat) : Int) := by
  have e := bits_or_u64_nat b 9223372036854775808 (by omega) (by omega)
  have e2 : b ||| 9223372036854775808 = b + 9223372036854775808 := by
    have := Nat.two_pow_add_eq_or_of_lt (i := 63) (b := b) (by omega) 1
    rw [Nat.mul_one] at this
    rw [Nat.or_comm, Nat.add_comm]; exact this.symm
  rw [e2] at e
  exact e
/-- the fault's cells -/
structure Flc (w : World) (f : Nat) (a b : Value) : Prop where
  c0 : w.cell? ⟨f, 0, none⟩ = some a
  c1 : w.cell? ⟨f, 1, none⟩ = some b
  z0 : w.frozen? ⟨f, 0, none⟩ = false
  z1 : w.frozen? ⟨f, 1, none⟩ = false
theorem Flc.later {w w' : World} {f B : Nat} {a b : Value} (h : Flc w f a b) (hb : Below B w w') (hf : f < B) : Flc w' f a b :=
  ⟨(hb.cell (by exact hf)).trans h.c0, (hb.cell (by exact hf)).trans h.c1, (hb.frozen (by exact hf)).trans h.z0, (hb.frozen (by exact hf)).trans h.z1⟩
theorem Flc.only {w w' : World} {f p : Nat} {a b : Value} (h : Flc w f a b) (hb : Only (fun k => k = p) w w') (hf : f ≠ p) (hl : f < w.heap.size) : Flc w' f a b :=
  ⟨(World.cell?_of_block (hb.block f hl hf)).trans h.c0, (World.cell?_of_block (hb.block f hl hf)).trans h.c1, (World.frozen?_of_block (hb.block f hl hf)).trans h.z0, (World.frozen?_of_block (hb.block f hl hf)).trans h.z1⟩
theorem flc_new (w : World) (a b : Value) (c : Obj) : Flc ((w.alloc (.cells #[a, b] 69)).alloc c) w.heap.size a b := by
  refine ⟨?_, ?_, ?_, ?_⟩
  · rw [World.cell?_alloc_lt _ _ _ (by simp)]; exact World.cell?_alloc_new w _ _ 0
  · rw [World.cell?_alloc_lt _ _ _ (by simp)]; exact World.cell?_alloc_new w _ _ 1
  · simp
  · simp
theorem Flc.put {w : World} {f : Nat} {a b : Value} (h : Flc w f a b) (x y : Value) : ((w.setCell ⟨f, 0, none⟩ x).setCell ⟨f, 1, none⟩ y).cell? ⟨f, 0, none⟩ = some x ∧ ((w.setCell ⟨f, 0, none⟩ x).setCell ⟨f, 1, none⟩ y).cell? ⟨f, 1, none⟩ = some y := by
  refine ⟨?_, ?_⟩
  · rw [other_cell_Gm _ (by simp) _]; exact World.cell?_setCell_same _ _ _ h.c0
  · exact World.cell?_setCell_same _ _ _ (u := b) (by rw [other_cell_Gm _ (by simp) _]; exact h.c1)
theorem below_put {w w' : World} {f n : Nat} (h : Below n w w') (hf : n ≤ f) (x y : Value) : Below n w ((w'.setCell ⟨f, 0, none⟩ x).setCell ⟨f, 1, none⟩ y) :=
  (h.setCell (p := ⟨f, 0, none⟩) hf _).setCell (p := ⟨f, 1, none⟩) hf _
theorem Wh.by {w : World} {base z L k : Nat} {v : Value} (h : Wh w base v z L) (hz : z < 18446744073709551616 ^ k) : Wh w base v z k := by
  obtain ⟨ws, h1, h2, h3, h4, h5⟩ := h
  refine ⟨ws, h1, h2, h3, h4, ?_⟩
  rcases Nat.lt_or_ge k ws.length with hl | hl
  · exfalso
    have h6 := qn_ge h3 (by omega)
    have h7 : 18446744073709551616 ^ k ≤ 18446744073709551616 ^ (ws.length - 1) := Nat.pow_le_pow_right (by decide) (by omega)
    omega
  · exact hl
def K9 : Nat := 9
theorem cZ_nine (s : ByteArray) (i : Nat) : cZ s i < 18446744073709551616 ^ K9 := by
  refine Nat.lt_of_lt_of_le (cZ_lt s i) (Nat.le_trans (ten_two K130) ?_)
  rw [pow64]
  exact Nat.pow_le_pow_right (by decide) (show 4 * K130 ≤ 64 * K9 by decide)
set_option maxRecDepth 10000 in
set_option maxHeartbeats 2000000 in
theorem Parse_any (s : ByteArray) (w : World) :
    Calls Tryz.prog 193 #[.string s] w fun e w' => e = .returned (.tuple #[.float .f64 (paW s), .agg #[.int .i64 (paE s), .int .i64 (paA s)]]) ∧ Below w.heap.size w w' := by
  by_cases h64 : 64 < s.size
  · have e1 : paW s = 0 := if_pos h64
    have e2 : paE s = 3 := if_pos h64
    have e3 : paA s = -1 := if_pos h64
    have hI : (64 : Int) < s.size := by omega
    rw [e1, e2, e3]
    clear e1 e2 e3
    go_enter Tryz.func193, Tryz.ntmps193
    go_wp2
    refine bodyPost_ret (by simp [results, Tryz.results193, go_sem]; try rfl) rfl ?_
    exact ⟨rfl, (Below.refl _ w).alloc (Nat.le_refl _) _⟩
  · have hI : ¬ (64 : Int) < s.size := by omega
    obtain ⟨W0, hW0⟩ : ∃ W0, W0 = (w.alloc (.cells #[.int .i64 0, .int .i64 0] 69)).alloc (.cells #[.string s, .int .i64 0] 285) := ⟨_, rfl⟩
    have F0 : Flc W0 w.heap.size (.int .i64 0) (.int .i64 0) := by rw [hW0]; exact flc_new _ _ _ _
    have B0 : Below w.heap.size w W0 := by rw [hW0]; exact ((Below.refl w.heap.size w).alloc (Nat.le_refl _) _).alloc (by simp) _
    have S0 : W0.heap.size = w.heap.size + 1 + 1 := by rw [hW0]; simp
    have R0 : Rdr W0 (w.heap.size + 1) s 0 := by
      rw [hW0]
      refine ⟨?_, Nat.zero_le _, by omega⟩
      have := heap_alloc_new (w.alloc (.cells #[.int .i64 0, .int .i64 0] 69)) (.cells #[.string s, .int .i64 0] 285)
      simpa using this
    obtain ⟨neg, hneg⟩ : ∃ neg, tkb s 0 45 = neg := ⟨_, rfl⟩
    have HT : Hid (tkb s 0 45 = neg) := hneg
    by_cases hbad : pBad s = true
    · have e1 : paW s = 0 := by unfold paW; rw [if_neg h64, if_pos hbad]
      have e2 : paE s = 150 := by unfold paE; rw [if_neg h64, if_pos hbad]
      have e3 : paA s = (cEnd s (pI s) : Int) := by unfold paA; rw [if_neg h64, if_pos hbad]
      rw [e1, e2, e3]
      clear e1 e2 e3
      cases hO : cOk s (pI s)
      · have HO : Hid (cOk s (tk s 0 45) = false) := hO
        clear hO hbad hneg
        go_enter Tryz.func193, Tryz.ntmps193
        go_wp2_with fail
        rw [← hW0]
        clear hW0
        go_wp2_with (first
          | (go_at_call 218; (with_reducible refine (take_any 45 R0 (by omega)).mono ?_); rintro e1 w1 ⟨rfl, k1, k2⟩; rw [HT.out]; have F1 := F0.only k2 (by omega) (by omega); have s1 := k2.size)
          | (go_at_call 219; (with_reducible refine (dec_any k1).mono ?_); rintro e2 w2 ⟨v2, P2, rfl, hok2, R2, O2⟩; rw [HO.out]; have F2 := F1.only O2 (by omega) (by omega); have c1 := R2.c1; have f0 := F2.c0; have f1 := F2.c1; have g0 := F2.z0; have g1 := F2.z1))
        go_region
        all_goals
          have B2 : Below w.heap.size w w2 := (B0.trans (k2.below _ B0.size (fun i hi => by omega))).trans (O2.below _ (by omega) (fun i hi => by omega))
          obtain ⟨P0, P1⟩ := F2.put (.int .i64 150) (.int .i64 (cEnd s (tk s 0 45) : Int))
          have P0' : ((w2.setCell ⟨w.heap.size, 0, none⟩ (.int .i64 150)).setCell ⟨w.heap.size, 1, none⟩ (.int .i64 (cEnd s (tk s 0 45) : Int))).drew.cell? ⟨w.heap.size, 0, none⟩ = some (.int .i64 150) := P0
          have P1' : ((w2.setCell ⟨w.heap.size, 0, none⟩ (.int .i64 150)).setCell ⟨w.heap.size, 1, none⟩ (.int .i64 (cEnd s (tk s 0 45) : Int))).drew.cell? ⟨w.heap.size, 1, none⟩ = some (.int .i64 (cEnd s (tk s 0 45) : Int)) := P1
          go_wp2
          refine bodyPost_ret (by simp [results, Tryz.results193, go_sem, P0', P1']; try rfl) rfl ?_
          exact ⟨rfl, (below_put B2 (Nat.le_refl _) _ _).drew⟩
      · have HO : Hid (cOk s (tk s 0 45) = true) := hO
        have hE : ((cEnd s (tk s 0 45) : Nat) : Int) < s.size := by
          have h1 : cEnd s (pI s) < s.size := by
            unfold pBad at hbad
            rw [hO] at hbad
            simpa using hbad
          have h2 : cEnd s (tk s 0 45) < s.size := h1
          omega
        clear hO hbad hneg
        go_enter Tryz.func193, Tryz.ntmps193
        go_wp2_with fail
        rw [← hW0]
        clear hW0
        go_wp2_with (first
          | (go_at_call 218; (with_reducible refine (take_any 45 R0 (by omega)).mono ?_); rintro e1 w1 ⟨rfl, k1, k2⟩; rw [HT.out]; have F1 := F0.only k2 (by omega) (by omega); have s1 := k2.size)
          | (go_at_call 219; (with_reducible refine (dec_any k1).mono ?_); rintro e2 w2 ⟨v2, P2, rfl, hok2, R2, O2⟩; rw [HO.out]; have F2 := F1.only O2 (by omega) (by omega); have c1 := R2.c1; have f0 := F2.c0; have f1 := F2.c1; have g0 := F2.z0; have g1 := F2.z1))
        go_region
        all_goals
          have B2 : Below w.heap.size w w2 := (B0.trans (k2.below _ B0.size (fun i hi => by omega))).trans (O2.below _ (by omega) (fun i hi => by omega))
          obtain ⟨P0, P1⟩ := F2.put (.int .i64 150) (.int .i64 (cEnd s (tk s 0 45) : Int))
          have P0' : ((w2.setCell ⟨w.heap.size, 0, none⟩ (.int .i64 150)).setCell ⟨w.heap.size, 1, none⟩ (.int .i64 (cEnd s (tk s 0 45) : Int))).drew.cell? ⟨w.heap.size, 0, none⟩ = some (.int .i64 150) := P0
          have P1' : ((w2.setCell ⟨w.heap.size, 0, none⟩ (.int .i64 150)).setCell ⟨w.heap.size, 1, none⟩ (.int .i64 (cEnd s (tk s 0 45) : Int))).drew.cell? ⟨w.heap.size, 1, none⟩ = some (.int .i64 (cEnd s (tk s 0 45) : Int)) := P1
          go_wp2
          refine bodyPost_ret (by simp [results, Tryz.results193, go_sem, P0', P1']; try rfl) rfl ?_
          exact ⟨rfl, (below_put B2 (Nat.le_refl _) _ _).drew⟩
    · have hO : cOk s (pI s) = true := by
        unfold pBad at hbad
        cases h : cOk s (pI s)
        · rw [h] at hbad; simp at hbad
        · rfl
      have HO : Hid (cOk s (tk s 0 45) = true) := hO
      have hE : ¬ ((cEnd s (tk s 0 45) : Nat) : Int) < s.size := by
        intro h1
        apply hbad
        unfold pBad
        have h2 : cEnd s (pI s) < s.size := by
          have : cEnd s (tk s 0 45) < s.size := by omega
          exact this
        rw [decide_eq_true h2]; simp
      have HF : Hid (pF s = flt (cZ s (tk s 0 45)) (clp (cP s (tk s 0 45)))) := rfl
      have HW : Hid (paW s = if 9218868437227405312 ≤ pF s then 0 else if neg = true then pF s + 9223372036854775808 else pF s) := by
        show _ = _
        unfold paW
        rw [if_neg h64, if_neg hbad, hneg]
      have HE : Hid (paE s = if 9218868437227405312 ≤ pF s then 6 else 0) := by
        show _ = _
        unfold paE
        rw [if_neg h64, if_neg hbad]
      have HA : Hid (paA s = if 9218868437227405312 ≤ pF s then -1 else 0) := by
        show _ = _
        unfold paA
        rw [if_neg h64, if_neg hbad]
      clear hO hbad hneg
      by_cases hz : cZ s (tk s 0 45) = 0
      · have HZ : Hid (cZ s (tk s 0 45) = 0) := hz
        have hf0 : pF s = 0 := by rw [HF.out, hz]; rfl
        have eW : Hid (paW s = if neg = true then 9223372036854775808 else 0) := by show _ = _; rw [HW.out, hf0, if_neg (by decide)]
        have eE : paE s = 0 := by rw [HE.out, hf0, if_neg (by decide)]
        have eA : paA s = 0 := by rw [HA.out, hf0, if_neg (by decide)]
        have hor0 : bits .or .u64 0 9223372036854775808 = 9223372036854775808 := qor_sign (b := 0) (by decide)
        rw [eE, eA]
        clear hz hf0 eE eA
        cases neg
        all_goals
          go_enter Tryz.func193, Tryz.ntmps193
          go_wp2_with fail
          rw [← hW0]
          clear hW0
          go_wp2_with (first
            | (go_at_call 218; (with_reducible refine (take_any 45 R0 (by omega)).mono ?_); rintro e1 w1 ⟨rfl, k1, k2⟩; rw [HT.out]; have F1 := F0.only k2 (by omega) (by omega); have s1 := k2.size)
            | (go_at_call 219; (with_reducible refine (dec_any k1).mono ?_); rintro e2 w2 ⟨v2, P2, rfl, hok2, R2, O2⟩; rw [HO.out]; have F2 := F1.only O2 (by omega) (by omega); have c1 := R2.c1; have f0 := F2.c0; have f1 := F2.c1; have g0 := F2.z0; have g1 := F2.z1)
            | (go_at_call 220; (with_reducible refine (qnear_zero w1.heap.size 200 v2 P2 w2 (HZ.out ▸ (hok2 HO.out).1)).mono ?_); rintro e3 w3 ⟨rfl, rfl⟩))
          have B2 := (B0.trans (k2.below w.heap.size B0.size (fun i hi => by omega))).trans (O2.below w.heap.size (by omega) (fun i hi => by omega))
          obtain ⟨P0, P1⟩ := F2.put (.int .i64 0) (.int .i64 0)
          refine bodyPost_ret (by simp [results, Tryz.results193, go_sem, P0, P1]; try rfl) rfl ⟨?_, below_put B2 (Nat.le_refl _) _ _⟩
          rw [eW.out]
          rfl
      · have HZ : Hid (0 < cZ s (tk s 0 45)) := Nat.pos_of_ne_zero hz
        clear hz
        cases neg
        all_goals
          go_enter Tryz.func193, Tryz.ntmps193
          go_wp2_with fail
          rw [← hW0]
          clear hW0
          go_wp2_with (first
            | (go_at_call 218; (with_reducible refine (take_any 45 R0 (by omega)).mono ?_); rintro e1 w1 ⟨rfl, k1, k2⟩; rw [HT.out]; have F1 := F0.only k2 (by omega) (by omega); have s1 := k2.size)
            | (go_at_call 219; (with_reducible refine (dec_any k1).mono ?_); rintro e2 w2 ⟨v2, P2, rfl, hok2, R2, O2⟩; rw [HO.out]; have F2 := F1.only O2 (by omega) (by omega); have c1 := R2.c1; have f0 := F2.c0; have f1 := F2.c1; have g0 := F2.z0; have g1 := F2.z1))
          refine (qnear_any w1.heap.size (cZ s (tk s 0 45)) K9 v2 P2 w2 ((hok2 HO.out).1.by (cZ_nine _ _)) HZ.out (by decide) (by decide) O2.size).mono ?_
          rintro e3 w3 ⟨bw, D, r', o', rfl, hG, hbw, B3⟩
          rw [(hok2 HO.out).2] at hG
          have NB : Hid (bw < 18446744073709551616 ∧ (bw < 9218868437227405312 → flt (cZ s (tk s 0 45)) (clp (cP s (tk s 0 45))) = bw) ∧ (9218868437227405312 ≤ bw → flt (cZ s (tk s 0 45)) (clp (cP s (tk s 0 45))) = 9218868437227405312)) := near_bits HZ.out (cZ_lt _ _) (clp_le _).2 hG (Int.ofNat_inj.1 hbw)
          have B2 := ((B0.trans (k2.below w.heap.size B0.size (fun i hi => by omega))).trans (O2.below w.heap.size (by omega) (fun i hi => by omega)))
          have B3' : Below w.heap.size w2 w3 := ⟨B3.os, B3.tape, B3.output, B3.size, fun k hk => B3.block k (by omega)⟩
          have F3 := F2.later B3 (by omega)
          clear hG hbw f0 f1 g0 g1
          have f0 := F3.c0
          have f1 := F3.c1
          have g0 := F3.z0
          have g1 := F3.z1
          by_cases hov : 9218868437227405312 ≤ bw
          · have hd : decide ((9218868437227405312 : Int) ≤ (bw : Int)) = true := decide_eq_true (by omega)
            have HV : Hid (9218868437227405312 ≤ bw) := hov
            clear hov
            go_wp2
            obtain ⟨P0, P1⟩ := F3.put (.int .i64 6) (.int .i64 (-1))
            have hp : pF s = 9218868437227405312 := HF.out.trans (NB.out.2.2 HV.out)
            have eW : paW s = 0 := by rw [HW.out, hp]; rfl
            have eE : paE s = 6 := by rw [HE.out, hp]; rfl
            have eA : paA s = -1 := by rw [HA.out, hp]; rfl
            refine bodyPost_ret (by simp [results, Tryz.results193, go_sem, P0, P1]; try rfl) rfl ⟨?_, below_put (B2.trans B3') (Nat.le_refl _) _ _⟩
            rw [eW, eE, eA]
          · have hd : decide ((9218868437227405312 : Int) ≤ (bw : Int)) = false := decide_eq_false (by omega)
            have HV : Hid (¬ 9218868437227405312 ≤ bw) := hov
            clear hov
            go_wp2
            obtain ⟨P0, P1⟩ := F3.put (.int .i64 0) (.int .i64 0)
            have hp : pF s = bw := HF.out.trans (NB.out.2.1 (Nat.lt_of_not_le HV.out))
            have eE : paE s = 0 := by rw [HE.out, hp, if_neg HV.out]
            have eA : paA s = 0 := by rw [HA.out, hp, if_neg HV.out]
            have eW := HW.out
            rw [hp, if_neg HV.out] at eW
            have hb63 : bw < 9223372036854775808 := Nat.lt_trans (Nat.lt_of_not_le HV.out) (by decide)
            try rw [qor_sign hb63]
            refine bodyPost_ret (by simp [results, Tryz.results193, go_sem, P0, P1]; try rfl) rfl ⟨?_, below_put (B2.trans B3') (Nat.le_refl _) _ _⟩
            rw [eW, eE, eA]
            rfl

end Go.Proofs.YtmpkcioeodlbcaaGreatDoor
