/-
  The walk of RealExact: whatever two words it is called with, it hands back true and only lays new memory.
-/
import Derived.Test.YtggnilfphnnpkaaWProd
import Derived.Test.YtggnilfphnnpkaaEq72
import Derived.Test.YtggnilfphnnpkaaAwake
namespace Go.Proofs.Ytggnilfphnnpkaa
open Fl RowKit

theorem EV_add (u v : Int) : (EV u + EV v) % MM = EV (u + v) := by unfold EV; rw [emb_add, Int.add_mul]
theorem EP_EV (u v : Int) (h : u * ((2 ^ K74 : Nat) : Int) = v) : EV u = EP v := by
  have e0 : K26 = K74 + 52 := by decide
  have e : (2 : Nat) ^ K26 = 2 ^ K74 * 2 ^ 52 := by rw [e0, Nat.pow_add]
  unfold EV EP
  rw [← h, e, Int.natCast_mul, Int.mul_assoc]
theorem sum_eq {A B C D P Q : List Nat} {s e x y : Int} (oP : okL P) (oQ : okL Q) (hP : Lv P = (Lv A + Lv B) % MM) (hQ : Lv Q = (Lv C + Lv D) % MM)
    (hA : Lv A = EV s) (hB : Lv B = EV e) (hC : Lv C = EV x) (hD : Lv D = EV y) (h : s + e = x + y) : P = Q := by
  refine Lv_inj oP oQ ?_
  rw [hP, hQ, hA, hB, hC, hD, EV_add, EV_add, h]
theorem prod_eq {A B P Q : List Nat} {p f v : Int} (oP : okL P) (oQ : okL Q) (hP : Lv P = (Lv A + Lv B) % MM) (hQ : Lv Q = EP v) (hA : Lv A = EV p) (hB : Lv B = EV f)
    (h : (p + f) * ((2 ^ K74 : Nat) : Int) = v) : P = Q := by
  refine Lv_inj oP oQ ?_
  rw [hP, hQ, hA, hB, EV_add]; exact EP_EV _ _ h
theorem bd {a b c : World} {k : Nat} (h : Below a.heap.size a b) (k2 : Below (b.drewN k).heap.size (b.drewN k) c) : Below a.heap.size a c := (below_drewN h k).trans (k2.mono h.size)
theorem bt {a b c : World} (h : Below a.heap.size a b) (k : Below b.heap.size b c) : Below a.heap.size a c := h.trans (k.mono h.size)
theorem bn {a b : World} (h : Below a.heap.size a b) (k : Nat) : Below a.heap.size a (b.drewN k) := below_drewN h k
theorem fin_of {x : Nat} (h1 : nan x = false) (h2 : infB x = false) : fin x := by
  have := not_nan h1; unfold infB at h2; simp at h2; unfold fin; omega
theorem fin_inf {x : Nat} (h : fin x) : infB x = false := by unfold fin at h; unfold infB; simp; omega
theorem addV_of {x y s : Nat} (h : addO x y = some s) (W : World) : addV W x y = s := by unfold addV fV; rw [h]
theorem mulV_of {x y s : Nat} (h : mulO x y = some s) (W : World) : mulV W x y = s := by unfold mulV fV; rw [h]
theorem fN_of {o : Option Nat} {s : Nat} (h : o = some s) : fN o = 0 := by rw [h]; rfl
theorem val_abs (x : Nat) : (val x).natAbs = sz (mg x) := sgn_abs _ _
/-- the greatest size that is asked -/
theorem sz_H : sz 9209861237972664320 = HH := by
  have e1 : sig 9209861237972664320 = 2 ^ 52 := by decide
  have e2 : ex 9209861237972664320 = HE - 52 := by decide
  have e3 : 52 + (HE - 52) = HE := by decide
  unfold sz HH
  rw [e1, e2, ← Nat.pow_add, e3]
theorem le_H {x : Nat} (h : mg x ≤ 9209861237972664320) : (val x).natAbs ≤ HH := by rw [val_abs, ← sz_H]; exact sz_le h
theorem sz_C : sz 247697979505377280 = 2 ^ 106 := by decide
theorem ge_C {p : Nat} (h : ¬ mg p < 247697979505377280) : 2 ^ 106 ≤ (val p).natAbs := by rw [val_abs, ← sz_C]; exact sz_le (by omega)
theorem leq_H {x : Nat} (hn : nan x = false) : (FloatKind.f64.format.order (mg x) 9209861237972664320 == some .lt || FloatKind.f64.format.order (mg x) 9209861237972664320 == some .eq) = decide (mg x ≤ 9209861237972664320) := by
  have h1 : nan (mg x) = false := by rw [nan_mg]; exact hn
  rw [order_lt h1 (by decide), order_eqb h1 (by decide), plc_mg, show plc 9209861237972664320 = 9209861237972664320 by decide, Bool.eq_iff_iff]
  simp; omega
theorem lt_C {p : Nat} (hn : nan p = false) : (FloatKind.f64.format.order (mg p) 247697979505377280 == some .lt) = decide (mg p < 247697979505377280) := by
  have h1 : nan (mg p) = false := by rw [nan_mg]; exact hn
  rw [order_lt h1 (by decide), plc_mg, show plc 247697979505377280 = 247697979505377280 by decide, Bool.eq_iff_iff]
  simp; omega
theorem zero_of {x : Nat} (hn : nan x = false) (h : (FloatKind.f64.format.order x 0 == some .eq) = true) : val x = 0 := by
  rw [order_eqb hn nan_zero, plc_zero] at h
  simp at h
  have : mg x = 0 := by unfold plc sgn at h; split at h <;> omega
  unfold val; rw [this, sz_zero]; unfold sgn; split <;> rfl

set_option maxRecDepth 100000 in
set_option maxHeartbeats 4000000 in
theorem exact_odd (x y : Nat) (w : World) (hx : x < 18446744073709551616) (hy : y < 18446744073709551616) (h : nan x = true ∨ nan y = true ∨ infB x = true ∨ infB y = true) :
    Calls Try.prog 7 #[.int .u64 (x : Int), .int .u64 (y : Int)] w fun e w' => e = .returned (.bool true) ∧ Below w.heap.size w w' := by
  cases i1 : infB x
  · cases i2 : infB y
    · cases n1 : nan x
      · have o1 := order_num n1
        cases n2 : nan y
        · simp [i1, i2, n1, n2] at h
        · have o2 := order_nan n2
          clear h
          go_enter Try.func7, Try.ntmps7
          go_wp2_with (first
            | (go_at_call 33; refine (awake_yes _).mono ?_; rintro e wA ⟨rfl, hbA⟩)
            | (go_at_call 9; go_in)
            | (go_at_call 20; refine (twoSum_any _ _ _ hx hy).mono ?_; rintro e w' ⟨s, r, m1, rfl, hs, hr, rfl⟩)
            | (go_at_call 22; refine (twoProd_any _ _ _).mono ?_; rintro e w' ⟨p, f, m2, rfl, hp, hf, rfl⟩)
            | (go_at_call 35; refine (isInf_any _ _ (by with_reducible assumption)).mono ?_; rintro e w' ⟨rfl, rfl⟩))
          all_goals go_ret
          all_goals exact ⟨rfl, bn hbA _⟩
      · have o1 := order_nan n1
        clear h
        go_enter Try.func7, Try.ntmps7
        go_wp2_with (first
          | (go_at_call 33; refine (awake_yes _).mono ?_; rintro e wA ⟨rfl, hbA⟩)
          | (go_at_call 9; go_in)
          | (go_at_call 20; refine (twoSum_any _ _ _ hx hy).mono ?_; rintro e w' ⟨s, r, m1, rfl, hs, hr, rfl⟩)
          | (go_at_call 22; refine (twoProd_any _ _ _).mono ?_; rintro e w' ⟨p, f, m2, rfl, hp, hf, rfl⟩)
          | (go_at_call 35; refine (isInf_any _ _ (by with_reducible assumption)).mono ?_; rintro e w' ⟨rfl, rfl⟩))
        all_goals go_ret
        all_goals exact ⟨rfl, bn hbA _⟩
    · clear h
      go_enter Try.func7, Try.ntmps7
      go_wp2_with (first
        | (go_at_call 33; refine (awake_yes _).mono ?_; rintro e wA ⟨rfl, hbA⟩)
        | (go_at_call 9; go_in)
        | (go_at_call 20; refine (twoSum_any _ _ _ hx hy).mono ?_; rintro e w' ⟨s, r, m1, rfl, hs, hr, rfl⟩)
        | (go_at_call 22; refine (twoProd_any _ _ _).mono ?_; rintro e w' ⟨p, f, m2, rfl, hp, hf, rfl⟩)
        | (go_at_call 35; refine (isInf_any _ _ (by with_reducible assumption)).mono ?_; rintro e w' ⟨rfl, rfl⟩))
      all_goals go_ret
      all_goals exact ⟨rfl, bn hbA _⟩
  · clear h
    go_enter Try.func7, Try.ntmps7
    go_wp2_with (first
      | (go_at_call 33; refine (awake_yes _).mono ?_; rintro e wA ⟨rfl, hbA⟩)
      | (go_at_call 9; go_in)
      | (go_at_call 20; refine (twoSum_any _ _ _ hx hy).mono ?_; rintro e w' ⟨s, r, m1, rfl, hs, hr, rfl⟩)
      | (go_at_call 22; refine (twoProd_any _ _ _).mono ?_; rintro e w' ⟨p, f, m2, rfl, hp, hf, rfl⟩)
      | (go_at_call 35; refine (isInf_any _ _ (by with_reducible assumption)).mono ?_; rintro e w' ⟨rfl, rfl⟩))
    all_goals go_ret
    all_goals exact ⟨rfl, bn hbA _⟩
set_option maxRecDepth 100000 in
set_option maxHeartbeats 4000000 in
theorem exact_small (x y : Nat) (w : World) (hx : x < 18446744073709551616) (hy : y < 18446744073709551616) (fx : fin x) (fy : fin y) (h1 : mg x ≤ 9209861237972664320) (h2 : mg y ≤ 9209861237972664320) :
    Calls Try.prog 7 #[.int .u64 (x : Int), .int .u64 (y : Int)] w fun e w' => e = .returned (.bool true) ∧ Below w.heap.size w w' := by
  have n1 := fin_not_nan fx
  have n2 := fin_not_nan fy
  have o1 := order_num n1
  have o2 := order_num n2
  have i1 := fin_inf fx
  have i2 := fin_inf fy
  have dz := World.drewN_zero
  have t1 : (FloatKind.f64.format.order (mg x) 9209861237972664320 == some .lt || FloatKind.f64.format.order (mg x) 9209861237972664320 == some .eq) = true := by rw [leq_H n1]; simp [h1]
  have t2 : (FloatKind.f64.format.order (mg y) 9209861237972664320 == some .lt || FloatKind.f64.format.order (mg y) 9209861237972664320 == some .eq) = true := by rw [leq_H n2]; simp [h2]
  obtain ⟨s, r, tS, tE, fs, fr, _, eqS⟩ := ts_exact fx fy (le_H h1) (le_H h2)
  have aS : addO x y = some s := by have := tS; rw [ans_fin fx, ans_fin fy] at this; exact this
  have av := addV_of aS
  have an := fN_of aS
  have ls := (add_bd aS).1
  have lr : r < 18446744073709551616 := by
    have h := tE; unfold tsE at h
    generalize subA (ans x) _ = u at h
    generalize subA (ans y) _ = v at h
    cases u with
    | none => cases h
    | some u => cases v with
      | none => cases h
      | some v => exact (add_bd h).1
  have os := order_num (fin_not_nan fs)
  have or := order_num (fin_not_nan fr)
  have ir := fin_inf fr
  have TS : Hid (tsS (ans x) (ans y) = some s) := tS
  have TE : Hid (tsE (ans x) (ans y) = some r) := tE
  have ES : Hid (val s + val r = val x + val y) := eqS
  clear tS tE eqS aS h1 h2
  obtain ⟨p, pP⟩ : ∃ p, mulO x y = some p := ⟨_, mul_eq fx fy⟩
  have lp := (mul_bd pP).1
  have np := (mul_bd pP).2
  have op := order_num np
  have c1 := lt_C np
  have mv := mulV_of pP
  have mn := fN_of pP
  cases ip : infB p
  · have fp := fin_of np ip
    by_cases hC : mg p < 247697979505377280
    · have c2 : FloatKind.f64.format.order (mg p) 247697979505377280 = some .lt := by
        have h : (FloatKind.f64.format.order (mg p) 247697979505377280 == some .lt) = true := by rw [c1]; simp [hC]
        simpa using h
      clear c1 hC
      cases z1 : (FloatKind.f64.format.order x 0 == some .eq)
      · cases z2 : (FloatKind.f64.format.order y 0 == some .eq)
        · have y1 : (FloatKind.f64.format.order x 0 != some .eq) = true := by rw [bne, z1]; rfl
          have y2 : (FloatKind.f64.format.order y 0 != some .eq) = true := by rw [bne, z2]; rfl
          have PP : Hid (mulO x y = some p) := pP
          clear pP
          go_enter Try.func7, Try.ntmps7
          go_wp2_with (first
            | (go_at_call 33; refine (awake_yes _).mono ?_; rintro e wA ⟨rfl, hbA⟩)
            | (go_at_call 9; go_in)
            | (go_at_call 20; refine (twoSum_any _ _ _ hx hy).mono ?_; rintro e w' ⟨s, r, m1, rfl, hs, hr, rfl⟩; obtain rfl := rep_is hs TS.out; obtain rfl := rep_is hr TE.out; clear hs hr)
            | (go_at_call 22; refine (twoProd_any _ _ _).mono ?_; rintro e w' ⟨p, f, m2, rfl, hp, hf, rfl⟩; obtain rfl := rep_is hp PP.out; clear hp)
            | (go_at_call 35; refine (isInf_any _ _ (by with_reducible assumption)).mono ?_; rintro e w' ⟨rfl, rfl⟩)
            | (go_at_call 36; refine (abs_any _ _ (by with_reducible assumption)).mono ?_; rintro e w' ⟨rfl, rfl⟩)
            | (go_at_call 37; with_reducible refine (of_any s _ ls fs).mono ?_; rintro e w1 ⟨A1, rfl, oA1, vA1, bA1⟩)
            | (go_at_call 37; with_reducible refine (of_any r _ lr fr).mono ?_; rintro e w2 ⟨A2, rfl, oA2, vA2, bA2⟩)
            | (go_at_call 37; with_reducible refine (of_any x _ hx fx).mono ?_; rintro e w3 ⟨A3, rfl, oA3, vA3, bA3⟩)
            | (go_at_call 37; with_reducible refine (of_any y _ hy fy).mono ?_; rintro e w4 ⟨A4, rfl, oA4, vA4, bA4⟩)
            | (go_at_call 38; with_reducible refine (plus_any A1 A2 _ oA1 oA2).mono ?_; rintro e w5 ⟨B1, rfl, oB1, vB1, bB1⟩)
            | (go_at_call 38; with_reducible refine (plus_any A3 A4 _ oA3 oA4).mono ?_; rintro e w6 ⟨B2, rfl, oB2, vB2, bB2⟩; obtain rfl := sum_eq oB1 oB2 vB1 vB2 vA1 vA2 vA3 vA4 ES.out; have hq := eq72 B1 oB1.len))
          all_goals go_ret
          all_goals exact ⟨rfl, bt (bt (bt (bt (bt (bd hbA bA1) bA2) bB1) bA3) bA4) bB2⟩
        · obtain ⟨f, pF, ff, eqP⟩ := tp_exact fx fy pP fp (Or.inr (Or.inr (zero_of n2 z2)))
          have y1 : (FloatKind.f64.format.order x 0 != some .eq) = true := by rw [bne, z1]; rfl
          have y2 : FloatKind.f64.format.order y 0 = some .eq := by simpa using z2
          clear z2
          have lf := (fma_bd pF).1
          have of := order_num (fin_not_nan ff)
          have jf := fin_inf ff
          have PP : Hid (mulO x y = some p) := pP
          have PF : Hid (fmaO x y (Op.negFloat .f64 p) = some f) := pF
          have EQ : Hid ((val p + val f) * ((2 ^ K74 : Nat) : Int) = val x * val y) := eqP
          clear pP pF eqP
          go_enter Try.func7, Try.ntmps7
          go_wp2_with (first
            | (go_at_call 33; refine (awake_yes _).mono ?_; rintro e wA ⟨rfl, hbA⟩)
            | (go_at_call 9; go_in)
            | (go_at_call 20; refine (twoSum_any _ _ _ hx hy).mono ?_; rintro e w' ⟨s, r, m1, rfl, hs, hr, rfl⟩; obtain rfl := rep_is hs TS.out; obtain rfl := rep_is hr TE.out; clear hs hr)
            | (go_at_call 22; refine (twoProd_any _ _ _).mono ?_; rintro e w' ⟨p, f, m2, rfl, hp, hf, rfl⟩; obtain rfl := rep_is hp PP.out; obtain rfl := rep_is hf PF.out; clear hp hf)
            | (go_at_call 35; refine (isInf_any _ _ (by with_reducible assumption)).mono ?_; rintro e w' ⟨rfl, rfl⟩)
            | (go_at_call 36; refine (abs_any _ _ (by with_reducible assumption)).mono ?_; rintro e w' ⟨rfl, rfl⟩)
            | (go_at_call 37; with_reducible refine (of_any s _ ls fs).mono ?_; rintro e w1 ⟨A1, rfl, oA1, vA1, bA1⟩)
            | (go_at_call 37; with_reducible refine (of_any r _ lr fr).mono ?_; rintro e w2 ⟨A2, rfl, oA2, vA2, bA2⟩)
            | (go_at_call 37; with_reducible refine (of_any x _ hx fx).mono ?_; rintro e w3 ⟨A3, rfl, oA3, vA3, bA3⟩)
            | (go_at_call 37; with_reducible refine (of_any y _ hy fy).mono ?_; rintro e w4 ⟨A4, rfl, oA4, vA4, bA4⟩)
            | (go_at_call 38; with_reducible refine (plus_any A1 A2 _ oA1 oA2).mono ?_; rintro e w5 ⟨B1, rfl, oB1, vB1, bB1⟩)
            | (go_at_call 38; with_reducible refine (plus_any A3 A4 _ oA3 oA4).mono ?_; rintro e w6 ⟨B2, rfl, oB2, vB2, bB2⟩; obtain rfl := sum_eq oB1 oB2 vB1 vB2 vA1 vA2 vA3 vA4 ES.out; have hq := eq72 B1 oB1.len)
            | (go_at_call 37; with_reducible refine (of_any p _ lp fp).mono ?_; rintro e w7 ⟨A7, rfl, oA7, vA7, bA7⟩)
            | (go_at_call 37; with_reducible refine (of_any f _ lf ff).mono ?_; rintro e w8 ⟨A8, rfl, oA8, vA8, bA8⟩)
            | (go_at_call 38; with_reducible refine (plus_any A7 A8 _ oA7 oA8).mono ?_; rintro e w9 ⟨B3, rfl, oB3, vB3, bB3⟩)
            | (go_at_call 39; with_reducible refine (product_any x y _ hx hy fx fy).mono ?_; rintro e w10 ⟨B4, rfl, oB4, vB4, bB4⟩; obtain rfl := prod_eq oB3 oB4 vB3 vB4 vA7 vA8 EQ.out; have hq2 := eq72 B3 oB3.len))
          all_goals go_ret
          all_goals exact ⟨rfl, bt (bt (bt (bt (bt (bt (bt (bt (bt (bd hbA bA1) bA2) bB1) bA3) bA4) bB2) bA7) bA8) bB3) bB4⟩
      · obtain ⟨f, pF, ff, eqP⟩ := tp_exact fx fy pP fp (Or.inr (Or.inl (zero_of n1 z1)))
        have y1 : FloatKind.f64.format.order x 0 = some .eq := by simpa using z1
        clear z1
        have lf := (fma_bd pF).1
        have of := order_num (fin_not_nan ff)
        have jf := fin_inf ff
        have PP : Hid (mulO x y = some p) := pP
        have PF : Hid (fmaO x y (Op.negFloat .f64 p) = some f) := pF
        have EQ : Hid ((val p + val f) * ((2 ^ K74 : Nat) : Int) = val x * val y) := eqP
        clear pP pF eqP
        go_enter Try.func7, Try.ntmps7
        go_wp2_with (first
          | (go_at_call 33; refine (awake_yes _).mono ?_; rintro e wA ⟨rfl, hbA⟩)
          | (go_at_call 9; go_in)
          | (go_at_call 20; refine (twoSum_any _ _ _ hx hy).mono ?_; rintro e w' ⟨s, r, m1, rfl, hs, hr, rfl⟩; obtain rfl := rep_is hs TS.out; obtain rfl := rep_is hr TE.out; clear hs hr)
          | (go_at_call 22; refine (twoProd_any _ _ _).mono ?_; rintro e w' ⟨p, f, m2, rfl, hp, hf, rfl⟩; obtain rfl := rep_is hp PP.out; obtain rfl := rep_is hf PF.out; clear hp hf)
          | (go_at_call 35; refine (isInf_any _ _ (by with_reducible assumption)).mono ?_; rintro e w' ⟨rfl, rfl⟩)
          | (go_at_call 36; refine (abs_any _ _ (by with_reducible assumption)).mono ?_; rintro e w' ⟨rfl, rfl⟩)
          | (go_at_call 37; with_reducible refine (of_any s _ ls fs).mono ?_; rintro e w1 ⟨A1, rfl, oA1, vA1, bA1⟩)
          | (go_at_call 37; with_reducible refine (of_any r _ lr fr).mono ?_; rintro e w2 ⟨A2, rfl, oA2, vA2, bA2⟩)
          | (go_at_call 37; with_reducible refine (of_any x _ hx fx).mono ?_; rintro e w3 ⟨A3, rfl, oA3, vA3, bA3⟩)
          | (go_at_call 37; with_reducible refine (of_any y _ hy fy).mono ?_; rintro e w4 ⟨A4, rfl, oA4, vA4, bA4⟩)
          | (go_at_call 38; with_reducible refine (plus_any A1 A2 _ oA1 oA2).mono ?_; rintro e w5 ⟨B1, rfl, oB1, vB1, bB1⟩)
          | (go_at_call 38; with_reducible refine (plus_any A3 A4 _ oA3 oA4).mono ?_; rintro e w6 ⟨B2, rfl, oB2, vB2, bB2⟩; obtain rfl := sum_eq oB1 oB2 vB1 vB2 vA1 vA2 vA3 vA4 ES.out; have hq := eq72 B1 oB1.len)
          | (go_at_call 37; with_reducible refine (of_any p _ lp fp).mono ?_; rintro e w7 ⟨A7, rfl, oA7, vA7, bA7⟩)
          | (go_at_call 37; with_reducible refine (of_any f _ lf ff).mono ?_; rintro e w8 ⟨A8, rfl, oA8, vA8, bA8⟩)
          | (go_at_call 38; with_reducible refine (plus_any A7 A8 _ oA7 oA8).mono ?_; rintro e w9 ⟨B3, rfl, oB3, vB3, bB3⟩)
          | (go_at_call 39; with_reducible refine (product_any x y _ hx hy fx fy).mono ?_; rintro e w10 ⟨B4, rfl, oB4, vB4, bB4⟩; obtain rfl := prod_eq oB3 oB4 vB3 vB4 vA7 vA8 EQ.out; have hq2 := eq72 B3 oB3.len))
        all_goals go_ret
        all_goals exact ⟨rfl, bt (bt (bt (bt (bt (bt (bt (bt (bt (bd hbA bA1) bA2) bB1) bA3) bA4) bB2) bA7) bA8) bB3) bB4⟩
    · obtain ⟨f, pF, ff, eqP⟩ := tp_exact fx fy pP fp (Or.inl (ge_C hC))
      have c2 : (FloatKind.f64.format.order (mg p) 247697979505377280 == some .lt) = false := by rw [c1]; simp; omega
      clear c1 hC
      have lf := (fma_bd pF).1
      have of := order_num (fin_not_nan ff)
      have jf := fin_inf ff
      have PP : Hid (mulO x y = some p) := pP
      have PF : Hid (fmaO x y (Op.negFloat .f64 p) = some f) := pF
      have EQ : Hid ((val p + val f) * ((2 ^ K74 : Nat) : Int) = val x * val y) := eqP
      clear pP pF eqP
      go_enter Try.func7, Try.ntmps7
      go_wp2_with (first
        | (go_at_call 33; refine (awake_yes _).mono ?_; rintro e wA ⟨rfl, hbA⟩)
        | (go_at_call 9; go_in)
        | (go_at_call 20; refine (twoSum_any _ _ _ hx hy).mono ?_; rintro e w' ⟨s, r, m1, rfl, hs, hr, rfl⟩; obtain rfl := rep_is hs TS.out; obtain rfl := rep_is hr TE.out; clear hs hr)
        | (go_at_call 22; refine (twoProd_any _ _ _).mono ?_; rintro e w' ⟨p, f, m2, rfl, hp, hf, rfl⟩; obtain rfl := rep_is hp PP.out; obtain rfl := rep_is hf PF.out; clear hp hf)
        | (go_at_call 35; refine (isInf_any _ _ (by with_reducible assumption)).mono ?_; rintro e w' ⟨rfl, rfl⟩)
        | (go_at_call 36; refine (abs_any _ _ (by with_reducible assumption)).mono ?_; rintro e w' ⟨rfl, rfl⟩)
        | (go_at_call 37; with_reducible refine (of_any s _ ls fs).mono ?_; rintro e w1 ⟨A1, rfl, oA1, vA1, bA1⟩)
        | (go_at_call 37; with_reducible refine (of_any r _ lr fr).mono ?_; rintro e w2 ⟨A2, rfl, oA2, vA2, bA2⟩)
        | (go_at_call 37; with_reducible refine (of_any x _ hx fx).mono ?_; rintro e w3 ⟨A3, rfl, oA3, vA3, bA3⟩)
        | (go_at_call 37; with_reducible refine (of_any y _ hy fy).mono ?_; rintro e w4 ⟨A4, rfl, oA4, vA4, bA4⟩)
        | (go_at_call 38; with_reducible refine (plus_any A1 A2 _ oA1 oA2).mono ?_; rintro e w5 ⟨B1, rfl, oB1, vB1, bB1⟩)
        | (go_at_call 38; with_reducible refine (plus_any A3 A4 _ oA3 oA4).mono ?_; rintro e w6 ⟨B2, rfl, oB2, vB2, bB2⟩; obtain rfl := sum_eq oB1 oB2 vB1 vB2 vA1 vA2 vA3 vA4 ES.out; have hq := eq72 B1 oB1.len)
        | (go_at_call 37; with_reducible refine (of_any p _ lp fp).mono ?_; rintro e w7 ⟨A7, rfl, oA7, vA7, bA7⟩)
        | (go_at_call 37; with_reducible refine (of_any f _ lf ff).mono ?_; rintro e w8 ⟨A8, rfl, oA8, vA8, bA8⟩)
        | (go_at_call 38; with_reducible refine (plus_any A7 A8 _ oA7 oA8).mono ?_; rintro e w9 ⟨B3, rfl, oB3, vB3, bB3⟩)
        | (go_at_call 39; with_reducible refine (product_any x y _ hx hy fx fy).mono ?_; rintro e w10 ⟨B4, rfl, oB4, vB4, bB4⟩; obtain rfl := prod_eq oB3 oB4 vB3 vB4 vA7 vA8 EQ.out; have hq2 := eq72 B3 oB3.len))
      all_goals go_ret
      all_goals exact ⟨rfl, bt (bt (bt (bt (bt (bt (bt (bt (bt (bd hbA bA1) bA2) bB1) bA3) bA4) bB2) bA7) bA8) bB3) bB4⟩
  · have PP : Hid (mulO x y = some p) := pP
    clear pP c1
    go_enter Try.func7, Try.ntmps7
    go_wp2_with (first
      | (go_at_call 33; refine (awake_yes _).mono ?_; rintro e wA ⟨rfl, hbA⟩)
      | (go_at_call 9; go_in)
      | (go_at_call 20; refine (twoSum_any _ _ _ hx hy).mono ?_; rintro e w' ⟨s, r, m1, rfl, hs, hr, rfl⟩; obtain rfl := rep_is hs TS.out; obtain rfl := rep_is hr TE.out; clear hs hr)
      | (go_at_call 22; refine (twoProd_any _ _ _).mono ?_; rintro e w' ⟨p, f, m2, rfl, hp, hf, rfl⟩; obtain rfl := rep_is hp PP.out; clear hp)
      | (go_at_call 35; refine (isInf_any _ _ (by with_reducible assumption)).mono ?_; rintro e w' ⟨rfl, rfl⟩)
      | (go_at_call 36; refine (abs_any _ _ (by with_reducible assumption)).mono ?_; rintro e w' ⟨rfl, rfl⟩)
      | (go_at_call 37; with_reducible refine (of_any s _ ls fs).mono ?_; rintro e w1 ⟨A1, rfl, oA1, vA1, bA1⟩)
      | (go_at_call 37; with_reducible refine (of_any r _ lr fr).mono ?_; rintro e w2 ⟨A2, rfl, oA2, vA2, bA2⟩)
      | (go_at_call 37; with_reducible refine (of_any x _ hx fx).mono ?_; rintro e w3 ⟨A3, rfl, oA3, vA3, bA3⟩)
      | (go_at_call 37; with_reducible refine (of_any y _ hy fy).mono ?_; rintro e w4 ⟨A4, rfl, oA4, vA4, bA4⟩)
      | (go_at_call 38; with_reducible refine (plus_any A1 A2 _ oA1 oA2).mono ?_; rintro e w5 ⟨B1, rfl, oB1, vB1, bB1⟩)
      | (go_at_call 38; with_reducible refine (plus_any A3 A4 _ oA3 oA4).mono ?_; rintro e w6 ⟨B2, rfl, oB2, vB2, bB2⟩; obtain rfl := sum_eq oB1 oB2 vB1 vB2 vA1 vA2 vA3 vA4 ES.out; have hq := eq72 B1 oB1.len))
    all_goals go_ret
    all_goals exact ⟨rfl, bt (bt (bt (bt (bt (bd hbA bA1) bA2) bB1) bA3) bA4) bB2⟩
set_option maxRecDepth 100000 in
set_option maxHeartbeats 4000000 in
theorem exact_mid (x y : Nat) (w : World) (hx : x < 18446744073709551616) (hy : y < 18446744073709551616) (fx : fin x) (fy : fin y) (h1 : mg x ≤ 9209861237972664320) (h2 : ¬ mg y ≤ 9209861237972664320) :
    Calls Try.prog 7 #[.int .u64 (x : Int), .int .u64 (y : Int)] w fun e w' => e = .returned (.bool true) ∧ Below w.heap.size w w' := by
  have n1 := fin_not_nan fx
  have n2 := fin_not_nan fy
  have o1 := order_num n1
  have o2 := order_num n2
  have i1 := fin_inf fx
  have i2 := fin_inf fy
  have dz := World.drewN_zero
  have t1 : (FloatKind.f64.format.order (mg x) 9209861237972664320 == some .lt || FloatKind.f64.format.order (mg x) 9209861237972664320 == some .eq) = true := by rw [leq_H n1]; simp [h1]
  have t2 : (FloatKind.f64.format.order (mg y) 9209861237972664320 == some .lt || FloatKind.f64.format.order (mg y) 9209861237972664320 == some .eq) = false := by rw [leq_H n2]; simp; omega
  clear h1 h2
  obtain ⟨p, pP⟩ : ∃ p, mulO x y = some p := ⟨_, mul_eq fx fy⟩
  have lp := (mul_bd pP).1
  have np := (mul_bd pP).2
  have op := order_num np
  have c1 := lt_C np
  have mv := mulV_of pP
  have mn := fN_of pP
  cases ip : infB p
  · have fp := fin_of np ip
    by_cases hC : mg p < 247697979505377280
    · have c2 : FloatKind.f64.format.order (mg p) 247697979505377280 = some .lt := by
        have h : (FloatKind.f64.format.order (mg p) 247697979505377280 == some .lt) = true := by rw [c1]; simp [hC]
        simpa using h
      clear c1 hC
      cases z1 : (FloatKind.f64.format.order x 0 == some .eq)
      · cases z2 : (FloatKind.f64.format.order y 0 == some .eq)
        · have y1 : (FloatKind.f64.format.order x 0 != some .eq) = true := by rw [bne, z1]; rfl
          have y2 : (FloatKind.f64.format.order y 0 != some .eq) = true := by rw [bne, z2]; rfl
          have PP : Hid (mulO x y = some p) := pP
          clear pP
          go_enter Try.func7, Try.ntmps7
          go_wp2_with (first
            | (go_at_call 33; refine (awake_yes _).mono ?_; rintro e wA ⟨rfl, hbA⟩)
            | (go_at_call 9; go_in)
            | (go_at_call 20; refine (twoSum_any _ _ _ hx hy).mono ?_; rintro e w' ⟨s, r, m1, rfl, hs, hr, rfl⟩)
            | (go_at_call 22; refine (twoProd_any _ _ _).mono ?_; rintro e w' ⟨p, f, m2, rfl, hp, hf, rfl⟩; obtain rfl := rep_is hp PP.out; clear hp)
            | (go_at_call 35; refine (isInf_any _ _ (by with_reducible assumption)).mono ?_; rintro e w' ⟨rfl, rfl⟩)
            | (go_at_call 36; refine (abs_any _ _ (by with_reducible assumption)).mono ?_; rintro e w' ⟨rfl, rfl⟩))
          all_goals go_ret
          all_goals exact ⟨rfl, bn hbA _⟩
        · obtain ⟨f, pF, ff, eqP⟩ := tp_exact fx fy pP fp (Or.inr (Or.inr (zero_of n2 z2)))
          have y1 : (FloatKind.f64.format.order x 0 != some .eq) = true := by rw [bne, z1]; rfl
          have y2 : FloatKind.f64.format.order y 0 = some .eq := by simpa using z2
          clear z2
          have lf := (fma_bd pF).1
          have of := order_num (fin_not_nan ff)
          have jf := fin_inf ff
          have PP : Hid (mulO x y = some p) := pP
          have PF : Hid (fmaO x y (Op.negFloat .f64 p) = some f) := pF
          have EQ : Hid ((val p + val f) * ((2 ^ K74 : Nat) : Int) = val x * val y) := eqP
          clear pP pF eqP
          go_enter Try.func7, Try.ntmps7
          go_wp2_with (first
            | (go_at_call 33; refine (awake_yes _).mono ?_; rintro e wA ⟨rfl, hbA⟩)
            | (go_at_call 9; go_in)
            | (go_at_call 20; refine (twoSum_any _ _ _ hx hy).mono ?_; rintro e w' ⟨s, r, m1, rfl, hs, hr, rfl⟩)
            | (go_at_call 22; refine (twoProd_any _ _ _).mono ?_; rintro e w' ⟨p, f, m2, rfl, hp, hf, rfl⟩; obtain rfl := rep_is hp PP.out; obtain rfl := rep_is hf PF.out; clear hp hf)
            | (go_at_call 35; refine (isInf_any _ _ (by with_reducible assumption)).mono ?_; rintro e w' ⟨rfl, rfl⟩)
            | (go_at_call 36; refine (abs_any _ _ (by with_reducible assumption)).mono ?_; rintro e w' ⟨rfl, rfl⟩)
            | (go_at_call 37; with_reducible refine (of_any p _ lp fp).mono ?_; rintro e w7 ⟨A7, rfl, oA7, vA7, bA7⟩)
            | (go_at_call 37; with_reducible refine (of_any f _ lf ff).mono ?_; rintro e w8 ⟨A8, rfl, oA8, vA8, bA8⟩)
            | (go_at_call 38; with_reducible refine (plus_any A7 A8 _ oA7 oA8).mono ?_; rintro e w9 ⟨B3, rfl, oB3, vB3, bB3⟩)
            | (go_at_call 39; with_reducible refine (product_any x y _ hx hy fx fy).mono ?_; rintro e w10 ⟨B4, rfl, oB4, vB4, bB4⟩; obtain rfl := prod_eq oB3 oB4 vB3 vB4 vA7 vA8 EQ.out; have hq2 := eq72 B3 oB3.len))
          all_goals go_ret
          all_goals exact ⟨rfl, bt (bt (bt (bd hbA bA7) bA8) bB3) bB4⟩
      · obtain ⟨f, pF, ff, eqP⟩ := tp_exact fx fy pP fp (Or.inr (Or.inl (zero_of n1 z1)))
        have y1 : FloatKind.f64.format.order x 0 = some .eq := by simpa using z1
        clear z1
        have lf := (fma_bd pF).1
        have of := order_num (fin_not_nan ff)
        have jf := fin_inf ff
        have PP : Hid (mulO x y = some p) := pP
        have PF : Hid (fmaO x y (Op.negFloat .f64 p) = some f) := pF
        have EQ : Hid ((val p + val f) * ((2 ^ K74 : Nat) : Int) = val x * val y) := eqP
        clear pP pF eqP
        go_enter Try.func7, Try.ntmps7
        go_wp2_with (first
          | (go_at_call 33; refine (awake_yes _).mono ?_; rintro e wA ⟨rfl, hbA⟩)
          | (go_at_call 9; go_in)
          | (go_at_call 20; refine (twoSum_any _ _ _ hx hy).mono ?_; rintro e w' ⟨s, r, m1, rfl, hs, hr, rfl⟩)
          | (go_at_call 22; refine (twoProd_any _ _ _).mono ?_; rintro e w' ⟨p, f, m2, rfl, hp, hf, rfl⟩; obtain rfl := rep_is hp PP.out; obtain rfl := rep_is hf PF.out; clear hp hf)
          | (go_at_call 35; refine (isInf_any _ _ (by with_reducible assumption)).mono ?_; rintro e w' ⟨rfl, rfl⟩)
          | (go_at_call 36; refine (abs_any _ _ (by with_reducible assumption)).mono ?_; rintro e w' ⟨rfl, rfl⟩)
          | (go_at_call 37; with_reducible refine (of_any p _ lp fp).mono ?_; rintro e w7 ⟨A7, rfl, oA7, vA7, bA7⟩)
          | (go_at_call 37; with_reducible refine (of_any f _ lf ff).mono ?_; rintro e w8 ⟨A8, rfl, oA8, vA8, bA8⟩)
          | (go_at_call 38; with_reducible refine (plus_any A7 A8 _ oA7 oA8).mono ?_; rintro e w9 ⟨B3, rfl, oB3, vB3, bB3⟩)
          | (go_at_call 39; with_reducible refine (product_any x y _ hx hy fx fy).mono ?_; rintro e w10 ⟨B4, rfl, oB4, vB4, bB4⟩; obtain rfl := prod_eq oB3 oB4 vB3 vB4 vA7 vA8 EQ.out; have hq2 := eq72 B3 oB3.len))
        all_goals go_ret
        all_goals exact ⟨rfl, bt (bt (bt (bd hbA bA7) bA8) bB3) bB4⟩
    · obtain ⟨f, pF, ff, eqP⟩ := tp_exact fx fy pP fp (Or.inl (ge_C hC))
      have c2 : (FloatKind.f64.format.order (mg p) 247697979505377280 == some .lt) = false := by rw [c1]; simp; omega
      clear c1 hC
      have lf := (fma_bd pF).1
      have of := order_num (fin_not_nan ff)
      have jf := fin_inf ff
      have PP : Hid (mulO x y = some p) := pP
      have PF : Hid (fmaO x y (Op.negFloat .f64 p) = some f) := pF
      have EQ : Hid ((val p + val f) * ((2 ^ K74 : Nat) : Int) = val x * val y) := eqP
      clear pP pF eqP
      go_enter Try.func7, Try.ntmps7
      go_wp2_with (first
        | (go_at_call 33; refine (awake_yes _).mono ?_; rintro e wA ⟨rfl, hbA⟩)
        | (go_at_call 9; go_in)
        | (go_at_call 20; refine (twoSum_any _ _ _ hx hy).mono ?_; rintro e w' ⟨s, r, m1, rfl, hs, hr, rfl⟩)
        | (go_at_call 22; refine (twoProd_any _ _ _).mono ?_; rintro e w' ⟨p, f, m2, rfl, hp, hf, rfl⟩; obtain rfl := rep_is hp PP.out; obtain rfl := rep_is hf PF.out; clear hp hf)
        | (go_at_call 35; refine (isInf_any _ _ (by with_reducible assumption)).mono ?_; rintro e w' ⟨rfl, rfl⟩)
        | (go_at_call 36; refine (abs_any _ _ (by with_reducible assumption)).mono ?_; rintro e w' ⟨rfl, rfl⟩)
        | (go_at_call 37; with_reducible refine (of_any p _ lp fp).mono ?_; rintro e w7 ⟨A7, rfl, oA7, vA7, bA7⟩)
        | (go_at_call 37; with_reducible refine (of_any f _ lf ff).mono ?_; rintro e w8 ⟨A8, rfl, oA8, vA8, bA8⟩)
        | (go_at_call 38; with_reducible refine (plus_any A7 A8 _ oA7 oA8).mono ?_; rintro e w9 ⟨B3, rfl, oB3, vB3, bB3⟩)
        | (go_at_call 39; with_reducible refine (product_any x y _ hx hy fx fy).mono ?_; rintro e w10 ⟨B4, rfl, oB4, vB4, bB4⟩; obtain rfl := prod_eq oB3 oB4 vB3 vB4 vA7 vA8 EQ.out; have hq2 := eq72 B3 oB3.len))
      all_goals go_ret
      all_goals exact ⟨rfl, bt (bt (bt (bd hbA bA7) bA8) bB3) bB4⟩
  · have PP : Hid (mulO x y = some p) := pP
    clear pP c1
    go_enter Try.func7, Try.ntmps7
    go_wp2_with (first
      | (go_at_call 33; refine (awake_yes _).mono ?_; rintro e wA ⟨rfl, hbA⟩)
      | (go_at_call 9; go_in)
      | (go_at_call 20; refine (twoSum_any _ _ _ hx hy).mono ?_; rintro e w' ⟨s, r, m1, rfl, hs, hr, rfl⟩)
      | (go_at_call 22; refine (twoProd_any _ _ _).mono ?_; rintro e w' ⟨p, f, m2, rfl, hp, hf, rfl⟩; obtain rfl := rep_is hp PP.out; clear hp)
      | (go_at_call 35; refine (isInf_any _ _ (by with_reducible assumption)).mono ?_; rintro e w' ⟨rfl, rfl⟩)
      | (go_at_call 36; refine (abs_any _ _ (by with_reducible assumption)).mono ?_; rintro e w' ⟨rfl, rfl⟩))
    all_goals go_ret
    all_goals exact ⟨rfl, bn hbA _⟩
set_option maxRecDepth 100000 in
set_option maxHeartbeats 4000000 in
theorem exact_big (x y : Nat) (w : World) (hx : x < 18446744073709551616) (hy : y < 18446744073709551616) (fx : fin x) (fy : fin y) (h1 : ¬ mg x ≤ 9209861237972664320) :
    Calls Try.prog 7 #[.int .u64 (x : Int), .int .u64 (y : Int)] w fun e w' => e = .returned (.bool true) ∧ Below w.heap.size w w' := by
  have n1 := fin_not_nan fx
  have n2 := fin_not_nan fy
  have o1 := order_num n1
  have o2 := order_num n2
  have i1 := fin_inf fx
  have i2 := fin_inf fy
  have dz := World.drewN_zero
  have t1 : (FloatKind.f64.format.order (mg x) 9209861237972664320 == some .lt || FloatKind.f64.format.order (mg x) 9209861237972664320 == some .eq) = false := by rw [leq_H n1]; simp; omega
  clear h1
  obtain ⟨p, pP⟩ : ∃ p, mulO x y = some p := ⟨_, mul_eq fx fy⟩
  have lp := (mul_bd pP).1
  have np := (mul_bd pP).2
  have op := order_num np
  have c1 := lt_C np
  have mv := mulV_of pP
  have mn := fN_of pP
  cases ip : infB p
  · have fp := fin_of np ip
    by_cases hC : mg p < 247697979505377280
    · have c2 : FloatKind.f64.format.order (mg p) 247697979505377280 = some .lt := by
        have h : (FloatKind.f64.format.order (mg p) 247697979505377280 == some .lt) = true := by rw [c1]; simp [hC]
        simpa using h
      clear c1 hC
      cases z1 : (FloatKind.f64.format.order x 0 == some .eq)
      · cases z2 : (FloatKind.f64.format.order y 0 == some .eq)
        · have y1 : (FloatKind.f64.format.order x 0 != some .eq) = true := by rw [bne, z1]; rfl
          have y2 : (FloatKind.f64.format.order y 0 != some .eq) = true := by rw [bne, z2]; rfl
          have PP : Hid (mulO x y = some p) := pP
          clear pP
          go_enter Try.func7, Try.ntmps7
          go_wp2_with (first
            | (go_at_call 33; refine (awake_yes _).mono ?_; rintro e wA ⟨rfl, hbA⟩)
            | (go_at_call 9; go_in)
            | (go_at_call 20; refine (twoSum_any _ _ _ hx hy).mono ?_; rintro e w' ⟨s, r, m1, rfl, hs, hr, rfl⟩)
            | (go_at_call 22; refine (twoProd_any _ _ _).mono ?_; rintro e w' ⟨p, f, m2, rfl, hp, hf, rfl⟩; obtain rfl := rep_is hp PP.out; clear hp)
            | (go_at_call 35; refine (isInf_any _ _ (by with_reducible assumption)).mono ?_; rintro e w' ⟨rfl, rfl⟩)
            | (go_at_call 36; refine (abs_any _ _ (by with_reducible assumption)).mono ?_; rintro e w' ⟨rfl, rfl⟩))
          all_goals go_ret
          all_goals exact ⟨rfl, bn hbA _⟩
        · obtain ⟨f, pF, ff, eqP⟩ := tp_exact fx fy pP fp (Or.inr (Or.inr (zero_of n2 z2)))
          have y1 : (FloatKind.f64.format.order x 0 != some .eq) = true := by rw [bne, z1]; rfl
          have y2 : FloatKind.f64.format.order y 0 = some .eq := by simpa using z2
          clear z2
          have lf := (fma_bd pF).1
          have of := order_num (fin_not_nan ff)
          have jf := fin_inf ff
          have PP : Hid (mulO x y = some p) := pP
          have PF : Hid (fmaO x y (Op.negFloat .f64 p) = some f) := pF
          have EQ : Hid ((val p + val f) * ((2 ^ K74 : Nat) : Int) = val x * val y) := eqP
          clear pP pF eqP
          go_enter Try.func7, Try.ntmps7
          go_wp2_with (first
            | (go_at_call 33; refine (awake_yes _).mono ?_; rintro e wA ⟨rfl, hbA⟩)
            | (go_at_call 9; go_in)
            | (go_at_call 20; refine (twoSum_any _ _ _ hx hy).mono ?_; rintro e w' ⟨s, r, m1, rfl, hs, hr, rfl⟩)
            | (go_at_call 22; refine (twoProd_any _ _ _).mono ?_; rintro e w' ⟨p, f, m2, rfl, hp, hf, rfl⟩; obtain rfl := rep_is hp PP.out; obtain rfl := rep_is hf PF.out; clear hp hf)
            | (go_at_call 35; refine (isInf_any _ _ (by with_reducible assumption)).mono ?_; rintro e w' ⟨rfl, rfl⟩)
            | (go_at_call 36; refine (abs_any _ _ (by with_reducible assumption)).mono ?_; rintro e w' ⟨rfl, rfl⟩)
            | (go_at_call 37; with_reducible refine (of_any p _ lp fp).mono ?_; rintro e w7 ⟨A7, rfl, oA7, vA7, bA7⟩)
            | (go_at_call 37; with_reducible refine (of_any f _ lf ff).mono ?_; rintro e w8 ⟨A8, rfl, oA8, vA8, bA8⟩)
            | (go_at_call 38; with_reducible refine (plus_any A7 A8 _ oA7 oA8).mono ?_; rintro e w9 ⟨B3, rfl, oB3, vB3, bB3⟩)
            | (go_at_call 39; with_reducible refine (product_any x y _ hx hy fx fy).mono ?_; rintro e w10 ⟨B4, rfl, oB4, vB4, bB4⟩; obtain rfl := prod_eq oB3 oB4 vB3 vB4 vA7 vA8 EQ.out; have hq2 := eq72 B3 oB3.len))
          all_goals go_ret
          all_goals exact ⟨rfl, bt (bt (bt (bd hbA bA7) bA8) bB3) bB4⟩
      · obtain ⟨f, pF, ff, eqP⟩ := tp_exact fx fy pP fp (Or.inr (Or.inl (zero_of n1 z1)))
        have y1 : FloatKind.f64.format.order x 0 = some .eq := by simpa using z1
        clear z1
        have lf := (fma_bd pF).1
        have of := order_num (fin_not_nan ff)
        have jf := fin_inf ff
        have PP : Hid (mulO x y = some p) := pP
        have PF : Hid (fmaO x y (Op.negFloat .f64 p) = some f) := pF
        have EQ : Hid ((val p + val f) * ((2 ^ K74 : Nat) : Int) = val x * val y) := eqP
        clear pP pF eqP
        go_enter Try.func7, Try.ntmps7
        go_wp2_with (first
          | (go_at_call 33; refine (awake_yes _).mono ?_; rintro e wA ⟨rfl, hbA⟩)
          | (go_at_call 9; go_in)
          | (go_at_call 20; refine (twoSum_any _ _ _ hx hy).mono ?_; rintro e w' ⟨s, r, m1, rfl, hs, hr, rfl⟩)
          | (go_at_call 22; refine (twoProd_any _ _ _).mono ?_; rintro e w' ⟨p, f, m2, rfl, hp, hf, rfl⟩; obtain rfl := rep_is hp PP.out; obtain rfl := rep_is hf PF.out; clear hp hf)
          | (go_at_call 35; refine (isInf_any _ _ (by with_reducible assumption)).mono ?_; rintro e w' ⟨rfl, rfl⟩)
          | (go_at_call 36; refine (abs_any _ _ (by with_reducible assumption)).mono ?_; rintro e w' ⟨rfl, rfl⟩)
          | (go_at_call 37; with_reducible refine (of_any p _ lp fp).mono ?_; rintro e w7 ⟨A7, rfl, oA7, vA7, bA7⟩)
          | (go_at_call 37; with_reducible refine (of_any f _ lf ff).mono ?_; rintro e w8 ⟨A8, rfl, oA8, vA8, bA8⟩)
          | (go_at_call 38; with_reducible refine (plus_any A7 A8 _ oA7 oA8).mono ?_; rintro e w9 ⟨B3, rfl, oB3, vB3, bB3⟩)
          | (go_at_call 39; with_reducible refine (product_any x y _ hx hy fx fy).mono ?_; rintro e w10 ⟨B4, rfl, oB4, vB4, bB4⟩; obtain rfl := prod_eq oB3 oB4 vB3 vB4 vA7 vA8 EQ.out; have hq2 := eq72 B3 oB3.len))
        all_goals go_ret
        all_goals exact ⟨rfl, bt (bt (bt (bd hbA bA7) bA8) bB3) bB4⟩
    · obtain ⟨f, pF, ff, eqP⟩ := tp_exact fx fy pP fp (Or.inl (ge_C hC))
      have c2 : (FloatKind.f64.format.order (mg p) 247697979505377280 == some .lt) = false := by rw [c1]; simp; omega
      clear c1 hC
      have lf := (fma_bd pF).1
      have of := order_num (fin_not_nan ff)
      have jf := fin_inf ff
      have PP : Hid (mulO x y = some p) := pP
      have PF : Hid (fmaO x y (Op.negFloat .f64 p) = some f) := pF
      have EQ : Hid ((val p + val f) * ((2 ^ K74 : Nat) : Int) = val x * val y) := eqP
      clear pP pF eqP
      go_enter Try.func7, Try.ntmps7
      go_wp2_with (first
        | (go_at_call 33; refine (awake_yes _).mono ?_; rintro e wA ⟨rfl, hbA⟩)
        | (go_at_call 9; go_in)
        | (go_at_call 20; refine (twoSum_any _ _ _ hx hy).mono ?_; rintro e w' ⟨s, r, m1, rfl, hs, hr, rfl⟩)
        | (go_at_call 22; refine (twoProd_any _ _ _).mono ?_; rintro e w' ⟨p, f, m2, rfl, hp, hf, rfl⟩; obtain rfl := rep_is hp PP.out; obtain rfl := rep_is hf PF.out; clear hp hf)
        | (go_at_call 35; refine (isInf_any _ _ (by with_reducible assumption)).mono ?_; rintro e w' ⟨rfl, rfl⟩)
        | (go_at_call 36; refine (abs_any _ _ (by with_reducible assumption)).mono ?_; rintro e w' ⟨rfl, rfl⟩)
        | (go_at_call 37; with_reducible refine (of_any p _ lp fp).mono ?_; rintro e w7 ⟨A7, rfl, oA7, vA7, bA7⟩)
        | (go_at_call 37; with_reducible refine (of_any f _ lf ff).mono ?_; rintro e w8 ⟨A8, rfl, oA8, vA8, bA8⟩)
        | (go_at_call 38; with_reducible refine (plus_any A7 A8 _ oA7 oA8).mono ?_; rintro e w9 ⟨B3, rfl, oB3, vB3, bB3⟩)
        | (go_at_call 39; with_reducible refine (product_any x y _ hx hy fx fy).mono ?_; rintro e w10 ⟨B4, rfl, oB4, vB4, bB4⟩; obtain rfl := prod_eq oB3 oB4 vB3 vB4 vA7 vA8 EQ.out; have hq2 := eq72 B3 oB3.len))
      all_goals go_ret
      all_goals exact ⟨rfl, bt (bt (bt (bd hbA bA7) bA8) bB3) bB4⟩
  · have PP : Hid (mulO x y = some p) := pP
    clear pP c1
    go_enter Try.func7, Try.ntmps7
    go_wp2_with (first
      | (go_at_call 33; refine (awake_yes _).mono ?_; rintro e wA ⟨rfl, hbA⟩)
      | (go_at_call 9; go_in)
      | (go_at_call 20; refine (twoSum_any _ _ _ hx hy).mono ?_; rintro e w' ⟨s, r, m1, rfl, hs, hr, rfl⟩)
      | (go_at_call 22; refine (twoProd_any _ _ _).mono ?_; rintro e w' ⟨p, f, m2, rfl, hp, hf, rfl⟩; obtain rfl := rep_is hp PP.out; clear hp)
      | (go_at_call 35; refine (isInf_any _ _ (by with_reducible assumption)).mono ?_; rintro e w' ⟨rfl, rfl⟩)
      | (go_at_call 36; refine (abs_any _ _ (by with_reducible assumption)).mono ?_; rintro e w' ⟨rfl, rfl⟩))
    all_goals go_ret
    all_goals exact ⟨rfl, bn hbA _⟩
theorem exact_walk (x y : Nat) (w : World) (hx : x < 18446744073709551616) (hy : y < 18446744073709551616) :
    Calls Try.prog 7 #[.int .u64 (x : Int), .int .u64 (y : Int)] w fun e w' => e = .returned (.bool true) ∧ Below w.heap.size w w' := by
  rcases Decidable.em (nan x = true ∨ nan y = true ∨ infB x = true ∨ infB y = true) with h | h
  · exact exact_odd x y w hx hy h
  · have n1 : nan x = false := by cases hh : nan x; rfl; exact absurd (Or.inl hh) h
    have n2 : nan y = false := by cases hh : nan y; rfl; exact absurd (Or.inr (Or.inl hh)) h
    have i1 : infB x = false := by cases hh : infB x; rfl; exact absurd (Or.inr (Or.inr (Or.inl hh))) h
    have i2 : infB y = false := by cases hh : infB y; rfl; exact absurd (Or.inr (Or.inr (Or.inr hh))) h
    by_cases h1 : mg x ≤ 9209861237972664320
    · by_cases h2 : mg y ≤ 9209861237972664320
      · exact exact_small x y w hx hy (fin_of n1 i1) (fin_of n2 i2) h1 h2
      · exact exact_mid x y w hx hy (fin_of n1 i1) (fin_of n2 i2) h1 h2
    · exact exact_big x y w hx hy (fin_of n1 i1) (fin_of n2 i2) h1

end Go.Proofs.Ytggnilfphnnpkaa
