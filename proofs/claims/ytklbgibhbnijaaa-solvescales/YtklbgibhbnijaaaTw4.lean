/-
  Numbers whose parts are whole and small: sums, differences, products and quotients by units are exact, powers of two go in and out; on answers; nothing of any program's text.
-/
import Derived.Test.YtklbgibhbnijaaaTw3
import Derived.Test.YtklbgibhbnijaaaBna
import Derived.Test.YtklbgibhbnijaaaBnb
namespace Go.Proofs.Ytklbgibhbnijaaa
open Fl

def fw (n : Int) : Nat := floatOfInt .f64 n
theorem fw_eq (n : Int) : fw n = Ieee.double.word (decide (n < 0)) (nr n.natAbs 0) := nearest_nr _ _ _
theorem nr_int {m : Nat} (h : m < 9007199254740992) : nr m 0 < 9218868437227405312 ∧ sz (nr m 0) = m * 2 ^ T74 := by
  have e : nr m 0 = nr (m * 2 ^ T74) (-1074) := by rw [← nr_shift m T74 0]; congr 1
  rw [e]
  have hr : RpN (m * 2 ^ T74) := ⟨m, T74, rfl, h⟩
  have hl : m * 2 ^ T74 ≤ 2 ^ (53 + T74) := by rw [Nat.pow_add]; exact Nat.mul_le_mul_right _ (Nat.le_of_lt h)
  have := nr_unit (n := m * 2 ^ T74) (by rw [rn_exact hr]; exact lt_szI hl (by unfold T74; omega))
  rw [rn_exact hr] at this
  exact this
theorem fw_mg (n : Int) : mg (fw n) = nr n.natAbs 0 := by rw [fw_eq]; exact word_mg _ (nr_bd _ _)
theorem fw_lt (n : Int) : fw n < 18446744073709551616 := by rw [fw_eq]; exact word_lt _ (nr_bd _ _)
section ints
variable {n : Int} (h : n.natAbs < 9007199254740992)
include h
theorem fw_fin : fin (fw n) := by unfold Fl.fin; rw [fw_mg n]; exact (nr_int h).1
theorem fw_sz : sz (mg (fw n)) = n.natAbs * 2 ^ T74 := by rw [fw_mg n]; exact (nr_int h).2
theorem fw_val : val (fw n) = n * ((2 ^ T74 : Nat) : Int) := by
  have hs : ng (fw n) = decide (n < 0) := by rw [fw_eq]; exact word_ng _ (nr_bd _ _)
  unfold val; rw [hs, fw_sz h, sgn_mul]
  congr 1
  unfold sgn
  by_cases hn : n < 0
  · rw [decide_eq_true hn]; simp; omega
  · rw [decide_eq_false hn]; simp; omega
theorem fw_ans : ans (fw n) = some (fw n) := ans_num (fin_not_nan (fw_fin h))
theorem fw_rp : Rp (n * ((2 ^ T74 : Nat) : Int)) := ⟨n.natAbs, T74, by rw [Int.natAbs_mul, Int.natAbs_natCast], h⟩
theorem fw_rn : rn (n * ((2 ^ T74 : Nat) : Int)).natAbs < szI := by
  have hr := fw_rp h
  rw [rn_exact hr, Int.natAbs_mul, Int.natAbs_natCast]
  refine lt_szI (a := 53 + T74) ?_ (by unfold T74; omega)
  rw [Nat.pow_add]; exact Nat.mul_le_mul_right _ (Nat.le_of_lt h)
theorem fw_low : sz (mg (fw n)) = 0 ∨ 2 ^ T74 ≤ sz (mg (fw n)) := by
  rw [fw_sz h]
  rcases Nat.eq_zero_or_pos n.natAbs with h0 | h0
  · left; rw [h0, Nat.zero_mul]
  · right; exact Nat.le_mul_of_pos_left _ h0
end ints
theorem fw_isI {n : Int} (h : n.natAbs ≤ 32768) : isI (fw n) := by
  have h' : n.natAbs < 9007199254740992 := by omega
  refine ⟨fw_fin h', fw_lt n, fw_low h', ?_⟩
  rw [fw_sz h', show T89 = 15 + T74 from rfl, Nat.pow_add]
  exact Nat.mul_le_mul_right _ h
/-- Words whose values are whole. -/
theorem add_whole {x y : Nat} {a b : Int} (hx : fin x) (hy : fin y) (vx : val x = a * ((2 ^ T74 : Nat) : Int)) (vy : val y = b * ((2 ^ T74 : Nat) : Int)) (h : (a + b).natAbs < 9007199254740992) :
    ∃ r, addO x y = some r ∧ fin r ∧ val r = (a + b) * ((2 ^ T74 : Nat) : Int) := by
  have e : val x + val y = (a + b) * ((2 ^ T74 : Nat) : Int) := by rw [vx, vy, Int.add_mul]
  obtain ⟨r, h1, h2, h3⟩ := add_fin hx hy (by rw [e]; exact fw_rn h)
  exact ⟨r, h1, h2, by rw [h3, e, rnI_exact (fw_rp h)]⟩
theorem sub_whole {x y : Nat} {a b : Int} (hx : fin x) (hy : fin y) (vx : val x = a * ((2 ^ T74 : Nat) : Int)) (vy : val y = b * ((2 ^ T74 : Nat) : Int)) (h : (a - b).natAbs < 9007199254740992) :
    ∃ r, subO x y = some r ∧ fin r ∧ val r = (a - b) * ((2 ^ T74 : Nat) : Int) := by
  have e : val x - val y = (a - b) * ((2 ^ T74 : Nat) : Int) := by rw [vx, vy, Int.sub_mul]
  obtain ⟨r, h1, h2, h3⟩ := sub_fin hx hy (by rw [e]; exact fw_rn h)
  exact ⟨r, h1, h2, by rw [h3, e, rnI_exact (fw_rp h)]⟩
theorem mul_whole {a b : Int} (ha : a.natAbs < 9007199254740992) (hb : b.natAbs < 9007199254740992) (h : (a * b).natAbs < 9007199254740992) :
    ∃ r, mulO (fw a) (fw b) = some r ∧ fin r ∧ val r = (a * b) * ((2 ^ T74 : Nat) : Int) := by
  have e := mul_gen (fw_fin ha) (fw_fin hb)
  rw [fw_sz ha, fw_sz hb] at e
  have e1 : nr (a.natAbs * 2 ^ T74 * (b.natAbs * 2 ^ T74)) (-2148) = nr (a * b).natAbs 0 := by
    rw [Nat.mul_mul_mul_comm, ← Nat.pow_add, ← Int.natAbs_mul, ← nr_shift (a * b).natAbs (T74 + T74) 0]
    congr 1
  rw [e1] at e
  refine ⟨_, e, by unfold Fl.fin; rw [word_mg _ (nr_bd _ _)]; exact (nr_int h).1, ?_⟩
  rw [word_val _ (nr_bd _ _), (nr_int h).2]
  have v1 := fw_val ha
  have v2 := fw_val hb
  have hp : (0 : Int) < ((2 ^ T74 : Nat) : Int) := by have := Nat.two_pow_pos T74; omega
  have s1 : sgn (ng (fw a)) a.natAbs = a := by
    unfold val at v1; rw [fw_sz ha, sgn_mul] at v1
    exact Int.eq_of_mul_eq_mul_right (by omega) v1
  have s2 : sgn (ng (fw b)) b.natAbs = b := by
    unfold val at v2; rw [fw_sz hb, sgn_mul] at v2
    exact Int.eq_of_mul_eq_mul_right (by omega) v2
  rw [sgn_mul, Int.natAbs_mul, sgn_xor, s1, s2]
theorem eqB_whole {x : Nat} {a : Int} (hx : fin x) (vx : val x = a * ((2 ^ T74 : Nat) : Int)) (h : a.natAbs < 9007199254740992) : FloatKind.f64.format.order x (fw a) = some .eq := by
  have := eqB_val hx (fw_fin h) (vx.trans (fw_val h).symm)
  exact eq_of_beq this

section four
variable {p q c d : Int} (hp : p.natAbs ≤ 32768) (hq : q.natAbs ≤ 32768) (hc : c.natAbs ≤ 32768) (hd : d.natAbs ≤ 32768)
theorem small_of {n : Int} (h : n.natAbs ≤ 32768) : n.natAbs < 9007199254740992 := by omega
theorem mul_small {a b : Int} (ha : a.natAbs ≤ 32768) (hb : b.natAbs ≤ 32768) : (a * b).natAbs ≤ 1073741824 := by
  rw [Int.natAbs_mul]
  exact Nat.mul_le_mul ha hb
include hp hc in
theorem t_add {r : Nat} (h : rep (addA (ans (fw p)) (ans (fw c))) r) : FloatKind.f64.format.order r (fw (p + c)) = some .eq := by
  rw [fw_ans (small_of hp), fw_ans (small_of hc)] at h
  have hb : (p + c).natAbs < 9007199254740992 := by omega
  obtain ⟨s, e, f, v⟩ := add_whole (fw_fin (small_of hp)) (fw_fin (small_of hc)) (fw_val (small_of hp)) (fw_val (small_of hc)) hb
  have he : addA (some (fw p)) (some (fw c)) = some s := e
  rw [he] at h
  obtain ⟨_, rfl⟩ := ans_some h.2
  exact eqB_whole f v hb
include hp hc in
theorem t_sub {r : Nat} (h : rep (subA (ans (fw p)) (ans (fw c))) r) : FloatKind.f64.format.order r (fw (p - c)) = some .eq := by
  rw [fw_ans (small_of hp), fw_ans (small_of hc)] at h
  have hb : (p - c).natAbs < 9007199254740992 := by omega
  obtain ⟨s, e, f, v⟩ := sub_whole (fw_fin (small_of hp)) (fw_fin (small_of hc)) (fw_val (small_of hp)) (fw_val (small_of hc)) hb
  have he : subA (some (fw p)) (some (fw c)) = some s := e
  rw [he] at h
  obtain ⟨_, rfl⟩ := ans_some h.2
  exact eqB_whole f v hb
include hp hq hc hd in
theorem t_mulRe : ∃ m1 m2 r, mulO (fw p) (fw c) = some m1 ∧ mulO (fw q) (fw d) = some m2 ∧ subO m1 m2 = some r ∧ fin r ∧ val r = (p * c - q * d) * ((2 ^ T74 : Nat) : Int) ∧ (p * c - q * d).natAbs < 9007199254740992 ∧ (p * c - q * d).natAbs ≤ 2147483648 ∧ fin m1 ∧ fin m2 ∧ m2 < 18446744073709551616 := by
  have b1 := mul_small hp hc
  have b2 := mul_small hq hd
  obtain ⟨m1, e1, f1, v1⟩ := mul_whole (small_of hp) (small_of hc) (by omega)
  obtain ⟨m2, e2, f2, v2⟩ := mul_whole (small_of hq) (small_of hd) (by omega)
  have hb : (p * c - q * d).natAbs < 9007199254740992 := by omega
  obtain ⟨r, e3, f3, v3⟩ := sub_whole f1 f2 v1 v2 hb
  exact ⟨m1, m2, r, e1, e2, e3, f3, v3, hb, by omega, f1, f2, (mul_bd e2).1⟩
include hp hq hc hd in
theorem t_mulIm : ∃ m1 m2 r, mulO (fw p) (fw d) = some m1 ∧ mulO (fw q) (fw c) = some m2 ∧ addO m1 m2 = some r ∧ fin r ∧ val r = (p * d + q * c) * ((2 ^ T74 : Nat) : Int) ∧ (p * d + q * c).natAbs < 9007199254740992 ∧ (p * d + q * c).natAbs ≤ 2147483648 ∧ fin m1 ∧ fin m2 := by
  have b1 := mul_small hp hd
  have b2 := mul_small hq hc
  obtain ⟨m1, e1, f1, v1⟩ := mul_whole (small_of hp) (small_of hd) (by omega)
  obtain ⟨m2, e2, f2, v2⟩ := mul_whole (small_of hq) (small_of hc) (by omega)
  have hb : (p * d + q * c).natAbs < 9007199254740992 := by omega
  obtain ⟨r, e3, f3, v3⟩ := add_whole f1 f2 v1 v2 hb
  exact ⟨m1, m2, r, e1, e2, e3, f3, v3, hb, by omega, f1, f2⟩
include hp hq hc hd in
theorem t_mul {re im : Nat} (h1 : rep (mulRe (ans (fw p)) (ans (fw q)) (ans (fw c)) (ans (fw d))) re) (h2 : rep (mulIm (ans (fw p)) (ans (fw q)) (ans (fw c)) (ans (fw d))) im) :
    FloatKind.f64.format.order re (fw (p * c - q * d)) = some .eq ∧ FloatKind.f64.format.order im (fw (p * d + q * c)) = some .eq := by
  rw [fw_ans (small_of hp), fw_ans (small_of hc), fw_ans (small_of hq), fw_ans (small_of hd)] at h1 h2
  obtain ⟨m1, m2, r, e1, e2, e3, f3, v3, hb, _⟩ := t_mulRe hp hq hc hd
  obtain ⟨n1, n2, s, g1, g2, g3, k3, w3, hb', _⟩ := t_mulIm hp hq hc hd
  have he : mulRe (some (fw p)) (some (fw q)) (some (fw c)) (some (fw d)) = some r := by
    show subA (mulO (fw p) (fw c)) (mulO (fw q) (fw d)) = some r
    rw [e1, e2]; exact e3
  have he2 : mulIm (some (fw p)) (some (fw q)) (some (fw c)) (some (fw d)) = some s := by
    show addA (mulO (fw p) (fw d)) (mulO (fw q) (fw c)) = some s
    rw [g1, g2]; exact g3
  rw [he] at h1
  rw [he2] at h2
  obtain ⟨_, rfl⟩ := ans_some h1.2
  obtain ⟨_, rfl⟩ := ans_some h2.2
  exact ⟨eqB_whole f3 v3 hb, eqB_whole k3 w3 hb'⟩
end four

end Go.Proofs.Ytklbgibhbnijaaa
