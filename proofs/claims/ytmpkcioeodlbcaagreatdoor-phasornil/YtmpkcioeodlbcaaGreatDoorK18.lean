/-
  Several texts in one: Ops Lk Ts Tp.
-/
import Derived.Test.YtmpkcioeodlbcaaGreatDoorK17
import Derived.WalkKit
import Derived.WalkLawsBesides
namespace Go.Proofs.YtmpkcioeodlbcaaGreatDoor
open Fl
/-- The answer that a word is: itself, or (none) a NaN. -/
def ans (x : Nat) : Option Nat := if nan x then none else some x
/-- x stands for the answer o. -/
def rep (o : Option Nat) (x : Nat) : Prop := x < 18446744073709551616 ∧ ans x = o
theorem rep_ans {x : Nat} (h : x < 18446744073709551616) : rep (ans x) x := ⟨h, rfl⟩
theorem ans_nan {x : Nat} (h : nan x = true) : ans x = none := by unfold ans; rw [h]; rfl
theorem ans_num {x : Nat} (h : nan x = false) : ans x = some x := by unfold ans; rw [h]; rfl
theorem ans_none {x : Nat} (h : ans x = none) : nan x = true := by
  cases hn : nan x
  · rw [ans_num hn] at h; cases h
  · rfl
theorem ans_some {x r : Nat} (h : ans x = some r) : nan x = false ∧ x = r := by
  cases hn : nan x
  · rw [ans_num hn] at h; cases h; exact ⟨rfl, rfl⟩
  · rw [ans_nan hn] at h; cases h
theorem word_mg (s : Bool) {r : Nat} (h : r < 9223372036854775808) : mg (Ieee.double.word s r) = r := by
  unfold Ieee.Format.word mg; rw [d_sw]; split <;> omega
theorem nearest_not_nan (s : Bool) (m : Nat) (p : Int) : nan (Ieee.double.nearest s m p) = false := by
  have key : ∀ r, r ≤ 9218868437227405312 → nan (Ieee.double.word s r) = false := by
    intro r hr; unfold nan; rw [word_mg s (by omega)]; simp; omega
  unfold Ieee.Format.nearest
  split
  · exact key 0 (by omega)
  · refine key _ ?_
    rw [d_inf]; exact Nat.min_le_right _ _
theorem write_not_nan {d : Ieee.Datum} (h : d.isNaN = false) : nan (Ieee.double.write d) = false := by
  cases d with
  | number s m p => exact nearest_not_nan s m p
  | infinity s => unfold Ieee.Format.write nan; rw [d_inf, word_mg s (by omega)]; rfl
  | nan s f => cases h
theorem map_not_nan {o : Option Ieee.Datum} {r : Nat} (ho : ∀ d, o = some d → d.isNaN = false) (h : o.map Ieee.double.write = some r) : nan r = false := by
  cases o with
  | none => cases h
  | some d => cases h; exact write_not_nan (ho d rfl)
theorem sum_not_nan (a b d : Ieee.Datum) (h : a.sum b = some d) : d.isNaN = false := by
  cases a <;> cases b <;> simp [Ieee.Datum.sum] at h
  · subst h; rfl
  · subst h; rfl
  · subst h; rfl
  · rw [← h.2]; rfl
theorem product_not_nan (a b d : Ieee.Datum) (h : a.product b = some d) : d.isNaN = false := by
  cases a <;> cases b <;> simp [Ieee.Datum.product] at h
  · subst h; rfl
  · rw [← h.2]; rfl
  · rw [← h.2]; rfl
  · subst h; rfl
theorem quotient_not_nan (n : Nat) (a b d : Ieee.Datum) (h : a.quotient n b = some d) : d.isNaN = false := by
  cases a <;> cases b <;> simp [Ieee.Datum.quotient] at h
  · split at h
    · split at h
      · cases h
      · cases h; rfl
    · cases h; rfl
  · subst h; rfl
  · subst h; rfl
def fN (o : Option Nat) : Nat := match o with | some _ => 0 | none => 1
def fV (q : Question) (w : World) (o : Option Nat) : Nat := match o with | some r => r | none => q.cut (w.tape w.drawn q)
def addO (x y : Nat) : Option Nat := Ieee.double.add x y
def subO (x y : Nat) : Option Nat := Ieee.double.sub x y
def mulO (x y : Nat) : Option Nat := Ieee.double.mul x y
def divO (x y : Nat) : Option Nat := Ieee.double.div x y
def addV (w : World) (x y : Nat) : Nat := fV (.nanBits .f64 x y) w (addO x y)
def subV (w : World) (x y : Nat) : Nat := fV (.nanBits .f64 x y) w (subO x y)
def mulV (w : World) (x y : Nat) : Nat := fV (.nanBits .f64 x y) w (mulO x y)
def divV (w : World) (x y : Nat) : Nat := fV (.nanBits .f64 x y) w (divO x y)
section
variable {P : Program} (t : TypeId) (x y z : Nat) (w : World)
@[go_sem high] theorem run_fadd : (binOp .add t (.float .f64 x) (.float .f64 y)).run P w = .ok (.float .f64 (addV w x y)) (w.drewN (fN (addO x y))) := by
  unfold addV addO fV fN
  cases h : Ieee.double.add x y with
  | some r => simp [binOp, Op.floatArith, f64_double, h, World.drewN_zero]
  | none => simp [binOp, Op.floatArith, f64_double, h, Question.forced]; rfl
@[go_sem high] theorem run_fsub : (binOp .sub t (.float .f64 x) (.float .f64 y)).run P w = .ok (.float .f64 (subV w x y)) (w.drewN (fN (subO x y))) := by
  unfold subV subO fV fN
  cases h : Ieee.double.sub x y with
  | some r => simp [binOp, Op.floatArith, f64_double, h, World.drewN_zero]
  | none => simp [binOp, Op.floatArith, f64_double, h, Question.forced]; rfl
@[go_sem high] theorem run_fmul : (binOp .mul t (.float .f64 x) (.float .f64 y)).run P w = .ok (.float .f64 (mulV w x y)) (w.drewN (fN (mulO x y))) := by
  unfold mulV mulO fV fN
  cases h : Ieee.double.mul x y with
  | some r => simp [binOp, Op.floatArith, f64_double, h, World.drewN_zero]
  | none => simp [binOp, Op.floatArith, f64_double, h, Question.forced]; rfl
@[go_sem high] theorem run_fdiv : (binOp .quo t (.float .f64 x) (.float .f64 y)).run P w = .ok (.float .f64 (divV w x y)) (w.drewN (fN (divO x y))) := by
  unfold divV divO fV fN
  cases h : Ieee.double.div x y with
  | some r => simp [binOp, Op.floatArith, f64_double, h, World.drewN_zero]
  | none => simp [binOp, Op.floatArith, f64_double, h, Question.forced]; rfl
end
@[go_sem] theorem run_store_float {P : Program} (w : World) (a : Addr) (m : Mode) (k : FloatKind) (b : Nat) : (store a (.float k b) m).run P w = stored P w a (.float k b) m := run_store P w a _ m rfl

theorem cut_nan (x y n : Nat) : (Question.nanBits .f64 x y).cut n < 18446744073709551616 ∧ nan ((Question.nanBits .f64 x y).cut n) = true := by
  have e : (Question.nanBits .f64 x y).cut n = (n % 2) * 9223372036854775808 + 9218868437227405312 + 1 + (n / 2) % 4503599627370495 := rfl
  have h1 : n / 2 % 4503599627370495 < 4503599627370495 := Nat.mod_lt _ (by omega)
  have h2 : n % 2 < 2 := Nat.mod_lt _ (by omega)
  rw [e]; unfold nan mg; simp only [decide_eq_true_eq]
  generalize n / 2 % 4503599627370495 = k at *
  generalize n % 2 = j at *
  omega
theorem rep_fV {o : Option Nat} (h : ∀ r, o = some r → r < 18446744073709551616 ∧ nan r = false) (x y : Nat) (w : World) : rep o (fV (.nanBits .f64 x y) w o) := by
  unfold rep fV
  cases o with
  | some r => exact ⟨(h r rfl).1, ans_num (h r rfl).2⟩
  | none => exact ⟨(cut_nan _ _ _).1, ans_nan (cut_nan _ _ _).2⟩
theorem add_bd {x y r : Nat} (h : addO x y = some r) : r < 18446744073709551616 ∧ nan r = false := ⟨Ieee.double.add_lt h, map_not_nan (sum_not_nan _ _) h⟩
theorem sub_bd {x y r : Nat} (h : subO x y = some r) : r < 18446744073709551616 ∧ nan r = false := ⟨Ieee.double.sub_lt h, map_not_nan (sum_not_nan _ _) h⟩
theorem mul_bd {x y r : Nat} (h : mulO x y = some r) : r < 18446744073709551616 ∧ nan r = false := ⟨Ieee.double.mul_lt h, map_not_nan (product_not_nan _ _) h⟩
theorem div_bd {x y r : Nat} (h : divO x y = some r) : r < 18446744073709551616 ∧ nan r = false := ⟨Ieee.double.div_lt h, map_not_nan (quotient_not_nan _ _ _) h⟩
theorem rep_addV (x y : Nat) (w : World) : rep (addO x y) (addV w x y) := rep_fV (fun _ h => add_bd h) _ _ _
theorem rep_subV (x y : Nat) (w : World) : rep (subO x y) (subV w x y) := rep_fV (fun _ h => sub_bd h) _ _ _
theorem rep_mulV (x y : Nat) (w : World) : rep (mulO x y) (mulV w x y) := rep_fV (fun _ h => mul_bd h) _ _ _
theorem rep_divV (x y : Nat) (w : World) : rep (divO x y) (divV w x y) := rep_fV (fun _ h => div_bd h) _ _ _
/-- Operations on answers. -/
def addA (a b : Option Nat) : Option Nat := a.bind fun x => b.bind fun y => addO x y
def subA (a b : Option Nat) : Option Nat := a.bind fun x => b.bind fun y => subO x y
def mulA (a b : Option Nat) : Option Nat := a.bind fun x => b.bind fun y => mulO x y
theorem add_nan {x y : Nat} (h : nan x = true ∨ nan y = true) : addO x y = none := by
  unfold addO Ieee.Format.add
  rcases h with h | h
  · rw [read_nan x h]; cases Ieee.double.read y <;> rfl
  · rw [read_nan y h]; cases Ieee.double.read x <;> rfl
theorem sub_nan {x y : Nat} (h : nan x = true ∨ nan y = true) : subO x y = none := by
  unfold subO Ieee.Format.sub
  rcases h with h | h
  · rw [read_nan x h]; cases Ieee.double.read y <;> rfl
  · rw [read_nan y h]; cases Ieee.double.read x <;> rfl
theorem mul_nan {x y : Nat} (h : nan x = true ∨ nan y = true) : mulO x y = none := by
  unfold mulO Ieee.Format.mul
  rcases h with h | h
  · rw [read_nan x h]; cases Ieee.double.read y <;> rfl
  · rw [read_nan y h]; cases Ieee.double.read x <;> rfl
theorem addA_of {a b : Option Nat} {x y : Nat} (ha : rep a x) (hb : rep b y) : addA a b = addO x y := by
  obtain ⟨_, rfl⟩ := ha
  obtain ⟨_, rfl⟩ := hb
  unfold addA
  cases hx : nan x
  · cases hy : nan y
    · rw [ans_num hx, ans_num hy]; rfl
    · rw [add_nan (Or.inr hy), ans_num hx, ans_nan hy]; rfl
  · rw [add_nan (Or.inl hx), ans_nan hx]; rfl
theorem subA_of {a b : Option Nat} {x y : Nat} (ha : rep a x) (hb : rep b y) : subA a b = subO x y := by
  obtain ⟨_, rfl⟩ := ha
  obtain ⟨_, rfl⟩ := hb
  unfold subA
  cases hx : nan x
  · cases hy : nan y
    · rw [ans_num hx, ans_num hy]; rfl
    · rw [sub_nan (Or.inr hy), ans_num hx, ans_nan hy]; rfl
  · rw [sub_nan (Or.inl hx), ans_nan hx]; rfl
theorem mulA_of {a b : Option Nat} {x y : Nat} (ha : rep a x) (hb : rep b y) : mulA a b = mulO x y := by
  obtain ⟨_, rfl⟩ := ha
  obtain ⟨_, rfl⟩ := hb
  unfold mulA
  cases hx : nan x
  · cases hy : nan y
    · rw [ans_num hx, ans_num hy]; rfl
    · rw [mul_nan (Or.inr hy), ans_num hx, ans_nan hy]; rfl
  · rw [mul_nan (Or.inl hx), ans_nan hx]; rfl
theorem rep_add {a b : Option Nat} {x y : Nat} (ha : rep a x) (hb : rep b y) (w : World) : rep (addA a b) (addV w x y) := by rw [addA_of ha hb]; exact rep_addV _ _ _
theorem rep_sub {a b : Option Nat} {x y : Nat} (ha : rep a x) (hb : rep b y) (w : World) : rep (subA a b) (subV w x y) := by rw [subA_of ha hb]; exact rep_subV _ _ _
theorem rep_mul {a b : Option Nat} {x y : Nat} (ha : rep a x) (hb : rep b y) (w : World) : rep (mulA a b) (mulV w x y) := by rw [mulA_of ha hb]; exact rep_mulV _ _ _

end Go.Proofs.YtmpkcioeodlbcaaGreatDoor
namespace Go.Proofs.YtmpkcioeodlbcaaGreatDoor.Fl
theorem log2_mul (m p : Nat) (h : 0 < m) : (m * 2 ^ p).log2 = m.log2 + p := by
  have h1 := log2_bd h
  have hp : 0 < 2 ^ p := Nat.two_pow_pos _
  refine (Nat.log2_eq_iff (Nat.mul_ne_zero (by omega) (by omega))).2 ⟨?_, ?_⟩
  · rw [Nat.pow_add]; exact Nat.mul_le_mul_right _ h1.1
  · rw [show m.log2 + p + 1 = (m.log2 + 1) + p by omega, Nat.pow_add]; exact (Nat.mul_lt_mul_right hp).2 h1.2
theorem more_if (p r q : Nat) : (decide (p < 2 * r) || (p == 2 * r && q % 2 == 1)).toNat = if p < 2 * r ∨ (p = 2 * r ∧ q % 2 = 1) then 1 else 0 := by
  by_cases h1 : p < 2 * r
  · simp [h1]
  · by_cases h2 : p = 2 * r
    · by_cases h3 : q % 2 = 1
      · simp [h2, h3]
      · have h4 : (q % 2 == 1) = false := by simpa using h3
        rw [h4]; simp [h3, h1]
    · have h4 : (p == 2 * r) = false := by simpa using h2
      rw [h4]; simp [h2, h1]
theorem sz_le {a b : Nat} (h : a ≤ b) : sz a ≤ sz b := by
  rcases Nat.eq_or_lt_of_le h with h1 | h1
  · rw [h1]; exact Nat.le_refl _
  · exact Nat.le_of_lt (sz_mono h1)
theorem cut_rne (s : Bool) (n d : Nat) : Ieee.Toward.even.cut s n d = rne n d := by
  have key : Ieee.Toward.even.cut s n d = rne n (min d (n.log2 + 2)) := by
    unfold Ieee.Toward.cut rne
    simp only [Nat.shiftLeft_eq, Nat.one_mul]
    congr 1
    generalize 2 ^ min d (n.log2 + 2) = p
    exact more_if p (n % p) (n / p)
  rw [key]
  rcases Nat.le_total d (n.log2 + 2) with h | h
  · rw [Nat.min_eq_left h]
  · rw [Nat.min_eq_right h]
    have z : ∀ e, n.log2 + 2 ≤ e → rne n e = 0 := by
      intro e he
      have h1 : n < 2 ^ (n.log2 + 1) := Nat.lt_log2_self
      have h2 : 2 ^ (n.log2 + 1 + 1) ≤ 2 ^ e := Nat.pow_le_pow_right (by omega) he
      rw [Nat.pow_succ] at h2
      unfold rne
      rw [Nat.div_eq_of_lt (by omega), Nat.mod_eq_of_lt (by omega), if_neg (by omega)]
    rw [z _ (Nat.le_refl _), z _ h]
theorem rne_scale (m p d : Nat) (h : p ≤ d) : rne (m * 2 ^ p) d = rne m (d - p) := by
  have hd : 2 ^ d = 2 ^ (d - p) * 2 ^ p := by rw [← Nat.pow_add]; congr 1; omega
  have hp : 0 < 2 ^ p := Nat.two_pow_pos _
  have h1 : m * 2 ^ p / 2 ^ d = m / 2 ^ (d - p) := by rw [hd]; exact Nat.mul_div_mul_right _ _ hp
  have h2 : m * 2 ^ p % 2 ^ d = m % 2 ^ (d - p) * 2 ^ p := by rw [hd]; exact Nat.mul_mod_mul_right _ _ _
  unfold rne
  rw [h1, h2]
  congr 1
  have e1 : (2 ^ d < 2 * (m % 2 ^ (d - p) * 2 ^ p)) ↔ (2 ^ (d - p) < 2 * (m % 2 ^ (d - p))) := by
    rw [hd, ← Nat.mul_assoc]; exact Nat.mul_lt_mul_right hp
  have e2 : (2 ^ d = 2 * (m % 2 ^ (d - p) * 2 ^ p)) ↔ (2 ^ (d - p) = 2 * (m % 2 ^ (d - p))) := by
    rw [hd, ← Nat.mul_assoc]; exact ⟨fun h => Nat.eq_of_mul_eq_mul_right hp h, fun h => congrArg (· * 2 ^ p) h⟩
  simp only [e1, e2]
/-- the place in the row of words of a rounded whole number -/
def rung (n : Nat) : Nat := dig n * 4503599627370496 + rne n (dig n)
theorem nearest_eq (s : Bool) (m p : Nat) : Ieee.double.nearest s m (-1074 + (p : Int)) = Ieee.double.word s (min (rung (m * 2 ^ p)) 9218868437227405312) := by
  by_cases h0 : m = 0
  · subst h0
    have e : rung (0 * 2 ^ p) = 0 := by rw [Nat.zero_mul]; decide
    unfold Ieee.Format.nearest; rw [if_pos rfl, e]; rfl
  · have hm : 0 < m := by omega
    unfold Ieee.Format.nearest
    rw [if_neg h0]
    simp only [d_least, d_bin, d_inf, cut_rne, Nat.shiftLeft_eq]
    have hf : (Ieee.double.fractionBits : Int) = 52 := rfl
    have hlast : max (-1074 + (p : Int) + (m.log2 : Int) - (Ieee.double.fractionBits : Int)) (-1074) = -1074 + (dig (m * 2 ^ p) : Int) := by
      unfold dig; rw [log2_mul m p hm, hf]; omega
    rw [hlast]
    have e1 : (-1074 + (dig (m * 2 ^ p) : Int) - -1074).toNat = dig (m * 2 ^ p) := by omega
    have e2 : (-1074 + (p : Int) - (-1074 + (dig (m * 2 ^ p) : Int))).toNat = p - dig (m * 2 ^ p) := by omega
    have e3 : (-1074 + (dig (m * 2 ^ p) : Int) - (-1074 + (p : Int))).toNat = dig (m * 2 ^ p) - p := by omega
    rw [e1, e2, e3]
    unfold rung
    generalize hd : dig (m * 2 ^ p) = d
    congr 3
    rcases Nat.le_total p d with h | h
    · rw [Nat.sub_eq_zero_of_le h, Nat.pow_zero, Nat.mul_one, rne_scale m p d h]
    · rw [Nat.sub_eq_zero_of_le h]
      have e4 : m * 2 ^ p = m * 2 ^ (p - d) * 2 ^ d := by rw [Nat.mul_assoc, ← Nat.pow_add]; congr 2; omega
      rw [e4, rne_scale _ d d (Nat.le_refl _), Nat.sub_self]
theorem sz_rung (n : Nat) : sz (rung n) = rn n := by
  unfold rung rn
  by_cases h : n < 9007199254740992
  · rw [dig_zero h]
    have e : rne n 0 = n := by have := rne_exact n 0 (by simp); simpa using this
    rw [e]; unfold sz sig ex
    simp only [Nat.zero_mul, Nat.zero_add, Nat.pow_zero, Nat.mul_one]
    have e2 : n / 4503599627370496 - 1 = 0 := by omega
    rw [e2, Nat.pow_zero, Nat.mul_one]
    split <;> omega
  · have hb := rne_bd (by omega : 9007199254740992 ≤ n)
    have hd := (dig_pos (by omega : 9007199254740992 ≤ n)).1
    generalize dig n = d at *
    generalize rne n d = k at *
    unfold sz sig ex
    rw [if_neg (by omega)]
    rcases Nat.lt_or_ge k 9007199254740992 with h1 | h1
    · have e1 : (d * 4503599627370496 + k) / 4503599627370496 - 1 = d := by omega
      have e2 : (d * 4503599627370496 + k) % 4503599627370496 = k - 4503599627370496 := by omega
      have e3 : 4503599627370496 + (k - 4503599627370496) = k := by omega
      rw [e1, e2, e3]
    · have e1 : (d * 4503599627370496 + k) / 4503599627370496 - 1 = d + 1 := by omega
      have e2 : (d * 4503599627370496 + k) % 4503599627370496 = 0 := by omega
      have e3 : k = 9007199254740992 := by omega
      rw [e1, e2, e3, Nat.pow_succ]; omega
def szI : Nat := sz 9218868437227405312
theorem rung_lt {n : Nat} (h : rn n < szI) : rung n < 9218868437227405312 := by
  rcases Nat.lt_or_ge (rung n) 9218868437227405312 with h1 | h1
  · exact h1
  · exfalso
    rw [← sz_rung] at h
    unfold szI at h
    exact Nat.not_lt.2 (sz_le h1) h
theorem word_ng (s : Bool) {r : Nat} (h : r < 9223372036854775808) : ng (Ieee.double.word s r) = s := by
  unfold Ieee.Format.word ng; rw [d_sw]
  cases s
  · have : r / 9223372036854775808 = 0 := by omega
    simp [this]
  · have : (9223372036854775808 + r) / 9223372036854775808 = 1 := by omega
    simp [this]
theorem word_val (s : Bool) {r : Nat} (h : r < 9223372036854775808) : val (Ieee.double.word s r) = sgn s (sz r) := by
  unfold val; rw [word_ng s h, word_mg s h]
/-- writing a finite number -/
theorem nearest_val (s : Bool) (m p : Nat) (h : rn (m * 2 ^ p) < szI) :
    fin (Ieee.double.nearest s m (-1074 + (p : Int))) ∧ val (Ieee.double.nearest s m (-1074 + (p : Int))) = sgn s (rn (m * 2 ^ p)) := by
  have hr := rung_lt h
  rw [nearest_eq, Nat.min_eq_left (by omega)]
  refine ⟨?_, by rw [word_val s (by omega), sz_rung]⟩
  unfold fin; rw [word_mg s (by omega)]; exact hr
theorem sgn_abs (s : Bool) (n : Nat) : (sgn s n).natAbs = n := by unfold sgn; split <;> omega
theorem val_rep (x : Nat) : Rp (val x) := by
  exact ⟨sig (mg x), ex (mg x), sgn_abs _ _, sig_lt _⟩
theorem sgn_rn (v : Int) (s : Bool) (h : v ≠ 0 → s = decide (v < 0)) : sgn s (rn v.natAbs) = rnI v := by
  by_cases hv : v = 0
  · subst hv
    have : rn 0 = 0 := rn_small (by omega)
    unfold rnI sgn; simp [this]
  · rw [h hv]; unfold rnI sgn; by_cases h2 : v < 0 <;> simp [h2]
/-- the sum of two numbers, written -/
theorem sum_write (s t : Bool) (m n p q : Nat) (h : rn (sgn s (m * 2 ^ p) + sgn t (n * 2 ^ q)).natAbs < szI) :
    ∃ r, (((Ieee.Datum.number s m (-1074 + (p : Int))).sum (.number t n (-1074 + (q : Int)))).map Ieee.double.write) = some r ∧ fin r ∧ val r = rnI (sgn s (m * 2 ^ p) + sgn t (n * 2 ^ q)) := by
  unfold Ieee.Datum.sum
  simp only [signed_eq, Option.map_some]
  have e1 : (-1074 + (p : Int) - min (-1074 + (p : Int)) (-1074 + (q : Int))).toNat = p - min p q := by omega
  have e2 : (-1074 + (q : Int) - min (-1074 + (p : Int)) (-1074 + (q : Int))).toNat = q - min p q := by omega
  have e3 : min (-1074 + (p : Int)) (-1074 + (q : Int)) = -1074 + ((min p q : Nat) : Int) := by omega
  rw [e1, e2, e3]
  have e4 : (sgn s (m * 2 ^ (p - min p q)) + sgn t (n * 2 ^ (q - min p q))) * ((2 ^ min p q : Nat) : Int) = sgn s (m * 2 ^ p) + sgn t (n * 2 ^ q) := by
    rw [Int.add_mul, ← sgn_mul, ← sgn_mul, Nat.mul_assoc, Nat.mul_assoc, ← Nat.pow_add, ← Nat.pow_add, Nat.sub_add_cancel (Nat.min_le_left _ _), Nat.sub_add_cancel (Nat.min_le_right _ _)]
  generalize hT : sgn s (m * 2 ^ (p - min p q)) + sgn t (n * 2 ^ (q - min p q)) = T at *
  have hk : 0 < 2 ^ min p q := Nat.two_pow_pos _
  have e5 : (sgn s (m * 2 ^ p) + sgn t (n * 2 ^ q)).natAbs = T.natAbs * 2 ^ min p q := by rw [← e4, Int.natAbs_mul]; rfl
  rw [e5] at h
  generalize hS : (if T = 0 then s && t else decide (T < 0)) = S
  obtain ⟨h1, h2⟩ := nearest_val S T.natAbs (min p q) h
  refine ⟨_, rfl, h1, ?_⟩
  show val (Ieee.double.nearest S T.natAbs (-1074 + ((min p q : Nat) : Int))) = _
  rw [h2, ← e5, sgn_rn]
  intro hne
  rw [← hS, ← e4]
  have hT0 : T ≠ 0 := by intro h; apply hne; rw [← e4, h]; simp
  rw [if_neg hT0]
  congr 1
  have hk' : (0 : Int) < ((2 ^ min p q : Nat) : Int) := by omega
  rw [eq_iff_iff]
  constructor
  · intro h; exact Int.mul_neg_of_neg_of_pos h hk'
  · intro h
    rcases Int.lt_or_le T 0 with h3 | h3
    · exact h3
    · exact absurd (Int.mul_nonneg h3 (Int.le_of_lt hk')) (by omega)
theorem add_fin {x y : Nat} (hx : fin x) (hy : fin y) (h : rn (val x + val y).natAbs < szI) :
    ∃ r, addO x y = some r ∧ fin r ∧ val r = rnI (val x + val y) := by
  unfold addO Ieee.Format.add
  rw [read_fin x hx, read_fin y hy]
  exact sum_write _ _ _ _ _ _ h
theorem sgn_not (s : Bool) (n : Nat) : sgn (!s) n = -sgn s n := by unfold sgn; cases s <;> simp
theorem sub_fin {x y : Nat} (hx : fin x) (hy : fin y) (h : rn (val x - val y).natAbs < szI) :
    ∃ r, subO x y = some r ∧ fin r ∧ val r = rnI (val x - val y) := by
  unfold subO Ieee.Format.sub
  rw [read_fin x hx, read_fin y hy]
  have e : val x - val y = sgn (ng x) (sig (mg x) * 2 ^ ex (mg x)) + sgn (!ng y) (sig (mg y) * 2 ^ ex (mg y)) := by rw [sgn_not]; unfold val sz; omega
  rw [e] at h ⊢
  exact sum_write _ _ _ _ _ _ h

end Go.Proofs.YtmpkcioeodlbcaaGreatDoor.Fl
namespace Go.Proofs.YtmpkcioeodlbcaaGreatDoor.Fl
def HE : Nat := 2096
def HH : Nat := 2 ^ HE
theorem rn_abs (v : Int) : (rnI v).natAbs = rn v.natAbs := by unfold rnI; split <;> omega
theorem ans_fin {x : Nat} (h : fin x) : ans x = some x := ans_num (fin_not_nan h)
end Go.Proofs.YtmpkcioeodlbcaaGreatDoor.Fl
namespace Go.Proofs.YtmpkcioeodlbcaaGreatDoor.Fl
theorem mul_eq {a b : Nat} (ha : fin a) (hb : fin b) : mulO a b = some (Ieee.double.nearest (ng a ^^ ng b) (sig (mg a) * sig (mg b)) (-1074 + (ex (mg a) : Int) + (-1074 + (ex (mg b) : Int)))) := by
  unfold mulO Ieee.Format.mul; rw [read_fin a ha, read_fin b hb]; rfl
/-- 1074, kept shut -/
def K74 : Nat := 1074
end Go.Proofs.YtmpkcioeodlbcaaGreatDoor.Fl
