/-
  Sizes: Abs with signs turned and parts changed about; its bounds; math.Abs and the language's max on floats.
-/
import Derived.Test.YtfdnhofkfodcjaaBnd
import Derived.Test.YtfdnhofkfodcjaaPg
import Derived.Test.YtfdnhofkfodcjaaPl
namespace Go.Proofs.Ytfdnhofkfodcjaa
open Fl RowKit

theorem hyp_none (L : Option Nat) : hyp none L = none := rfl
theorem hyp_none' (G : Option Nat) : hyp G none = none := by cases G <;> rfl
theorem absG_swap {A B : Option Nat} (hA : bdA A) (hB : bdA B) : absG B A = absG A B := by
  unfold absG
  cases A with
  | none =>
    show (if ltA (sizA B) none then hyp none (sizA B) else hyp (sizA B) none) = (if ltA none (sizA B) then hyp (sizA B) none else hyp none (sizA B))
    rw [hyp_none, hyp_none']; split <;> split <;> rfl
  | some a =>
    cases B with
    | none =>
      show (if ltA none (sizA (some a)) then hyp (sizA (some a)) none else hyp none (sizA (some a))) = (if ltA (sizA (some a)) none then hyp none (sizA (some a)) else hyp (sizA (some a)) none)
      rw [hyp_none, hyp_none']; split <;> split <;> rfl
    | some b =>
      have na : nan (mg a) = false := by rw [nan_mg]; exact (hA a rfl).2
      have nb : nan (mg b) = false := by rw [nan_mg]; exact (hB b rfl).2
      have e1 : ltA (sizA (some a)) (sizA (some b)) = decide (mg a < mg b) := by
        show (Ieee.double.order (mg a) (mg b) == some .lt) = _
        rw [← f64_double, order_lt na nb, plc_mg, plc_mg]
        by_cases h : mg a < mg b
        · rw [decide_eq_true h]; exact decide_eq_true (by omega)
        · rw [decide_eq_false h]; exact decide_eq_false (by omega)
      have e2 : ltA (sizA (some b)) (sizA (some a)) = decide (mg b < mg a) := by
        show (Ieee.double.order (mg b) (mg a) == some .lt) = _
        rw [← f64_double, order_lt nb na, plc_mg, plc_mg]
        by_cases h : mg b < mg a
        · rw [decide_eq_true h]; exact decide_eq_true (by omega)
        · rw [decide_eq_false h]; exact decide_eq_false (by omega)
      rw [e1, e2]
      rcases Nat.lt_trichotomy (mg a) (mg b) with h | h | h
      · rw [decide_eq_true h, decide_eq_false (by omega : ¬ mg b < mg a)]; rfl
      · have e3 : sizA (some a) = sizA (some b) := by unfold sizA; simp [h]
        rw [e3]; split <;> split <;> rfl
      · rw [decide_eq_true h, decide_eq_false (by omega : ¬ mg a < mg b)]; rfl
theorem absA_swap {A B : Option Nat} (hA : bdA A) (hB : bdA B) : absA B A = absA A B := by
  unfold absA; rw [absG_swap hA hB, Bool.or_comm, Bool.and_comm]
theorem absA_conj' {A B : Option Nat} (hA : bdA A) (hB : bdA B) : absA (negA A) B = absA A B := by
  rw [absA_swap hB (bd_negA hA), absA_conj hA, absA_swap hA hB]
theorem not_below {A : Option Nat} {x : Nat} (h : rep A x) (hp : posA A) : (FloatKind.f64.format.order x 0 == some .lt) = false := by
  cases hn : nan x
  · rw [order_lt hn nan_0, plc_0]
    have hs : ng x = false := by
      obtain ⟨_, rfl⟩ := h
      exact hp x (ans_num hn)
    refine decide_eq_false ?_
    unfold plc sgn; rw [hs]; simp only [Bool.false_eq_true, if_false]; omega
  · rw [f64_double, order_eq, hn]; rfl
theorem ge_pos {A : Option Nat} (hA : bdA A) (hg : geA A (some 0) = true) : zeA A = true ∨ posA A := by
  cases A with
  | none => exact Or.inr (fun x h => by cases h)
  | some a =>
    obtain ⟨_, hn⟩ := hA a rfl
    cases hs : ng a
    · exact Or.inr (pos_num hs)
    · left
      unfold geA at hg
      have e : ordA (some a) (some 0) = Ieee.double.order a 0 := rfl
      rw [e, ← f64_double, order_gt hn nan_0, order_eqb hn nan_0, plc_0] at hg
      have hp : plc a = -(mg a : Int) := by unfold plc sgn; rw [hs]; rfl
      rw [hp] at hg
      show decide (mg a = 0) = true
      simp at hg ⊢; omega
theorem half_0 : divO 0 4611686018427387904 = some 0 := by kernel_rfl
theorem zero_half {a : Nat} (h : mg a = 0) : ∃ z, divA (some a) (some 4611686018427387904) = some z ∧ mg z = 0 := by
  show ∃ z, divO a 4611686018427387904 = some z ∧ mg z = 0
  have k := div_zero_eqz h (by decide : mg 0 = 0) 4611686018427387904
  rw [half_0] at k
  rcases k with k | ⟨x, y, hx, hy, h1, h2⟩
  · exact ⟨0, k, by decide⟩
  · exact ⟨x, hx, h1⟩
theorem pos_add_zero {x z r : Nat} (hx : ng x = false) (hz : mg z = 0) (h : addO x z = some r) : ng r = false := by
  refine map_pos (sum_not_nan _ _) (fun d hd => ?_) h
  rw [read_zero hz] at hd
  have hn := neg_read x
  rw [hx] at hn
  cases hr : Ieee.double.read x with
  | nan s f => rw [hr] at hd; cases hd
  | infinity s => rw [hr] at hd hn; cases hd; exact hn
  | number s m i =>
    rw [hr] at hd hn
    change s = false at hn
    subst hn
    cases hd
    have hs : ∀ m up : Nat, 0 ≤ Ieee.signed false m up := fun m up => by rw [signed_eq]; unfold sgn; exact Int.natCast_nonneg _
    have h0 : ∀ (s : Bool) (up : Nat), Ieee.signed s 0 up = 0 := by
      intro s up; rw [signed_eq, Nat.zero_mul]; unfold sgn; split <;> rfl
    show (if _ then (false && _) else _) = false
    split
    · rfl
    · rw [h0]; exact decide_eq_false (by have := hs m (i - min i (-1074)).toNat; omega)
theorem pos_sqU {A B : Option Nat} (hA : bdA A) (hg : geA A (some 0) = true) : posA (sqU A B) := by
  unfold sqU
  refine pos_sqrtA ?_
  have hm : posA (divA (absA A B) (some 4611686018427387904)) := pos_divA (pos_absA _ _) (pos_num (by decide))
  rcases ge_pos hA hg with h | h
  · cases A with
    | none => cases h
    | some a =>
      obtain ⟨z, hz, hz0⟩ := zero_half (of_decide_eq_true h)
      rw [hz]
      intro r hr
      cases hx : divA (absA (some a) B) (some 4611686018427387904) with
      | none => rw [hx] at hr; cases hr
      | some x =>
        rw [hx] at hr
        exact pos_add_zero (hm x hx) hz0 hr
  · exact pos_addA hm (pos_divA h (pos_num (by decide)))
theorem sqRe_pos {A B : Option Nat} (hA : bdA A) : posA (sqRe A B) := by
  unfold sqRe
  split
  · intro x h; cases h
  · split
    · exact pos_num (by decide)
    · split
      · rename_i h; exact pos_sqU hA h
      · exact pos_sizA _

/-- Of a finite number: Abs from the greater size up to the sum of the sizes. -/
theorem mg_pos {x : Nat} (h : fin x) : pos (mg x) := h
theorem abs_bounds {x y : Nat} (hx : fin x) (hy : fin y) :
    ∃ A Z, absA (ans x) (ans y) = some A ∧ addA (sizA (ans x)) (sizA (ans y)) = some Z ∧ mg x ≤ A ∧ mg y ≤ A ∧ A ≤ Z ∧ A ≤ 9218868437227405312 ∧ Z ≤ 9218868437227405312 := by
  have px := mg_pos hx
  have py := mg_pos hy
  rw [ans_fin hx, ans_fin hy]
  have i1 : infA (some x) = false := by unfold infA infB; exact decide_eq_false (by unfold fin at hx; omega)
  have i2 : infA (some y) = false := by unfold infA infB; exact decide_eq_false (by unfold fin at hy; omega)
  show ∃ A Z, absA (some x) (some y) = some A ∧ addO (mg x) (mg y) = some Z ∧ _
  by_cases hz : mg x = 0 ∧ mg y = 0
  · have z1 : zeA (some x) = true := decide_eq_true hz.1
    have z2 : zeA (some y) = true := decide_eq_true hz.2
    refine ⟨0, 0, by unfold absA; rw [i1, i2, z1, z2]; rfl, ?_, by omega, by omega, by omega, by omega, by omega⟩
    rw [hz.1, hz.2]; kernel_rfl
  · have z : (zeA (some x) && zeA (some y)) = false := by
      show (decide (mg x = 0) && decide (mg y = 0)) = false
      rw [Bool.and_eq_false_iff]
      by_cases h1 : mg x = 0
      · right; exact decide_eq_false (fun h2 => hz ⟨h1, h2⟩)
      · left; exact decide_eq_false h1
    have hab : absA (some x) (some y) = absG (some x) (some y) := by unfold absA; rw [i1, i2, z]; rfl
    rw [hab]
    have na : nan (mg x) = false := by rw [nan_mg]; exact fin_not_nan hx
    have nb : nan (mg y) = false := by rw [nan_mg]; exact fin_not_nan hy
    have e1 : ltA (sizA (some x)) (sizA (some y)) = decide (mg x < mg y) := by
      show (Ieee.double.order (mg x) (mg y) == some .lt) = _
      rw [← f64_double, order_lt na nb, plc_mg, plc_mg]
      by_cases h : mg x < mg y
      · rw [decide_eq_true h]; exact decide_eq_true (by omega)
      · rw [decide_eq_false h]; exact decide_eq_false (by omega)
    by_cases h : mg x < mg y
    · obtain ⟨A, Z, h1, h2, h3, h4, h5, h6⟩ := hyp_bounds py px (by omega) (by omega)
      refine ⟨A, Z, ?_, by rw [addO_comm]; exact h2, by omega, h3, h4, h5, h6⟩
      unfold absG; rw [e1, decide_eq_true h]; exact h1
    · obtain ⟨A, Z, h1, h2, h3, h4, h5, h6⟩ := hyp_bounds px py (by omega) (by omega)
      refine ⟨A, Z, ?_, h2, h3, by omega, h4, h5, h6⟩
      unfold absG; rw [e1, decide_eq_false h]; exact h1
/-- Two words without a sign, held against each other. -/
theorem order_rungs {a b : Nat} (ha : a ≤ 9218868437227405312) (hb : b ≤ 9218868437227405312) : FloatKind.f64.format.order a b = some (compare (a : Int) (b : Int)) := by
  have e : ∀ c : Nat, c ≤ 9218868437227405312 → nan c = false ∧ plc c = (c : Int) := by
    intro c hc
    have hm : mg c = c := by unfold mg; omega
    refine ⟨by unfold nan; rw [hm]; simp; omega, ?_⟩
    have := plc_mg c
    rw [hm] at this; exact this
  rw [f64_double, order_eq, (e a ha).1, (e b hb).1, (e a ha).2, (e b hb).2]; rfl
theorem order_ge {a b : Nat} (ha : a ≤ 9218868437227405312) (hb : b ≤ 9218868437227405312) (h : b ≤ a) : FloatKind.f64.format.order a b = some .gt ∨ FloatKind.f64.format.order a b = some .eq := by
  rw [order_rungs ha hb]
  rcases Nat.lt_or_ge b a with h1 | h1
  · left; rw [cmp_gt (by omega)]
  · right
    have : a = b := by omega
    subst this; simp [compare, compareOfLessAndEq]
theorem order_le {a b : Nat} (ha : a ≤ 9218868437227405312) (hb : b ≤ 9218868437227405312) (h : a ≤ b) : FloatKind.f64.format.order a b = some .lt ∨ FloatKind.f64.format.order a b = some .eq := by
  rw [order_rungs ha hb]
  rcases Nat.lt_or_ge a b with h1 | h1
  · left; rw [cmp_lt (by omega)]
  · right
    have : a = b := by omega
    subst this; simp [compare, compareOfLessAndEq]

/-- The language's max of two floats. -/
def mxV (w : World) (x y : Nat) : Nat :=
  match Ieee.double.order x y with
  | none => (Question.nanMinMax .f64 true x y).cut (w.tape w.drawn (.nanMinMax .f64 true x y))
  | some .lt => y
  | some .gt => x
  | some .eq => if (FloatKind.f64.decode x).neg then y else x
def mxN (x y : Nat) : Nat := match Ieee.double.order x y with | none => 1 | some _ => 0
@[go_sem] theorem run_max {P : Program} (ts : Array TypeId) (t : TypeId) (x y : Nat) (w : World) : (Builtin.max_ ts t #[.float .f64 x, .float .f64 y]).run P w = .ok (.float .f64 (mxV w x y)) (w.drewN (mxN x y)) := by
  unfold mxV mxN
  cases h : Ieee.double.order x y with
  | none =>
    simp [Builtin.max_, Builtin.max2, f64_double, h]
    rfl
  | some o => cases o <;> simp [Builtin.max_, Builtin.max2, f64_double, h, World.drewN_zero]
theorem mx_fin {x y : Nat} (hx : fin x) (hy : fin y) (w : World) : mxV w (mg x) (mg y) = max (mg x) (mg y) ∧ mxN (mg x) (mg y) = 0 := by
  have h := order_rungs (a := mg x) (b := mg y) (by unfold fin at hx; omega) (by unfold fin at hy; omega)
  rw [f64_double] at h
  unfold mxV mxN
  rw [h]
  rcases Nat.lt_trichotomy (mg x) (mg y) with h1 | h1 | h1
  · rw [cmp_lt (by omega)]; exact ⟨by show mg y = _; omega, rfl⟩
  · rw [h1]
    have : compare ((mg y : Nat) : Int) ((mg y : Nat) : Int) = .eq := by simp [compare, compareOfLessAndEq]
    rw [this]
    refine ⟨?_, rfl⟩
    show (if _ then mg y else mg y) = _
    rw [ite_self, Nat.max_self]
  · rw [cmp_gt (by omega)]; exact ⟨by show mg x = _; omega, rfl⟩
theorem absf_any (x : Nat) (w : World) (hx : x < 18446744073709551616) : Calls Try.prog 60 #[.float .f64 x] w fun e w' => e = .returned (.float .f64 (mg x)) ∧ w' = w := by
  have ha := andNot_sign x hx
  go_enter Try.func60, Try.ntmps60
  go_wp2
  go_ret
  exact ⟨retf (by simp), rfl⟩

end Go.Proofs.Ytfdnhofkfodcjaa
