/-
  What Inv, Scale and the sizes of package parts, and the same of gridworkref02, hand back, whatever they are called with: each by one function on answers.
-/
import Derived.Test.YtcakfclfggnmbaaPd
import Derived.Test.YtcakfclfggnmbaaSg
namespace Go.Proofs.Ytcakfclfggnmbaa
open Fl

def infA (A : Option Nat) : Bool := match A with | some x => infB x | none => false
def zeA (A : Option Nat) : Bool := match A with | some x => zeB x | none => false
def ltA (A B : Option Nat) : Bool := ordA A B == some .lt
def hyp (G L : Option Nat) : Option Nat := mulA G (sqrtA (addA (some 4607182418800017408) (mulA (divA L G) (divA L G))))
def absG (A B : Option Nat) : Option Nat := if ltA (sizA A) (sizA B) then hyp (sizA B) (sizA A) else hyp (sizA A) (sizA B)
def absA (A B : Option Nat) : Option Nat := if infA A || infA B then some 9218868437227405312 else if zeA A && zeA B then some 0 else absG A B

theorem infA_of {A : Option Nat} {x : Nat} (h : rep A x) : infB x = infA A := by
  obtain ⟨_, rfl⟩ := h
  cases hn : nan x
  · rw [ans_num hn]; rfl
  · rw [ans_nan hn]; unfold infB; exact decide_eq_false (fun h => by rw [inf_not_nan h] at hn; cases hn)
theorem zeB_nan {x : Nat} (h : nan x = true) : zeB x = false := by
  unfold zeB; unfold nan at h; simp at h; simp; omega
theorem zeA_of {A : Option Nat} {x : Nat} (h : rep A x) : zeB x = zeA A := by
  obtain ⟨_, rfl⟩ := h
  cases hn : nan x
  · rw [ans_num hn]; rfl
  · rw [ans_nan hn]; exact zeB_nan hn
theorem nan_0 : nan 0 = false := by decide
theorem nan_inf : nan 9218868437227405312 = false := by decide
theorem plc_0 : plc 0 = 0 := by decide
theorem eqB_zero (x : Nat) : eqB x 0 = zeB x := by
  unfold eqB
  cases hn : nan x
  · rw [order_eqb hn nan_0, plc_0]
    unfold zeB plc sgn
    cases ng x <;> simp
  · rw [f64_double, order_eq, hn, zeB_nan hn]; rfl
theorem plc_mg (x : Nat) : plc (mg x) = mg x := by
  have h := mg_bd x
  have h2 : ng (mg x) = false := by unfold ng; rw [Nat.div_eq_of_lt h]; rfl
  unfold plc; rw [h2, mg_mg]; rfl
theorem zeB_mg (x : Nat) : zeB (mg x) = zeB x := by unfold zeB; rw [mg_mg]
theorem infB_mg (x : Nat) : infB (mg x) = infB x := by unfold infB; rw [mg_mg]
theorem eqB_inf (x : Nat) : eqB (mg x) 9218868437227405312 = infB x := by
  unfold eqB
  cases hn : nan x
  · rw [order_eqb (by rw [nan_mg]; exact hn) nan_inf, plc_mg, show plc 9218868437227405312 = 9218868437227405312 from by decide]
    unfold infB
    by_cases h : mg x = 9218868437227405312
    · rw [decide_eq_true h, h]; rfl
    · rw [decide_eq_false h, decide_eq_false (by omega)]
  · rw [f64_double, order_eq, nan_mg, hn]
    unfold infB; exact (decide_eq_false (fun h => by rw [inf_not_nan h] at hn; cases hn)).symm
theorem ordA_swap (A B : Option Nat) : (ordA B A == some .gt) = ltA A B := by
  unfold ltA ordA
  cases A with
  | none => cases B <;> rfl
  | some x =>
    cases B with
    | none => rfl
    | some y =>
      show (Ieee.double.order y x == some .gt) = (Ieee.double.order x y == some .lt)
      rw [order_eq, order_eq, Bool.or_comm]
      split
      · rfl
      · generalize plc x = u
        generalize plc y = v
        simp only [compare, compareOfLessAndEq]
        rcases Int.lt_trichotomy u v with h | h | h
        · have h1 : ¬ v < u := by omega
          have h2 : ¬ v = u := by omega
          simp [h, h1, h2]
        · subst h; simp
        · have h1 : ¬ u < v := by omega
          have h2 : ¬ u = v := by omega
          simp [h, h1, h2]
theorem rep_num {x : Nat} (h : x < 18446744073709551616) (hn : nan x = false) : rep (some x) x := ⟨h, ans_num hn⟩
theorem rep_one : rep (some 4607182418800017408) 4607182418800017408 := rep_num (by decide) (by decide)
theorem rep_two : rep (some 4611686018427387904) 4611686018427387904 := rep_num (by decide) (by decide)
theorem rep_0 : rep (some 0) 0 := rep_num (by decide) (by decide)
theorem rep_inf : rep (some 9218868437227405312) 9218868437227405312 := rep_num (by decide) (by decide)

section two
variable {A B X : Option Nat} {a b x : Nat} (w : World) (ha : rep A a) (hb : rep B b) (hx : rep X x)
include ha hb
end two

end Go.Proofs.Ytcakfclfggnmbaa
