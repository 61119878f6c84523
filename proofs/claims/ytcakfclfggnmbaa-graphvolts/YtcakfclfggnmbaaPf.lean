/-
  What Abs of gridworkref02, and Sqrt of package parts and of gridworkref02, hand back, whatever they are called with: each by one function on answers.
-/
import Derived.Test.YtcakfclfggnmbaaPe
namespace Go.Proofs.Ytcakfclfggnmbaa
open Fl

def sgA (A : Option Nat) : Bool := match A with | some x => ng x | none => false
def sqU (A B : Option Nat) : Option Nat := sqrtA (addA (divA (absA A B) (some 4611686018427387904)) (divA A (some 4611686018427387904)))
def sqV (A B : Option Nat) : Option Nat := sqrtA (subA (divA (absA A B) (some 4611686018427387904)) (divA A (some 4611686018427387904)))
def sqRe (A B : Option Nat) : Option Nat :=
  if A.isNone || B.isNone then none else if zeA A && zeA B then some 0
  else if geA A (some 0) then sqU A B else sizA (divA B (mulA (some 4611686018427387904) (sqV A B)))
def sqIm (A B : Option Nat) : Option Nat :=
  if A.isNone || B.isNone then none else if zeA A && zeA B then B
  else if geA A (some 0) then divA B (mulA (some 4611686018427387904) (sqU A B)) else (if sgA B then negA (sqV A B) else sqV A B)

theorem isNone_of {A : Option Nat} {x : Nat} (h : rep A x) : A.isNone = nan x := by
  obtain ⟨_, rfl⟩ := h
  cases hn : nan x
  · rw [ans_num hn]; rfl
  · rw [ans_nan hn]; rfl
theorem pos_hyp (G L : Option Nat) (hG : posA G) (hL : posA L) : posA (hyp G L) := by
  unfold hyp
  exact pos_mulA hG (pos_sqrtA (pos_addA (pos_num (by decide)) (pos_mulA (pos_divA hL hG) (pos_divA hL hG))))
theorem pos_absA (A B : Option Nat) : posA (absA A B) := by
  unfold absA
  split
  · exact pos_num (by decide)
  · split
    · exact pos_num (by decide)
    · unfold absG
      split
      · exact pos_hyp _ _ (pos_sizA _) (pos_sizA _)
      · exact pos_hyp _ _ (pos_sizA _) (pos_sizA _)
/-- A number that is not above or equal to 0, and no NaN, has the sign. -/
theorem ng_of_lt {A : Option Nat} {x : Nat} (h : rep A x) (hn : nan x = false) (hg : geA A (some 0) = false) : ng x = true := by
  obtain ⟨_, rfl⟩ := h
  rw [ans_num hn] at hg
  have e : ordA (some x) (some 0) = Ieee.double.order x 0 := rfl
  unfold geA at hg
  rw [e, ← f64_double, order_gt hn nan_0, order_eqb hn nan_0, plc_0] at hg
  cases hs : ng x
  · have h1 : 0 ≤ plc x := by unfold plc; rw [hs]; unfold sgn; exact Int.natCast_nonneg _
    simp at hg; omega
  · rfl
theorem pos_sqV {A B : Option Nat} {x : Nat} (h : rep A x) (hn : nan x = false) (hg : geA A (some 0) = false) : posA (sqV A B) := by
  unfold sqV
  rw [subA_add _ (bd_divA _ _)]
  refine pos_sqrtA (pos_addA (pos_divA (pos_absA _ _) (pos_num (by decide))) ?_)
  refine posA.neg (bd_divA _ _) ?_
  have hs := ng_of_lt h hn hg
  obtain ⟨_, rfl⟩ := h
  intro y hy
  rw [ans_num hn] at hy
  rw [ng_divO hy, hs]; rfl

/-- A word's size with another word's sign. -/
def csW (v i : Nat) : Nat := if ng i then mg v + 9223372036854775808 else mg v
theorem rep_cs {V : Option Nat} {v : Nat} (h : rep V v) (hp : posA V) (i : Nat) : rep (if ng i then negA V else V) (csW v i) := by
  have h1 := rep_ng h
  have hl := h.1
  cases hV : nan v
  · have hs : ng v = false := by
      obtain ⟨_, rfl⟩ := h
      exact hp v (ans_num hV)
    have hv : mg v = v := by
      unfold ng at hs; unfold mg
      have h3 : ¬ v / 9223372036854775808 % 2 = 1 := by intro hc; rw [hc] at hs; exact absurd hs (by decide)
      omega
    have hlt : v < 9223372036854775808 := by rw [← hv]; exact mg_bd v
    unfold csW; rw [hv]
    cases ng i
    · exact h
    · simp only [if_true]
      have : ngW v = v + 9223372036854775808 := by unfold ngW; rw [if_pos hlt]
      rw [← this]; exact h1
  · have hm := mg_bd v
    have hc : nan (csW v i) = true := by
      unfold csW nan
      unfold nan at hV
      split
      · rw [show mg (mg v + 9223372036854775808) = mg v from by unfold mg; omega]; exact hV
      · rw [mg_mg]; exact hV
    have hcl : csW v i < 18446744073709551616 := by unfold csW; split <;> omega
    have hn : V = none := by rw [← h.2]; exact ans_nan hV
    subst hn
    cases ng i
    · exact ⟨hcl, ans_nan hc⟩
    · exact ⟨hcl, ans_nan hc⟩
theorem and_sign (x : Nat) (hx : x < 18446744073709551616) : bits BinOp.and IntKind.u64 (x : Int) 9223372036854775808 = ((x / 9223372036854775808 % 2 * 9223372036854775808 : Nat) : Int) := by
  have h := u64_and_nat x 9223372036854775808 hx (by omega)
  have h2 := nat_bit 63 x
  rw [show (2 : Nat) ^ 63 = 9223372036854775808 from rfl] at h2
  rw [h2] at h; exact h
section two
variable {A B : Option Nat} {a b : Nat} (w : World) (ha : rep A a) (hb : rep B b)
include ha hb
end two

end Go.Proofs.Ytcakfclfggnmbaa
