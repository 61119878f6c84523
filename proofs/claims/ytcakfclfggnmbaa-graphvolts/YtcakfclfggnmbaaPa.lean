/-
  What the arithmetic of package parts, and the same of gridworkref02, hands back, whatever it is called with: each by one function on answers.
-/
import Derived.Test.YtcakfclfggnmbaaPt
import Derived.Test.YtcakfclfggnmbaaTs
namespace Go.Proofs.Ytcakfclfggnmbaa
open Fl

/-- Products, quotients. -/
def mulRe (A B C D : Option Nat) : Option Nat := subA (mulA A C) (mulA B D)
def mulIm (A B C D : Option Nat) : Option Nat := addA (mulA A D) (mulA B C)
def geA (C D : Option Nat) : Bool := ordA C D == some .gt || ordA C D == some .eq
def divRe1 (A B C D : Option Nat) : Option Nat := divA (addA A (mulA B (divA D C))) (addA C (mulA D (divA D C)))
def divIm1 (A B C D : Option Nat) : Option Nat := divA (subA B (mulA A (divA D C))) (addA C (mulA D (divA D C)))
def divRe2 (A B C D : Option Nat) : Option Nat := divA (addA (mulA A (divA C D)) B) (addA (mulA C (divA C D)) D)
def divIm2 (A B C D : Option Nat) : Option Nat := divA (subA (mulA B (divA C D)) A) (addA (mulA C (divA C D)) D)
def divRe (A B C D : Option Nat) : Option Nat := if geA (sizA C) (sizA D) then divRe1 A B C D else divRe2 A B C D
def divIm (A B C D : Option Nat) : Option Nat := if geA (sizA C) (sizA D) then divIm1 A B C D else divIm2 A B C D

theorem sub_self_fin {x : Nat} (hf : fin x) (W : World) : FloatKind.f64.format.order (subV W x x) 0 = some .eq := by
  have e0 : val x - val x = 0 := by omega
  obtain ⟨r, hr, fr, vr⟩ := sub_fin hf hf (by rw [e0]; exact rn_lt (by simp))
  have hv : subV W x x = r := by unfold subV fV; rw [hr]
  rw [hv]
  rw [e0, small_exact (by decide)] at vr
  have h1 : sz (mg r) = 0 := by have := congrArg Int.natAbs vr; unfold val at this; rw [sgn_abs] at this; exact this
  have h2 : mg r = 0 := by
    rcases Nat.eq_zero_or_pos (mg r) with h | h
    · exact h
    · have := sz_pos h; omega
  have h3 : plc r = 0 := by unfold plc; rw [h2]; unfold sgn; split <;> rfl
  rw [f64_double, order_eq, fin_not_nan fr, show nan 0 = false from by decide, h3]
  rfl
theorem sub_self_not {x : Nat} (hf : ¬ fin x) (W : World) : FloatKind.f64.format.order (subV W x x) 0 = none := by
  have hn : subO x x = none := by
    rcases kinds x with h | h | h
    · exact absurd h hf
    · unfold subO Ieee.Format.sub; rw [read_inf x h]; cases ng x <;> rfl
    · exact sub_nan (Or.inl h)
  have := (rep_subV x x W).2
  rw [hn] at this
  rw [f64_double, order_eq, ans_none this]; rfl

section one
variable (a b c d : Nat) (w : World)
end one

section two
variable {A B C D X : Option Nat} {a b c d x : Nat} (w : World) (ha : rep A a) (hb : rep B b) (hc : rep C c) (hd : rep D d) (hx : rep X x)
include ha hb
include hc hd
end two

end Go.Proofs.Ytcakfclfggnmbaa
