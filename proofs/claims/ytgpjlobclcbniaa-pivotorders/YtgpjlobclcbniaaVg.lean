/-
  What Norm1 and NormMax of vector and of gridworkref06 hand back.
-/
import Derived.Test.YtgpjlobclcbniaaVc
namespace Go.Proofs.Ytgpjlobclcbniaa
open Fl RowKit

theorem rep_twin {O : Option Nat} {r r2 s : Nat} (h : rep O r) (h2 : rep O r2) (hg : (FloatKind.f64.format.order r s == some .gt) = true) : r = r2 := by
  obtain ⟨h3, h4⟩ := same_of h h2
  refine h4 ?_
  cases hn : nan r
  · rfl
  · rw [f64_double, order_eq, hn] at hg; cases hg
theorem nmx_step (xs : List Cw) (k : Nat) (hs : rep (some (nmx xs k)) (nmx xs k)) (r : Nat) (hr : rep (sizZ (anz (zat xs k))) r) : nmx xs (k + 1) = if FloatKind.f64.format.order r (nmx xs k) == some .gt then r else nmx xs k := by
  rw [ordA_of hr hs]
  show (if ordA (sizZ (anz (zat xs k))) (some (nmx xs k)) == some .gt then (sizZ (anz (zat xs k))).getD 0 else nmx xs k) = _
  cases h : (ordA (sizZ (anz (zat xs k))) (some (nmx xs k)) == some .gt)
  · rfl
  · simp only [if_true]
    cases h2 : sizZ (anz (zat xs k)) with
    | none => rw [h2] at h; cases h
    | some c => rw [rep_is hr h2]; rfl
end Go.Proofs.Ytgpjlobclcbniaa
