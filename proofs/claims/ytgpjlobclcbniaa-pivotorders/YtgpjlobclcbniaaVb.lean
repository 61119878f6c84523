/-
  What placed and summed of package vector hand back.
-/
import Derived.Test.YtgpjlobclcbniaaVa
namespace Go.Proofs.Ytgpjlobclcbniaa
open Fl RowKit

theorem errV_0 {n : Nat} (h : n ≤ 65536) : errV n n = 0 := by unfold errV; rw [if_neg (by omega), if_neg (by omega)]
theorem errV_ok {a b : Nat} (h : errV a b = 0) : a = b ∧ a ≤ 65536 := by
  unfold errV at h
  by_cases h1 : 65536 < a ∨ 65536 < b
  · rw [if_pos h1] at h; omega
  · rw [if_neg h1] at h
    by_cases h2 : a = b
    · exact ⟨h2, by omega⟩
    · rw [if_pos h2] at h; omega
end Go.Proofs.Ytgpjlobclcbniaa
