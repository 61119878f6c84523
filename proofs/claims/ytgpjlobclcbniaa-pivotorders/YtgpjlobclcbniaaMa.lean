/-
  Matrices: which may be, their entries and rows as package matrix reads them.
-/
import Derived.Test.YtgpjlobclcbniaaVt
namespace Go.Proofs.Ytgpjlobclcbniaa
open Fl RowKit

/-- may a matrix be? -/
def mb (R C : Int) (n : Nat) : Bool := decide (0 ≤ R ∧ R ≤ 64 ∧ 0 ≤ C ∧ C ≤ 64 ∧ (n : Int) = R * C)
def cnt (n : Int) : Bool := decide (0 ≤ n ∧ n ≤ 64)
theorem wrap_small {z : Int} (h0 : 0 ≤ z) (h1 : z ≤ 1000000) : wrap64 z = z := by
  unfold wrap64
  omega
theorem mb_val {R C : Int} {n : Nat} (h1 : cnt R = true) (h2 : cnt C = true) : mb R C n = ((n : Int) == wrap64 (R * C)) := by
  obtain ⟨a, b⟩ := of_decide_eq_true h1
  obtain ⟨c, d⟩ := of_decide_eq_true h2
  have e0 : 0 ≤ R * C := Int.mul_nonneg a c
  have e1 : R * C ≤ 64 * 64 := Int.mul_le_mul b d c (by omega)
  rw [wrap_small e0 (by omega)]
  unfold mb
  by_cases h : (n : Int) = R * C
  · rw [decide_eq_true ⟨a, b, c, d, h⟩, h]; exact (beq_self_eq_true _).symm
  · rw [decide_eq_false (fun k => h k.2.2.2.2)]; exact (beq_false_of_ne h).symm
theorem mb_no1 {R C : Int} {n : Nat} (h1 : cnt R = false) : mb R C n = false := decide_eq_false (fun k => of_decide_eq_false h1 ⟨k.1, k.2.1⟩)
theorem mb_no2 {R C : Int} {n : Nat} (h1 : cnt C = false) : mb R C n = false := decide_eq_false (fun k => of_decide_eq_false h1 ⟨k.2.2.1, k.2.2.2.1⟩)
/-- places: row i, column j -/
theorem place_lt {R C i j : Nat} (hi : i < R) (hj : j < C) : i * C + j < R * C := by
  have h1 : (i + 1) * C ≤ R * C := Nat.mul_le_mul_right _ (by omega)
  rw [Nat.succ_mul] at h1
  omega
theorem le_4096 {R C : Nat} (hR : R ≤ 64) (hC : C ≤ 64) : R * C ≤ 4096 := Nat.mul_le_mul hR hC
theorem wrap_mul {i C : Nat} (hi : i ≤ 1000) (hC : C ≤ 1000) : wrap64 ((i : Int) * (C : Int)) = ((i * C : Nat) : Int) := by
  have := Nat.mul_le_mul hi hC
  rw [← Int.natCast_mul]
  exact wrap_small (by omega) (by omega)
/-- row i of a list of rows of C -/
def rowL (C : Nat) (xs : List Cw) (i : Nat) : List Cw := (xs.drop (i * C)).take C
theorem rowL_len {R C i : Nat} {xs : List Cw} (hn : xs.length = R * C) (hi : i < R) : (rowL C xs i).length = C := by
  have h1 : (i + 1) * C ≤ R * C := Nat.mul_le_mul_right _ (by omega)
  rw [Nat.succ_mul] at h1
  simp [rowL]; omega
theorem rowL_at {C i j : Nat} {xs : List Cw} (hj : j < C) : zat (rowL C xs i) j = zat xs (i * C + j) := by
  simp [rowL, zat, List.getD_eq_getElem?_getD, hj, List.getElem?_drop]
theorem rowL_ok {C i : Nat} {xs : List Cw} (h : okl xs) : okl (rowL C xs i) := by
  intro j
  rcases Nat.lt_or_ge j C with hj | hj
  · rw [rowL_at hj]; exact h _
  · rw [zat_ge (by simp [rowL]; omega)]; exact ⟨by decide, by decide⟩
end Go.Proofs.Ytgpjlobclcbniaa
