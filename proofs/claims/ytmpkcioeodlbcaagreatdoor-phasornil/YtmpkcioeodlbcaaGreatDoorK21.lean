/-
  Several texts in one: Gnr Gda Gdc Gdd.
-/
import Derived.Test.YtmpkcioeodlbcaaGreatDoorK14
import Derived.Test.YtmpkcioeodlbcaaGreatDoorK20
import Derived.Deep.RegionHeldLaw
import Derived.Deep.AppendLies
import Derived.Laws.BitsAllLaws
namespace Go.Proofs.YtmpkcioeodlbcaaGreatDoor
open RowKit
/-- how often the unit goes into a ratio, the unit being 2 to the power D - 1074 -/
def nN (P Q D : Nat) : Nat := P * 2 ^ Fl.K74 / (Q * 2 ^ D)
def Gt53 (n : Nat) : Prop := 9007199254740992 ≤ n
def nU (P Q : Nat) : Nat := nbits P + 1021 - nbits Q
theorem nN_half (P Q D : Nat) : nN P Q (D + 1) = nN P Q D / 2 := by
  unfold nN
  rw [Nat.pow_succ, ← Nat.mul_assoc, Nat.div_div_eq_div_mul]
theorem nN_top {P Q : Nat} (hQ : 0 < Q) : nN P Q (nU P Q) < 18014398509481984 := by
  have h1 := nbits_lt P
  have h2 := nbits_ge hQ
  unfold nN nU
  rw [Nat.div_lt_iff_lt_mul (Nat.mul_pos hQ (Nat.two_pow_pos _))]
  generalize hD : nbits P + 1021 - nbits Q = D
  have h3 : (18014398509481984 : Nat) = 2 ^ 54 := by decide
  rw [h3]
  have h4 : 2 ^ (nbits P) * 2 ^ Fl.K74 ≤ 2 ^ 54 * (Q * 2 ^ D) := by
    have a : 2 ^ nbits Q * 2 ^ D ≤ 2 * Q * 2 ^ D := Nat.mul_le_mul_right _ h2
    have b : 2 ^ (nbits P + Fl.K74) ≤ 2 ^ (53 + nbits Q + D) := Nat.pow_le_pow_right (by decide) (by unfold Fl.K74; omega)
    rw [← Nat.pow_add]
    rw [Nat.add_assoc 53, Nat.pow_add 2 53, Nat.pow_add 2 (nbits Q)] at b
    have c : 2 ^ 53 * (2 ^ nbits Q * 2 ^ D) ≤ 2 ^ 53 * (2 * Q * 2 ^ D) := Nat.mul_le_mul_left _ a
    have d : 2 ^ 53 * (2 * Q * 2 ^ D) = 2 ^ 54 * (Q * 2 ^ D) := by
      rw [show (2 : Nat) ^ 54 = 2 ^ 53 * 2 from by decide, Nat.mul_assoc 2 Q, Nat.mul_assoc (2 ^ 53) 2]
    omega
  exact Nat.lt_of_lt_of_le ((Nat.mul_lt_mul_right (Nat.two_pow_pos _)).2 h1) h4
theorem nN_lt2 {P Q D0 : Nat} (_ : 0 < P) (hQ : 0 < Q) (h0 : D0 = nU P Q) : nN P Q (D0 + 1) < 9007199254740992 := by
  have := nN_top (P := P) hQ
  rw [nN_half, h0]
  omega
/-- the unit's power is never too great -/
theorem nN_ge {P Q D D0 : Nat} (hP : 0 < P) (hQ : 0 < Q) (h0 : D0 = nU P Q) (hD : D = D0 ∨ D = D0 + 1 ∧ Gt53 (nN P Q D0)) : 4503599627370496 ≤ nN P Q D ∨ D = 0 := by
  rcases hD with h | ⟨h, h2⟩
  · rcases Nat.eq_zero_or_pos D with hz | hz
    · exact .inr hz
    · refine .inl ?_
      subst h
      have h1 := nbits_ge hP
      have h2 := nbits_lt Q
      have hQD : 0 < Q * 2 ^ D := Nat.mul_pos hQ (Nat.two_pow_pos _)
      · unfold nN
        rw [Nat.le_div_iff_mul_le hQD]
        have hD : D = nbits P + 1021 - nbits Q := h0
        have a : Q * 2 ^ D ≤ 2 ^ nbits Q * 2 ^ D := Nat.mul_le_mul_right _ (Nat.le_of_lt h2)
        rw [← Nat.pow_add, show nbits Q + D = nbits P + 1021 by omega] at a
        have b : 4503599627370496 * (Q * 2 ^ D) ≤ 2 ^ 52 * 2 ^ (nbits P + 1021) := Nat.mul_le_mul (by decide) a
        have c : 2 ^ nbits P * 2 ^ Fl.K74 ≤ 2 * P * 2 ^ Fl.K74 := Nat.mul_le_mul_right _ h1
        have d : 2 ^ 52 * 2 ^ (nbits P + 1021) * 2 = 2 ^ nbits P * 2 ^ Fl.K74 := by
          rw [← Nat.pow_add, ← Nat.pow_succ, ← Nat.pow_add, show (52 + (nbits P + 1021)).succ = nbits P + Fl.K74 by unfold Fl.K74; omega]
        rw [Nat.mul_assoc 2 P] at c
        omega
  · refine .inl ?_
    rw [h, nN_half]
    unfold Gt53 at h2
    omega
/-- the unit that is taken -/
def nD (P Q : Nat) : Nat := if nN P Q (nU P Q) < 9007199254740992 then nU P Q else nU P Q + 1
/-- rounded, of two equally near ones the even one -/
def nR (P Q : Nat) : Nat := if Q * 2 ^ nD P Q < 2 * (P * 2 ^ Fl.K74 % (Q * 2 ^ nD P Q)) ∨ 2 * (P * 2 ^ Fl.K74 % (Q * 2 ^ nD P Q)) = Q * 2 ^ nD P Q ∧ nN P Q (nD P Q) % 2 = 1 then nN P Q (nD P Q) + 1 else nN P Q (nD P Q)
/-- the word of so many units; where it is too great, of an infinity -/
def ldW (D n : Nat) : Nat := if D * 4503599627370496 + n < 9218868437227405312 then D * 4503599627370496 + n else 9218868437227405312
end Go.Proofs.YtmpkcioeodlbcaaGreatDoor
namespace Go.Proofs.YtmpkcioeodlbcaaGreatDoor
open Fl
theorem rne_form (A B : Nat) : (if B < 2 * (A % B) ∨ 2 * (A % B) = B ∧ A / B % 2 = 1 then A / B + 1 else A / B) = A / B + (if B < 2 * (A % B) ∨ (B = 2 * (A % B) ∧ A / B % 2 = 1) then 1 else 0) := by
  by_cases h : B < 2 * (A % B) ∨ 2 * (A % B) = B ∧ A / B % 2 = 1
  · rw [if_pos h, if_pos (h.imp id fun x => ⟨x.1.symm, x.2⟩)]
  · rw [if_neg h, if_neg (fun g => h (g.imp id fun x => ⟨x.1.symm, x.2⟩))]; rfl
end Go.Proofs.YtmpkcioeodlbcaaGreatDoor
namespace Go.Proofs.YtmpkcioeodlbcaaGreatDoor
open Fl
/-- a ratio, rounded to a whole number, of two equally near ones the even one -/
def rdQ (A C : Nat) : Nat := A / C + (if C < 2 * (A % C) ∨ (C = 2 * (A % C) ∧ A / C % 2 = 1) then 1 else 0)
end Go.Proofs.YtmpkcioeodlbcaaGreatDoor
namespace Go.Proofs.YtmpkcioeodlbcaaGreatDoor
open Fl
theorem rdQ_up (A C f : Nat) (hf : 0 < f) : rdQ (A * f) (C * f) = rdQ A C := by
  unfold rdQ
  rw [Nat.mul_div_mul_right _ _ hf, Nat.mul_mod_mul_right]
  have e1 : C * f < 2 * (A % C * f) ↔ C < 2 * (A % C) := by rw [← Nat.mul_assoc]; exact Nat.mul_lt_mul_right hf
  have e2 : C * f = 2 * (A % C * f) ↔ C = 2 * (A % C) := by rw [← Nat.mul_assoc]; exact Nat.mul_left_inj (by omega)
  simp only [e1, e2]
theorem nR_rdQ (P Q : Nat) : nR P Q = rdQ (P * 2 ^ K74) (Q * 2 ^ nD P Q) := by
  unfold nR rdQ nN
  generalize P * 2 ^ K74 = A
  generalize Q * 2 ^ nD P Q = B
  exact rne_form A B
theorem nN_mono {P Q D E : Nat} (h : D ≤ E) : nN P Q E ≤ nN P Q D := by
  induction E with
  | zero => rw [show D = 0 by omega]; exact Nat.le_refl _
  | succ E ih =>
    rcases Nat.lt_or_ge D (E + 1) with h1 | h1
    · have := ih (by omega); rw [nN_half]; omega
    · rw [show D = E + 1 by omega]; exact Nat.le_refl _
/-- the unit is the least under which the count keeps below 2 to the power 53 -/
theorem unit_one {P Q D E : Nat} (h1 : nN P Q D < 9007199254740992) (h2 : 4503599627370496 ≤ nN P Q D ∨ D = 0) (h3 : nN P Q E < 9007199254740992) (h4 : 4503599627370496 ≤ nN P Q E ∨ E = 0) : D = E := by
  rcases Nat.lt_trichotomy D E with h | h | h
  · obtain ⟨k, rfl⟩ : ∃ k, E = k + 1 := ⟨E - 1, by omega⟩
    have a := nN_mono (P := P) (Q := Q) (show D ≤ k by omega)
    have b := nN_half P Q k
    omega
  · exact h
  · obtain ⟨k, rfl⟩ : ∃ k, D = k + 1 := ⟨D - 1, by omega⟩
    have a := nN_mono (P := P) (Q := Q) (show E ≤ k by omega)
    have b := nN_half P Q k
    omega
theorem nD_props {P Q : Nat} (hP : 0 < P) (hQ : 0 < Q) : nN P Q (nD P Q) < 9007199254740992 ∧ (4503599627370496 ≤ nN P Q (nD P Q) ∨ nD P Q = 0) := by
  unfold nD
  by_cases h : nN P Q (nU P Q) < 9007199254740992
  · rw [if_pos h]; exact ⟨h, nN_ge hP hQ rfl (.inl rfl)⟩
  · rw [if_neg h]; exact ⟨nN_lt2 hP hQ rfl, nN_ge hP hQ rfl (.inr ⟨rfl, by unfold Gt53; omega⟩)⟩

end Go.Proofs.YtmpkcioeodlbcaaGreatDoor
