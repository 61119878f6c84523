/-
  Several texts in one: Gld Gnr Gz Gy Gx Gda Tw Gdb Gdc Gdd Gde Qz.
-/
import Derived.Test.YtjoncbfaajcioaaGreatDoorBqd
import Derived.Test.YtjoncbfaajcioaaGreatDoorBqc
namespace Go.Proofs.YtjoncbfaajcioaaGreatDoor
open Fl

theorem ld_exp {m E f : Nat} (hf : f < 4503599627370496) (hval : (4503599627370496 + f) * 2 ^ (E - 1) = m * 2 ^ K74) (k : Nat) (hm : 4503599627370496 * 2 ^ k ≤ m) (hE1 : 1 ≤ E) : K74 + k + 1 ≤ E := by
  rcases Nat.lt_or_ge E (K74 + k + 1) with h | h
  · exfalso
    have a1 : 2 ^ (E - 1) * 2 ≤ 2 ^ (K74 + k) := by rw [← Nat.pow_succ]; exact Nat.pow_le_pow_right (by decide) (by omega)
    have a2 : 4503599627370496 * 2 ^ k * 2 ^ K74 ≤ m * 2 ^ K74 := Nat.mul_le_mul_right _ hm
    rw [← hval, Nat.mul_assoc, ← Nat.pow_add, Nat.add_comm k] at a2
    have a3 := Nat.two_pow_pos (E - 1)
    generalize 2 ^ (E - 1) = P at *
    generalize 2 ^ (K74 + k) = Q at *
    have a4 : (4503599627370496 + f) * P < 9007199254740992 * P := (Nat.mul_lt_mul_right a3).2 (by omega)
    omega
  · exact h
end Go.Proofs.YtjoncbfaajcioaaGreatDoor

namespace Go.Proofs.YtjoncbfaajcioaaGreatDoor
open RowKit

/-- how often the unit goes into a ratio, the unit being 2 to the power D - 1074 -/
def nN (P Q D : Nat) : Nat := P * 2 ^ Fl.K74 / (Q * 2 ^ D)
def Gt53 (n : Nat) : Prop := 9007199254740992 ≤ n
def nU (P Q : Nat) : Nat := nbits P + 1021 - nbits Q
/-- a division that stands for the ratio in units of 2 to the power D - 1074 -/
structure NearOk (P Q D x y : Nat) : Prop where
  pos : 0 < y
  div : x / y = nN P Q D
  cmp : ∃ f, 0 < f ∧ P * 2 ^ Fl.K74 % (Q * 2 ^ D) = f * (x % y) ∧ Q * 2 ^ D = f * y
theorem nearOk_lo {P Q D N : Nat} (hQ : 0 < Q) (hN : N = 1074 - D) (hD : D < 1074) : NearOk P Q D (P * 2 ^ N) Q := by
  have e : P * 2 ^ Fl.K74 = P * 2 ^ N * 2 ^ D := by rw [Nat.mul_assoc, ← Nat.pow_add, show N + D = Fl.K74 by unfold Fl.K74; omega]
  refine ⟨hQ, ?_, 2 ^ D, Nat.two_pow_pos D, ?_, Nat.mul_comm _ _⟩
  · unfold nN; rw [e, Nat.mul_div_mul_right _ _ (Nat.two_pow_pos D)]
  · rw [e, Nat.mul_mod_mul_right, Nat.mul_comm]
theorem nearOk_hi {P Q D N : Nat} (hQ : 0 < Q) (hN : N = D - 1074) (hD : ¬ D < 1074) : NearOk P Q D P (Q * 2 ^ N) := by
  have e : Q * 2 ^ D = Q * 2 ^ N * 2 ^ Fl.K74 := by rw [Nat.mul_assoc, ← Nat.pow_add, show N + Fl.K74 = D by unfold Fl.K74; omega]
  refine ⟨Nat.mul_pos hQ (Nat.two_pow_pos N), ?_, 2 ^ Fl.K74, Nat.two_pow_pos _, ?_, ?_⟩
  · unfold nN; rw [e, Nat.mul_div_mul_right _ _ (Nat.two_pow_pos _)]
  · rw [e, Nat.mul_mod_mul_right, Nat.mul_comm]
  · rw [e, Nat.mul_comm]
theorem nN_half (P Q D : Nat) : nN P Q (D + 1) = nN P Q D / 2 := by
  unfold nN
  rw [Nat.pow_succ, ← Nat.mul_assoc, Nat.div_div_eq_div_mul]
theorem nN_top {P Q : Nat} (hQ : 0 < Q) : nN P Q (nU P Q) < 18014398509481984 := by
  have h1 := nbits_lt P
  have h2 := nbits_ge hQ
  unfold nN nU
  rw [Nat.div_lt_iff_lt_mul (Nat.mul_pos hQ (Nat.two_pow_pos _))]
  generalize hD : nbits P + 1021 - nbits Q = D
  have h3 : (18014398509481984 : Nat) = 2 ^ 54 := by decide
  rw [h3]
  have h4 : 2 ^ (nbits P) * 2 ^ Fl.K74 ≤ 2 ^ 54 * (Q * 2 ^ D) := by
    have a : 2 ^ nbits Q * 2 ^ D ≤ 2 * Q * 2 ^ D := Nat.mul_le_mul_right _ h2
    have b : 2 ^ (nbits P + Fl.K74) ≤ 2 ^ (53 + nbits Q + D) := Nat.pow_le_pow_right (by decide) (by unfold Fl.K74; omega)
    rw [← Nat.pow_add]
    rw [Nat.add_assoc 53, Nat.pow_add 2 53, Nat.pow_add 2 (nbits Q)] at b
    have c : 2 ^ 53 * (2 ^ nbits Q * 2 ^ D) ≤ 2 ^ 53 * (2 * Q * 2 ^ D) := Nat.mul_le_mul_left _ a
    have d : 2 ^ 53 * (2 * Q * 2 ^ D) = 2 ^ 54 * (Q * 2 ^ D) := by
      rw [show (2 : Nat) ^ 54 = 2 ^ 53 * 2 from by decide, Nat.mul_assoc 2 Q, Nat.mul_assoc (2 ^ 53) 2]
    omega
  exact Nat.lt_of_lt_of_le ((Nat.mul_lt_mul_right (Nat.two_pow_pos _)).2 h1) h4
theorem nN_lt2 {P Q D0 : Nat} (_ : 0 < P) (hQ : 0 < Q) (h0 : D0 = nU P Q) : nN P Q (D0 + 1) < 9007199254740992 := by
  have := nN_top (P := P) hQ
  rw [nN_half, h0]
  omega
theorem nN_lt {P Q D D0 : Nat} (hP : 0 < P) (hQ : 0 < Q) (h0 : D0 = nU P Q) (hD : D = D0 ∨ D = D0 + 1 ∧ Gt53 (nN P Q D0)) : nN P Q D < 18014398509481984 := by
  rcases hD with h | ⟨h, _⟩
  · rw [h, h0]; exact nN_top hQ
  · rw [h]; have := nN_lt2 hP hQ h0; omega
/-- the unit's power is never too great -/
theorem nN_ge {P Q D D0 : Nat} (hP : 0 < P) (hQ : 0 < Q) (h0 : D0 = nU P Q) (hD : D = D0 ∨ D = D0 + 1 ∧ Gt53 (nN P Q D0)) : 4503599627370496 ≤ nN P Q D ∨ D = 0 := by
  rcases hD with h | ⟨h, h2⟩
  · rcases Nat.eq_zero_or_pos D with hz | hz
    · exact .inr hz
    · refine .inl ?_
      subst h
      have h1 := nbits_ge hP
      have h2 := nbits_lt Q
      have hQD : 0 < Q * 2 ^ D := Nat.mul_pos hQ (Nat.two_pow_pos _)
      · unfold nN
        rw [Nat.le_div_iff_mul_le hQD]
        have hD : D = nbits P + 1021 - nbits Q := h0
        have a : Q * 2 ^ D ≤ 2 ^ nbits Q * 2 ^ D := Nat.mul_le_mul_right _ (Nat.le_of_lt h2)
        rw [← Nat.pow_add, show nbits Q + D = nbits P + 1021 by omega] at a
        have b : 4503599627370496 * (Q * 2 ^ D) ≤ 2 ^ 52 * 2 ^ (nbits P + 1021) := Nat.mul_le_mul (by decide) a
        have c : 2 ^ nbits P * 2 ^ Fl.K74 ≤ 2 * P * 2 ^ Fl.K74 := Nat.mul_le_mul_right _ h1
        have d : 2 ^ 52 * 2 ^ (nbits P + 1021) * 2 = 2 ^ nbits P * 2 ^ Fl.K74 := by
          rw [← Nat.pow_add, ← Nat.pow_succ, ← Nat.pow_add, show (52 + (nbits P + 1021)).succ = nbits P + Fl.K74 by unfold Fl.K74; omega]
        rw [Nat.mul_assoc 2 P] at c
        omega
  · refine .inl ?_
    rw [h, nN_half]
    unfold Gt53 at h2
    omega
/-- the unit that is taken -/
def nD (P Q : Nat) : Nat := if nN P Q (nU P Q) < 9007199254740992 then nU P Q else nU P Q + 1
theorem nD_eq {P Q D D0 n : Nat} (h0 : D0 = nU P Q) (hD : D = D0 ∨ D = D0 + 1 ∧ Gt53 (nN P Q D0)) (hn : n = nN P Q D) (hlt : n < 9007199254740992) : D = nD P Q := by
  unfold nD
  rcases hD with h | ⟨h, h2⟩
  · rw [h, h0] at hn
    rw [if_pos (by omega), h, h0]
  · unfold Gt53 at h2
    rw [h0] at h2
    rw [if_neg (by omega), h, h0]
/-- rounded, of two equally near ones the even one -/
def nR (P Q : Nat) : Nat := if Q * 2 ^ nD P Q < 2 * (P * 2 ^ Fl.K74 % (Q * 2 ^ nD P Q)) ∨ 2 * (P * 2 ^ Fl.K74 % (Q * 2 ^ nD P Q)) = Q * 2 ^ nD P Q ∧ nN P Q (nD P Q) % 2 = 1 then nN P Q (nD P Q) + 1 else nN P Q (nD P Q)
theorem nR_eq {P Q D x y n : Nat} (hD : D = nD P Q) (h : NearOk P Q D x y) (hn : n = nN P Q D) : nR P Q = if y < 2 * (x % y) ∨ 2 * (x % y) = y ∧ n % 2 = 1 then n + 1 else n := by
  obtain ⟨f, hf, h1, h2⟩ := h.cmp
  unfold nR
  rw [← hD, h1, h2, hn]
  have e1 : f * y < 2 * (f * (x % y)) ↔ y < 2 * (x % y) := by
    rw [Nat.mul_left_comm]; exact Nat.mul_lt_mul_left hf
  have e2 : 2 * (f * (x % y)) = f * y ↔ 2 * (x % y) = y := by
    rw [Nat.mul_left_comm]; exact Nat.mul_right_inj (by omega)
  simp only [e1, e2]
/-- the word of so many units; where it is too great, of an infinity -/
def ldW (D n : Nat) : Nat := if D * 4503599627370496 + n < 9218868437227405312 then D * 4503599627370496 + n else 9218868437227405312
theorem and_one (n : Nat) (h : n < 18446744073709551616) : bits BinOp.and IntKind.u64 (n : Int) 1 = ((n % 2 : Nat) : Int) := by
  have h1 := u64_and_nat n 1 h (by decide)
  rw [Nat.and_one_is_mod] at h1
  exact h1
/-- the real nearest to a ratio -/
def nearW (p q : Int) : Nat := if p < 0 then Op.negFloat .f64 (ldW (nD p.natAbs q.natAbs) (nR p.natAbs q.natAbs)) else ldW (nD p.natAbs q.natAbs) (nR p.natAbs q.natAbs)
theorem wrap64_sm {k : Int} (h0 : 0 ≤ k) (h1 : k < 9223372036854775808) : wrap64 k = k := by
  unfold wrap64; omega
/-- a whole number's struct in memory -/
structure CellI (p : Nat) (a b : Value) (w : World) : Prop where
  lt : p < w.heap.size
  c0 : w.cell? ⟨p, 0, none⟩ = some a
  c1 : w.cell? ⟨p, 1, none⟩ = some b
  f0 : w.frozen? ⟨p, 0, none⟩ = false
  f1 : w.frozen? ⟨p, 1, none⟩ = false
theorem CellI.later {p n : Nat} {a b : Value} {w w' : World} (h : CellI p a b w) (hb : Below n w w') (hn : p < n) : CellI p a b w' :=
  ⟨Nat.lt_of_lt_of_le h.lt hb.size, (hb.cell hn).trans h.c0, (hb.cell hn).trans h.c1, (hb.frozen hn).trans h.f0, (hb.frozen hn).trans h.f1⟩
/-- after a store into it; after a store elsewhere -/
theorem CellI.put {p : Nat} {a b : Value} {w : World} (h : CellI p a b w) (x y : Value) : CellI p x y ((w.setCell ⟨p, 0, none⟩ x).setCell ⟨p, 1, none⟩ y) := by
  refine ⟨by simpa using h.lt, ?_, ?_, by simpa using h.f0, by simpa using h.f1⟩
  · rw [other_cell _ (by simp)]; exact World.cell?_setCell_same _ _ _ h.c0
  · exact World.cell?_setCell_same _ _ _ (u := b) ((other_cell _ (by simp) _).trans h.c1)
theorem CellI.far {p n : Nat} {a b : Value} {w : World} (h : CellI p a b w) (hn : n ≠ p) (x y : Value) : CellI p a b ((w.setCell ⟨n, 0, none⟩ x).setCell ⟨n, 1, none⟩ y) := by
  have key : ∀ i j : Nat, (⟨n, i, none⟩ : Addr) ≠ ⟨p, j, none⟩ := fun i j e => hn (congrArg Addr.block e)
  refine ⟨by simpa using h.lt, ?_, ?_, by simpa using h.f0, by simpa using h.f1⟩
  · rw [other_cell _ (key _ _), other_cell _ (key _ _)]; exact h.c0
  · rw [other_cell _ (key _ _), other_cell _ (key _ _)]; exact h.c1
theorem below_set2 {n p : Nat} {w w' : World} (h : Below n w w') (hp : n ≤ p) (a b : Value) : Below n w ((w'.setCell ⟨p, 0, none⟩ a).setCell ⟨p, 1, none⟩ b) :=
  (h.setCell (p := ⟨p, 0, none⟩) hp _).setCell (p := ⟨p, 1, none⟩) hp _
theorem IntZ.set2 {w : World} {v : Value} {z : Int} {L p : Nat} (h : IntZ w v z L) (hp : ∀ b, Hb v b → b ≠ p) (a b : Value) : IntZ ((w.setCell ⟨p, 0, none⟩ a).setCell ⟨p, 1, none⟩ b) v z L :=
  (h.set (p := ⟨p, 0, none⟩) hp _).set (p := ⟨p, 1, none⟩) hp _

theorem IntZ.bits {w : World} {v : Value} {z : Int} {L : Nat} (h : IntZ w v z L) : nbits z.natAbs ≤ 32 * L := by
  obtain ⟨ao, cap, ws, _, _, h3, _, h5, h6⟩ := h
  have := nbits_len h3
  rw [h5] at this
  omega
end Go.Proofs.YtjoncbfaajcioaaGreatDoor

namespace Go.Proofs.YtjoncbfaajcioaaGreatDoor
open RowKit

/-- two to the power 1074 -/
def SC : Int := 2 ^ 1074
theorem ldW_le (D n : Nat) : ldW D n ≤ 9218868437227405312 := by unfold ldW; split <;> omega
theorem near_lt (p q : Int) : nearW p q < 18446744073709551616 := by
  unfold nearW
  have h := ldW_le (nD p.natAbs q.natAbs) (nR p.natAbs q.natAbs)
  generalize ldW (nD p.natAbs q.natAbs) (nR p.natAbs q.natAbs) = x at *
  split
  · rw [Fl.neg_of_pos (by omega)]; omega
  · omega
theorem near_num (p q : Int) : Fl.nan (nearW p q) = false := by
  unfold nearW
  have h := ldW_le (nD p.natAbs q.natAbs) (nR p.natAbs q.natAbs)
  generalize ldW (nD p.natAbs q.natAbs) (nR p.natAbs q.natAbs) = x at *
  unfold Fl.nan Fl.mg
  split
  · rw [Fl.neg_of_pos (by omega), decide_eq_false_iff_not]; omega
  · rw [decide_eq_false_iff_not]; omega
theorem near_zero {p q : Int} (h : FloatKind.f64.format.order (nearW p q) 0 = some .eq) : (if decide (p < 0) then 9223372036854775808 else 0) = nearW p q := by
  have h1 := Fl.order_eqb (near_num p q) (show Fl.nan 0 = false by decide)
  rw [h, show Fl.plc 0 = 0 by decide] at h1
  have h2 : Fl.plc (nearW p q) = 0 := of_decide_eq_true h1.symm
  have h3 : Fl.mg (nearW p q) = 0 := by unfold Fl.plc Fl.sgn at h2; split at h2 <;> omega
  have hl := ldW_le (nD p.natAbs q.natAbs) (nR p.natAbs q.natAbs)
  revert h3
  unfold nearW
  generalize ldW (nD p.natAbs q.natAbs) (nR p.natAbs q.natAbs) = x at *
  by_cases hp : p < 0
  · rw [if_pos hp, decide_eq_true hp, Fl.neg_of_pos (by omega)]
    unfold Fl.mg
    intro h3
    rw [if_pos rfl]; omega
  · rw [if_neg hp, decide_eq_false hp]
    unfold Fl.mg
    intro h3
    rw [if_neg (by decide)]; omega
end Go.Proofs.YtjoncbfaajcioaaGreatDoor

namespace Go.Proofs.YtjoncbfaajcioaaGreatDoor
open RowKit

def tmW (a b : Nat) : Nat := if Fl.val a * Fl.val b = 0 then (if Fl.ng a != Fl.ng b then 9223372036854775808 else 0) else nearW (Fl.val a * Fl.val b) (SC * SC)

def plW (a b : Nat) : Nat := if Fl.val a + Fl.val b = 0 then (if Fl.ng a && Fl.ng b then 9223372036854775808 else 0) else nearW (Fl.val a + Fl.val b) SC

end Go.Proofs.YtjoncbfaajcioaaGreatDoor

namespace Go.Proofs.YtjoncbfaajcioaaGreatDoor
open RowKit

def ovP (a b : Nat) : Int := if Fl.val b < 0 then -(Fl.val a * SC) else Fl.val a * SC
def ovQ (_ b : Nat) : Int := if Fl.val b < 0 then -(SC * Fl.val b) else SC * Fl.val b
def ovW (a b : Nat) : Nat := if ovP a b = 0 then (if Fl.ng a != Fl.ng b then 9223372036854775808 else 0) else nearW (ovP a b) (ovQ a b)

end Go.Proofs.YtjoncbfaajcioaaGreatDoor

namespace Go.Proofs.YtjoncbfaajcioaaGreatDoor
open Fl

theorem rne_up (n d j : Nat) : rne (n * 2 ^ j) (d + j) = rne n d := by
  unfold rne
  have h := Nat.two_pow_pos j
  rw [Nat.pow_add, Nat.mul_div_mul_right _ _ h, Nat.mul_mod_mul_right]
  have e1 : 2 ^ d * 2 ^ j < 2 * (n % 2 ^ d * 2 ^ j) ↔ 2 ^ d < 2 * (n % 2 ^ d) := by
    rw [← Nat.mul_assoc]; exact Nat.mul_lt_mul_right h
  have e2 : 2 ^ d * 2 ^ j = 2 * (n % 2 ^ d * 2 ^ j) ↔ 2 ^ d = 2 * (n % 2 ^ d) := by
    rw [← Nat.mul_assoc]; exact Nat.mul_left_inj (by omega)
  simp only [e1, e2]
theorem nbits_pow (k : Nat) : nbits (2 ^ k) = k + 1 := nbits_eq (by rw [Nat.pow_succ]; omega) (by rw [Nat.pow_succ]; have := Nat.two_pow_pos k; omega)
theorem log2_nbits {P : Nat} (h : 0 < P) : P.log2 + 1 = nbits P := by
  symm
  apply nbits_eq
  · rw [Nat.pow_succ]; have := Nat.log2_self_le (n := P) (by omega); omega
  · exact Nat.lt_log2_self
theorem rne_form (A B : Nat) : (if B < 2 * (A % B) ∨ 2 * (A % B) = B ∧ A / B % 2 = 1 then A / B + 1 else A / B) = A / B + (if B < 2 * (A % B) ∨ (B = 2 * (A % B) ∧ A / B % 2 = 1) then 1 else 0) := by
  by_cases h : B < 2 * (A % B) ∨ 2 * (A % B) = B ∧ A / B % 2 = 1
  · rw [if_pos h, if_pos (h.imp id fun x => ⟨x.1.symm, x.2⟩)]
  · rw [if_neg h, if_neg (fun g => h (g.imp id fun x => ⟨x.1.symm, x.2⟩))]; rfl
theorem nR_rne (P k : Nat) : nR P (2 ^ k) = rne (P * 2 ^ K74) (k + nD P (2 ^ k)) := by
  unfold nR rne nN
  rw [← Nat.pow_add]
  generalize P * 2 ^ K74 = A
  generalize 2 ^ (k + nD P (2 ^ k)) = B
  exact rne_form A B
/-- the unit of a dyadic ratio -/
theorem nD_dy {P : Nat} (hP : 0 < P) (k : Nat) : nD P (2 ^ k) = nbits P + 1021 - k := by
  have hU : nU P (2 ^ k) = nbits P + 1020 - k := by unfold nU; rw [nbits_pow]; omega
  unfold nD
  rw [hU]
  unfold nN
  rw [← Nat.pow_add]
  have h1 := nbits_lt P
  have h2 := nbits_ge hP
  have e53 : (9007199254740992 : Nat) = 2 ^ 53 := by decide
  by_cases h : nbits P + 1021 ≤ k
  · rw [if_pos]
    · omega
    · rw [show nbits P + 1020 - k = 0 by omega, Nat.add_zero, Nat.div_lt_iff_lt_mul (Nat.two_pow_pos _), e53, ← Nat.pow_add]
      refine Nat.lt_of_lt_of_le ((Nat.mul_lt_mul_right (Nat.two_pow_pos _)).2 h1) ?_
      rw [← Nat.pow_add]
      exact Nat.pow_le_pow_right (by decide) (by unfold K74; omega)
  · rw [if_neg]
    · omega
    · rw [Nat.not_lt, Nat.le_div_iff_mul_le (Nat.two_pow_pos _), e53, ← Nat.pow_add]
      have a : 2 ^ (nbits P + K74) ≤ 2 * P * 2 ^ K74 := by rw [Nat.pow_add]; exact Nat.mul_le_mul_right _ h2
      have b : 2 ^ (53 + (k + (nbits P + 1020 - k))) * 2 ≤ 2 ^ (nbits P + K74) := by
        rw [← Nat.pow_succ]; exact Nat.pow_le_pow_right (by decide) (by unfold K74; omega)
      rw [Nat.mul_assoc 2 P] at a
      omega
theorem near_dyadic {P : Nat} (hP : 0 < P) (k : Nat) : ldW (nD P (2 ^ k)) (nR P (2 ^ k)) = nr P (-(k : Int)) := by
  have hl := log2_nbits hP
  have hD := nD_dy hP k
  have hL : ((nD P (2 ^ k) : Nat) : Int) - 1074 = max (-(k : Int) + (P.log2 : Int) - 52) (-1074) := by rw [hD]; omega
  rw [nr_eq hP hL, nR_rne]
  generalize nD P (2 ^ k) = D at *
  have e1 : (((D : Nat) : Int) - 1074 + 1074).toNat = D := by omega
  rw [e1]
  have e2 : rne (P * 2 ^ (-(k : Int) - ((D : Int) - 1074)).toNat) ((D : Int) - 1074 - -(k : Int)).toNat = rne (P * 2 ^ K74) (k + D) := by
    by_cases h : 1074 ≤ D + k
    · rw [show (-(k : Int) - ((D : Int) - 1074)).toNat = 0 by omega, show ((D : Int) - 1074 - -(k : Int)).toNat = D + k - 1074 by omega, Nat.pow_zero, Nat.mul_one]
      have := rne_up P (D + k - 1074) K74
      rw [show D + k - 1074 + K74 = k + D by unfold K74; omega] at this
      exact this.symm
    · rw [show (-(k : Int) - ((D : Int) - 1074)).toNat = 1074 - (D + k) by omega, show ((D : Int) - 1074 - -(k : Int)).toNat = 0 by omega]
      have := rne_up (P * 2 ^ (1074 - (D + k))) 0 (k + D)
      rw [Nat.zero_add, Nat.mul_assoc, ← Nat.pow_add, show 1074 - (D + k) + (k + D) = K74 by unfold K74; omega] at this
      exact this.symm
  rw [e2]
  unfold ldW
  split <;> omega

end Go.Proofs.YtjoncbfaajcioaaGreatDoor

namespace Go.Proofs.YtjoncbfaajcioaaGreatDoor
open Fl

theorem nearest_nr (s : Bool) (m : Nat) (p : Int) : Ieee.double.nearest s m p = Ieee.double.word s (nr m p) := by
  obtain ⟨r, hr, e⟩ := nearest_word m p
  unfold nr
  rw [e, e, word_false]
theorem nr_bd (m : Nat) (p : Int) : nr m p < 9223372036854775808 := by have := nr_lim m p; omega
theorem mul_gen {x y : Nat} (hx : fin x) (hy : fin y) : mulO x y = some (Ieee.double.word (ng x ^^ ng y) (nr (sz (mg x) * sz (mg y)) (-2148))) := by
  rw [mul_eq hx hy, nearest_nr, ← nr_shift _ (ex (mg x) + ex (mg y))]
  have e1 : sig (mg x) * sig (mg y) * 2 ^ (ex (mg x) + ex (mg y)) = sz (mg x) * sz (mg y) := by unfold sz; rw [Nat.pow_add]; ac_rfl
  have e2 : (-1074 + (ex (mg x) : Int) + (-1074 + (ex (mg y) : Int)) - ((ex (mg x) + ex (mg y) : Nat) : Int)) = -2148 := by omega
  rw [e1, e2]
def dq (l g : Nat) : Nat := nr (2 * (sig l * 2 ^ (54 + (sig g).log2 - (sig l).log2) / sig g) + (sig l * 2 ^ (54 + (sig g).log2 - (sig l).log2) % sig g != 0).toNat) ((ex l : Int) - (ex g : Int) - ((54 + (sig g).log2 - (sig l).log2 : Nat) : Int) - 1)
theorem div_gen {x y : Nat} (hx : fin x) (hy : fin y) (h0 : ¬ sig (mg y) = 0) : divO x y = some (Ieee.double.word (ng x ^^ ng y) (dq (mg x) (mg y))) := by
  unfold divO Ieee.Format.div dq
  rw [read_fin x hx, read_fin y hy]
  simp only [Ieee.Datum.quotient, h0, if_false, Option.map_some, Nat.shiftLeft_eq]
  have e0 : Ieee.double.fractionBits + 2 + (sig (mg y)).log2 - (sig (mg x)).log2 = 54 + (sig (mg y)).log2 - (sig (mg x)).log2 := rfl
  rw [e0]
  generalize 54 + (sig (mg y)).log2 - (sig (mg x)).log2 = M
  have e1 : (-1074 + (ex (mg x) : Int) - (-1074 + (ex (mg y) : Int)) - (M : Int) - 1) = (ex (mg x) : Int) - (ex (mg y) : Int) - (M : Int) - 1 := by omega
  rw [e1]
  show some (Ieee.double.nearest _ _ _) = _
  rw [nearest_nr]
theorem add_gen {x y : Nat} (hx : fin x) (hy : fin y) : addO x y = some (Ieee.double.word (if val x + val y = 0 then (ng x && ng y) else decide (val x + val y < 0)) (nr (val x + val y).natAbs (-1074))) := by
  unfold addO Ieee.Format.add
  rw [read_fin x hx, read_fin y hy]
  simp only [Ieee.Datum.sum, signed_eq, Option.map_some]
  obtain ⟨b, hb⟩ : ∃ b : Nat, b = min (ex (mg x)) (ex (mg y)) := ⟨_, rfl⟩
  have e1 : min (-1074 + (ex (mg x) : Int)) (-1074 + (ex (mg y) : Int)) = -1074 + (b : Int) := by omega
  have e2 : (-1074 + (ex (mg x) : Int) - (-1074 + (b : Int))).toNat = ex (mg x) - b := by omega
  have e3 : (-1074 + (ex (mg y) : Int) - (-1074 + (b : Int))).toNat = ex (mg y) - b := by omega
  rw [e1, e2, e3]
  have v1 : val x = sgn (ng x) (sig (mg x) * 2 ^ (ex (mg x) - b)) * ((2 ^ b : Nat) : Int) := by
    unfold val sz; rw [← sgn_mul, Nat.mul_assoc, ← Nat.pow_add, Nat.sub_add_cancel (by omega)]
  have v2 : val y = sgn (ng y) (sig (mg y) * 2 ^ (ex (mg y) - b)) * ((2 ^ b : Nat) : Int) := by
    unfold val sz; rw [← sgn_mul, Nat.mul_assoc, ← Nat.pow_add, Nat.sub_add_cancel (by omega)]
  generalize sgn (ng x) (sig (mg x) * 2 ^ (ex (mg x) - b)) = u at *
  generalize sgn (ng y) (sig (mg y) * 2 ^ (ex (mg y) - b)) = v at *
  have hv : val x + val y = (u + v) * ((2 ^ b : Nat) : Int) := by rw [v1, v2, Int.add_mul]
  have hp : (0 : Int) < ((2 ^ b : Nat) : Int) := by have := Nat.two_pow_pos b; omega
  have c1 : (val x + val y = 0) ↔ (u + v = 0) := by
    rw [hv]; constructor
    · intro h; rcases Int.mul_eq_zero.1 h with h | h
      · exact h
      · omega
    · intro h; rw [h, Int.zero_mul]
  have c2 : (val x + val y < 0) ↔ (u + v < 0) := by
    rw [hv]; constructor
    · intro h
      rcases Int.lt_or_le (u + v) 0 with h1 | h1
      · exact h1
      · have := Int.mul_nonneg h1 (Int.le_of_lt hp); omega
    · intro h; exact Int.mul_neg_of_neg_of_pos h hp
  have c3 : (val x + val y).natAbs = (u + v).natAbs * 2 ^ b := by rw [hv, Int.natAbs_mul, Int.natAbs_natCast]
  show some (Ieee.double.nearest _ _ _) = _
  rw [nearest_nr, c3, ← nr_shift _ b]
  have e4 : (-1074 + (b : Int) - (b : Int)) = -1074 := by omega
  rw [e4]
  congr 2
  by_cases h0 : u + v = 0
  · rw [if_pos h0, if_pos (c1.2 h0)]
  · rw [if_neg h0, if_neg (fun h => h0 (c1.1 h))]
    by_cases h1 : u + v < 0
    · rw [decide_eq_true h1, decide_eq_true (c2.2 h1)]
    · rw [decide_eq_false h1, decide_eq_false (fun h => h1 (c2.1 h))]

/-- Rounding and powers of two. -/
theorem rn_hom (n j : Nat) : rn (n * 2 ^ j) = rn n * 2 ^ j := by
  rcases Nat.eq_zero_or_pos n with h0 | h0
  · subst h0; rw [Nat.zero_mul]; have : rn 0 = 0 := by decide
    rw [this, Nat.zero_mul]
  · rcases Nat.lt_or_ge n 9007199254740992 with h | h
    · rw [rn_small h]; exact rn_exact ⟨n, j, rfl, h⟩
    · have hd := (dig_pos h).1
      have hl : (n * 2 ^ j).log2 = n.log2 + j := log2_mul n j h0
      have e : dig (n * 2 ^ j) = dig n + j := by unfold dig at *; rw [hl]; omega
      unfold rn
      rw [e, rne_scale n j (dig n + j) (by omega), Nat.add_sub_cancel, Nat.pow_add, Nat.mul_assoc]
theorem nr_unit {n : Nat} (h : rn n < szI) : nr n (-1074) < 9218868437227405312 ∧ sz (nr n (-1074)) = rn n := by
  have e := nearest_eq false n 0
  have hl : rung n < 9218868437227405312 := rung_lt h
  rw [Nat.pow_zero, Nat.mul_one, Nat.min_eq_left (Nat.le_of_lt hl), word_false] at e
  have e0 : (-1074 + ((0 : Nat) : Int)) = -1074 := by omega
  rw [e0] at e
  have e2 : nr n (-1074) = rung n := by unfold nr; exact e
  rw [e2]
  exact ⟨hl, sz_rung n⟩
/-- Above the least normal ones a power of two moves the rung. -/
theorem nr_up {m : Nat} (h : 0 < m) {p : Int} (e : Nat) (hn : -1074 ≤ p + (m.log2 : Int) - 52) (hi : nr m (p + (e : Int)) < 9218868437227405312) : nr m (p + (e : Int)) = nr m p + e * 4503599627370496 ∧ 4503599627370496 ≤ nr m p := by
  have hb := log2_bd h
  have h1 := nr_eq h (p := p) (L := p + (m.log2 : Int) - 52) (by omega)
  have h2 := nr_eq h (p := p + (e : Int)) (L := p + (e : Int) + (m.log2 : Int) - 52) (by omega)
  have e1 : (p + (e : Int) - (p + (e : Int) + (m.log2 : Int) - 52)) = (p - (p + (m.log2 : Int) - 52)) := by omega
  have e2 : (p + (e : Int) + (m.log2 : Int) - 52 - (p + (e : Int))) = (p + (m.log2 : Int) - 52 - p) := by omega
  have e3 : (p + (e : Int) + (m.log2 : Int) - 52 + 1074).toNat = (p + (m.log2 : Int) - 52 + 1074).toNat + e := by omega
  rw [e1, e2, e3] at h2
  have hge : 4503599627370496 ≤ rne (m * 2 ^ (p - (p + (m.log2 : Int) - 52)).toNat) (p + (m.log2 : Int) - 52 - p).toNat := by
    have e52 : (2 : Nat) ^ 52 = 4503599627370496 := by decide
    rw [← e52]
    apply rne_ge
    have h3 : 2 ^ m.log2 * 2 ^ (p - (p + (m.log2 : Int) - 52)).toNat ≤ m * 2 ^ (p - (p + (m.log2 : Int) - 52)).toNat := Nat.mul_le_mul_right _ hb.1
    rw [← Nat.pow_add] at h3
    refine Nat.le_trans (Nat.pow_le_pow_right (by omega) ?_) h3
    omega
  generalize rne (m * 2 ^ (p - (p + (m.log2 : Int) - 52)).toNat) (p + (m.log2 : Int) - 52 - p).toNat = Q at *
  generalize (p + (m.log2 : Int) - 52 + 1074).toNat = c at *
  rw [h2] at hi ⊢
  rw [h1]
  have k1 : (c + e) * 4503599627370496 + Q < 9218868437227405312 := by
    rcases Nat.lt_or_ge ((c + e) * 4503599627370496 + Q) 9218868437227405312 with h | h
    · exact h
    · rw [Nat.min_eq_right h] at hi; exact absurd hi (Nat.lt_irrefl _)
  have k2 : (c + e) * 4503599627370496 + Q = c * 4503599627370496 + Q + e * 4503599627370496 := by rw [Nat.add_mul, Nat.add_right_comm]
  have k3 : c * 4503599627370496 + Q < 9218868437227405312 := Nat.lt_of_le_of_lt (by rw [k2]; exact Nat.le_add_right _ _) k1
  rw [Nat.min_eq_left (Nat.le_of_lt k1), Nat.min_eq_left (Nat.le_of_lt k3), k2]
  exact ⟨rfl, Nat.le_trans hge (Nat.le_add_left _ _)⟩
theorem sz_up {r : Nat} (e : Nat) (h : 4503599627370496 ≤ r) : sz (r + e * 4503599627370496) = sz r * 2 ^ e := by
  have h1 : sig (r + e * 4503599627370496) = sig r := by unfold sig; rw [if_neg (by omega), if_neg (by omega)]; omega
  have h2 : ex (r + e * 4503599627370496) = ex r + e := by unfold ex; omega
  unfold sz; rw [h1, h2, Nat.pow_add, Nat.mul_assoc]

/-- x' is x times 2 to the power k - 128. -/
def sc (k x x' : Nat) : Prop := fin x ∧ fin x' ∧ ng x' = ng x ∧ sz (mg x') * 2 ^ 128 = sz (mg x) * 2 ^ k
theorem sc.val {k x x' : Nat} (h : sc k x x') : val x' * ((2 ^ 128 : Nat) : Int) = val x * ((2 ^ k : Nat) : Int) := by
  obtain ⟨_, _, h3, h4⟩ := h
  unfold Fl.val; rw [h3, ← sgn_mul, ← sgn_mul, h4]
theorem sc.uniq {k x y y' : Nat} (h : sc k x y) (h' : sc k x y') : Fl.val y = Fl.val y' := by
  have h1 := h.2.2.2.trans h'.2.2.2.symm
  have h2 := Nat.eq_of_mul_eq_mul_right (Nat.two_pow_pos 128) h1
  unfold Fl.val; rw [h.2.2.1, h'.2.2.1, h2]
theorem sc.ng {k x x' : Nat} (h : sc k x x') (hx : x < 18446744073709551616) (hx' : x' < 18446744073709551616) : sc k (ngW x) (ngW x') := by
  obtain ⟨h1, h2, h3, h4⟩ := h
  refine ⟨by unfold Fl.fin; rw [mg_ngW hx]; exact h1, by unfold Fl.fin; rw [mg_ngW hx']; exact h2, by rw [ng_ngW hx, ng_ngW hx', h3], by rw [mg_ngW hx, mg_ngW hx']; exact h4⟩
theorem sc_word {k a b : Nat} (s : Bool) (ha : a < 9218868437227405312) (hb : b < 9218868437227405312) (h : sz b * 2 ^ 128 = sz a * 2 ^ k) : sc k (Ieee.double.word s a) (Ieee.double.word s b) := by
  have m1 := word_mg s (r := a) (by omega)
  have m2 := word_mg s (r := b) (by omega)
  refine ⟨by unfold Fl.fin; rw [m1]; exact ha, by unfold Fl.fin; rw [m2]; exact hb, by rw [word_ng s (by omega), word_ng s (by omega)], by rw [m1, m2]; exact h⟩
theorem sc_add {k x x' y y' : Nat} (hx : sc k x x') (hy : sc k y y') (b : rn (val x + val y).natAbs < szI) (b' : rn (val x' + val y').natAbs < szI) :
    ∃ r r', addO x y = some r ∧ addO x' y' = some r' ∧ sc k r r' ∧ val r = rnI (val x + val y) := by
  have e1 := add_gen hx.1 hy.1
  have e2 := add_gen hx.2.1 hy.2.1
  have hv : (val x' + val y') * ((2 ^ 128 : Nat) : Int) = (val x + val y) * ((2 ^ k : Nat) : Int) := by rw [Int.add_mul, Int.add_mul, hx.val, hy.val]
  have p1 : (0 : Int) < ((2 ^ 128 : Nat) : Int) := by have := Nat.two_pow_pos 128; omega
  have p2 : (0 : Int) < ((2 ^ k : Nat) : Int) := by have := Nat.two_pow_pos k; omega
  have hs : (if val x' + val y' = 0 then (ng x' && ng y') else decide (val x' + val y' < 0)) = (if val x + val y = 0 then (ng x && ng y) else decide (val x + val y < 0)) := by
    rw [hx.2.2.1, hy.2.2.1]
    generalize val x' + val y' = a at *
    generalize val x + val y = c at *
    have c1 : a = 0 ↔ c = 0 := by
      constructor
      · intro h; rw [h, Int.zero_mul] at hv; rcases Int.mul_eq_zero.1 hv.symm with h | h
        · exact h
        · omega
      · intro h; rw [h, Int.zero_mul] at hv; rcases Int.mul_eq_zero.1 hv with h | h
        · exact h
        · omega
    have c2 : a < 0 ↔ c < 0 := by
      constructor
      · intro h
        have := Int.mul_neg_of_neg_of_pos h p1
        rw [hv] at this
        rcases Int.lt_or_le c 0 with h1 | h1
        · exact h1
        · have := Int.mul_nonneg h1 (Int.le_of_lt p2); omega
      · intro h
        have := Int.mul_neg_of_neg_of_pos h p2
        rw [← hv] at this
        rcases Int.lt_or_le a 0 with h1 | h1
        · exact h1
        · have := Int.mul_nonneg h1 (Int.le_of_lt p1); omega
    by_cases h0 : c = 0
    · rw [if_pos h0, if_pos (c1.2 h0)]
    · rw [if_neg h0, if_neg (fun h => h0 (c1.1 h))]
      by_cases h1 : c < 0
      · rw [decide_eq_true h1, decide_eq_true (c2.2 h1)]
      · rw [decide_eq_false h1, decide_eq_false (fun h => h1 (c2.1 h))]
  rw [hs] at e2
  obtain ⟨l1, z1⟩ := nr_unit b
  obtain ⟨l2, z2⟩ := nr_unit b'
  have hn : (val x' + val y').natAbs * 2 ^ 128 = (val x + val y).natAbs * 2 ^ k := by
    have := congrArg Int.natAbs hv
    rw [Int.natAbs_mul, Int.natAbs_mul, Int.natAbs_natCast, Int.natAbs_natCast] at this
    exact this
  refine ⟨_, _, e1, e2, sc_word _ l1 l2 ?_, ?_⟩
  · rw [z1, z2, ← rn_hom, ← rn_hom, hn]
  · rw [word_val _ (by omega), z1]
    exact sgn_rn _ _ (fun h => by rw [if_neg h])
end Go.Proofs.YtjoncbfaajcioaaGreatDoor

namespace Go.Proofs.YtjoncbfaajcioaaGreatDoor
open Fl

theorem word_as (s : Bool) {r : Nat} (h : r < 9223372036854775808) : Ieee.double.word s r = if s then Op.negFloat .f64 r else r := by
  unfold Ieee.Format.word
  rw [d_sw]
  cases s
  · simp
  · simp [neg_of_pos h, Nat.add_comm]
theorem two_abs (k : Nat) : ((2 : Int) ^ k).natAbs = 2 ^ k := by rw [Int.natAbs_pow]; rfl
theorem SC_eq : SC = 2 ^ K74 := rfl
theorem SC_abs : SC.natAbs = 2 ^ K74 := by rw [SC_eq]; exact two_abs K74
theorem near_word {p q : Int} {k : Nat} (hp : p ≠ 0) (hq : q.natAbs = 2 ^ k) : nearW p q = Ieee.double.word (decide (p < 0)) (nr p.natAbs (-(k : Int))) := by
  unfold nearW
  rw [hq, near_dyadic (by omega) k, word_as _ (nr_bd _ _)]
  by_cases h : p < 0
  · rw [if_pos h, decide_eq_true h, if_pos rfl]
  · rw [if_neg h, decide_eq_false h, if_neg (by decide)]
theorem plW_add {a b : Nat} (fa : fin a) (fb : fin b) : addO a b = some (plW a b) := by
  rw [add_gen fa fb]
  congr 1
  unfold plW
  by_cases h : val a + val b = 0
  · rw [if_pos h, if_pos h, h, show (0 : Int).natAbs = 0 from rfl, nr_zero, word_as _ (by decide)]
    cases ng a && ng b <;> rfl
  · rw [if_neg h, if_neg h, near_word h SC_abs]
    rfl
theorem val_abs (a : Nat) : (val a).natAbs = sz (mg a) := sgn_abs _ _
theorem val_neg {a : Nat} (h : val a ≠ 0) : decide (val a < 0) = ng a := by
  revert h
  unfold val sgn
  cases ng a
  · simp
  · simp; omega
theorem tmW_mul {a b : Nat} (fa : fin a) (fb : fin b) : mulO a b = some (tmW a b) := by
  rw [mul_gen fa fb]
  congr 1
  unfold tmW
  by_cases h : val a * val b = 0
  · rw [if_pos h]
    have h2 : sz (mg a) * sz (mg b) = 0 := by rw [← val_abs a, ← val_abs b, ← Int.natAbs_mul, h]; rfl
    rw [h2, nr_zero, word_as _ (by decide)]
    cases ng a <;> cases ng b <;> rfl
  · rw [if_neg h]
    have ha : val a ≠ 0 := fun e => h (by rw [e, Int.zero_mul])
    have hb : val b ≠ 0 := fun e => h (by rw [e, Int.mul_zero])
    have hq : (SC * SC).natAbs = 2 ^ (K74 + K74) := by rw [Int.natAbs_mul, SC_abs, Nat.pow_add]
    rw [near_word h hq, Int.natAbs_mul, val_abs, val_abs]
    have hs : decide (val a * val b < 0) = (ng a ^^ ng b) := by
      have h1 := mul_sign (val a) (val b)
      rw [val_neg ha, val_neg hb] at h1
      rw [← h1, decide_eq_true (Nat.mul_pos (by omega) (by omega))]
      cases ng a <;> cases ng b <;> rfl
    rw [hs]
    rfl

end Go.Proofs.YtjoncbfaajcioaaGreatDoor

namespace Go.Proofs.YtjoncbfaajcioaaGreatDoor
open Fl

/-- a ratio, rounded to a whole number, of two equally near ones the even one -/
def rdQ (A C : Nat) : Nat := A / C + (if C < 2 * (A % C) ∨ (C = 2 * (A % C) ∧ A / C % 2 = 1) then 1 else 0)
theorem sticky_cmp {B r t E s : Nat} (hr : r < B) (hs : s = (r != 0).toNat) (hE : E % 2 = 0) : (E < 2 * t + s ↔ B * E < 2 * (r + B * t)) ∧ (E = 2 * t + s ↔ B * E = 2 * (r + B * t)) := by
  have h1 : s = 0 ∧ r = 0 ∨ s = 1 ∧ 0 < r := by
    rcases Nat.eq_zero_or_pos r with h | h
    · subst h; left; exact ⟨by rw [hs]; rfl, rfl⟩
    · right; refine ⟨?_, h⟩; rw [hs, bne_iff_ne.2 (by omega)]; rfl
  have hd : B * (2 * t) = 2 * (B * t) := Nat.mul_left_comm _ _ _
  rcases Nat.lt_trichotomy E (2 * t) with h | h | h
  · have := Nat.mul_lt_mul_of_pos_left h (show 0 < B by omega)
    constructor <;> constructor <;> intro g <;> omega
  · rw [h, hd]
    constructor <;> constructor <;> intro g <;> omega
  · have h2 : 2 * t + 2 ≤ E := by omega
    have h3 := Nat.mul_le_mul_left B h2
    rw [Nat.mul_add, hd] at h3
    constructor <;> constructor <;> intro g <;> omega
theorem sticky (N B d : Nat) (hB : 0 < B) (hd : 1 ≤ d) : rne (2 * (N / B) + (N % B != 0).toNat) (d + 1) = rdQ N (B * 2 ^ d) := by
  unfold rne rdQ
  have hr := Nat.mod_lt N hB
  have e1 : N / (B * 2 ^ d) = N / B / 2 ^ d := (Nat.div_div_eq_div_mul _ _ _).symm
  have e2 : N % (B * 2 ^ d) = N % B + B * (N / B % 2 ^ d) := Nat.mod_mul
  rw [e1, e2, Nat.pow_succ]
  obtain ⟨s, hs⟩ : ∃ s, s = (N % B != 0).toNat := ⟨_, rfl⟩
  have hs1 : s ≤ 1 := by rw [hs]; cases N % B != 0 <;> decide
  rw [← hs]
  have hE : 2 ^ d % 2 = 0 := by
    obtain ⟨k, rfl⟩ : ∃ k, d = k + 1 := ⟨d - 1, by omega⟩
    rw [Nat.pow_succ]; omega
  have hP := Nat.two_pow_pos d
  have ht := Nat.mod_lt (N / B) hP
  have hq := Nat.div_add_mod (N / B) (2 ^ d)
  obtain ⟨c1, c2⟩ := sticky_cmp (t := N / B % 2 ^ d) hr hs hE
  generalize N / B % 2 ^ d = t at *
  generalize N / B / 2 ^ d = a at *
  generalize 2 ^ d = E at *
  generalize N / B = q at *
  generalize N % B = r at *
  have f1 : 2 * q + s = (2 * t + s) + E * 2 * a := by rw [← hq, Nat.mul_assoc, Nat.mul_left_comm]; omega
  have g1 : (2 * q + s) / (E * 2) = a := by
    rw [f1, Nat.add_mul_div_left _ _ (by omega), Nat.div_eq_of_lt (by omega), Nat.zero_add]
  have g2 : (2 * q + s) % (E * 2) = 2 * t + s := by
    rw [f1, Nat.add_mul_mod_self_left, Nat.mod_eq_of_lt (by omega)]
  rw [g1, g2]
  have k1 : E * 2 < 2 * (2 * t + s) ↔ B * E < 2 * (r + B * t) := by rw [← c1]; omega
  have k2 : E * 2 = 2 * (2 * t + s) ↔ B * E = 2 * (r + B * t) := by rw [← c2]; omega
  simp only [k1, k2]

end Go.Proofs.YtjoncbfaajcioaaGreatDoor

namespace Go.Proofs.YtjoncbfaajcioaaGreatDoor
open Fl

theorem rdQ_up (A C f : Nat) (hf : 0 < f) : rdQ (A * f) (C * f) = rdQ A C := by
  unfold rdQ
  rw [Nat.mul_div_mul_right _ _ hf, Nat.mul_mod_mul_right]
  have e1 : C * f < 2 * (A % C * f) ↔ C < 2 * (A % C) := by rw [← Nat.mul_assoc]; exact Nat.mul_lt_mul_right hf
  have e2 : C * f = 2 * (A % C * f) ↔ C = 2 * (A % C) := by rw [← Nat.mul_assoc]; exact Nat.mul_left_inj (by omega)
  simp only [e1, e2]
theorem nR_rdQ (P Q : Nat) : nR P Q = rdQ (P * 2 ^ K74) (Q * 2 ^ nD P Q) := by
  unfold nR rdQ nN
  generalize P * 2 ^ K74 = A
  generalize Q * 2 ^ nD P Q = B
  exact rne_form A B
theorem nN_mono {P Q D E : Nat} (h : D ≤ E) : nN P Q E ≤ nN P Q D := by
  induction E with
  | zero => rw [show D = 0 by omega]; exact Nat.le_refl _
  | succ E ih =>
    rcases Nat.lt_or_ge D (E + 1) with h1 | h1
    · have := ih (by omega); rw [nN_half]; omega
    · rw [show D = E + 1 by omega]; exact Nat.le_refl _
/-- the unit is the least under which the count keeps below 2 to the power 53 -/
theorem unit_one {P Q D E : Nat} (h1 : nN P Q D < 9007199254740992) (h2 : 4503599627370496 ≤ nN P Q D ∨ D = 0) (h3 : nN P Q E < 9007199254740992) (h4 : 4503599627370496 ≤ nN P Q E ∨ E = 0) : D = E := by
  rcases Nat.lt_trichotomy D E with h | h | h
  · obtain ⟨k, rfl⟩ : ∃ k, E = k + 1 := ⟨E - 1, by omega⟩
    have a := nN_mono (P := P) (Q := Q) (show D ≤ k by omega)
    have b := nN_half P Q k
    omega
  · exact h
  · obtain ⟨k, rfl⟩ : ∃ k, D = k + 1 := ⟨D - 1, by omega⟩
    have a := nN_mono (P := P) (Q := Q) (show E ≤ k by omega)
    have b := nN_half P Q k
    omega
theorem nD_props {P Q : Nat} (hP : 0 < P) (hQ : 0 < Q) : nN P Q (nD P Q) < 9007199254740992 ∧ (4503599627370496 ≤ nN P Q (nD P Q) ∨ nD P Q = 0) := by
  unfold nD
  by_cases h : nN P Q (nU P Q) < 9007199254740992
  · rw [if_pos h]; exact ⟨h, nN_ge hP hQ rfl (.inl rfl)⟩
  · rw [if_neg h]; exact ⟨nN_lt2 hP hQ rfl, nN_ge hP hQ rfl (.inr ⟨rfl, by unfold Gt53; omega⟩)⟩

end Go.Proofs.YtjoncbfaajcioaaGreatDoor

namespace Go.Proofs.YtjoncbfaajcioaaGreatDoor
open Fl

theorem nq_arith {l M D d : Nat} (hl : 54 ≤ l) (hD : D = l + 1022 - M) (hd : d + 1074 = D + M) : 1 ≤ d ∧ (D = 0 ∨ 52 + d = l) ∧ l + 1 ≤ 53 + d ∧ ((D : Int) - 1074 = max (-(M : Int) - 1 + ((l + 1 : Nat) : Int) - 52) (-1074)) ∧ ((D : Int) - 1074 + 1074).toNat = D ∧ (-(M : Int) - 1 - ((D : Int) - 1074)).toNat = 0 ∧ ((D : Int) - 1074 - (-(M : Int) - 1)).toNat = d + 1 := by omega
theorem nq_ex {l M D : Nat} (hl : 54 ≤ l) (hD : D = l + 1022 - M) : ∃ d, d + 1074 = D + M := ⟨D + M - 1074, by omega⟩
theorem ld_min (D n : Nat) : ldW D n = min (D * 4503599627370496 + n) 9218868437227405312 := by unfold ldW; split <;> omega
theorem nq_log {m q : Nat} (hq : 0 < q) (h1 : 2 * q ≤ m) (h2 : m ≤ 2 * q + 1) : m.log2 = q.log2 + 1 := by
  have a := log2_nbits (P := m) (by omega)
  have b := log2_nbits hq
  have c : nbits m = 1 + nbits q := by rw [nbits_pos (by omega), show m / 2 = q by omega]
  omega
theorem toNat_le (b : Bool) : b.toNat ≤ 1 := by cases b <;> decide
theorem nN_quot {P Q M D d : Nat} (hd : d + 1074 = D + M) : nN P Q D = P * 2 ^ M / Q / 2 ^ d := by
  rw [Nat.div_div_eq_div_mul]
  unfold nN
  have e1 : P * 2 ^ K74 * 2 ^ M = P * 2 ^ M * 2 ^ K74 := Nat.mul_right_comm _ _ _
  have hk : D + M = d + K74 := hd.symm
  have e2 : Q * 2 ^ D * 2 ^ M = Q * 2 ^ d * 2 ^ K74 := by rw [Nat.mul_assoc, Nat.mul_assoc, ← Nat.pow_add, ← Nat.pow_add, hk]
  rw [← Nat.mul_div_mul_right _ _ (Nat.two_pow_pos M), e1, e2, Nat.mul_div_mul_right _ _ (Nat.two_pow_pos K74)]
theorem rd_quot {P Q M D d : Nat} (hd : d + 1074 = D + M) : rdQ (P * 2 ^ K74) (Q * 2 ^ D) = rdQ (P * 2 ^ M) (Q * 2 ^ d) := by
  have hk : D + M = d + K74 := hd.symm
  rw [← rdQ_up (P * 2 ^ K74) (Q * 2 ^ D) (2 ^ M) (Nat.two_pow_pos M), ← rdQ_up (P * 2 ^ M) (Q * 2 ^ d) (2 ^ K74) (Nat.two_pow_pos K74)]
  rw [Nat.mul_right_comm P, Nat.mul_assoc Q, Nat.mul_assoc Q, ← Nat.pow_add, ← Nat.pow_add, hk]
theorem near_quot {P Q M : Nat} (hP : 0 < P) (hQ : 0 < Q) (hM : 2 ^ 54 ≤ P * 2 ^ M / Q) :
    ldW (nD P Q) (nR P Q) = nr (2 * (P * 2 ^ M / Q) + (P * 2 ^ M % Q != 0).toNat) (-(M : Int) - 1) := by
  have hl54 : 54 ≤ (P * 2 ^ M / Q).log2 := (Nat.le_log2 (Nat.ne_of_gt (Nat.lt_of_lt_of_le (by decide) hM))).2 hM
  have hq0 : 0 < P * 2 ^ M / Q := Nat.lt_of_lt_of_le (by decide) hM
  have hst := fun d hd => sticky (P * 2 ^ M) Q d hQ hd
  have hnq := fun D d (hd : d + 1074 = D + M) => nN_quot (P := P) (Q := Q) hd
  have hrq := fun D d (hd : d + 1074 = D + M) => rd_quot (P := P) (Q := Q) hd
  have hs1 := toNat_le (P * 2 ^ M % Q != 0)
  generalize (P * 2 ^ M % Q != 0).toNat = s at *
  generalize hqe : P * 2 ^ M / Q = q at *
  clear hM hqe
  obtain ⟨D, hD⟩ : ∃ D : Nat, D = q.log2 + 1022 - M := ⟨_, rfl⟩
  obtain ⟨d, hd⟩ := nq_ex hl54 hD
  obtain ⟨a1, a2, a3, a4, a5, a6, a7⟩ := nq_arith hl54 hD hd
  have hn := hnq D d hd
  have hr := hrq D d hd
  rw [← hst d a1] at hr
  have hlog := nq_log (m := 2 * q + s) hq0 (Nat.le_add_right _ _) (Nat.add_le_add_left hs1 _)
  rw [← hlog] at a4
  clear hnq hrq hst hD hd
  have p1 : nN P Q D < 9007199254740992 := by
    rw [hn, Nat.div_lt_iff_lt_mul (Nat.two_pow_pos d), show (9007199254740992 : Nat) = 2 ^ 53 by decide, ← Nat.pow_add]
    exact Nat.lt_of_lt_of_le (Nat.lt_log2_self (n := q)) (Nat.pow_le_pow_right (by decide) a3)
  have p2 : 4503599627370496 ≤ nN P Q D ∨ D = 0 := by
    rcases a2 with h | h
    · exact .inr h
    · refine .inl ?_
      rw [hn, Nat.le_div_iff_mul_le (Nat.two_pow_pos d), show (4503599627370496 : Nat) = 2 ^ 52 by decide, ← Nat.pow_add, h]
      exact Nat.log2_self_le (Nat.ne_of_gt hq0)
  obtain ⟨p3, p4⟩ := nD_props hP hQ
  have hDe : nD P Q = D := unit_one p3 p4 p1 p2
  rw [nR_rdQ, hDe, hr, nr_eq (Nat.lt_of_lt_of_le (Nat.mul_pos (by decide) hq0) (Nat.le_add_right _ _)) a4, a5, a6, a7, Nat.pow_zero, Nat.mul_one]
  exact ld_min _ _

end Go.Proofs.YtjoncbfaajcioaaGreatDoor

namespace Go.Proofs.YtjoncbfaajcioaaGreatDoor
open Fl

theorem K74_split : (2 : Nat) ^ K74 = 2 ^ E21 * 9007199254740992 := by
  rw [show (9007199254740992 : Nat) = 2 ^ 53 by decide, ← Nat.pow_add]
  exact congrArg (fun k => (2 : Nat) ^ k) (show K74 = E21 + 53 from rfl)
theorem good_scale {P Q r o D : Nat} (h : Good P Q r o D) : P * 2 ^ K74 * o = r * 9007199254740992 * (Q * 2 ^ D) := by
  have e := h.2.2.1
  rw [K74_split]
  generalize 2 ^ E21 = y at *
  generalize 2 ^ D = x at *
  generalize (9007199254740992 : Nat) = k
  calc P * (y * k) * o = (P * o * y) * k := by simp only [Nat.mul_comm, Nat.mul_left_comm]
    _ = (r * Q * x) * k := by rw [← e]
    _ = r * k * (Q * x) := by simp only [Nat.mul_comm, Nat.mul_left_comm]
theorem good_near {P Q r o D : Nat} (h : Good P Q r o D) (hP : 0 < P) (hQ : 0 < Q) : nD P Q = D ∧ nR P Q = fr53 r o := by
  have hro := h.1
  have ho : 0 < o := by omega
  have hc : 0 < Q * 2 ^ D := Nat.mul_pos hQ (Nat.two_pow_pos D)
  have hs := good_scale h
  have e1 : nN P Q D = r * 9007199254740992 / o := by
    unfold nN
    rw [← Nat.mul_div_mul_right _ _ ho, hs, Nat.mul_comm (Q * 2 ^ D) o, Nat.mul_div_mul_right _ _ hc]
  have e2 : rdQ (P * 2 ^ K74) (Q * 2 ^ D) = rdQ (r * 9007199254740992) o := by
    rw [← rdQ_up (P * 2 ^ K74) (Q * 2 ^ D) o ho, hs, Nat.mul_comm (Q * 2 ^ D) o, rdQ_up _ _ _ hc]
  have p1 : nN P Q D < 9007199254740992 := by
    rw [e1, Nat.div_lt_iff_lt_mul ho, Nat.mul_comm]
    exact Nat.mul_lt_mul_of_pos_left hro (by decide)
  have p2 : 4503599627370496 ≤ nN P Q D ∨ D = 0 := by
    rcases h.2.1 with h1 | h1
    · left
      rw [e1, Nat.le_div_iff_mul_le ho]
      have : 4503599627370496 * o ≤ 4503599627370496 * (2 * r) := Nat.mul_le_mul_left _ h1
      omega
    · exact .inr h1
  obtain ⟨p3, p4⟩ := nD_props hP hQ
  have hD : nD P Q = D := unit_one p3 p4 p1 p2
  refine ⟨hD, ?_⟩
  rw [nR_rdQ, hD, e2]
  unfold rdQ fr53 rUp
  generalize r * 9007199254740992 = A
  by_cases hc : o < 2 * (A % o) ∨ o = 2 * (A % o) ∧ A / o % 2 = 1
  · rw [if_pos hc, decide_eq_true hc]; rfl
  · rw [if_neg hc, decide_eq_false hc]; rfl

end Go.Proofs.YtjoncbfaajcioaaGreatDoor
