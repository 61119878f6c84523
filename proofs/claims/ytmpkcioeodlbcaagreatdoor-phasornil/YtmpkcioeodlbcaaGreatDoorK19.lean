/-
  Several texts in one: Cx Sg.
-/
import Derived.Test.YtmpkcioeodlbcaaGreatDoorK18
import Derived.Laws.Cover3
namespace Go.Proofs.YtmpkcioeodlbcaaGreatDoor
open Fl
def divA (a b : Option Nat) : Option Nat := a.bind fun x => b.bind fun y => divO x y
theorem div_nan {x y : Nat} (h : nan x = true ∨ nan y = true) : divO x y = none := by
  unfold divO Ieee.Format.div
  rcases h with h | h
  · rw [read_nan x h]; cases Ieee.double.read y <;> rfl
  · rw [read_nan y h]; cases Ieee.double.read x <;> rfl
theorem divA_of {a b : Option Nat} {x y : Nat} (ha : rep a x) (hb : rep b y) : divA a b = divO x y := by
  obtain ⟨_, rfl⟩ := ha
  obtain ⟨_, rfl⟩ := hb
  unfold divA
  cases hx : nan x
  · cases hy : nan y
    · rw [ans_num hx, ans_num hy]; rfl
    · rw [div_nan (Or.inr hy), ans_num hx, ans_nan hy]; rfl
  · rw [div_nan (Or.inl hx), ans_nan hx]; rfl
theorem rep_div {a b : Option Nat} {x y : Nat} (ha : rep a x) (hb : rep b y) (w : World) : rep (divA a b) (divV w x y) := by rw [divA_of ha hb]; exact rep_divV _ _ _

/-- The sign turned; the size. -/
def ngW (x : Nat) : Nat := if x < 9223372036854775808 then x + 9223372036854775808 else x - 9223372036854775808
def sizA (a : Option Nat) : Option Nat := a.map mg
theorem mg_mg (x : Nat) : mg (mg x) = mg x := Nat.mod_mod _ _
theorem mg_bd (x : Nat) : mg x < 9223372036854775808 := Nat.mod_lt _ (by omega)
theorem mg_ngW {x : Nat} (h : x < 18446744073709551616) : mg (ngW x) = mg x := by unfold ngW mg; split <;> omega
theorem ng_ngW {x : Nat} (h : x < 18446744073709551616) : ng (ngW x) = !ng x := by
  unfold ngW ng; split
  · have h1 : (x + 9223372036854775808) / 9223372036854775808 % 2 = 1 := by omega
    have h2 : x / 9223372036854775808 % 2 = 0 := by omega
    rw [h1, h2]; rfl
  · have h1 : (x - 9223372036854775808) / 9223372036854775808 % 2 = 0 := by omega
    have h2 : x / 9223372036854775808 % 2 = 1 := by omega
    rw [h1, h2]; rfl
theorem ngW_lt {x : Nat} (h : x < 18446744073709551616) : ngW x < 18446744073709551616 := by unfold ngW; split <;> omega
theorem nan_mg (x : Nat) : nan (mg x) = nan x := by unfold nan; rw [mg_mg]
theorem rep_sz {a : Option Nat} {x : Nat} (ha : rep a x) : rep (sizA a) (mg x) := by
  obtain ⟨h, rfl⟩ := ha
  refine ⟨by have := mg_bd x; omega, ?_⟩
  unfold sizA ans; rw [nan_mg x]; cases nan x <;> rfl
/-- Two answers held against each other. -/
def ordA (a b : Option Nat) : Option Ordering := a.bind fun x => b.bind fun y => Ieee.double.order x y
theorem ordA_of {a b : Option Nat} {x y : Nat} (ha : rep a x) (hb : rep b y) : FloatKind.f64.format.order x y = ordA a b := by
  obtain ⟨_, rfl⟩ := ha
  obtain ⟨_, rfl⟩ := hb
  unfold ordA
  rw [f64_double]
  cases hx : nan x
  · cases hy : nan y
    · rw [ans_num hx, ans_num hy]; rfl
    · rw [ans_num hx, ans_nan hy, order_eq, hy, Bool.or_true]; rfl
  · rw [ans_nan hx, order_eq, hx, Bool.true_or]; rfl

end Go.Proofs.YtmpkcioeodlbcaaGreatDoor
namespace Go.Proofs.YtmpkcioeodlbcaaGreatDoor
open Fl
theorem nearest_word (m : Nat) (p : Int) : ∃ r, r ≤ 9218868437227405312 ∧ ∀ s, Ieee.double.nearest s m p = Ieee.double.word s r := by
  by_cases h : m = 0
  · exact ⟨0, by omega, fun s => by unfold Ieee.Format.nearest; rw [if_pos h]⟩
  · refine ⟨min ((max (p + (m.log2 : Int) - (Ieee.double.fractionBits : Int)) Ieee.double.leastPlace - Ieee.double.leastPlace).toNat * Ieee.double.binade + Ieee.Toward.even.cut false (m <<< (p - max (p + (m.log2 : Int) - (Ieee.double.fractionBits : Int)) Ieee.double.leastPlace).toNat) (max (p + (m.log2 : Int) - (Ieee.double.fractionBits : Int)) Ieee.double.leastPlace - p).toNat) Ieee.double.infRung, ?_, fun s => by unfold Ieee.Format.nearest; rw [if_neg h]; rfl⟩
    exact Nat.min_le_right _ _
theorem product_comm (a b : Ieee.Datum) : a.product b = b.product a := by
  cases a <;> cases b <;> simp [Ieee.Datum.product, Bool.xor_comm, Nat.mul_comm, Int.add_comm]
theorem sum_comm (a b : Ieee.Datum) : a.sum b = b.sum a := by
  cases a <;> cases b <;> simp only [Ieee.Datum.sum]
  · rw [Int.min_comm, Int.add_comm, Bool.and_comm]
  · rename_i s t
    cases s <;> cases t <;> rfl
theorem mulO_comm (x y : Nat) : mulO x y = mulO y x := by unfold mulO Ieee.Format.mul; rw [product_comm]
theorem addO_comm (x y : Nat) : addO x y = addO y x := by unfold addO Ieee.Format.add; rw [sum_comm]
theorem mg_word_zero (s : Bool) : mg (Ieee.double.word s 0) = 0 := word_mg s (by omega)
theorem nearest_zero (s : Bool) (p : Int) : Ieee.double.nearest s 0 p = Ieee.double.word s 0 := by unfold Ieee.Format.nearest; rw [if_pos rfl]
/-- An answer's word is a word, and no NaN. -/
def bdA (A : Option Nat) : Prop := ∀ x, A = some x → x < 18446744073709551616 ∧ nan x = false
theorem rep.bd {A : Option Nat} {x : Nat} (h : rep A x) : bdA A := by
  obtain ⟨h1, rfl⟩ := h
  intro y hy
  obtain ⟨h2, rfl⟩ := ans_some hy
  exact ⟨h1, h2⟩
theorem bd_subA (A B : Option Nat) : bdA (subA A B) := by
  intro x h; unfold subA at h
  cases A with
  | none => cases h
  | some a => cases B with
    | none => cases h
    | some b => exact sub_bd h
theorem bd_divA (A B : Option Nat) : bdA (divA A B) := by
  intro x h; unfold divA at h
  cases A with
  | none => cases h
  | some a => cases B with
    | none => cases h
    | some b => exact div_bd h
theorem mulA_comm (A B : Option Nat) : mulA A B = mulA B A := by
  cases A with
  | none => cases B <;> rfl
  | some a => cases B with
    | none => rfl
    | some b => exact mulO_comm a b
theorem addA_comm (A B : Option Nat) : addA A B = addA B A := by
  cases A with
  | none => cases B <;> rfl
  | some a => cases B with
    | none => rfl
    | some b => exact addO_comm a b
theorem fin_zero {x : Nat} (h : mg x = 0) : fin x := by unfold fin; omega
theorem read_zero {x : Nat} (h : mg x = 0) : Ieee.double.read x = .number (ng x) 0 (-1074) := by
  rw [read_fin x (fin_zero h), h]; rfl
end Go.Proofs.YtmpkcioeodlbcaaGreatDoor
