/-
  Answers (a word, or none where it is a NaN) under division, root, sign and size, and held against each other; nothing of any program's text.
-/
import Derived.Test.YtcakfclfggnmbaaOps
import Derived.Laws.Cover3
namespace Go.Proofs.Ytcakfclfggnmbaa
open Fl

def divA (a b : Option Nat) : Option Nat := a.bind fun x => b.bind fun y => divO x y
theorem div_nan {x y : Nat} (h : nan x = true ∨ nan y = true) : divO x y = none := by
  unfold divO Ieee.Format.div
  rcases h with h | h
  · rw [read_nan x h]; cases Ieee.double.read y <;> rfl
  · rw [read_nan y h]; cases Ieee.double.read x <;> rfl
theorem divA_of {a b : Option Nat} {x y : Nat} (ha : rep a x) (hb : rep b y) : divA a b = divO x y := by
  obtain ⟨_, rfl⟩ := ha
  obtain ⟨_, rfl⟩ := hb
  unfold divA
  cases hx : nan x
  · cases hy : nan y
    · rw [ans_num hx, ans_num hy]; rfl
    · rw [div_nan (Or.inr hy), ans_num hx, ans_nan hy]; rfl
  · rw [div_nan (Or.inl hx), ans_nan hx]; rfl
theorem rep_div {a b : Option Nat} {x y : Nat} (ha : rep a x) (hb : rep b y) (w : World) : rep (divA a b) (divV w x y) := by rw [divA_of ha hb]; exact rep_divV _ _ _

/-- The root. -/
def sqrtO (x : Nat) : Option Nat := Ieee.double.sqrt x
def sqrtV (w : World) (x : Nat) : Nat := fV (.nanBits .f64 x x) w (sqrtO x)
def sqrtA (a : Option Nat) : Option Nat := a.bind sqrtO
theorem root_not_nan (n : Nat) (a d : Ieee.Datum) (h : a.root n = some d) : d.isNaN = false := by
  cases a with
  | nan s f => cases h
  | infinity s =>
    cases s
    · cases h; rfl
    · cases h
  | number s m i =>
    change (if m = 0 then some (Ieee.Datum.number s m i) else if s = true then none else some (Ieee.Datum.number false _ _)) = some d at h
    by_cases h0 : m = 0
    · rw [if_pos h0] at h; cases h; rfl
    · rw [if_neg h0] at h
      cases s
      · rw [if_neg (by decide)] at h; cases h; rfl
      · rw [if_pos rfl] at h; cases h
theorem sqrt_bd {x r : Nat} (h : sqrtO x = some r) : r < 18446744073709551616 ∧ nan r = false := ⟨Ieee.double.sqrt_lt h, map_not_nan (root_not_nan _ _) h⟩
theorem sqrt_nan {x : Nat} (h : nan x = true) : sqrtO x = none := by
  unfold sqrtO Ieee.Format.sqrt; rw [read_nan x h]; rfl
theorem rep_sqrtV (x : Nat) (w : World) : rep (sqrtO x) (sqrtV w x) := rep_fV (fun _ h => sqrt_bd h) _ _ _
theorem sqrtA_of {a : Option Nat} {x : Nat} (ha : rep a x) : sqrtA a = sqrtO x := by
  obtain ⟨_, rfl⟩ := ha
  unfold sqrtA
  cases hx : nan x
  · rw [ans_num hx]; rfl
  · rw [sqrt_nan hx, ans_nan hx]; rfl
theorem rep_sqrt {a : Option Nat} {x : Nat} (ha : rep a x) (w : World) : rep (sqrtA a) (sqrtV w x) := by rw [sqrtA_of ha]; exact rep_sqrtV _ _
theorem run_fsqrt {P : Program} (x : Nat) (w : World) : (Extern.MathSqrt.sqrt #[.float .f64 x]).run P w = .ok (.float .f64 (sqrtV w x)) (w.drewN (fN (sqrtO x))) := by
  unfold sqrtV sqrtO fV fN
  cases h : Ieee.double.sqrt x with
  | some r =>
    change Sem.run P (match Ieee.double.sqrt x with
      | some r => pure (Value.float .f64 r)
      | none => do pure (Value.float .f64 (← choose (.nanBits .f64 x x)))) w = _
    rw [h]; rfl
  | none =>
    change Sem.run P (match Ieee.double.sqrt x with
      | some r => pure (Value.float .f64 r)
      | none => do pure (Value.float .f64 (← choose (.nanBits .f64 x x)))) w = _
    rw [h]
    simp only [Sem.run_bind, Sem.run_pure, Result.andThen_ok, run_choose_nan]

/-- The sign turned; the size. -/
def ngW (x : Nat) : Nat := if x < 9223372036854775808 then x + 9223372036854775808 else x - 9223372036854775808
def negA (a : Option Nat) : Option Nat := a.map ngW
def sizA (a : Option Nat) : Option Nat := a.map mg
theorem mg_mg (x : Nat) : mg (mg x) = mg x := Nat.mod_mod _ _
theorem mg_bd (x : Nat) : mg x < 9223372036854775808 := Nat.mod_lt _ (by omega)
theorem mg_ngW {x : Nat} (h : x < 18446744073709551616) : mg (ngW x) = mg x := by unfold ngW mg; split <;> omega
theorem ng_ngW {x : Nat} (h : x < 18446744073709551616) : ng (ngW x) = !ng x := by
  unfold ngW ng; split
  · have h1 : (x + 9223372036854775808) / 9223372036854775808 % 2 = 1 := by omega
    have h2 : x / 9223372036854775808 % 2 = 0 := by omega
    rw [h1, h2]; rfl
  · have h1 : (x - 9223372036854775808) / 9223372036854775808 % 2 = 0 := by omega
    have h2 : x / 9223372036854775808 % 2 = 1 := by omega
    rw [h1, h2]; rfl
theorem ngW_lt {x : Nat} (h : x < 18446744073709551616) : ngW x < 18446744073709551616 := by unfold ngW; split <;> omega
theorem ngW_ngW {x : Nat} (h : x < 18446744073709551616) : ngW (ngW x) = x := by unfold ngW; split <;> split <;> omega
theorem nan_ngW {x : Nat} (h : x < 18446744073709551616) : nan (ngW x) = nan x := by unfold nan; rw [mg_ngW h]
theorem nan_mg (x : Nat) : nan (mg x) = nan x := by unfold nan; rw [mg_mg]
theorem rep_ng {a : Option Nat} {x : Nat} (ha : rep a x) : rep (negA a) (ngW x) := by
  obtain ⟨h, rfl⟩ := ha
  refine ⟨ngW_lt h, ?_⟩
  unfold negA ans; rw [nan_ngW h]; cases nan x <;> rfl
theorem rep_sz {a : Option Nat} {x : Nat} (ha : rep a x) : rep (sizA a) (mg x) := by
  obtain ⟨h, rfl⟩ := ha
  refine ⟨by have := mg_bd x; omega, ?_⟩
  unfold sizA ans; rw [nan_mg x]; cases nan x <;> rfl
theorem xor_sign (x : Nat) (hx : x < 18446744073709551616) : bits BinOp.xor IntKind.u64 (x : Int) 9223372036854775808 = ((ngW x : Nat) : Int) := by
  have h := u64_xor_nat x 9223372036854775808 hx (by omega)
  have e : x ^^^ 9223372036854775808 = ngW x := by
    unfold ngW
    split
    · exact neg_of_pos ‹_›
    · exact neg_of_neg (by omega) hx
  rw [e] at h; exact h

/-- Two answers held against each other. -/
def ordA (a b : Option Nat) : Option Ordering := a.bind fun x => b.bind fun y => Ieee.double.order x y
theorem ordA_of {a b : Option Nat} {x y : Nat} (ha : rep a x) (hb : rep b y) : FloatKind.f64.format.order x y = ordA a b := by
  obtain ⟨_, rfl⟩ := ha
  obtain ⟨_, rfl⟩ := hb
  unfold ordA
  rw [f64_double]
  cases hx : nan x
  · cases hy : nan y
    · rw [ans_num hx, ans_num hy]; rfl
    · rw [ans_num hx, ans_nan hy, order_eq, hy, Bool.or_true]; rfl
  · rw [ans_nan hx, order_eq, hx, Bool.true_or]; rfl

/-- Are two words the same: their bits, or both NaN? -/
theorem same_of {a : Option Nat} {x y : Nat} (hx : rep a x) (hy : rep a y) : nan x = nan y ∧ (nan x = false → x = y) := by
  obtain ⟨_, hx⟩ := hx
  obtain ⟨_, hy⟩ := hy
  cases a with
  | none => rw [ans_none hx, ans_none hy]; exact ⟨rfl, fun h => by cases h⟩
  | some r =>
    obtain ⟨h1, rfl⟩ := ans_some hx
    obtain ⟨h2, rfl⟩ := ans_some hy
    exact ⟨rfl, fun _ => rfl⟩

end Go.Proofs.Ytcakfclfggnmbaa
