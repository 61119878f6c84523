/-
  Float arithmetic in a walk, NaN and all: what an operation hands back and which world it leaves, as equations; nothing of any program's text.
-/
import Derived.Test.YtcakfclfggnmbaaFl
import Derived.WalkKit
import Derived.WalkLawsBesides
namespace Go.Proofs.Ytcakfclfggnmbaa
open Fl

/-- The answer that a word is: itself, or (none) a NaN. -/
def ans (x : Nat) : Option Nat := if nan x then none else some x
/-- x stands for the answer o. -/
def rep (o : Option Nat) (x : Nat) : Prop := x < 18446744073709551616 ∧ ans x = o
theorem rep_ans {x : Nat} (h : x < 18446744073709551616) : rep (ans x) x := ⟨h, rfl⟩
theorem ans_nan {x : Nat} (h : nan x = true) : ans x = none := by unfold ans; rw [h]; rfl
theorem ans_num {x : Nat} (h : nan x = false) : ans x = some x := by unfold ans; rw [h]; rfl
theorem ans_none {x : Nat} (h : ans x = none) : nan x = true := by
  cases hn : nan x
  · rw [ans_num hn] at h; cases h
  · rfl
theorem ans_some {x r : Nat} (h : ans x = some r) : nan x = false ∧ x = r := by
  cases hn : nan x
  · rw [ans_num hn] at h; cases h; exact ⟨rfl, rfl⟩
  · rw [ans_nan hn] at h; cases h
theorem word_mg (s : Bool) {r : Nat} (h : r < 9223372036854775808) : mg (Ieee.double.word s r) = r := by
  unfold Ieee.Format.word mg; rw [d_sw]; split <;> omega
theorem nearest_not_nan (s : Bool) (m : Nat) (p : Int) : nan (Ieee.double.nearest s m p) = false := by
  have key : ∀ r, r ≤ 9218868437227405312 → nan (Ieee.double.word s r) = false := by
    intro r hr; unfold nan; rw [word_mg s (by omega)]; simp; omega
  unfold Ieee.Format.nearest
  split
  · exact key 0 (by omega)
  · refine key _ ?_
    rw [d_inf]; exact Nat.min_le_right _ _
theorem write_not_nan {d : Ieee.Datum} (h : d.isNaN = false) : nan (Ieee.double.write d) = false := by
  cases d with
  | number s m p => exact nearest_not_nan s m p
  | infinity s => unfold Ieee.Format.write nan; rw [d_inf, word_mg s (by omega)]; rfl
  | nan s f => cases h
theorem map_not_nan {o : Option Ieee.Datum} {r : Nat} (ho : ∀ d, o = some d → d.isNaN = false) (h : o.map Ieee.double.write = some r) : nan r = false := by
  cases o with
  | none => cases h
  | some d => cases h; exact write_not_nan (ho d rfl)
theorem sum_not_nan (a b d : Ieee.Datum) (h : a.sum b = some d) : d.isNaN = false := by
  cases a <;> cases b <;> simp [Ieee.Datum.sum] at h
  · subst h; rfl
  · subst h; rfl
  · subst h; rfl
  · rw [← h.2]; rfl
theorem product_not_nan (a b d : Ieee.Datum) (h : a.product b = some d) : d.isNaN = false := by
  cases a <;> cases b <;> simp [Ieee.Datum.product] at h
  · subst h; rfl
  · rw [← h.2]; rfl
  · rw [← h.2]; rfl
  · subst h; rfl
theorem quotient_not_nan (n : Nat) (a b d : Ieee.Datum) (h : a.quotient n b = some d) : d.isNaN = false := by
  cases a <;> cases b <;> simp [Ieee.Datum.quotient] at h
  · split at h
    · split at h
      · cases h
      · cases h; rfl
    · cases h; rfl
  · subst h; rfl
  · subst h; rfl
def fN (o : Option Nat) : Nat := match o with | some _ => 0 | none => 1
def fV (q : Question) (w : World) (o : Option Nat) : Nat := match o with | some r => r | none => q.cut (w.tape w.drawn q)
def addO (x y : Nat) : Option Nat := Ieee.double.add x y
def subO (x y : Nat) : Option Nat := Ieee.double.sub x y
def mulO (x y : Nat) : Option Nat := Ieee.double.mul x y
def divO (x y : Nat) : Option Nat := Ieee.double.div x y
def fmaO (x y z : Nat) : Option Nat := Ieee.double.fma x y z
def addV (w : World) (x y : Nat) : Nat := fV (.nanBits .f64 x y) w (addO x y)
def subV (w : World) (x y : Nat) : Nat := fV (.nanBits .f64 x y) w (subO x y)
def mulV (w : World) (x y : Nat) : Nat := fV (.nanBits .f64 x y) w (mulO x y)
def divV (w : World) (x y : Nat) : Nat := fV (.nanBits .f64 x y) w (divO x y)
def fmaQ (x y z : Nat) : Question := if Extern.MathFMA.isNaN x then .nanBits .f64 x y else if Extern.MathFMA.isNaN y then .nanBits .f64 y z else .nanBits .f64 z z
def fmaV (w : World) (x y z : Nat) : Nat := fV (fmaQ x y z) w (fmaO x y z)

section
variable {P : Program} (t : TypeId) (x y z : Nat) (w : World)
theorem run_choose_nan : (choose (.nanBits .f64 x y)).run P w = .ok ((Question.nanBits .f64 x y).cut (w.tape w.drawn (.nanBits .f64 x y))) (w.drewN 1) := by
  rw [run_choose_drew]; rfl
@[go_sem high] theorem run_fadd : (binOp .add t (.float .f64 x) (.float .f64 y)).run P w = .ok (.float .f64 (addV w x y)) (w.drewN (fN (addO x y))) := by
  unfold addV addO fV fN
  cases h : Ieee.double.add x y with
  | some r => simp [binOp, Op.floatArith, f64_double, h, World.drewN_zero]
  | none => simp [binOp, Op.floatArith, f64_double, h, Question.forced]; rfl
@[go_sem high] theorem run_fsub : (binOp .sub t (.float .f64 x) (.float .f64 y)).run P w = .ok (.float .f64 (subV w x y)) (w.drewN (fN (subO x y))) := by
  unfold subV subO fV fN
  cases h : Ieee.double.sub x y with
  | some r => simp [binOp, Op.floatArith, f64_double, h, World.drewN_zero]
  | none => simp [binOp, Op.floatArith, f64_double, h, Question.forced]; rfl
@[go_sem high] theorem run_fmul : (binOp .mul t (.float .f64 x) (.float .f64 y)).run P w = .ok (.float .f64 (mulV w x y)) (w.drewN (fN (mulO x y))) := by
  unfold mulV mulO fV fN
  cases h : Ieee.double.mul x y with
  | some r => simp [binOp, Op.floatArith, f64_double, h, World.drewN_zero]
  | none => simp [binOp, Op.floatArith, f64_double, h, Question.forced]; rfl
@[go_sem high] theorem run_fdiv : (binOp .quo t (.float .f64 x) (.float .f64 y)).run P w = .ok (.float .f64 (divV w x y)) (w.drewN (fN (divO x y))) := by
  unfold divV divO fV fN
  cases h : Ieee.double.div x y with
  | some r => simp [binOp, Op.floatArith, f64_double, h, World.drewN_zero]
  | none => simp [binOp, Op.floatArith, f64_double, h, Question.forced]; rfl
theorem run_ffma : (Extern.MathFMA.fma #[.float .f64 x, .float .f64 y, .float .f64 z]).run P w = .ok (.float .f64 (fmaV w x y z)) (w.drewN (fN (fmaO x y z))) := by
  unfold fmaV fmaO fV fN fmaQ
  cases h : Ieee.double.fma x y z with
  | some r =>
    change Sem.run P (match Ieee.double.fma x y z with
      | some r => pure (Value.float .f64 r)
      | none => do
        let (a, b) := if Extern.MathFMA.isNaN x then (x, y) else if Extern.MathFMA.isNaN y then (y, z) else (z, z)
        pure (Value.float .f64 (← choose (.nanBits .f64 a b)))) w = _
    rw [h]; rfl
  | none =>
    change Sem.run P (match Ieee.double.fma x y z with
      | some r => pure (Value.float .f64 r)
      | none => do
        let (a, b) := if Extern.MathFMA.isNaN x then (x, y) else if Extern.MathFMA.isNaN y then (y, z) else (z, z)
        pure (Value.float .f64 (← choose (.nanBits .f64 a b)))) w = _
    rw [h]
    by_cases h1 : Extern.MathFMA.isNaN x
    · simp only [h1, if_true, Sem.run_bind, Sem.run_pure, Result.andThen_ok, run_choose_nan]
    · by_cases h2 : Extern.MathFMA.isNaN y
      · simp only [h1, h2, if_true, Sem.run_bind, Sem.run_pure, Result.andThen_ok, run_choose_nan]
        simp
      · simp only [h1, h2, Sem.run_bind, Sem.run_pure, Result.andThen_ok, run_choose_nan]
        simp
end

@[go_sem] theorem run_store_float {P : Program} (w : World) (a : Addr) (m : Mode) (k : FloatKind) (b : Nat) : (store a (.float k b) m).run P w = stored P w a (.float k b) m := run_store P w a _ m rfl

theorem cut_nan (x y n : Nat) : (Question.nanBits .f64 x y).cut n < 18446744073709551616 ∧ nan ((Question.nanBits .f64 x y).cut n) = true := by
  have e : (Question.nanBits .f64 x y).cut n = (n % 2) * 9223372036854775808 + 9218868437227405312 + 1 + (n / 2) % 4503599627370495 := rfl
  have h1 : n / 2 % 4503599627370495 < 4503599627370495 := Nat.mod_lt _ (by omega)
  have h2 : n % 2 < 2 := Nat.mod_lt _ (by omega)
  rw [e]; unfold nan mg; simp only [decide_eq_true_eq]
  generalize n / 2 % 4503599627370495 = k at *
  generalize n % 2 = j at *
  omega
theorem rep_fV {o : Option Nat} (h : ∀ r, o = some r → r < 18446744073709551616 ∧ nan r = false) (x y : Nat) (w : World) : rep o (fV (.nanBits .f64 x y) w o) := by
  unfold rep fV
  cases o with
  | some r => exact ⟨(h r rfl).1, ans_num (h r rfl).2⟩
  | none => exact ⟨(cut_nan _ _ _).1, ans_nan (cut_nan _ _ _).2⟩
theorem add_bd {x y r : Nat} (h : addO x y = some r) : r < 18446744073709551616 ∧ nan r = false := ⟨Ieee.double.add_lt h, map_not_nan (sum_not_nan _ _) h⟩
theorem sub_bd {x y r : Nat} (h : subO x y = some r) : r < 18446744073709551616 ∧ nan r = false := ⟨Ieee.double.sub_lt h, map_not_nan (sum_not_nan _ _) h⟩
theorem mul_bd {x y r : Nat} (h : mulO x y = some r) : r < 18446744073709551616 ∧ nan r = false := ⟨Ieee.double.mul_lt h, map_not_nan (product_not_nan _ _) h⟩
theorem div_bd {x y r : Nat} (h : divO x y = some r) : r < 18446744073709551616 ∧ nan r = false := ⟨Ieee.double.div_lt h, map_not_nan (quotient_not_nan _ _ _) h⟩
theorem fma_bd {x y z r : Nat} (h : fmaO x y z = some r) : r < 18446744073709551616 ∧ nan r = false := by
  refine ⟨Ieee.double.fma_lt h, map_not_nan ?_ h⟩
  intro d hd
  cases hp : (Ieee.double.read x).product (Ieee.double.read y) with
  | none => rw [hp] at hd; cases hd
  | some p => rw [hp] at hd; exact sum_not_nan _ _ _ hd
theorem rep_addV (x y : Nat) (w : World) : rep (addO x y) (addV w x y) := rep_fV (fun _ h => add_bd h) _ _ _
theorem rep_subV (x y : Nat) (w : World) : rep (subO x y) (subV w x y) := rep_fV (fun _ h => sub_bd h) _ _ _
theorem rep_mulV (x y : Nat) (w : World) : rep (mulO x y) (mulV w x y) := rep_fV (fun _ h => mul_bd h) _ _ _
theorem rep_divV (x y : Nat) (w : World) : rep (divO x y) (divV w x y) := rep_fV (fun _ h => div_bd h) _ _ _
theorem rep_fmaV (x y z : Nat) (w : World) : rep (fmaO x y z) (fmaV w x y z) := by
  unfold fmaV fmaQ; split
  · exact rep_fV (fun _ h => fma_bd h) _ _ _
  · split <;> exact rep_fV (fun _ h => fma_bd h) _ _ _

/-- Operations on answers. -/
def addA (a b : Option Nat) : Option Nat := a.bind fun x => b.bind fun y => addO x y
def subA (a b : Option Nat) : Option Nat := a.bind fun x => b.bind fun y => subO x y
def mulA (a b : Option Nat) : Option Nat := a.bind fun x => b.bind fun y => mulO x y
theorem add_nan {x y : Nat} (h : nan x = true ∨ nan y = true) : addO x y = none := by
  unfold addO Ieee.Format.add
  rcases h with h | h
  · rw [read_nan x h]; cases Ieee.double.read y <;> rfl
  · rw [read_nan y h]; cases Ieee.double.read x <;> rfl
theorem sub_nan {x y : Nat} (h : nan x = true ∨ nan y = true) : subO x y = none := by
  unfold subO Ieee.Format.sub
  rcases h with h | h
  · rw [read_nan x h]; cases Ieee.double.read y <;> rfl
  · rw [read_nan y h]; cases Ieee.double.read x <;> rfl
theorem mul_nan {x y : Nat} (h : nan x = true ∨ nan y = true) : mulO x y = none := by
  unfold mulO Ieee.Format.mul
  rcases h with h | h
  · rw [read_nan x h]; cases Ieee.double.read y <;> rfl
  · rw [read_nan y h]; cases Ieee.double.read x <;> rfl
theorem addA_of {a b : Option Nat} {x y : Nat} (ha : rep a x) (hb : rep b y) : addA a b = addO x y := by
  obtain ⟨_, rfl⟩ := ha
  obtain ⟨_, rfl⟩ := hb
  unfold addA
  cases hx : nan x
  · cases hy : nan y
    · rw [ans_num hx, ans_num hy]; rfl
    · rw [add_nan (Or.inr hy), ans_num hx, ans_nan hy]; rfl
  · rw [add_nan (Or.inl hx), ans_nan hx]; rfl
theorem subA_of {a b : Option Nat} {x y : Nat} (ha : rep a x) (hb : rep b y) : subA a b = subO x y := by
  obtain ⟨_, rfl⟩ := ha
  obtain ⟨_, rfl⟩ := hb
  unfold subA
  cases hx : nan x
  · cases hy : nan y
    · rw [ans_num hx, ans_num hy]; rfl
    · rw [sub_nan (Or.inr hy), ans_num hx, ans_nan hy]; rfl
  · rw [sub_nan (Or.inl hx), ans_nan hx]; rfl
theorem mulA_of {a b : Option Nat} {x y : Nat} (ha : rep a x) (hb : rep b y) : mulA a b = mulO x y := by
  obtain ⟨_, rfl⟩ := ha
  obtain ⟨_, rfl⟩ := hb
  unfold mulA
  cases hx : nan x
  · cases hy : nan y
    · rw [ans_num hx, ans_num hy]; rfl
    · rw [mul_nan (Or.inr hy), ans_num hx, ans_nan hy]; rfl
  · rw [mul_nan (Or.inl hx), ans_nan hx]; rfl
theorem rep_add {a b : Option Nat} {x y : Nat} (ha : rep a x) (hb : rep b y) (w : World) : rep (addA a b) (addV w x y) := by rw [addA_of ha hb]; exact rep_addV _ _ _
theorem rep_sub {a b : Option Nat} {x y : Nat} (ha : rep a x) (hb : rep b y) (w : World) : rep (subA a b) (subV w x y) := by rw [subA_of ha hb]; exact rep_subV _ _ _
theorem rep_mul {a b : Option Nat} {x y : Nat} (ha : rep a x) (hb : rep b y) (w : World) : rep (mulA a b) (mulV w x y) := by rw [mulA_of ha hb]; exact rep_mulV _ _ _

/-- What TwoSum tells. -/
def tsS (a b : Option Nat) : Option Nat := addA a b
def tsE (a b : Option Nat) : Option Nat :=
  addA (subA a (subA (tsS a b) (subA (tsS a b) a))) (subA b (subA (tsS a b) a))

end Go.Proofs.Ytcakfclfggnmbaa
