/-
  What Inv, Scale and the sizes of package parts, and the same of gridworkref02, hand back, whatever they are called with: each by one function on answers.
-/
import Derived.Test.YtknhmleifofhaaaPd
import Derived.Test.YtknhmleifofhaaaSg
namespace Go.Proofs.Ytknhmleifofhaaa
open Fl

def infA (A : Option Nat) : Bool := match A with | some x => infB x | none => false
def zeA (A : Option Nat) : Bool := match A with | some x => zeB x | none => false
def ltA (A B : Option Nat) : Bool := ordA A B == some .lt
def hyp (G L : Option Nat) : Option Nat := mulA G (sqrtA (addA (some 4607182418800017408) (mulA (divA L G) (divA L G))))
def absG (A B : Option Nat) : Option Nat := if ltA (sizA A) (sizA B) then hyp (sizA B) (sizA A) else hyp (sizA A) (sizA B)
def absA (A B : Option Nat) : Option Nat := if infA A || infA B then some 9218868437227405312 else if zeA A && zeA B then some 0 else absG A B

theorem infA_of {A : Option Nat} {x : Nat} (h : rep A x) : infB x = infA A := by
  obtain ⟨_, rfl⟩ := h
  cases hn : nan x
  · rw [ans_num hn]; rfl
  · rw [ans_nan hn]; unfold infB; exact decide_eq_false (fun h => by rw [inf_not_nan h] at hn; cases hn)
theorem zeB_nan {x : Nat} (h : nan x = true) : zeB x = false := by
  unfold zeB; unfold nan at h; simp at h; simp; omega
theorem zeA_of {A : Option Nat} {x : Nat} (h : rep A x) : zeB x = zeA A := by
  obtain ⟨_, rfl⟩ := h
  cases hn : nan x
  · rw [ans_num hn]; rfl
  · rw [ans_nan hn]; exact zeB_nan hn
theorem nan_0 : nan 0 = false := by decide
theorem nan_inf : nan 9218868437227405312 = false := by decide
theorem plc_0 : plc 0 = 0 := by decide
theorem eqB_zero (x : Nat) : eqB x 0 = zeB x := by
  unfold eqB
  cases hn : nan x
  · rw [order_eqb hn nan_0, plc_0]
    unfold zeB plc sgn
    cases ng x <;> simp
  · rw [f64_double, order_eq, hn, zeB_nan hn]; rfl
theorem plc_mg (x : Nat) : plc (mg x) = mg x := by
  have h := mg_bd x
  have h2 : ng (mg x) = false := by unfold ng; rw [Nat.div_eq_of_lt h]; rfl
  unfold plc; rw [h2, mg_mg]; rfl
theorem zeB_mg (x : Nat) : zeB (mg x) = zeB x := by unfold zeB; rw [mg_mg]
theorem infB_mg (x : Nat) : infB (mg x) = infB x := by unfold infB; rw [mg_mg]
theorem eqB_inf (x : Nat) : eqB (mg x) 9218868437227405312 = infB x := by
  unfold eqB
  cases hn : nan x
  · rw [order_eqb (by rw [nan_mg]; exact hn) nan_inf, plc_mg, show plc 9218868437227405312 = 9218868437227405312 from by decide]
    unfold infB
    by_cases h : mg x = 9218868437227405312
    · rw [decide_eq_true h, h]; rfl
    · rw [decide_eq_false h, decide_eq_false (by omega)]
  · rw [f64_double, order_eq, nan_mg, hn]
    unfold infB; exact (decide_eq_false (fun h => by rw [inf_not_nan h] at hn; cases hn)).symm
theorem ordA_swap (A B : Option Nat) : (ordA B A == some .gt) = ltA A B := by
  unfold ltA ordA
  cases A with
  | none => cases B <;> rfl
  | some x =>
    cases B with
    | none => rfl
    | some y =>
      show (Ieee.double.order y x == some .gt) = (Ieee.double.order x y == some .lt)
      rw [order_eq, order_eq, Bool.or_comm]
      split
      · rfl
      · generalize plc x = u
        generalize plc y = v
        simp only [compare, compareOfLessAndEq]
        rcases Int.lt_trichotomy u v with h | h | h
        · have h1 : ¬ v < u := by omega
          have h2 : ¬ v = u := by omega
          simp [h, h1, h2]
        · subst h; simp
        · have h1 : ¬ u < v := by omega
          have h2 : ¬ u = v := by omega
          simp [h, h1, h2]
theorem rep_num {x : Nat} (h : x < 18446744073709551616) (hn : nan x = false) : rep (some x) x := ⟨h, ans_num hn⟩
theorem rep_one : rep (some 4607182418800017408) 4607182418800017408 := rep_num (by decide) (by decide)
theorem rep_two : rep (some 4611686018427387904) 4611686018427387904 := rep_num (by decide) (by decide)
theorem rep_0 : rep (some 0) 0 := rep_num (by decide) (by decide)
theorem rep_inf : rep (some 9218868437227405312) 9218868437227405312 := rep_num (by decide) (by decide)

theorem inf_1 (w : World) : Calls Try.prog 40 #[.int .i64 1] w fun e w' => e = .returned (.float .f64 9218868437227405312) ∧ w' = w := by
  go_enter Try.func40, Try.ntmps40
  go_wp2
  go_ret
  exact ⟨rfl, rfl⟩
theorem nan_1 (w : World) : Calls Try.prog 39 #[] w fun e w' => e = .returned (.float .f64 9221120237041090561) ∧ w' = w := by
  go_enter Try.func39, Try.ntmps39
  go_wp2
  go_ret
  exact ⟨rfl, rfl⟩
theorem sqrtf_any (x : Nat) (w : World) : Calls Try.prog 56 #[.float .f64 x] w fun e w' => e = .returned (.float .f64 (sqrtV w x)) ∧ w' = w.drewN (fN (sqrtO x)) := by
  go_enter Try.func56, Try.ntmps56
  go_wp2
  go_ret
  exact ⟨rfl, rfl⟩
section two
variable {A B X : Option Nat} {a b x : Nat} (w : World) (ha : rep A a) (hb : rep B b) (hx : rep X x)
include ha hb
theorem size1_any : Calls Try.prog 41 #[.complex .f64 a b] w fun e w' => ∃ r n, e = .returned (.float .f64 r) ∧ rep (addA (sizA A) (sizA B)) r ∧ w' = w.drewN n := by
  have la := ha.1
  have lb := hb.1
  go_enter Try.func41, Try.ntmps41
  go_wp2_with (first
    | (go_at_call 48; refine (apart_any _ _ _).mono ?_; rintro e w' ⟨rfl, rfl⟩)
    | (go_at_call 52; refine (size_any _ _ (by assumption)).mono ?_; rintro e w' ⟨rfl, rfl⟩))
  go_ret
  exact ⟨_, _, rfl, rep_add (rep_sz ha) (rep_sz hb) _, rfl⟩
include hx in
theorem scale_any : Calls Try.prog 63 #[.float .f64 x, .complex .f64 a b] w fun e w' => ∃ re im n, e = .returned (.complex .f64 re im) ∧ rep (mulA X A) re ∧ rep (mulA X B) im ∧ w' = w.drewN n := by
  go_enter Try.func63, Try.ntmps63
  go_wp2_with (first
    | (go_at_call 48; refine (apart_any _ _ _).mono ?_; rintro e w' ⟨rfl, rfl⟩))
  go_ret
  exact ⟨_, _, _, rfl, rep_mul hx ha _, rep_mul hx hb _, rfl⟩
set_option maxHeartbeats 1000000 in
theorem abs_any : Calls Try.prog 18 #[.complex .f64 a b] w fun e w' => ∃ r n, e = .returned (.float .f64 r) ∧ rep (absA A B) r ∧ w' = w.drewN n := by
  have la := ha.1
  have lb := hb.1
  have ho := ordA_of (rep_sz ha) (rep_sz hb)
  have i1 := infA_of ha
  have i2 := infA_of hb
  have z1 := (eqB_zero a).trans (zeA_of ha)
  have z2 := (eqB_zero b).trans (zeA_of hb)
  have h1 := fun W => rep_div (rep_sz hb) (rep_sz ha) W
  have h2 := fun W => rep_div (rep_sz ha) (rep_sz hb) W
  have hone := rep_one
  cases f1 : infA A
  · cases f2 : infA B
    · cases q : (zeA A && zeA B)
      · have q' : (eqB a 0 && eqB b 0) = false := by rw [z1, z2]; exact q
        cases hl : (ordA (sizA A) (sizA B) == some Ordering.lt)
        · have e1 : absA A B = hyp (sizA A) (sizA B) := by unfold absA absG ltA; rw [f1, f2, q, hl]; rfl
          go_enter Try.func18, Try.ntmps18
          go_wp2_with (first
            | (go_at_call 48; refine (apart_any _ _ _).mono ?_; rintro e w' ⟨rfl, rfl⟩)
            | (go_at_call 52; refine (size_any _ _ (by assumption)).mono ?_; rintro e w' ⟨rfl, rfl⟩)
            | (go_at_call 54; refine (infinite_any _ _ (by assumption)).mono ?_; rintro e w' ⟨rfl, rfl⟩)
            | (go_at_call 55; refine (zero_any _ _ _).mono ?_; rw [q']; rintro e w' ⟨rfl, rfl⟩)
            | (go_at_call 56; refine (sqrtf_any _ _).mono ?_; rintro e w' ⟨rfl, rfl⟩))
          go_ret
          refine ⟨_, _, rfl, ?_, rfl⟩
          rw [e1]; unfold hyp
          exact rep_mul (rep_sz ha) (rep_sqrt (rep_add hone (rep_mul (h1 _) (h1 _) _) _) _) _
        · have e1 : absA A B = hyp (sizA B) (sizA A) := by unfold absA absG ltA; rw [f1, f2, q, hl]; rfl
          go_enter Try.func18, Try.ntmps18
          go_wp2_with (first
            | (go_at_call 48; refine (apart_any _ _ _).mono ?_; rintro e w' ⟨rfl, rfl⟩)
            | (go_at_call 52; refine (size_any _ _ (by assumption)).mono ?_; rintro e w' ⟨rfl, rfl⟩)
            | (go_at_call 54; refine (infinite_any _ _ (by assumption)).mono ?_; rintro e w' ⟨rfl, rfl⟩)
            | (go_at_call 55; refine (zero_any _ _ _).mono ?_; rw [q']; rintro e w' ⟨rfl, rfl⟩)
            | (go_at_call 56; refine (sqrtf_any _ _).mono ?_; rintro e w' ⟨rfl, rfl⟩))
          go_ret
          refine ⟨_, _, rfl, ?_, rfl⟩
          rw [e1]; unfold hyp
          exact rep_mul (rep_sz hb) (rep_sqrt (rep_add hone (rep_mul (h2 _) (h2 _) _) _) _) _
      · have q' : (eqB a 0 && eqB b 0) = true := by rw [z1, z2]; exact q
        have e1 : absA A B = some 0 := by unfold absA; rw [f1, f2, q]; rfl
        go_enter Try.func18, Try.ntmps18
        go_wp2_with (first
          | (go_at_call 48; refine (apart_any _ _ _).mono ?_; rintro e w' ⟨rfl, rfl⟩)
          | (go_at_call 54; refine (infinite_any _ _ (by assumption)).mono ?_; rintro e w' ⟨rfl, rfl⟩)
          | (go_at_call 55; refine (zero_any _ _ _).mono ?_; rw [q']; rintro e w' ⟨rfl, rfl⟩))
        go_ret
        exact ⟨_, 0, rfl, by rw [e1]; exact rep_0, (World.drewN_zero _).symm⟩
    · have e1 : absA A B = some 9218868437227405312 := by unfold absA; rw [f1, f2]; rfl
      go_enter Try.func18, Try.ntmps18
      go_wp2_with (first
        | (go_at_call 48; refine (apart_any _ _ _).mono ?_; rintro e w' ⟨rfl, rfl⟩)
        | (go_at_call 54; refine (infinite_any _ _ (by assumption)).mono ?_; rintro e w' ⟨rfl, rfl⟩)
        | (go_at_call 40; refine (inf_1 _).mono ?_; rintro e w' ⟨rfl, rfl⟩))
      go_ret
      exact ⟨_, 0, rfl, by rw [e1]; exact rep_inf, (World.drewN_zero _).symm⟩
  · have e1 : absA A B = some 9218868437227405312 := by unfold absA; rw [f1]; rfl
    go_enter Try.func18, Try.ntmps18
    go_wp2_with (first
      | (go_at_call 48; refine (apart_any _ _ _).mono ?_; rintro e w' ⟨rfl, rfl⟩)
      | (go_at_call 54; refine (infinite_any _ _ (by assumption)).mono ?_; rintro e w' ⟨rfl, rfl⟩)
      | (go_at_call 40; refine (inf_1 _).mono ?_; rintro e w' ⟨rfl, rfl⟩))
    go_ret
    exact ⟨_, 0, rfl, by rw [e1]; exact rep_inf, (World.drewN_zero _).symm⟩
end two

end Go.Proofs.Ytknhmleifofhaaa
