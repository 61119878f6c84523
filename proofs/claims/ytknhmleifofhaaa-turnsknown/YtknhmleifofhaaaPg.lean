/-
  What Sqrt of package parts, and of gridworkref02, hands back, whatever it is called with: by one function on answers.
-/
import Derived.Test.YtknhmleifofhaaaPf
namespace Go.Proofs.Ytknhmleifofhaaa
open Fl

section two
variable {A B : Option Nat} {a b : Nat} (w : World) (ha : rep A a) (hb : rep B b)
include ha hb
set_option maxHeartbeats 2000000 in
theorem sqrt_any : Calls Try.prog 20 #[.complex .f64 a b] w fun e w' => ∃ re im n, e = .returned (.complex .f64 re im) ∧ rep (sqRe A B) re ∧ rep (sqIm A B) im ∧ w' = w.drewN n := by
  have la := ha.1
  have lb := hb.1
  have hnn : rep none 9221120237041090561 := ⟨by decide, ans_nan (by decide)⟩
  have z1 := (eqB_zero a).trans (zeA_of ha)
  have z2 := (eqB_zero b).trans (zeA_of hb)
  have k1 := isNone_of ha
  have k2 := isNone_of hb
  have h2 := rep_two
  cases q : (zeA A && zeA B)
  · have q' : (eqB a 0 && eqB b 0) = false := by rw [z1, z2]; exact q
    cases n1 : nan a
    · cases n2 : nan b
      · have o1 := order_num n1
        have o2 := order_num n2
        have ho := ordA_of ha rep_0
        cases e1 : (ordA A (some 0) == some Ordering.gt)
        · cases e2 : (ordA A (some 0) == some Ordering.eq)
          · have hg : geA A (some 0) = false := by unfold geA; rw [e1, e2]; rfl
            have hp := pos_sqV (B := B) ha n1 hg
            have s1 : sqRe A B = sizA (divA B (mulA (some 4611686018427387904) (sqV A B))) := by unfold sqRe; rw [k1, k2, n1, n2, q, hg]; rfl
            have s2 : sqIm A B = if sgA B then negA (sqV A B) else sqV A B := by unfold sqIm; rw [k1, k2, n1, n2, q, hg]; rfl
            have s3 : sgA B = ng b := by obtain ⟨_, rfl⟩ := hb; rw [ans_num n2]; rfl
            rw [s3] at s2
            clear z1 z2 k1 k2
            go_enter Try.func20, Try.ntmps20
            go_wp2_with (first
                | (go_at_call 48; refine (apart_any _ _ _).mono ?_; rintro e w' ⟨rfl, rfl⟩)
                | (go_at_call 52; refine (size_any _ _ (rep_divV _ _ _).1).mono ?_; rintro e w' ⟨rfl, rfl⟩)
                | (go_at_call 55; refine (zero_any _ _ _).mono ?_; rw [q']; rintro e w' ⟨rfl, rfl⟩)
                | (go_at_call 18; refine (abs_any _ ha hb).mono ?_; rintro e w' ⟨m, n, rfl, hm, rfl⟩)
                | (go_at_call 39; refine (nan_1 _).mono ?_; rintro e w' ⟨rfl, rfl⟩)
                | (go_at_call 38; refine (copysign_any _ _ _ (rep_sqrtV _ _).1 (by assumption)).mono ?_; rintro e w' ⟨rfl, rfl⟩)
                | (go_at_call 56; refine (sqrtf_any _ _).mono ?_; rintro e w' ⟨rfl, rfl⟩))
            go_ret
            refine ⟨_, _, _, rfl, ?_, ?_, rfl⟩
            · rw [s1]; unfold sqV
              exact rep_sz (rep_div hb (rep_mul h2 (rep_sqrt (rep_sub (rep_div hm h2 _) (rep_div ha h2 _) _) _) _) _)
            · rw [s2]
              exact rep_cs (rep_sqrt (rep_sub (rep_div hm h2 _) (rep_div ha h2 _) _) _) hp _
          · have hg : geA A (some 0) = true := by unfold geA; rw [e1, e2]; rfl
            have s1 : sqRe A B = sqU A B := by unfold sqRe; rw [k1, k2, n1, n2, q, hg]; rfl
            have s2 : sqIm A B = divA B (mulA (some 4611686018427387904) (sqU A B)) := by unfold sqIm; rw [k1, k2, n1, n2, q, hg]; rfl
            clear z1 z2 k1 k2
            go_enter Try.func20, Try.ntmps20
            go_wp2_with (first
                | (go_at_call 48; refine (apart_any _ _ _).mono ?_; rintro e w' ⟨rfl, rfl⟩)
                | (go_at_call 52; refine (size_any _ _ (rep_divV _ _ _).1).mono ?_; rintro e w' ⟨rfl, rfl⟩)
                | (go_at_call 55; refine (zero_any _ _ _).mono ?_; rw [q']; rintro e w' ⟨rfl, rfl⟩)
                | (go_at_call 18; refine (abs_any _ ha hb).mono ?_; rintro e w' ⟨m, n, rfl, hm, rfl⟩)
                | (go_at_call 39; refine (nan_1 _).mono ?_; rintro e w' ⟨rfl, rfl⟩)
                | (go_at_call 38; refine (copysign_any _ _ _ (rep_sqrtV _ _).1 (by assumption)).mono ?_; rintro e w' ⟨rfl, rfl⟩)
                | (go_at_call 56; refine (sqrtf_any _ _).mono ?_; rintro e w' ⟨rfl, rfl⟩))
            go_ret
            refine ⟨_, _, _, rfl, ?_, ?_, rfl⟩
            · rw [s1]; unfold sqU
              exact rep_sqrt (rep_add (rep_div hm h2 _) (rep_div ha h2 _) _) _
            · rw [s2]; unfold sqU
              exact rep_div hb (rep_mul h2 (rep_sqrt (rep_add (rep_div hm h2 _) (rep_div ha h2 _) _) _) _) _
        · have hg : geA A (some 0) = true := by unfold geA; rw [e1]; rfl
          have s1 : sqRe A B = sqU A B := by unfold sqRe; rw [k1, k2, n1, n2, q, hg]; rfl
          have s2 : sqIm A B = divA B (mulA (some 4611686018427387904) (sqU A B)) := by unfold sqIm; rw [k1, k2, n1, n2, q, hg]; rfl
          clear z1 z2 k1 k2
          go_enter Try.func20, Try.ntmps20
          go_wp2_with (first
              | (go_at_call 48; refine (apart_any _ _ _).mono ?_; rintro e w' ⟨rfl, rfl⟩)
              | (go_at_call 52; refine (size_any _ _ (rep_divV _ _ _).1).mono ?_; rintro e w' ⟨rfl, rfl⟩)
              | (go_at_call 55; refine (zero_any _ _ _).mono ?_; rw [q']; rintro e w' ⟨rfl, rfl⟩)
              | (go_at_call 18; refine (abs_any _ ha hb).mono ?_; rintro e w' ⟨m, n, rfl, hm, rfl⟩)
              | (go_at_call 39; refine (nan_1 _).mono ?_; rintro e w' ⟨rfl, rfl⟩)
              | (go_at_call 38; refine (copysign_any _ _ _ (rep_sqrtV _ _).1 (by assumption)).mono ?_; rintro e w' ⟨rfl, rfl⟩)
              | (go_at_call 56; refine (sqrtf_any _ _).mono ?_; rintro e w' ⟨rfl, rfl⟩))
          go_ret
          refine ⟨_, _, _, rfl, ?_, ?_, rfl⟩
          · rw [s1]; unfold sqU
            exact rep_sqrt (rep_add (rep_div hm h2 _) (rep_div ha h2 _) _) _
          · rw [s2]; unfold sqU
            exact rep_div hb (rep_mul h2 (rep_sqrt (rep_add (rep_div hm h2 _) (rep_div ha h2 _) _) _) _) _
      · have o1 := order_num n1
        have o2 := order_nan n2
        have s1 : sqRe A B = none := by unfold sqRe; rw [k1, k2, n1, n2]; rfl
        have s2 : sqIm A B = none := by unfold sqIm; rw [k1, k2, n1, n2]; rfl
        clear z1 z2 k1 k2
        go_enter Try.func20, Try.ntmps20
        go_wp2_with (first
            | (go_at_call 48; refine (apart_any _ _ _).mono ?_; rintro e w' ⟨rfl, rfl⟩)
            | (go_at_call 52; refine (size_any _ _ (rep_divV _ _ _).1).mono ?_; rintro e w' ⟨rfl, rfl⟩)
            | (go_at_call 55; refine (zero_any _ _ _).mono ?_; rw [q']; rintro e w' ⟨rfl, rfl⟩)
            | (go_at_call 18; refine (abs_any _ ha hb).mono ?_; rintro e w' ⟨m, n, rfl, hm, rfl⟩)
            | (go_at_call 39; refine (nan_1 _).mono ?_; rintro e w' ⟨rfl, rfl⟩)
            | (go_at_call 38; refine (copysign_any _ _ _ (rep_sqrtV _ _).1 (by assumption)).mono ?_; rintro e w' ⟨rfl, rfl⟩)
            | (go_at_call 56; refine (sqrtf_any _ _).mono ?_; rintro e w' ⟨rfl, rfl⟩))
        go_ret
        exact ⟨_, _, 0, rfl, by rw [s1]; exact hnn, by rw [s2]; exact hnn, (World.drewN_zero _).symm⟩
    · have o1 := order_nan n1
      have s1 : sqRe A B = none := by unfold sqRe; rw [k1, k2, n1]; rfl
      have s2 : sqIm A B = none := by unfold sqIm; rw [k1, k2, n1]; rfl
      clear z1 z2 k1 k2
      go_enter Try.func20, Try.ntmps20
      go_wp2_with (first
          | (go_at_call 48; refine (apart_any _ _ _).mono ?_; rintro e w' ⟨rfl, rfl⟩)
          | (go_at_call 52; refine (size_any _ _ (rep_divV _ _ _).1).mono ?_; rintro e w' ⟨rfl, rfl⟩)
          | (go_at_call 55; refine (zero_any _ _ _).mono ?_; rw [q']; rintro e w' ⟨rfl, rfl⟩)
          | (go_at_call 18; refine (abs_any _ ha hb).mono ?_; rintro e w' ⟨m, n, rfl, hm, rfl⟩)
          | (go_at_call 39; refine (nan_1 _).mono ?_; rintro e w' ⟨rfl, rfl⟩)
          | (go_at_call 38; refine (copysign_any _ _ _ (rep_sqrtV _ _).1 (by assumption)).mono ?_; rintro e w' ⟨rfl, rfl⟩)
          | (go_at_call 56; refine (sqrtf_any _ _).mono ?_; rintro e w' ⟨rfl, rfl⟩))
      go_ret
      exact ⟨_, _, 0, rfl, by rw [s1]; exact hnn, by rw [s2]; exact hnn, (World.drewN_zero _).symm⟩
  · have q' : (eqB a 0 && eqB b 0) = true := by rw [z1, z2]; exact q
    have n1 : nan a = false := by
      cases h : nan a
      · rfl
      · rw [eqB_zero a, zeB_nan h, Bool.false_and] at q'; cases q'
    have n2 : nan b = false := by
      cases h : nan b
      · rfl
      · rw [eqB_zero b, zeB_nan h, Bool.and_false] at q'; cases q'
    have o1 := order_num n1
    have o2 := order_num n2
    have s1 : sqRe A B = some 0 := by unfold sqRe; rw [k1, k2, n1, n2, q]; rfl
    have s2 : sqIm A B = B := by unfold sqIm; rw [k1, k2, n1, n2, q]; rfl
    clear z1 z2 k1 k2
    go_enter Try.func20, Try.ntmps20
    go_wp2_with (first
        | (go_at_call 48; refine (apart_any _ _ _).mono ?_; rintro e w' ⟨rfl, rfl⟩)
        | (go_at_call 52; refine (size_any _ _ (rep_divV _ _ _).1).mono ?_; rintro e w' ⟨rfl, rfl⟩)
        | (go_at_call 55; refine (zero_any _ _ _).mono ?_; rw [q']; rintro e w' ⟨rfl, rfl⟩)
        | (go_at_call 18; refine (abs_any _ ha hb).mono ?_; rintro e w' ⟨m, n, rfl, hm, rfl⟩)
        | (go_at_call 39; refine (nan_1 _).mono ?_; rintro e w' ⟨rfl, rfl⟩)
        | (go_at_call 38; refine (copysign_any _ _ _ (rep_sqrtV _ _).1 (by assumption)).mono ?_; rintro e w' ⟨rfl, rfl⟩)
        | (go_at_call 56; refine (sqrtf_any _ _).mono ?_; rintro e w' ⟨rfl, rfl⟩))
    go_ret
    exact ⟨_, _, 0, rfl, by rw [s1]; exact rep_0, by rw [s2]; exact hb, (World.drewN_zero _).symm⟩
end two

end Go.Proofs.Ytknhmleifofhaaa
