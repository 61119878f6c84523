/-
  What refine's unfit and bettered hand back.
-/
import Derived.Test.YtiohceelphpifaaRfj
import Derived.Test.YtiohceelphpifaaSlg
namespace Go.Proofs.Ytiohceelphpifaa
open Fl RowKit

section held
variable {w : World} {v : Value} {n : Nat} {M : Nat → Nat → Cw} {o : Nat → Nat}
set_option maxHeartbeats 4000000 in
theorem unfit_none (h : Lhd w v n M o 0) (R C : Int) (A : Option Addr) (l c : Nat) : Calls Try.prog 44 #[.agg #[.int .i64 R, .int .i64 C, .slice A l c], v] w fun e w' => e = .returned (.int .i64 1) ∧ Below w.heap.size w w' := by
  have HH := hid_o (h.below (bal w (.cells #[.int .i64 R, .int .i64 C, .slice A l c] 28)))
  clear h
  go_enter Try.func44, Try.ntmps44
  go_wp2_with (go_at_call 68; (with_reducible refine (lh_sign HH.out).mono ?_); rintro e w1 ⟨rfl, hb⟩; have HB := hid_o ((bal w _).trans (hb.mono (by simp))); clear hb)
  go_ret
  exact ⟨rfl, HB.out⟩
set_option maxHeartbeats 4000000 in
theorem unfit_ok {s : Int} (h : Lhd w v n M o s) (hs : ¬ s = 0) (A : Option Addr) (l c : Nat) : Calls Try.prog 44 #[.agg #[.int .i64 n, .int .i64 n, .slice A l c], v] w fun e w' => e = .returned (.int .i64 0) ∧ Below w.heap.size w w' := by
  have HH := hid_o (h.below (bal w (.cells #[.int .i64 n, .int .i64 n, .slice A l c] 28)))
  have V0 := hid_o (v3_new w (.int .i64 n) (.int .i64 n) (.slice A l c) 28)
  have hd : ((n : Int) == (n : Int)) = true := by simp
  have hd2 : ((n : Int) != (n : Int)) = false := by simp
  clear h
  go_enter Try.func44, Try.ntmps44
  go_wp2_with (go_at_call 68; (with_reducible refine (lh_sign HH.out).mono ?_); rintro e w1 ⟨rfl, hb⟩; have HB := hid_o ((bal w _).trans (hb.mono (by simp))); have HH1 := hid_o (HH.out.below hb); have V1 := V0.out.below hb; have HV := hid_o V1; obtain ⟨ql, q0, q1, q2, q3, q4, q5⟩ := V1; clear hb)
  have d1 : ∀ k, (w1.drewN k).cell? ⟨w.heap.size, 0, none⟩ = some (.int .i64 n) := fun k => q0
  go_region_with (first
    | (go_at_call 69; (with_reducible refine (lh_size (HH1.out.below (Below.refl _ _).drew)).mono ?_); rintro e w2 ⟨rfl, hb2⟩; have V2 := (HV.out.below (Below.refl _ _).drew).below hb2; have HV2 := hid_o V2; have HH2 := hid_o ((HH1.out.below (Below.refl _ _).drew).below hb2); have HB2 := hid_o (HB.out.drew.trans (hb2.mono HB.out.size)); obtain ⟨rl, r0, r1, r2, r3, r4, r5⟩ := V2; clear hb2)
    | (go_at_call 69; (with_reducible refine (lh_size HH2.out).mono ?_); rintro e w3 ⟨rfl, hb3⟩; have HB3 := hid_o (HB2.out.trans (hb3.mono HB2.out.size)); have V3' := HV2.out.below hb3; obtain ⟨sl, s0, s1, s2, s3, s4, s5⟩ := V3'; clear hb3))
  all_goals go_wp2
  all_goals go_ret
  all_goals exact ⟨rfl, HB3.out⟩
end held
end Go.Proofs.Ytiohceelphpifaa
