/-
  The statements' own awake.
-/
import Derived.Test.YtklbgibhbnijaaaSlr
namespace Go.Proofs.Ytklbgibhbnijaaa
open Fl RowKit

theorem eq_a : ∀ k, k < 2 → eqB (zat (ro 2 (zat [(4611686018427387904, 0), (4607182418800017408, 9223372036854775808)])) k).1 (zat [(4611686018427387904, 0), (4607182418800017408, 0)] k).1 = true ∧ eqB (zat (ro 2 (zat [(4611686018427387904, 0), (4607182418800017408, 9223372036854775808)])) k).2 (zat [(4611686018427387904, 0), (4607182418800017408, 0)] k).2 = true := by
  intro k hk
  match k, hk with
  | 0, _ => exact ⟨by kernel_rfl, by kernel_rfl⟩
  | 1, _ => exact ⟨by kernel_rfl, by kernel_rfl⟩
theorem eq_b : ∀ k, k < 2 → eqB (zat (ro 2 (zat [(13847724429234143232, 9223372036854775808), (4620974692658839552, 0)])) k).1 (zat [(13847724429234143232, 0), (4620974692658839552, 0)] k).1 = true ∧ eqB (zat (ro 2 (zat [(13847724429234143232, 9223372036854775808), (4620974692658839552, 0)])) k).2 (zat [(13847724429234143232, 0), (4620974692658839552, 0)] k).2 = true := by
  intro k hk
  match k, hk with
  | 0, _ => exact ⟨by kernel_rfl, by kernel_rfl⟩
  | 1, _ => exact ⟨by kernel_rfl, by kernel_rfl⟩
theorem keq_a {w : World} {B1 B2 : Nat} (h : Rc w (some ⟨B1, 0, none⟩) (ro 2 (zat [(4611686018427387904, 0), (4607182418800017408, 9223372036854775808)]))) (k : Rc w (some ⟨B2, 0, none⟩) [(4611686018427387904, 0), (4607182418800017408, 0)]) :
    Calls Try.prog 55 #[.slice (some ⟨B1, 0, none⟩) 2 2, .slice (some ⟨B2, 0, none⟩) 2 2] w fun e w' => ∃ m, e = .returned (.bool true) ∧ w' = w.drewN m := kequal_len 2 _ _ 2 2 _ _ w (by decide) (ro_len _ _) rfl h k eq_a
theorem keq_b {w : World} {B1 B2 : Nat} (h : Rc w (some ⟨B1, 0, none⟩) (ro 2 (zat [(13847724429234143232, 9223372036854775808), (4620974692658839552, 0)]))) (k : Rc w (some ⟨B2, 0, none⟩) [(13847724429234143232, 0), (4620974692658839552, 0)]) :
    Calls Try.prog 55 #[.slice (some ⟨B1, 0, none⟩) 2 2, .slice (some ⟨B2, 0, none⟩) 2 2] w fun e w' => ∃ m, e = .returned (.bool true) ∧ w' = w.drewN m := kequal_len 2 _ _ 2 2 _ _ w (by decide) (ro_len _ _) rfl h k eq_b
set_option maxHeartbeats 4000000 in
theorem awake10 (w : World) : Calls Try.prog 24 #[] w fun e w' => e = .returned (.bool true) ∧ Below w.heap.size w w' := by
  have z0 : (FloatKind.f64.format.order 9223372036854775808 0 == some .eq) = true := by kernel_rfl
  have z1 : (FloatKind.f64.format.order 4607182418800017408 4607182418800017408 == some .eq) = true := by kernel_rfl
  go_enter Try.func24, Try.ntmps24
  go_wp2_with (first
    | (go_at_call 52; (with_reducible refine (of10_any _ _ _ _ _).mono ?_); rintro e w1 ⟨rfl, hb⟩; have HR1 := hid_o ((al_rc4 w y2 y1 y4 y3 52 _ rfl).below hb); have HB1 := hid_o (bt (bal w _) hb); clear hb)
    | (go_at_call 14; (with_reducible refine (of_a2 HR1.out).mono ?_); rintro e w2 ⟨p, rfl, hL, hb⟩; have HL := hid_o (hL.below (bal _ (.cells #[.int .i64 0, .int .i64 0] 35))); have HB2 := hid_o (ba (bt HB1.out hb) (.cells #[.int .i64 0, .int .i64 0] 35)); clear hL hb HR1 HB1)
    | (go_at_call 27; (with_reducible refine (sol_a2 (HL.out.below (bal _ _)) (al_rc2 _ (4617315517961601024, 0) (4622382067542392832, 0) 52 _ (by simp))).mono ?_); rintro e w3 ⟨g3, rfl, hr, hb⟩; have HR3 := hid_o hr; have HL3 := hid_o ((HL.out.below (bal _ _)).below hb); have HB3 := hid_o (bt (ba HB2.out _) hb); clear hr hb HL HB2)
    | (go_at_call 53; (with_reducible refine (tra_a2 (HL3.out.below (bal _ _)) (al_rc2 _ (4617315517961601024, 0) (4622382067542392832, 0) 52 _ (by simp))).mono ?_); rintro e w4 ⟨g4, rfl, hr, hb⟩; have HR4 := hid_o hr; have HR34 := hid_o ((HR3.out.below (bal _ _)).below hb); have HL4 := hid_o ((HL3.out.below (bal _ _)).below hb); have HB4 := hid_o (bt (ba HB3.out _) hb); clear hr hb HL3 HB3 HR3)
    | (go_at_call 54; (with_reducible refine (det_a2 HL4.out).mono ?_); rintro e w5 ⟨rfl, hb⟩; have HR5 := hid_o (HR4.out.below hb); have HR35 := hid_o (HR34.out.below hb); have HB5 := hid_o (bt HB4.out hb); clear hb HL4 HB4 HR4 HR34)
    | (go_at_call 55; (with_reducible refine (keq_a (HR35.out.below (bal _ _)) (al_rc2 _ (4611686018427387904, 0) (4607182418800017408, 0) 52 _ (by simp))).mono ?_); rintro e w6 ⟨m6, rfl, hw⟩; subst w6; have HR6 := hid_o ((HR5.out.below (bal _ (.cells #[.complex .f64 4611686018427387904 0, .complex .f64 4607182418800017408 0] 52))).drewN m6); have HB6 := hid_o (below_drewN (ba HB5.out (.cells #[.complex .f64 4611686018427387904 0, .complex .f64 4607182418800017408 0] 52)) m6); clear HR5 HR35 HB5)
    | (go_at_call 55; (with_reducible refine (keq_b (HR6.out.below (bal _ _)) (al_rc2 _ (13847724429234143232, 0) (4620974692658839552, 0) 52 _ (by simp))).mono ?_); rintro e w7 ⟨m7, rfl, hw⟩; subst w7; have HB7 := hid_o (below_drewN (ba HB6.out (.cells #[.complex .f64 13847724429234143232 0, .complex .f64 4620974692658839552 0] 52)) m7); clear HR6 HB6))
  go_ret
  exact ⟨rfl, HB7.out⟩

end Go.Proofs.Ytklbgibhbnijaaa
