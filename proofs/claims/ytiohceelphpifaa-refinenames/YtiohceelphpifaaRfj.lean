/-
  What refine's Left refuses.
-/
import Derived.Test.YtiohceelphpifaaRfi
namespace Go.Proofs.Ytiohceelphpifaa
open Fl RowKit

set_option maxHeartbeats 4000000 in
theorem left_err4 (R C : Int) (A X B : Option Addr) (n lx lb ca cx' cb : Nat) (w : World) (hn : n ≤ 1000000000000000) (h : ¬ (mb R C n = true ∧ (lx : Int) = C ∧ (lb : Int) = R)) :
    Calls Try.prog 12 #[.agg #[.int .i64 R, .int .i64 C, .slice A n ca], .slice X lx cx', .slice B lb cb] w fun e w' => e = .returned (.tuple #[.slice none 0 0, .int .i64 4]) ∧ Below w.heap.size w w' := by
  cases hm : mb R C n
  · clear h
    go_enter Try.func12, Try.ntmps12
    go_wp2_with (go_at_call 33; refine (mcheck _ _ _ _ _ _ hn).mono ?_; rintro e w1 ⟨rfl, hb1⟩; rw [hm]; have B1 : Below w.heap.size w w1 := (bal _ _).trans (hb1.mono (by simp)); have HB1 := hid_o B1; clear hb1 B1)
    go_ret2
    exact ⟨rfl, HB1.out⟩
  · rw [hm] at h
    have HM := hid_o hm
    clear hm
    by_cases h1 : (lx : Int) = C
    · have h2 : ¬ (lb : Int) = R := fun h2 => h ⟨rfl, h1, h2⟩
      clear h
      go_enter Try.func12, Try.ntmps12
      go_wp2_with (go_at_call 33; refine (mcheck _ _ _ _ _ _ hn).mono ?_; rintro e w1 ⟨rfl, hb1⟩; rw [HM.out]; have V1 := (v3_new w _ _ _ _).below hb1; have B1 : Below w.heap.size w w1 := (bal _ _).trans (hb1.mono (by simp)); have HB1 := hid_o B1; obtain ⟨ql, q0, q1, q2, q3, q4, q5⟩ := V1; clear hb1 B1)
      go_ret2
      exact ⟨rfl, HB1.out⟩
    · clear h
      go_enter Try.func12, Try.ntmps12
      go_wp2_with (go_at_call 33; refine (mcheck _ _ _ _ _ _ hn).mono ?_; rintro e w1 ⟨rfl, hb1⟩; rw [HM.out]; have V1 := (v3_new w _ _ _ _).below hb1; have B1 : Below w.heap.size w w1 := (bal _ _).trans (hb1.mono (by simp)); have HB1 := hid_o B1; obtain ⟨ql, q0, q1, q2, q3, q4, q5⟩ := V1; clear hb1 B1)
      go_ret2
      exact ⟨rfl, HB1.out⟩
set_option maxHeartbeats 8000000 in
theorem left_err5 (R C : Nat) (A X B : Option Addr) (ca cx' cb : Nat) (data xs bs : List Cw) (w : World) (hR : R ≤ 64) (hC : C ≤ 64) (hd : data.length = R * C) (hx : xs.length = C) (hb : bs.length = R)
    (rd : Rc w A data) (rx : Rc w X xs) (rb : Rc w B bs) (od : okl data) (ox : okl xs) (ob : okl bs) (hf : ¬ (finL data (R * C) = true ∧ finL xs C = true ∧ finL bs R = true)) :
    Calls Try.prog 12 #[.agg #[.int .i64 R, .int .i64 C, .slice A (R * C) ca], .slice X C cx', .slice B R cb] w fun e w' => e = .returned (.tuple #[.slice none 0 0, .int .i64 5]) ∧ Below w.heap.size w w' := by
  have h4 := le_4096 hR hC
  have hmb : mb R C (R * C) = true := by unfold mb; simp; omega
  obtain ⟨N, hne⟩ : ∃ N, N = R * C := ⟨_, rfl⟩
  rw [← hne] at h4 hd hf hmb ⊢
  have HMB := hid_o hmb
  have HD := hid_o rd.rcb
  have HX := hid_o rx.rcb
  have HB := hid_o rb.rcb
  have HDO := hid_o od
  have HXO := hid_o ox
  have HBO := hid_o ob
  have HDL := hid_o hd
  have HXL := hid_o hx
  have HBL := hid_o hb
  clear hne hmb rd rx rb od ox ob hd hx hb
  cases f1 : finL data N <;> cases f2 : finL xs C <;> cases f3 : finL bs R
  case true.true.true => exact absurd ⟨f1, f2, f3⟩ hf
  all_goals
    have F1 := hid_o f1
    have F2 := hid_o f2
    have F3 := hid_o f3
    clear f1 f2 f3 hf
    go_enter Try.func12, Try.ntmps12
    go_wp2_with (first
      | (go_at_call 33; refine (mcheck _ _ _ _ _ _ (by omega)).mono ?_; rintro e w1 ⟨rfl, hb1⟩; rw [HMB.out]; have V1 := (v3_new w _ _ _ _).below hb1; have B1 : Below w.heap.size w w1 := (bal _ _).trans (hb1.mono (by simp)); have HB1 := hid_o B1; obtain ⟨ql, q0, q1, q2, q3, q4, q5⟩ := V1; clear hb1 B1)
      | (go_at_call 34; (with_reducible refine (rallfin_any A ca N data w1 HDL.out (by omega) ((HD.out.later HB1.out).rc HB1.out.size) HDO.out).mono ?_); rintro e w' ⟨rfl, hw'⟩; subst w'; rw [F1.out])
      | (go_at_call 34; (with_reducible refine (rallfin_any X cx' C xs w1 HXL.out (by omega) ((HX.out.later HB1.out).rc HB1.out.size) HXO.out).mono ?_); rintro e w' ⟨rfl, hw'⟩; subst w'; rw [F2.out])
      | (go_at_call 34; (with_reducible refine (rallfin_any B cb R bs w1 HBL.out (by omega) ((HB.out.later HB1.out).rc HB1.out.size) HBO.out).mono ?_); rintro e w' ⟨rfl, hw'⟩; subst w'; rw [F3.out]))
    go_ret2
    exact ⟨rfl, HB1.out⟩
end Go.Proofs.Ytiohceelphpifaa
