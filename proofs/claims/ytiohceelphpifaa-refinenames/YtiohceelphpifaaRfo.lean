/-
  What refine's Once hands back where nothing is refused; what Once and Until refuse ahead of all.
-/
import Derived.Test.YtiohceelphpifaaRfm
namespace Go.Proofs.Ytiohceelphpifaa
open Fl RowKit

set_option maxHeartbeats 4000000 in
theorem once_none {w : World} {v : Value} {n : Nat} {M : Nat → Nat → Cw} {o : Nat → Nat} (h : Lhd w v n M o 0) (R C : Int) (A X B : Option Addr) (l c lx cx' lb cb : Nat) :
    Calls Try.prog 27 #[.agg #[.int .i64 R, .int .i64 C, .slice A l c], v, .slice X lx cx', .slice B lb cb] w fun e w' => e = .returned (.tuple #[.slice none 0 0, .int .i64 1]) ∧ Below w.heap.size w w' := by
  have HH := hid_o (h.below (bal w (.cells #[.int .i64 R, .int .i64 C, .slice A l c] 28)))
  clear h
  go_enter Try.func27, Try.ntmps27
  go_wp2_with (go_at_call 44; (with_reducible refine (unfit_none HH.out _ _ _ _ _).mono ?_); rintro e w1 ⟨rfl, hb⟩; have HB := hid_o ((bal w _).trans (hb.mono (by simp))); clear hb)
  go_ret2
  exact ⟨rfl, HB.out⟩
set_option maxHeartbeats 4000000 in
theorem until_none {w : World} {v : Value} {n : Nat} {M : Nat → Nat → Cw} {o : Nat → Nat} (h : Lhd w v n M o 0) (R C : Int) (A X B : Option Addr) (l c lx cx' lb cb : Nat) (most : Int) :
    Calls Try.prog 20 #[.agg #[.int .i64 R, .int .i64 C, .slice A l c], v, .slice X lx cx', .slice B lb cb, .int .i64 most] w fun e w' => e = .returned (.tuple #[.slice none 0 0, .int .i64 0, .int .i64 1]) ∧ Below w.heap.size w w' := by
  have HH := hid_o (h.below (bal w (.cells #[.int .i64 R, .int .i64 C, .slice A l c] 28)))
  clear h
  go_enter Try.func20, Try.ntmps20
  go_wp2_with (go_at_call 44; (with_reducible refine (unfit_none HH.out _ _ _ _ _).mono ?_); rintro e w1 ⟨rfl, hb⟩; have HB := hid_o ((bal w _).trans (hb.mono (by simp))); clear hb)
  go_ret3
  exact ⟨rfl, HB.out⟩
set_option maxHeartbeats 4000000 in
theorem until_arg {w : World} {v : Value} {n : Nat} {M : Nat → Nat → Cw} {o : Nat → Nat} {s : Int} (h : Lhd w v n M o s) (hs : ¬ s = 0) (A X B : Option Addr) (l c lx cx' lb cb : Nat) (most : Int) (hm : most < 0 ∨ 64 < most) :
    Calls Try.prog 20 #[.agg #[.int .i64 n, .int .i64 n, .slice A l c], v, .slice X lx cx', .slice B lb cb, .int .i64 most] w fun e w' => e = .returned (.tuple #[.slice none 0 0, .int .i64 0, .int .i64 2]) ∧ Below w.heap.size w w' := by
  have HH := hid_o (h.below (bal w (.cells #[.int .i64 n, .int .i64 n, .slice A l c] 28)))
  have HS := hid_o hs
  clear h hs
  rcases hm with hm | hm
  all_goals
    go_enter Try.func20, Try.ntmps20
    go_wp2_with (go_at_call 44; (with_reducible refine (unfit_ok HH.out HS.out _ _ _).mono ?_); rintro e w1 ⟨rfl, hb⟩; have HB := hid_o ((bal w _).trans (hb.mono (by simp))); clear hb)
    go_ret3
    exact ⟨rfl, HB.out⟩
set_option maxHeartbeats 4000000 in
theorem once_y {N Q ca cx' cb : Nat} {A X B : Option Addr} {data xs bs : List Cw} {M : Nat → Nat → Cw} {o : Nat → Nat} {s : Int} {v : Value} {w : World} (h : Lhd w v N M o s) (hs : ¬ s = 0) (hM : okM N M) (ho : ∀ i, i < N → o i < N) (hN : N ≤ 64) (hQ : Q = N * N) (hcap : Q ≤ ca) (hA : A = none ∧ ca = 0 ∨ ∃ g off, A = some ⟨g, off, none⟩) (hd : Gd Q data) (hx : Gd N xs) (hb : Gd N bs) (rd : Rc w A data) (rx : Rc w X xs) (rb : Rc w B bs) (hk : lfK N data xs bs = true) (hk2 : btK N M o xs (lfL N data xs bs) = true) :
    Calls Try.prog 27 #[.agg #[.int .i64 N, .int .i64 N, .slice A Q ca], v, .slice X N cx', .slice B N cb] w fun e w' => ∃ g, e = .returned (.tuple #[.slice (some ⟨g, 0, none⟩) N N, .int .i64 0]) ∧ Rw w' w.heap.size (.slice (some ⟨g, 0, none⟩) N N) N (btL N M o xs (lfL N data xs bs)) ∧ Below w.heap.size w w' := by
  have HU : Hid (∀ W : World, Below w.heap.size w W → Lhd W v N M o s) := fun W hW => h.below hW
  have HL : Hid (∀ W : World, Below w.heap.size w W → Calls Try.prog 12 #[.agg #[.int .i64 N, .int .i64 N, .slice A Q ca], .slice X N cx', .slice B N cb] W fun e w' => ∃ g, e = .returned (.tuple #[.slice (some ⟨g, 0, none⟩) N N, .int .i64 0]) ∧ Rw w' W.heap.size (.slice (some ⟨g, 0, none⟩) N N) N (lfL N data xs bs) ∧ Gd N (lfL N data xs bs) ∧ Below W.heap.size W w') := fun W hW => by
    subst hQ; exact left_y hN hcap hA hd hx hb (rd.below hW) (rx.below hW) (rb.below hW) hk
  have HS := hid_o hs
  have HMM := hid_o hM
  have HOO := hid_o ho
  have HX := hid_o hx
  have RX := hid_o rx
  have HK := hid_o hk2
  have V0 := hid_o (v3_new w (.int .i64 N) (.int .i64 N) (.slice A Q ca) 28)
  obtain ⟨ls, hls⟩ : ∃ l, l = lfL N data xs bs := ⟨_, rfl⟩
  rw [← hls] at HL HK ⊢
  clear h hs hM ho hcap hA hd hx hb rd rx rb hk hQ hk2 hls
  go_enter Try.func27, Try.ntmps27
  go_wp2_with (first
    | (go_at_call 44; refine (unfit_ok (HU.out _ (bal w _)) HS.out A Q ca).mono ?_; rintro e w1 ⟨rfl, hb1⟩; have V1 := V0.out.below hb1; have B1 := hid_o ((bal w _).trans (hb1.mono (by simp))); obtain ⟨ql, q0, q1, q2, q3, q4, q5⟩ := V1; clear hb1 V0)
    | (go_at_call 12; (with_reducible refine (HL.out _ B1.out).mono ?_); rintro e w2 ⟨gl, rfl, hrl, hgl, hb2⟩; have HRL := hid_o hrl; have HGL := hid_o hgl; have B2 := hid_o (B1.out.trans (hb2.mono B1.out.size)); clear hrl hgl hb2)
    | (go_at_call 45; (with_reducible refine (better_y (HU.out _ B2.out) HS.out hN HX.out HGL.out (RX.out.below B2.out) HRL.out.rc HMM.out HOO.out HK.out).mono ?_); rintro e w3 ⟨g3, rfl, hr3, hg3, hb3⟩; have HR3 := hid_o hr3; have HB3 := hid_o hb3; clear hr3 hg3 hb3))
  go_ret2
  exact ⟨g3, rfl, rw_base HR3.out B2.out.size, B2.out.trans (HB3.out.mono B2.out.size)⟩
end Go.Proofs.Ytiohceelphpifaa
