/-
  What is none: everything is refused.
-/
import Derived.Test.YtpaljgbhladceaaSls
import Derived.Test.YtpaljgbhladceaaBnb
namespace Go.Proofs.Ytpaljgbhladceaa
open Fl RowKit

theorem many_none {w : World} {v : Value} {n : Nat} {M : Nat → Nat → Cw} {o : Nat → Nat} (h : Lhd w v n M o 0) (R C : Int) (A : Option Addr) (l c : Nat) :
    Calls Try.prog 35 #[v, .agg #[.int .i64 R, .int .i64 C, .slice A l c]] w fun e w' => e = .returned (.tuple #[.agg #[.int .i64 0, .int .i64 0, .slice none 0 0], .int .i64 1]) ∧ Below w.heap.size w w' := by
  have HH := hid_o h
  clear h
  go_enter Try.func35, Try.ntmps35
  go_wp2_with (go_at_call 60; (with_reducible refine (isnone_any (HH.out.below (by repeat first | exact below_self _ | refine ba ?_ _)) true rfl).mono ?_); rintro e w1 ⟨rfl, hb⟩; (have Vr : V3 (w.heap.size + 1) (.int .i64 0) (.int .i64 0) (.slice none 0 0) w1 := V3.below (by repeat first | exact v3_at _ _ _ _ _ (by first | rfl | (simp only [size_al]; first | done | omega)) | refine V3.below ?_ (bal _ _)) hb); (have HB : Hid (Below w.heap.size w w1) := b_of (by repeat first | exact below_self _ | refine ba ?_ _ ) hb (by simp; try omega)); (have HV := hid_o Vr); (obtain ⟨vl, q0, q1, q2, q3, q4, q5⟩ := Vr); clear hb)
  obtain ⟨m0, m1, m2⟩ := HV.out.reads
  refine bodyPost_ret (by simp [results, Try.results35, go_sem, m0, m1, m2]; try rfl) rfl ?_
  exact ⟨rfl, below_set3 HB.out (by omega) _ _ _⟩
set_option maxHeartbeats 2000000 in
theorem none_any {w : World} {v : Value} {M : Nat → Nat → Cw} {o : Nat → Nat} (h : Lhd w v 0 M o 0) (ao : Option Addr) (l cap : Nat) (xs : List Cw) (hl : xs.length = l) (hsz : l ≤ 1000000000000000) (hc : Rc w ao xs) (hx : okl xs) :
    Calls Try.prog 10 #[v, .slice ao l cap] w fun e w' => e = .returned (.bool true) ∧ Below w.heap.size w w' := by
  have hE : rfS 0 0 l xs = 1 := if_pos rfl
  have z0 : (FloatKind.f64.format.order 0 0 == some .eq) = true := by kernel_rfl
  have HS := hid_o (fun (W : World) (hW : Below w.heap.size w W) => solve_err (cap := cap) (h.below hW) hl hsz (by omega) (hc.below hW) hx (by rw [hE]; decide))
  have HT := hid_o (fun (W : World) (hW : Below w.heap.size w W) => trans_err (cap := cap) (h.below hW) hl hsz (by omega) (hc.below hW) hx (by rw [hE]; decide))
  rw [hE] at HS HT
  have HH := hid_o h
  clear h hc hx hl hE
  go_enter Try.func10, Try.ntmps10
  go_wp2_with (first
    | (go_at_call 14; (with_reducible refine (HS.out _ (below_self _)).mono ?_); rintro e w1 ⟨rfl, hb⟩; have HB1 := hid_o hb; clear hb)
    | (go_at_call 28; (with_reducible refine (HT.out _ HB1.out).mono ?_); rintro e w2 ⟨rfl, hb⟩; have HB2 := hid_o (bt HB1.out hb); clear hb)
    | (go_at_call 35; (with_reducible refine (many_none (HH.out.below HB2.out) _ _ _ _ _).mono ?_); rintro e w3 ⟨rfl, hb⟩; have HB3 := hid_o (bt HB2.out hb); clear hb)
    | (go_at_call 29; (with_reducible refine (det_none (HH.out.below (ba HB3.out _)) rfl).mono ?_); rintro e w4 ⟨rfl, hb⟩; have HV := hid_o ((v3_new w3 (.int .i64 0) (.int .i64 0) (.slice none 0 0) 39).below hb); (have HB4 := hid_o (bt (ba HB3.out _) hb)); (obtain ⟨vl, q0, q1, q2, q3, q4, q5⟩ := HV.out); clear hb))
  go_ret
  exact ⟨rfl, HB4.out⟩

end Go.Proofs.Ytpaljgbhladceaa
