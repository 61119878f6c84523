/-
  SolveNone's walk.
-/
import Derived.Test.YtpaljgbhladceaaSlt
namespace Go.Proofs.Ytpaljgbhladceaa
open Fl RowKit

theorem lh_zero (w : World) (t : TypeId) (M : Nat → Nat → Cw) (o : Nat → Nat) : Lhd (w.alloc (.cells #[.slice none 0 0, .slice none 0 0, .int .i64 0] t)) (.pointer (some ⟨w.heap.size, 0, none⟩)) 0 M o 0 :=
  ⟨none, 0, none, 0, .inr ⟨_, rfl, v3_new w _ _ _ t⟩, rws_nil _ M, fun k hk => absurd hk (by simp [ri])⟩
set_option maxHeartbeats 2000000 in
theorem snone_walk (W : World) (ao : Option Addr) (cap n : Nat) (xs : List Cw) (hn : xs.length = n) (hz : n * 16 ≤ 140737488351232) (hc : Rz W ao xs) (hx : okl xs) :
    Calls Try.prog 3 #[.slice ao n cap] W fun e w' => e = .returned (.bool true) ∧ Below W.heap.size W w' := by
  subst hn
  have HC := hid_o hc
  have HX := hid_o hx
  clear hc hx
  go_enter Try.func3, Try.ntmps3
  go_wp2_with (first
    | (go_at_call 8; (with_reducible refine (numbers_any _ _ xs _ (by omega) HC.out).mono ?_); rintro e w1 ⟨v, rfl, ho, hb⟩; (obtain ⟨A, c, rfl, _, _, hr⟩ := own_rc rfl ho); have HR1 := hid_o hr; have HB1 := hid_o hb; clear hb hr ho)
    | (go_at_call 9; (with_reducible refine (awake10 _).mono ?_); rintro e w2 ⟨rfl, hb⟩; have HR2 := hid_o (HR1.out.below hb); have HB2 := hid_o (bt HB1.out hb); clear hb HR1 HB1)
    | (go_at_call 10; (with_reducible refine (none_any (lh_nil _ (fun _ _ => (0, 0)) (fun _ => 0)) _ _ _ xs rfl (by omega) HR2.out HX.out).mono ?_); rintro e w3 ⟨rfl, hb⟩; have HR3 := hid_o (HR2.out.below hb); have HB3 := hid_o (bt HB2.out hb); clear hb HR2 HB2)
    | (go_at_call 10; (with_reducible refine (none_any (lh_zero w3 _ (fun _ _ => (0, 0)) (fun _ => 0)) _ _ _ xs rfl (by omega) (HR3.out.below (bal _ _)) HX.out).mono ?_); rintro e w4 ⟨rfl, hb⟩; have HB4 := hid_o (bt (ba HB3.out _) hb); clear hb HR3 HB3))
  go_ret
  exact ⟨rfl, HB4.out⟩

end Go.Proofs.Ytpaljgbhladceaa
