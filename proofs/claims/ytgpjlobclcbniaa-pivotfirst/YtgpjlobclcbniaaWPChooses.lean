/-
  The walk of PivotChooses.
-/
import Derived.Test.YtgpjlobclcbniaaXe
import Derived.Test.YtgpjlobclcbniaaXf
import Derived.Test.YtgpjlobclcbniaaMe
namespace Go.Proofs.Ytgpjlobclcbniaa
open Fl RowKit

theorem choose_len {A : Option Addr} {n cap : Nat} {xs : List Cw} {fr : Int} {W : World} (hn : xs.length = n) (hsz : n * 16 ≤ 140737488355328) (hcap : n ≤ cap) (hc : Rc W A xs) (hx : okl xs) :
    Calls Try.prog 11 #[.slice A n cap, .int .i64 fr] W fun e w' => ∃ m, e = .returned (.tuple #[.int .i64 (chI xs fr), .int .i64 (chE xs fr)]) ∧ w' = W.drewN m := by
  subst hn
  exact choose_any A cap xs fr W hsz hcap hc hx
theorem rchoose_len {A : Option Addr} {n cap : Nat} {xs : List Cw} {fr : Int} {W : World} (hn : xs.length = n) (hsz : n * 16 ≤ 140737488355328) (hc : Rc W A xs) (hx : okl xs) :
    Calls Try.prog 12 #[.slice A n cap, .int .i64 fr] W fun e w' => ∃ m, e = .returned (.tuple #[.int .i64 (chI xs fr), .int .i64 (chE xs fr)]) ∧ w' = W.drewN m := by
  subst hn
  exact rchoose_any A cap xs fr W hsz hc hx
set_option maxRecDepth 20000 in
set_option maxHeartbeats 4000000 in
theorem chooses_any (fr : Int) (ao : Option Addr) (n cap : Nat) (xs : List Cw) (w : World) (hn : xs.length = n) (hsz : n * 16 + 192 ≤ 140737488355328) (hc : Rz w ao xs) (hx : okl xs) :
    Calls Try.prog 3 #[.slice ao n cap, .int .i64 fr] w fun e w' => e = .returned (.bool true) ∧ Below w.heap.size w w' := by
  have hs1 : n * 16 ≤ 140737488355328 := by omega
  have hz1 : n * 16 + 96 ≤ 140737488355328 := by omega
  have HX := hid_of hx
  clear hx
  go_enter Try.func3, Try.ntmps3
  go_wp2_with (first
    | (go_at_call 9; (with_reducible refine (tnumbers hn hs1 HX.out hc).mono ?_); rintro e w1 ⟨A, c, rfl, SA, hb1⟩; have B1 := hid_of hb1; clear hb1)
    | (go_at_call 10; (with_reducible refine (tlent SA hz1).mono ?_); rintro e w2 ⟨g, c2, rfl, ⟨hc2, hc3⟩, RX, hb2⟩; have SA2 := hid_of (SA.below hb2); have B2 := hid_of (b_of B1.out hb2 B1.out.size); clear SA hb2 B1; have HRX := hid_of RX; clear RX)
    | (go_at_call 11; (with_reducible refine (choose_len hn hs1 (by omega) (rw_pre HRX.out hn HX.out).rc HX.out).mono ?_); rintro e w3 ⟨m3, rfl, rfl⟩)
    | (go_at_call 12; (with_reducible refine (rchoose_len hn hs1 (SA2.out.sl.rd.drewN _) HX.out).mono ?_); rintro e w3 ⟨m4, rfl, rfl⟩)
    | (go_at_call 13; (with_reducible refine (plives_any _).mono ?_); rintro e w5 ⟨rfl, hb5⟩; have B5 := hid_of (b_of (below_drewN B2.out _) hb5 (below_drewN B2.out _).size); have SA5 := (SA2.out.drewN _).below hb5; have RX5 := (HRX.out.drewN _).below hb5; clear hb5 B2 SA2 HRX)
    | (go_at_call 14; (with_reducible refine (tkept SA5 hz1 RX5).mono ?_); rintro e w6 ⟨rfl, hb6⟩; have B6 := b_of B5.out hb6 B5.out.size; clear hb6 B5))
  go_ret
  exact ⟨rfl, B6⟩

end Go.Proofs.Ytgpjlobclcbniaa
