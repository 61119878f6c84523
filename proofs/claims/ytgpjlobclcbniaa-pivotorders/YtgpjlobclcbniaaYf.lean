/-
  What gridworkkit says of lists of integers: SameInts; Pick.
-/
import Derived.Test.YtgpjlobclcbniaaYe
namespace Go.Proofs.Ytgpjlobclcbniaa
open Fl RowKit

set_option maxHeartbeats 1000000 in
theorem ksameI (ao bo : Option Addr) (ca cb n : Nat) (xs : List Int) (w : World) (hn : xs.length = n) (hsz : n * 8 ≤ 140737488355328) (hc : Qi w ao xs) (hd : Qi w bo xs) :
    Calls Try.prog 29 #[.slice ao n ca, .slice bo n cb] w fun e w' => ∃ m, e = .returned (.bool true) ∧ w' = w.drewN m := by
  go_enter Try.func29, Try.ntmps29
  go_wp2
  go_loopw [5] (fun i wr => ∃ (k m : Nat), k ≤ n ∧ i = .int .i64 k ∧ wr = w.drewN m) (fun i _ => n - (intOf i).toNat)
  case atStart => exact ⟨0, 0, Nat.zero_le _, rfl, rfl⟩
  case round =>
    obtain ⟨k, m, hk, rfl, hw⟩ := hrel
    by_cases hlt : k < n
    · obtain ⟨b, off, rfl, hb, hcx⟩ := hc.drewN m k (by omega)
      obtain ⟨b2, off2, rfl, hb2, hcy⟩ := hd.drewN m k (by omega)
      rw [← hw] at hb hcx hb2 hcy
      have HW := hid_o hw
      obtain ⟨x, hxe⟩ : ∃ x, x = iat xs k := ⟨_, rfl⟩
      rw [← hxe] at hcx hcy
      clear hxe hc hd hw
      go_wp2
      go_region
      all_goals
        go_wp2
        go_roundw
        case measure => simp [intOf]; omega
        case rel => exact ⟨k + 1, _, by omega, by go_num, by rw [HW.out]; first | rfl | exact World.drewN_drewN w m 1⟩
    · have HW := hid_o hw
      clear hc hd hw
      go_wp2
      go_ret
      exact ⟨m, rfl, HW.out⟩

end Go.Proofs.Ytgpjlobclcbniaa
