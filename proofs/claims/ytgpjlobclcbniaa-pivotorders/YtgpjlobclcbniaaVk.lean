/-
  What the given package gridworkkit says of numbers and lists of them: the same, equal, finite, read by their bits.
-/
import Derived.Test.YtgpjlobclcbniaaVh
namespace Go.Proofs.Ytgpjlobclcbniaa
open Fl RowKit

theorem ksameR_any (a b : Nat) (w : World) : Calls Try.prog 67 #[.float .f64 a, .float .f64 b] w fun e w' => e = .returned (.bool (smB a b)) ∧ w' = w := by
  by_cases hab : a = b
  · subst hab
    rw [smB_self]
    go_enter Try.func67, Try.ntmps67
    go_wp2
    go_ret
    exact ⟨rfl, rfl⟩
  · have hne : ¬ ((a : Int) = (b : Int)) := by omega
    have hnb : (a == b) = false := beq_false_of_ne hab
    cases ha : nan a <;> cases hb : nan b
    all_goals
      first | (have h1 := order_num ha) | (have h1 := order_nan ha)
      first | (have h2 := order_num hb) | (have h2 := order_nan hb)
      go_enter Try.func67, Try.ntmps67
      go_wp2
      go_ret
      refine ⟨retb ?_, rfl⟩
      simp [smB, ha, hb, hnb]
      try exact hne
theorem ksame_any (a b c d : Nat) (w : World) : Calls Try.prog 64 #[.complex .f64 a b, .complex .f64 c d] w fun e w' => e = .returned (.bool (smB a c && smB b d)) ∧ w' = w := by
  cases h1 : smB a c <;> cases h2 : smB b d
  all_goals
    go_enter Try.func64, Try.ntmps64
    go_wp2_with (first | (go_at_call 67; refine (ksameR_any _ _ _).mono ?_; rintro e w' ⟨rfl, rfl⟩))
    go_ret
    exact ⟨rfl, rfl⟩
theorem kfin_any (x : Nat) (w : World) : Calls Try.prog 34 #[.float .f64 x] w fun e w' => ∃ n, e = .returned (.bool (finB x)) ∧ w' = w.drewN n := by
  by_cases hf : fin x
  · have h1 := sub_self_fin hf
    have h2 : finB x = true := decide_eq_true hf
    go_enter Try.func34, Try.ntmps34
    go_wp2
    go_ret
    exact ⟨_, by rw [h2]; rfl, rfl⟩
  · have h1 := sub_self_not hf
    have h2 : finB x = false := decide_eq_false hf
    go_enter Try.func34, Try.ntmps34
    go_wp2
    go_ret
    exact ⟨_, by rw [h2]; rfl, rfl⟩
def finZ (z : Cw) : Bool := finB z.1 && finB z.2
/-- are the first k numbers finite? -/
def finL (xs : List Cw) : Nat → Bool
  | 0 => true
  | k + 1 => finL xs k && finZ (zat xs k)
theorem finL_at {xs : List Cw} {n : Nat} (h : finL xs n = true) : ∀ j, j < n → finZ (zat xs j) = true := by
  induction n with
  | zero => intro j hj; omega
  | succ n ih =>
    unfold finL at h
    rw [Bool.and_eq_true] at h
    intro j hj
    by_cases e : j = n
    · subst e; exact h.2
    · exact ih h.1 j (by omega)
theorem finL_lt {xs : List Cw} {k : Nat} (hf : finZ (zat xs k) = false) : ∀ n, k < n → finL xs n = false := by
  intro n
  induction n with
  | zero => intro _; omega
  | succ n ih =>
    intro hk
    unfold finL
    by_cases e : k = n
    · subst e; rw [hf, Bool.and_false]
    · rw [ih (by omega), Bool.false_and]
set_option maxHeartbeats 1000000 in
theorem ksameL_yes (ao bo : Option Addr) (ca cb : Nat) (xs ys : List Cw) (w : World) (hsz : xs.length * 16 ≤ 140737488355328) (hl : ys.length = xs.length) (hc : Rc w ao xs) (hd : Rc w bo ys)
    (hs : ∀ k, k < xs.length → smB (zat xs k).1 (zat ys k).1 = true ∧ smB (zat xs k).2 (zat ys k).2 = true) :
    Calls Try.prog 48 #[.slice ao xs.length ca, .slice bo xs.length cb] w fun e w' => ∃ n, e = .returned (.bool true) ∧ w' = w.drewN n := by
  go_enter Try.func48, Try.ntmps48
  go_wp2
  go_loopw [5] (fun i wr => ∃ (k n : Nat), k ≤ xs.length ∧ i = .int .i64 k ∧ wr = w.drewN n) (fun i _ => xs.length - (intOf i).toNat)
  case atStart => exact ⟨0, 0, Nat.zero_le _, rfl, rfl⟩
  case round =>
    obtain ⟨k, n, hk, rfl, hw⟩ := hrel
    have HW : Hid (wr = w.drewN n) := hw
    by_cases hlt : k < xs.length
    · obtain ⟨b, off, rfl, hb, hcx⟩ := hc.drewN n k hlt
      obtain ⟨b2, off2, rfl, hb2, hcy⟩ := hd.drewN n k (by omega)
      rw [← hw] at hb hcx hb2 hcy
      obtain ⟨k1, k2⟩ := hs k hlt
      obtain ⟨x, hxe⟩ : ∃ x, x = zat xs k := ⟨_, rfl⟩
      obtain ⟨y, hye⟩ : ∃ y, y = zat ys k := ⟨_, rfl⟩
      rw [← hxe] at hcx k1 k2
      rw [← hye] at hcy k1 k2
      unfold cx at hcx hcy
      have hsm := fun W => ksame_any x.1 x.2 y.1 y.2 W
      rw [k1, k2] at hsm
      clear hxe hye hc hd hs hw k1 k2
      go_wp2
      go_big_quiet (first | (go_at_call 64; (with_reducible exact Calls.quiet_of_same (hsm _))))
      go_wp2
      go_roundw
      case rel => exact ⟨k + 1, n + nq, by omega, by go_num, by rw [HW.out, World.drewN_drewN]⟩
      case measure => simp [intOf]; omega
    · clear hc hd hs hw
      go_wp2
      go_ret
      exact ⟨_, rfl, HW.out⟩

end Go.Proofs.Ytgpjlobclcbniaa
