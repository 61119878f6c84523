/-
  What SameReal, SameReals of the given package gridworkkit and Greatest of package real hand back.
-/
import Derived.Test.YthkhemmpjfilaaaSums
import Derived.Deep.QuietTactic
import Derived.BigQuiet
namespace Go.Proofs.Ythkhemmpjfilaaa
open Fl RowKit

theorem sameReal_any (a b : Nat) (w : World) :
    Calls Try.prog 67 #[.float .f64 a, .float .f64 b] w fun e w' => e = .returned (.bool (smB a b)) ∧ w' = w := by
  by_cases h : a = b
  · subst h
    have hs : smB a a = true := by unfold smB; cases nan a <;> simp
    have ht : ((a : Int) == (a : Int)) = true := by simp
    go_enter Try.func67, Try.ntmps67
    go_wp2
    all_goals go_ret
    all_goals exact ⟨retb hs.symm, rfl⟩
  · have hi : ((a : Int) == (b : Int)) = false := by simp; omega
    cases ha : nan a <;> cases hb : nan b
    all_goals
      first | (have h1 := order_num ha) | (have h1 := order_nan ha)
      first | (have h2 := order_num hb) | (have h2 := order_nan hb)
      have hs : smB a b = (nan a && nan b) := by unfold smB; rw [ha, hb]; simp [h]
      rw [ha, hb] at hs
      clear h
      go_enter Try.func67, Try.ntmps67
      go_wp2
      go_ret
      exact ⟨retb (by rw [hs]; rfl), rfl⟩

set_option maxHeartbeats 400000 in
theorem sameReals_yes (ao bo : Option Addr) (ca cb : Nat) (xs ys : List Nat) (w : World) (hsz : xs.length * 8 ≤ 140737488355328) (hl : ys.length = xs.length) (hc : Rd w ao xs) (hd : Rd w bo ys)
    (hs : ∀ k, k < xs.length → smB (xs.getD k 0) (ys.getD k 0) = true) :
    Calls Try.prog 16 #[.slice ao xs.length ca, .slice bo xs.length cb] w fun e w' => ∃ n, e = .returned (.bool true) ∧ w' = w.drewN n := by
  go_enter Try.func16, Try.ntmps16
  go_wp2
  go_loopw [5] (fun i wr => ∃ (k n : Nat), k ≤ xs.length ∧ i = .int .i64 k ∧ wr = w.drewN n) (fun i _ => xs.length - (intOf i).toNat)
  case atStart => exact ⟨0, 0, Nat.zero_le _, rfl, rfl⟩
  case round =>
    obtain ⟨k, n, hk, rfl, hw⟩ := hrel
    have hc' : Rd wr ao xs := by rw [hw]; exact hc.drewN n
    have hd' : Rd wr bo ys := by rw [hw]; exact hd.drewN n
    have HW : Hid (wr = w.drewN n) := hw
    obtain ⟨x, hxe⟩ : ∃ x, x = xs.getD k 0 := ⟨_, rfl⟩
    obtain ⟨y, hye⟩ : ∃ y, y = ys.getD k 0 := ⟨_, rfl⟩
    by_cases hlt : k < xs.length
    · obtain ⟨b, off, rfl, hb, hcx⟩ := hc' k hlt
      obtain ⟨b2, off2, rfl, hb2, hcy⟩ := hd' k (by omega)
      have hsm := hs k hlt
      rw [← hxe] at hcx hsm
      rw [← hye] at hcy hsm
      clear hxe hye hc hd hs hc' hd' hw
      go_wp2
      go_quiet ((go_at_call 67; exact Calls.quiet_of_same (sameReal_any _ _ _)))
      go_wp2
      go_roundw
      case rel => exact ⟨k + 1, n + nq, by omega, by go_num, by rw [HW.out, World.drewN_drewN]⟩
      case measure => simp [intOf]; omega
    · clear hxe hye hc hd hs hc' hd' hw
      go_wp2
      go_ret
      exact ⟨_, rfl, HW.out⟩

/-- where the greatest of the first k stands, and it -/
def gre (xs : List Nat) : Nat → Int × Nat
  | 0 => (-1, 0)
  | k + 1 => if nan (xs.getD k 0) = false ∧ ((gre xs k).1 < 0 ∨ plc (gre xs k).2 < plc (xs.getD k 0)) then ((k : Int), xs.getD k 0) else gre xs k
theorem gre_inv (xs : List Nat) (k : Nat) : nan (gre xs k).2 = false ∧ -1 ≤ (gre xs k).1 ∧ (gre xs k).1 < k ∧ (0 ≤ (gre xs k).1 → (gre xs k).2 = xs.getD (gre xs k).1.toNat 0) ∧ ((gre xs k).1 < 0 → (gre xs k).2 = 0) := by
  induction k with
  | zero => refine ⟨by simp [gre]; decide, by simp [gre], by simp [gre], fun h => absurd h (by simp [gre]), fun _ => rfl⟩
  | succ k ih =>
    unfold gre
    split
    · rename_i h; refine ⟨h.1, by simp only []; omega, by simp only []; omega, fun _ => by simp, fun h => absurd h (by simp)⟩
    · obtain ⟨h1, h2, h3, h4⟩ := ih; exact ⟨h1, h2, by omega, h4⟩
theorem gre_hit {xs : List Nat} {k : Nat} (h : nan (xs.getD k 0) = false ∧ ((gre xs k).1 < 0 ∨ plc (gre xs k).2 < plc (xs.getD k 0))) : gre xs (k + 1) = ((k : Int), xs.getD k 0) := by
  rw [gre, if_pos h]
theorem gre_miss {xs : List Nat} {k : Nat} (h : ¬ (nan (xs.getD k 0) = false ∧ ((gre xs k).1 < 0 ∨ plc (gre xs k).2 < plc (xs.getD k 0)))) : gre xs (k + 1) = gre xs k := by
  rw [gre, if_neg h]
theorem ret2i {a b : Int} {c d : Nat} (h : a = b) (h2 : c = d) : Ending.returned (.tuple #[.int .i64 a, .float .f64 c]) = .returned (.tuple #[.int .i64 b, .float .f64 d]) := by rw [h, h2]
theorem greatest_any (ao : Option Addr) (cap : Nat) (xs : List Nat) (w : World) (hsz : xs.length * 8 ≤ 140737488355328) (hc : Rd w ao xs) :
    Calls Try.prog 61 #[.slice ao xs.length cap] w fun e w' => e = .returned (.tuple #[.int .i64 (gre xs xs.length).1, .float .f64 (gre xs xs.length).2]) ∧ w' = w := by
  go_enter Try.func61, Try.ntmps61
  go_wp2
  go_loop [4, 5, 10] (fun p g i => ∃ k : Nat, k ≤ xs.length ∧ i = .int .i64 k ∧ p = .int .i64 (gre xs k).1 ∧ g = .float .f64 (gre xs k).2) (fun _ _ i => xs.length - (intOf i).toNat)
  case atStart => exact ⟨0, Nat.zero_le _, rfl, rfl, rfl⟩
  case round =>
    obtain ⟨k, hk, rfl, rfl, rfl⟩ := hrel
    obtain ⟨g1, g2, g3, _⟩ := gre_inv xs k
    have H1 := @gre_hit xs k
    have H2 := @gre_miss xs k
    obtain ⟨x, hxe⟩ : ∃ x, x = xs.getD k 0 := ⟨_, rfl⟩
    by_cases hlt : k < xs.length
    · obtain ⟨b, off, rfl, hb, hcx⟩ := hc k hlt
      rw [← hxe] at hcx H1 H2
      clear hc hxe
      obtain ⟨p, hp⟩ : ∃ p, p = (gre xs k).1 := ⟨_, rfl⟩
      obtain ⟨g, hg⟩ : ∃ g, g = (gre xs k).2 := ⟨_, rfl⟩
      rw [← hp] at H1 H2 g2 g3
      rw [← hg] at H1 H2 g1
      rw [← hp, ← hg]
      cases hn : nan x
      · have o1 := order_num hn
        by_cases hz : p < 0
        · have E : Hid (gre xs (k + 1) = ((k : Int), x)) := H1 ⟨hn, Or.inl hz⟩
          clear H1 H2 hp hg
          go_wp2
          go_round
          case rel => exact ⟨k + 1, by omega, by go_num, by rw [E.out], by rw [E.out]⟩
          case measure => simp [intOf]; omega
        · have o2 := order_gt hn g1
          by_cases hz2 : plc g < plc x
          · have E : Hid (gre xs (k + 1) = ((k : Int), x)) := H1 ⟨hn, Or.inr hz2⟩
            clear H1 H2 hp hg
            go_wp2
            go_round
            case rel => exact ⟨k + 1, by omega, by go_num, by rw [E.out], by rw [E.out]⟩
            case measure => simp [intOf]; omega
          · have E : Hid (gre xs (k + 1) = (p, g)) := by show gre xs (k + 1) = (p, g); rw [H2 (by rintro ⟨_, h | h⟩; exact hz h; exact hz2 h), hp, hg]
            clear H1 H2 hp hg
            go_wp2
            go_round
            case rel => exact ⟨k + 1, by omega, by go_num, by rw [E.out], by rw [E.out]⟩
            case measure => simp [intOf]; omega
      · have o1 := order_nan hn
        have E : Hid (gre xs (k + 1) = (p, g)) := by show gre xs (k + 1) = (p, g); rw [H2 (by rintro ⟨h, _⟩; rw [hn] at h; cases h), hp, hg]
        clear H1 H2 hp hg
        go_wp2
        go_round
        case rel => exact ⟨k + 1, by omega, by go_num, by rw [E.out], by rw [E.out]⟩
        case measure => simp [intOf]; omega
    · clear hc hxe H1 H2
      go_wp2
      go_ret2
      have e : k = xs.length := by omega
      subst e
      exact ⟨rfl, rfl⟩

end Go.Proofs.Ythkhemmpjfilaaa
