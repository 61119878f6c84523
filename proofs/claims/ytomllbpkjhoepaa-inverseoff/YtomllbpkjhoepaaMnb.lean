/-
  What the document's Greatest hands back.
-/
import Derived.Test.YtomllbpkjhoepaaMna
import Derived.Deep.QuietTactic
namespace Go.Proofs.Ytomllbpkjhoepaa
open Fl RowKit

def RdF (w : World) (ao : Option Addr) (xs : List Nat) : Prop :=
  ∀ k, k < xs.length → ∃ b off, ao = some ⟨b, off, none⟩ ∧ b < w.heap.size ∧ w.cell? ⟨b, off + k, none⟩ = some (.float .f64 (xs.getD k 0))
theorem RdF.drewN {w : World} {ao : Option Addr} {xs : List Nat} (h : RdF w ao xs) (n : Nat) : RdF (w.drewN n) ao xs := h

def gre (xs : List Nat) : Nat → Int × Nat
  | 0 => (-1, 0)
  | k + 1 => if nan (xs.getD k 0) = false ∧ ((gre xs k).1 < 0 ∨ plc (gre xs k).2 < plc (xs.getD k 0)) then ((k : Int), xs.getD k 0) else gre xs k
theorem gre_inv (xs : List Nat) (k : Nat) : nan (gre xs k).2 = false ∧ -1 ≤ (gre xs k).1 ∧ (gre xs k).1 < k ∧ (0 ≤ (gre xs k).1 → (gre xs k).2 = xs.getD (gre xs k).1.toNat 0) ∧ ((gre xs k).1 < 0 → (gre xs k).2 = 0) := by
  induction k with
  | zero => refine ⟨by simp [gre]; decide, by simp [gre], by simp [gre], fun h => absurd h (by simp [gre]), fun _ => rfl⟩
  | succ k ih =>
    unfold gre
    split
    · rename_i h; refine ⟨h.1, by simp only []; omega, by simp only []; omega, fun _ => by simp, fun h => absurd h (by simp)⟩
    · obtain ⟨h1, h2, h3, h4⟩ := ih; exact ⟨h1, h2, by omega, h4⟩
theorem gre_hit {xs : List Nat} {k : Nat} (h : nan (xs.getD k 0) = false ∧ ((gre xs k).1 < 0 ∨ plc (gre xs k).2 < plc (xs.getD k 0))) : gre xs (k + 1) = ((k : Int), xs.getD k 0) := by
  rw [gre, if_pos h]
theorem gre_miss {xs : List Nat} {k : Nat} (h : ¬ (nan (xs.getD k 0) = false ∧ ((gre xs k).1 < 0 ∨ plc (gre xs k).2 < plc (xs.getD k 0)))) : gre xs (k + 1) = gre xs k := by
  rw [gre, if_neg h]
set_option maxHeartbeats 1000000 in
theorem rgreatest_any (ao : Option Addr) (cap : Nat) (xs : List Nat) (w : World) (hsz : xs.length * 8 ≤ 140737488355328) (hc : RdF w ao xs) :
    Calls Try.prog 95 #[.slice ao xs.length cap] w fun e w' => ∃ n, e = .returned (.tuple #[.int .i64 (gre xs xs.length).1, .float .f64 (gre xs xs.length).2]) ∧ w' = w.drewN n := by
  go_enter Try.func95, Try.ntmps95
  go_wp2
  go_loopw [4, 5] (fun p i wr => ∃ k n : Nat, k ≤ xs.length ∧ i = .int .i64 k ∧ p = .int .i64 (gre xs k).1 ∧ wr = w.drewN n) (fun _ i _ => xs.length - (intOf i).toNat)
  case atStart => exact ⟨0, 0, Nat.zero_le _, rfl, rfl, rfl⟩
  case round =>
    obtain ⟨k, n, hk, rfl, rfl, hw⟩ := hrel
    obtain ⟨g1, g2, g3, g4, g5⟩ := gre_inv xs k
    have hc' : RdF wr ao xs := by rw [hw]; exact hc.drewN n
    have HW : Hid (wr = w.drewN n) := hw
    have H1 := @gre_hit xs k
    have H2 := @gre_miss xs k
    obtain ⟨x, hxe⟩ : ∃ x, x = xs.getD k 0 := ⟨_, rfl⟩
    obtain ⟨p, hp⟩ : ∃ p, p = (gre xs k).1 := ⟨_, rfl⟩
    obtain ⟨g, hg⟩ : ∃ g, g = (gre xs k).2 := ⟨_, rfl⟩
    rw [← hp] at H1 H2 g2 g3 g4 g5
    rw [← hg] at H1 H2 g1 g4 g5
    clear hw
    by_cases hlt : k < xs.length
    · obtain ⟨b, off, rfl, hb, hcx⟩ := hc' k hlt
      rw [← hxe] at hcx H1 H2
      rw [← hp]
      cases hn : nan x
      · have o1 := order_num hn
        by_cases hz : p < 0
        · have E : Hid (gre xs (k + 1) = ((k : Int), x)) := H1 ⟨hn, Or.inl hz⟩
          clear H1 H2 hp hg hc hc' hxe g4 g5
          go_wp2
          go_quiet (fail)
          go_wp2
          go_roundw
          case rel => exact ⟨k + 1, n + nq, by omega, by go_num, by rw [E.out], by rw [HW.out, World.drewN_drewN]⟩
          case measure => simp [intOf]; omega
        · obtain ⟨j, rfl⟩ := Int.eq_ofNat_of_zero_le (by omega : 0 ≤ p)
          have hj : j < xs.length := by omega
          obtain ⟨b2, off2, hbo, _, hcj⟩ := hc' j hj
          cases hbo
          have hgj : xs.getD j 0 = g := by have := g4 (by omega); simpa using this.symm
          rw [hgj] at hcj
          have o2 := order_gt hn g1
          by_cases hz2 : plc g < plc x
          · have E : Hid (gre xs (k + 1) = ((k : Int), x)) := H1 ⟨hn, Or.inr hz2⟩
            clear H1 H2 hp hg hc hc' hxe g4 g5 hgj
            go_wp2
            go_quiet (fail)
            go_wp2
            go_roundw
            case rel => exact ⟨k + 1, n + nq, by omega, by go_num, by rw [E.out], by rw [HW.out, World.drewN_drewN]⟩
            case measure => simp [intOf]; omega
          · have E : Hid (gre xs (k + 1) = ((j : Int), g)) := by show gre xs (k + 1) = ((j : Int), g); rw [H2 (by rintro ⟨_, h | h⟩; exact hz h; exact hz2 h), hp, hg]
            clear H1 H2 hp hg hc hc' hxe g4 g5 hgj
            go_wp2
            go_quiet (fail)
            go_wp2
            go_roundw
            case rel => exact ⟨k + 1, n + nq, by omega, by go_num, by rw [E.out], by rw [HW.out, World.drewN_drewN]⟩
            case measure => simp [intOf]; omega
      · have o1 := order_nan hn
        have E : Hid (gre xs (k + 1) = (p, g)) := by show gre xs (k + 1) = (p, g); rw [H2 (by rintro ⟨h, _⟩; rw [hn] at h; cases h), hp, hg]
        have hne : ((none : Option Ordering) == some Ordering.eq) = false := rfl
        clear H1 H2 hp hg hc hc' hxe g4 g5
        go_wp2
        go_quiet (fail)
        go_wp2
        go_roundw
        case rel => exact ⟨k + 1, n + nq, by omega, by go_num, by rw [E.out], by rw [HW.out, World.drewN_drewN]⟩
        case measure => simp [intOf]; omega
    · have e : k = xs.length := by omega
      subst e
      rw [← hp]
      have EP : Hid ((gre xs xs.length).1 = p) := hp.symm
      have EG : Hid ((gre xs xs.length).2 = g) := hg.symm
      by_cases hz : p < 0
      · have hg0 := g5 hz
        have hpm : p = -1 := by omega
        clear H1 H2 hp hg hc hc' hxe g4 g5
        go_wp2
        go_ret2
        exact ⟨n, by rw [EP.out, EG.out, hg0, hpm]; rfl, HW.out⟩
      · obtain ⟨j, rfl⟩ := Int.eq_ofNat_of_zero_le (by omega : 0 ≤ p)
        have hj : j < xs.length := by omega
        obtain ⟨b, off, rfl, hb, hcj⟩ := hc' j hj
        have hgj : xs.getD j 0 = g := by have := g4 (by omega); simpa using this.symm
        rw [hgj] at hcj
        clear H1 H2 hp hg hc hc' hxe g4 g5 hgj
        go_wp2
        go_quiet (fail)
        go_wp2
        go_ret2
        exact ⟨n + nq, by rw [EP.out, EG.out]; rfl, by rw [HW.out, World.drewN_drewN]⟩


end Go.Proofs.Ytomllbpkjhoepaa
