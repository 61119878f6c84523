/-
  What Numbers of the given package gridworkkit hands back: the numbers of their bits, in new memory.
-/
import Derived.Test.YtgpjlobclcbniaaVk
namespace Go.Proofs.Ytgpjlobclcbniaa
open Fl RowKit

/-- what a list of pairs of words in memory reads as -/
def Rz (w : World) (ao : Option Addr) (xs : List Cw) : Prop :=
  ∀ k, k < xs.length → ∃ b off, ao = some ⟨b, off, none⟩ ∧ b < w.heap.size ∧ w.cell? ⟨b, off + k * 2, none⟩ = some (.int .u64 (((zat xs k).1 : Nat) : Int)) ∧ w.cell? ⟨b, off + k * 2 + 1, none⟩ = some (.int .u64 (((zat xs k).2 : Nat) : Int))
theorem Rz.below {w w' : World} {ao : Option Addr} {xs : List Cw} (h : Rz w ao xs) (hb : Below w.heap.size w w') : Rz w' ao xs := by
  intro k hk
  obtain ⟨b, off, h1, h2, h3, h4⟩ := h k hk
  exact ⟨b, off, h1, Nat.lt_of_lt_of_le h2 hb.size, (hb.cell (by exact h2)).trans h3, (hb.cell (by exact h2)).trans h4⟩
theorem own_drew {w : World} {base e size n : Nat} {v : Value} {xs : List Value} (h : w.ownsRow base e size v n xs) : w.drew.ownsRow base e size v n xs := h
theorem take_snocZ (l : List Cw) (k : Nat) (h : k < l.length) : l.take (k + 1) = l.take k ++ [zat l k] := by
  rw [List.take_succ_eq_append_getElem h]; simp [zat, List.getD_eq_getElem?_getD, h]
set_option maxHeartbeats 2000000 in
theorem numbers_any (ao : Option Addr) (cap : Nat) (xs : List Cw) (w : World) (hsz : xs.length * 16 ≤ 140737488355328) (hc : Rz w ao xs) :
    Calls Try.prog 9 #[.slice ao xs.length cap] w fun e w' => ∃ v, e = .returned v ∧ w'.ownsRow w.heap.size 55 1 v xs.length (xs.map cx) ∧ Below w.heap.size w w' := by
  obtain ⟨i0, hi, hz0, hz1, hz2⟩ := info_parts Try.infoC
  go_enter Try.func9, Try.ntmps9
  go_wp2
  go_loopw [3, 4] (fun v i wr => ∃ (k : Nat) (v0 : Value), k ≤ xs.length ∧ i = .int .i64 k ∧ v0 = v ∧ wr.ownsRow w.heap.size 55 1 v0 k ((xs.take k).map cx) ∧ Below w.heap.size w wr) (fun _ i _ => xs.length - (intOf i).toNat)
  case atStart => exact ⟨0, _, Nat.zero_le _, rfl, rfl, World.ownsRow_nil _ _ _ _, Below.refl _ _⟩
  case round =>
    obtain ⟨k, v0, hk, rfl, rfl, hown, hbel⟩ := hrel
    have hS := hbel.size
    by_cases hlt : k < xs.length
    · obtain ⟨b, off, rfl, hb, hc1, hc2⟩ := hc.below hbel k hlt
      obtain ⟨x, hxe⟩ : ∃ x, x = zat xs k := ⟨_, rfl⟩
      have HX : Hid (x = zat xs k) := hxe
      rw [← hxe] at hc1 hc2
      have HB : Hid (Below w.heap.size w wr) := hbel
      clear hxe hc hbel
      go_wp2_with (first
        | (go_at_call 39; refine (number_any _ _ _).mono ?_; rintro e w' ⟨rfl, rfl⟩)
        | (at_builtin; refine wpList_append_own _ rfl _ _ 23 rfl w.heap.size 55 i0 (.complex .f64 0 0) 1 16 Try.underlying23 hi hz0 hz1 hz2 rfl (by decide) _ _ _ rfl (own_drew ((hown.alloc _).alloc _)) ⟨_, 0, none⟩ 1 1 [.complex .f64 x.1 x.2] rfl rfl ?c1 ?c2 ?c3 ?c4 ?c5 ?_))
      case c1 =>
        intro j u hj
        match j, hj with
        | 0, hj => simp at hj; subst hj; simp [Addr.add]
      case c2 => intro u hu; simp at hu; subst hu; rfl
      case c3 => unfold maxLen; omega
      case c4 => omega
      case c5 => simp; omega
      · intro v' w1 hown1 hgrow _
        have R2 : Below w.heap.size w w1 := (((HB.out.alloc hS _).alloc (by simp; omega) _).drew).grown hgrow (by simp; omega) (fun j hj => own_ge hown hj)
        have R : w1.ownsRow w.heap.size 55 1 v' (k + 1) ((xs.take (k + 1)).map cx) := by
          rw [take_snocZ xs k hlt, ← HX.out]; refine push_own ?_; rw [List.map_take]; exact hown1
        clear hown1 hgrow hown
        go_wp2
        go_roundw
        case rel => exact ⟨k + 1, _, by omega, by go_num, rfl, R, R2⟩
        case measure => simp [intOf]; omega
    · have e : k = xs.length := by omega
      subst e
      rw [List.take_length] at hown
      clear hc
      go_wp2
      go_ret
      exact ⟨_, rfl, hown, hbel⟩

end Go.Proofs.Ytgpjlobclcbniaa
