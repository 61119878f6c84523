/-
  Several texts in one: Gs Gm Gh.
-/
import Derived.Test.YtmpkcioeodlbcaaGreatDoorK02
import Derived.Laws.AppendOwn
import Derived.Laws.OwnMore
import Derived.Handy
import Derived.Deep.QuietTactic
import Derived.Deep.RegionWith
import Derived.BigQuiet
namespace Go.Proofs.YtmpkcioeodlbcaaGreatDoor
open RowKit
theorem info_parts3 {P : Program} {e : TypeId} {z : Value} {s b : Nat} (h : (P.info? e).map (fun i => (i.zero, i.size, i.bytes)) = some (some z, s, b)) : ∃ i, P.info? e = some i ∧ i.zero = some z ∧ i.size = s ∧ i.bytes = b := by
  obtain ⟨i, h1, h2⟩ := Option.map_eq_some_iff.1 h
  simp only [Prod.mk.injEq] at h2
  exact ⟨i, h1, h2.1, h2.2.1, h2.2.2⟩
theorem below_drewN' {n : Nat} {w w' : World} (h : Below n w w') (k : Nat) : Below n w (w'.drewN k) := by
  obtain ⟨h1, h2, h3, h4, h5⟩ := h
  exact ⟨h1, h2, h3, h4, h5⟩
end Go.Proofs.YtmpkcioeodlbcaaGreatDoor
namespace Go.Proofs.YtmpkcioeodlbcaaGreatDoor
open RowKit
theorem other_cell_Gm (w : World) {a b : Addr} (h : a ≠ b) (v : Value) : (w.setCell a v).cell? b = w.cell? b := by
  apply World.cell?_setCell_other; exact h
end Go.Proofs.YtmpkcioeodlbcaaGreatDoor
namespace Go.Proofs.YtmpkcioeodlbcaaGreatDoor
open RowKit
/-- how many binary digits -/
def nbits : Nat → Nat
  | 0 => 0
  | n + 1 => 1 + nbits ((n + 1) / 2)
decreasing_by omega
theorem nbits_zero : nbits 0 = 0 := by unfold nbits; rfl
theorem nbits_pos {n : Nat} (h : 0 < n) : nbits n = 1 + nbits (n / 2) := by
  cases n with
  | zero => omega
  | succ n => rw [nbits]

theorem nbits_lt (m : Nat) : m < 2 ^ nbits m := by
  induction m using Nat.strongRecOn with
  | _ m ih =>
    rcases Nat.eq_zero_or_pos m with h | h
    · subst h; rw [nbits_zero]; decide
    · rw [nbits_pos h, Nat.add_comm, Nat.pow_succ]
      have := ih (m / 2) (by omega)
      omega
theorem nbits_ge {m : Nat} (h : 0 < m) : 2 ^ nbits m ≤ 2 * m := by
  induction m using Nat.strongRecOn with
  | _ m ih =>
    rw [nbits_pos h, Nat.add_comm, Nat.pow_succ]
    rcases Nat.eq_zero_or_pos (m / 2) with h2 | h2
    · rw [h2, nbits_zero]; omega
    · have := ih (m / 2) (by omega) h2
      omega
theorem pow_le {a b : Nat} (h : (2 : Nat) ^ a < 2 ^ b) : a < b := by
  rcases Nat.lt_or_ge a b with h1 | h1
  · exact h1
  · have := Nat.pow_le_pow_right (n := 2) (by decide) h1; omega
/-- how many digits, by the powers about it -/
theorem nbits_eq {m k : Nat} (h0 : 2 ^ k ≤ 2 * m) (h1 : m < 2 ^ k) : nbits m = k := by
  have hm : 0 < m := by
    rcases Nat.eq_zero_or_pos m with h | h
    · subst h; have := Nat.two_pow_pos k; omega
    · exact h
  have a := nbits_lt m
  have b := nbits_ge hm
  have c : nbits m < k + 1 := pow_le (by rw [Nat.pow_succ]; omega)
  have d : k < nbits m + 1 := pow_le (by rw [Nat.pow_succ]; omega)
  omega
theorem nbits_le {m k : Nat} (h : m < 2 ^ k) : nbits m ≤ k := by
  rcases Nat.eq_zero_or_pos m with h0 | h0
  · subst h0; rw [nbits_zero]; exact Nat.zero_le _
  · have b := nbits_ge h0
    have c : nbits m < k + 1 := pow_le (by rw [Nat.pow_succ]; omega)
    omega
end Go.Proofs.YtmpkcioeodlbcaaGreatDoor
