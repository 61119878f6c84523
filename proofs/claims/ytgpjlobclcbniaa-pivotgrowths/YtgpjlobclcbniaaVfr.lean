/-
  A list of pairs of words that a statement is handed, read as a list in memory.
-/
import Derived.Test.YtgpjlobclcbniaaVn
import Derived.Deep.SlicePairs
import Derived.OpenShut
import Derived.SizedLaws
namespace Go.Proofs.Ytgpjlobclcbniaa
open Fl RowKit Go.ChangeShapes Go.WideShapes Go.Deep

theorem rz_open {H : Type} {enc : TypeId × Value → H} {w : World} {base fuel : Nat} {spare : Nat → Bool} {held : Bool} {cs : List Value} {x : DataW H × List MemPlace} (h : DataW.trod enc Try.prog w base spare held fuel 22 cs = some x) :
    ∃ (A : Option Addr) (n c : Nat) (xs : List Cw), cs = [.slice A n c] ∧ xs.length = n ∧ okl xs ∧ Rz w A xs ∧ (n = 0 ∨ ∃ el sp, x.1 = .slice el sp ∧ el.length = n) := by
  rcases open_slice_pairs Try.underlying22 Try.underlying70 (by kernel_rfl) rfl rfl (by kernel_rfl) (by kernel_rfl) h with ⟨hc, _⟩ | ⟨a, len, cap, m, k, V0, V1, D0, D1, P0, P1, hc, _, hl, hm, hmm, hx, hall⟩
  · exact ⟨none, 0, 0, [], hc, rfl, fun k => by rw [zat_ge (Nat.zero_le _)]; exact ⟨by decide, by decide⟩, fun k hk => absurd hk (Nat.not_lt_zero _), .inl rfl⟩
  · have hlm : len ≤ m := by rw [hmm]; split <;> omega
    have each : ∀ i, i < len → ∃ u v : Nat, u < 18446744073709551616 ∧ v < 18446744073709551616 ∧ V0 i = .int .u64 (u : Int) ∧ V1 i = .int .u64 (v : Int) := by
      intro i hi
      obtain ⟨_, _, h3, h4⟩ := hall i (by omega)
      obtain ⟨u, e1, _, w1⟩ := DataW.trod_int Try.underlying68 h3
      obtain ⟨v, e2, _, w2⟩ := DataW.trod_int Try.underlying68 h4
      have b1 := bounds_u64 w1
      have b2 := bounds_u64 w2
      simp only [List.cons.injEq, and_true] at e1 e2
      refine ⟨u.toNat, v.toNat, by omega, by omega, ?_, ?_⟩
      · rw [e1, Int.toNat_of_nonneg (by omega)]
      · rw [e2, Int.toNat_of_nonneg (by omega)]
    have pick : ∃ F : Nat → Cw, ∀ i, i < len → okz (F i) ∧ V0 i = .int .u64 (((F i).1 : Nat) : Int) ∧ V1 i = .int .u64 (((F i).2 : Nat) : Int) := by
      refine ⟨fun i => if hi : i < len then (Classical.choose (each i hi), Classical.choose (Classical.choose_spec (each i hi))) else (0, 0), fun i hi => ?_⟩
      have hs := Classical.choose_spec (Classical.choose_spec (each i hi))
      simp only [hi, dif_pos]
      exact ⟨⟨hs.1, hs.2.1⟩, hs.2.2.1, hs.2.2.2⟩
    obtain ⟨F, hF⟩ := pick
    have hat : ∀ k, k < len → zat ((List.range len).map F) k = F k := fun k hk => by simp [zat, List.getD_eq_getElem?_getD, hk]
    refine ⟨some a, len, cap, (List.range len).map F, hc, by simp, ?_, ?_, .inr ⟨_, _, by rw [hx], by simp⟩⟩
    · intro k
      rcases Nat.lt_or_ge k len with hk | hk
      · rw [hat k hk]; exact (hF k hk).1
      · rw [zat_ge (by simpa using hk)]; exact ⟨by decide, by decide⟩
    · intro k hk
      have hk' : k < len := by simpa using hk
      obtain ⟨h1, h2, _, _⟩ := hall k (by omega)
      obtain ⟨b, off, spot⟩ := a
      have hspot : spot = none := by simpa [Addr.add] using World.cell?_spot (hall 0 (by omega)).1
      subst hspot
      rw [Go.WideShapes.add_plain] at h1 h2
      refine ⟨b, off, rfl, block_lt_of_cell h1, ?_, ?_⟩
      · rw [h1, hat k hk', (hF k hk').2.1]
      · rw [Nat.add_assoc, h2, hat k hk', (hF k hk').2.2]

end Go.Proofs.Ytgpjlobclcbniaa
