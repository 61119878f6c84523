/-
  A list of integers that a statement is handed, read as a list in memory.
-/
import Derived.Test.YtomllbpkjhoepaaBnd
import Derived.OpenShut
import Derived.SizedLaws
namespace Go.Proofs.Ytomllbpkjhoepaa
open Fl RowKit Go.ChangeShapes Go.WideShapes

theorem ints_open {H : Type} {enc : TypeId × Value → H} {w : World} {base fuel : Nat} {spare : Nat → Bool} {held : Bool} {cs : List Value} {x : DataW H × List MemPlace} (h : DataW.trod enc Try.prog w base spare held fuel 50 cs = some x) :
    ∃ (A : Option Addr) (n c : Nat) (zs : List Int), cs = [.slice A n c] ∧ zs.length = n ∧ Qi w A zs ∧ (n = 0 ∨ ∃ el sp, x.1 = .slice el sp ∧ el.length = n) := by
  rcases open_ints Try.underlying50 Try.underlying3 (by kernel_rfl) h with ⟨hc, _⟩ | ⟨a, len, cap, zs, hc, _, hl, hm, hz, hx, hcell, _⟩
  · exact ⟨none, 0, 0, [], hc, rfl, fun k hk => absurd hk (Nat.not_lt_zero _), .inl rfl⟩
  · have hlz : len ≤ zs.length := by rw [hz]; split <;> omega
    refine ⟨some a, len, cap, zs.take len, hc, by rw [List.length_take]; omega, ?_, .inr ⟨_, _, by rw [hx], by simp [lits]; omega⟩⟩
    intro k hk
    have hk' : k < len := by rw [List.length_take] at hk; omega
    obtain ⟨b, off, rfl, h2⟩ := ints_at hcell (by omega)
    have h1 := h2 k (by omega)
    refine ⟨b, off, rfl, block_lt_of_cell h1, ?_⟩
    rw [h1]
    simp [iat, List.getD_eq_getElem?_getD, hk']

end Go.Proofs.Ytomllbpkjhoepaa
