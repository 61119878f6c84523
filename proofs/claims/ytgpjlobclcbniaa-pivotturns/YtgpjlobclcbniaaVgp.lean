/-
  A list of pairs of integers that a statement is handed, read as a list in memory.
-/
import Derived.Test.YtgpjlobclcbniaaWPTurns
import Derived.Deep.SlicePairs
import Derived.OpenShut
import Derived.SizedLaws
namespace Go.Proofs.Ytgpjlobclcbniaa
open Fl RowKit Go.ChangeShapes Go.WideShapes Go.Deep

theorem twos_cells : Try.prog.cellsOf 64 = 2 := by kernel_rfl
theorem int_cells : Try.prog.cellsOf 3 = 1 := by kernel_rfl
theorem twos_open {H : Type} {enc : TypeId × Value → H} {w : World} {base fuel : Nat} {spare : Nat → Bool} {held : Bool} {cs : List Value} {x : DataW H × List MemPlace} (h : DataW.trod enc Try.prog w base spare held fuel 62 cs = some x) :
    ∃ (A : Option Addr) (n c : Nat) (ps : List (Int × Int)), cs = [.slice A n c] ∧ ps.length = n ∧ Qp w A ps ∧ (n = 0 ∨ ∃ el sp, x.1 = .slice el sp ∧ el.length = n) := by
  rcases open_slice Try.underlying62 h with ⟨hc, _⟩ | ⟨a, len, cap, m, n, D, Pl, hc, _, hl, hm, hmm, hx, hall⟩
  · exact ⟨none, 0, 0, [], hc, rfl, fun k hk => absurd hk (Nat.not_lt_zero _), .inl rfl⟩
  · have hlm : len ≤ m := by rw [hmm]; split <;> omega
    have each : ∀ i, i < len → ∃ p : Int × Int, w.cell? (a.add (i * 2)) = some (.int .i64 p.1) ∧ w.cell? (a.add (i * 2 + 1)) = some (.int .i64 p.2) := by
      intro i hi
      obtain ⟨cs', h1, h2⟩ := hall i (by omega)
      rw [twos_cells] at h1
      obtain ⟨_, hlen, hcell⟩ := World.cells?_some h1
      obtain ⟨xs, k, hk, hxy, _, hxl, hf⟩ := DataW.trod_array Try.underlying64 h2
      match cs', hlen with
      | [v0, v1], _ =>
        have g0 := hf 0 (by omega)
        have g1 := hf 1 (by omega)
        rw [int_cells] at g0 g1
        have e0 := hcell 0 (by omega)
        have e1 := hcell 1 (by omega)
        rw [add_add] at e0 e1
        match xs, hxl with
        | [y0, y1], _ =>
          obtain ⟨u, e2, _, _⟩ := DataW.trod_int Try.underlying3 (show DataW.trod enc Try.prog w base spare held k 3 [v0] = some y0 by simpa using g0)
          obtain ⟨v, e3, _, _⟩ := DataW.trod_int Try.underlying3 (show DataW.trod enc Try.prog w base spare held k 3 [v1] = some y1 by simpa using g1)
          simp only [List.cons.injEq, and_true] at e2 e3
          subst e2 e3
          exact ⟨(u, v), by simpa using e0, by simpa using e1⟩
    have pick : ∃ F : Nat → Int × Int, ∀ i, i < len → w.cell? (a.add (i * 2)) = some (.int .i64 (F i).1) ∧ w.cell? (a.add (i * 2 + 1)) = some (.int .i64 (F i).2) := by
      refine ⟨fun i => if hi : i < len then Classical.choose (each i hi) else (0, 0), fun i hi => ?_⟩
      have hs := Classical.choose_spec (each i hi)
      simp only [hi, dif_pos]
      exact hs
    obtain ⟨F, hF⟩ := pick
    have hat : ∀ k, k < len → pat ((List.range len).map F) k = F k := fun k hk => by simp [pat, List.getD_eq_getElem?_getD, hk]
    refine ⟨some a, len, cap, (List.range len).map F, hc, by simp, ?_, .inr ⟨_, _, by rw [hx], by simp⟩⟩
    intro k hk
    have hk' : k < len := by simpa using hk
    obtain ⟨h1, h2⟩ := hF k hk'
    obtain ⟨b, off, spot⟩ := a
    have hspot : spot = none := by simpa [Addr.add] using World.cell?_spot (hF 0 (by omega)).1
    subst hspot
    rw [Go.WideShapes.add_plain] at h1 h2
    refine ⟨b, off, rfl, block_lt_of_cell h1, ?_, ?_⟩
    · rw [h1, hat k hk']
    · rw [Nat.add_assoc, h2, hat k hk']

end Go.Proofs.Ytgpjlobclcbniaa
