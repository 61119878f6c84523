/-
  The document's net in memory: Elements, Branches, place.
-/
import Derived.Test.YtpjpamdocfdibabDna
import Derived.Test.YtpjpamdocfdibabBsd
namespace Go.Proofs.Ytpjpamdocfdibab
open Go.Maps Go.RowKit
set_option linter.unusedVariables false
set_option maxRecDepth 100000

/-- the document's net at block p: its elements are l -/
structure Dn (w : World) (p : Nat) (l : List Elm) : Prop where
  len : l.length ≤ 256
  made : w.cell? ⟨p, 1, none⟩ = some (.bool true)
  v : ∃ v, w.cell? ⟨p, 0, none⟩ = some v ∧ (v = .slice none 0 0 ∧ l = [] ∨ ∃ b c, v = .slice (some ⟨b, 0, none⟩) l.length c ∧ ∀ (j : Nat) (u : Value), (elCs l)[j]? = some u → w.cell? ⟨b, j, none⟩ = some u)
theorem Dn.below {w w' : World} {p : Nat} {l : List Elm} (h : Dn w p l) (hb : Below w.heap.size w w') : Dn w' p l := by
  have k := fun (a : Addr) (v : Value) (hc : w.cell? a = some v) => (hb.cell (World.block_lt_of_cell? w _ hc)).trans hc
  obtain ⟨v, h1, h2⟩ := h.v
  refine ⟨h.len, k _ _ h.made, v, k _ _ h1, h2.imp id ?_⟩
  rintro ⟨b, c, h3, h4⟩
  exact ⟨b, c, h3, fun j u hj => k _ _ (h4 j u hj)⟩
/-- a row of elements that is owned: its i-th element's cells -/
theorem de8_row {w : World} {base : Nat} {v : Value} {n : Nat} {l : List Elm} (h : w.ownsRow base 30 8 v n (elCs l)) (hn : l.length = n) {i : Nat} {x : Elm} (hx : l[i]? = some x) : ∃ g cap, v = .slice (some ⟨g, 0, none⟩) n cap ∧ E8 w g (i * 8) x := by
  have hi : i < n := by rw [← hn]; exact (List.getElem?_eq_some_iff.1 hx).1
  obtain ⟨g, cap, hv⟩ : ∃ g cap, v = .slice (some ⟨g, 0, none⟩) n cap := by
    obtain ⟨_, ⟨h1, h2⟩ | ⟨g, cap, cur, h1, _⟩⟩ := h
    · omega
    · exact ⟨_, _, h1⟩
  subst hv
  have hc : ∀ c v, c < 8 → (elC x)[c]? = some v → w.cell? ⟨g, i * 8 + c, none⟩ = some v := fun c v h1 h2 => by rw [h.cellAt (i * 8 + c) (by omega), elCs_get hx h1]; exact h2
  exact ⟨g, cap, rfl, hc 0 _ (by omega) rfl, hc 1 _ (by omega) rfl, hc 2 _ (by omega) rfl, hc 3 _ (by omega) rfl, hc 4 _ (by omega) rfl, hc 5 _ (by omega) rfl, hc 6 _ (by omega) rfl, hc 7 _ (by omega) rfl⟩
theorem drow_slice {w : World} {base : Nat} {e : TypeId} {sz : Nat} {v : Value} {n : Nat} {xs : List Value} (h : w.ownsRow base e sz v n xs) : ∃ A cap, v = .slice A n cap := by
  obtain ⟨_, ⟨h1, h2⟩ | ⟨g, cap, cur, h1, _⟩⟩ := h
  · exact ⟨none, 0, by rw [h1, h2]⟩
  · exact ⟨_, _, h1⟩
theorem brR_take {l : List Elm} {i : Nat} {x : Elm} (hx : l[i]? = some x) : brR (l.take (i + 1)) = if isB x = true then brR (l.take i) ++ [bl x.n] else brR (l.take i) := by
  rw [take_snoc hx, brR_snoc]
theorem brR_len (l : List Elm) : (brR l).length ≤ l.length := by unfold brR; rw [List.length_map]; exact List.length_filter_le _ _
theorem snoc_sv (xs : List (List UInt8)) (s : ByteArray) : (xs ++ [bl s]).map sv = xs.map sv ++ [.string s] := by rw [List.map_append]; rfl
end Go.Proofs.Ytpjpamdocfdibab
