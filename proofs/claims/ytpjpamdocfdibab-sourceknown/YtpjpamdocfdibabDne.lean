/-
  The document's net of some elements: its Of.
-/
import Derived.Test.YtpjpamdocfdibabDnd
import Derived.Test.YtpjpamdocfdibabBse
namespace Go.Proofs.Ytpjpamdocfdibab
open Go.Maps Go.RowKit
set_option linter.unusedVariables false
set_option maxRecDepth 100000

/-- what the document's Of answers, in memory -/
def DofP (w : World) (l : List Elm) (e : Ending) (w' : World) : Prop :=
  Below w.heap.size w w' ∧ ((ofA l).1 = (0, 0) ∧ (∃ p, e = .returned (.tuple #[.pointer (some ⟨p, 0, none⟩), .agg #[.int .i64 0, .int .i64 0]]) ∧ Dn w' p l) ∨ (ofA l).1.1 ≠ 0 ∧ e = .returned (.tuple #[.pointer none, .agg #[.int .i64 (ofA l).1.1, .int .i64 (ofA l).1.2]]))
/-- names that were met among the first k -/
theorem nm_next {l : List Elm} {k : Nat} {x y : Elm} (hy : l[k]? = some y) (h : bl x.n ∉ (l.take k).map fun x => bl x.n) (hne : bl y.n ≠ bl x.n) : bl x.n ∉ (l.take (k + 1)).map fun x => bl x.n := by
  rw [take_snoc hy, List.map_append]
  intro q
  rcases List.mem_append.1 q with q | q
  · exact h q
  · have q2 : bl x.n = bl y.n := by simpa only [List.map_cons, List.map_nil, List.mem_singleton] using q
    exact hne q2.symm
theorem nm_here {l : List Elm} {i k : Nat} {x y : Elm} (hy : l[k]? = some y) (hk : k < i) (he : bl y.n = bl x.n) : bl x.n ∈ (l.take i).map fun x => bl x.n := by
  refine List.mem_map.2 ⟨y, ?_, he⟩
  obtain ⟨hj, rfl⟩ := List.getElem?_eq_some_iff.1 hy
  exact List.mem_iff_getElem?.2 ⟨k, by rw [List.getElem?_take, if_pos hk]; exact List.getElem?_eq_getElem hj⟩
theorem ba_eq {s t : ByteArray} : (bl s == bl t) = true ↔ bl s = bl t := beq_iff_eq
theorem dn_set {W : World} {p F : Nat} {T : TypeId} {l : List Elm} (h : Dn W p l) (hF : W.heap[F]? = some (.cells #[.int .i64 0, .int .i64 0] T (0, 0))) (x y : Value) : Dn ((W.setCell ⟨F, 0, none⟩ x).setCell ⟨F, 1, none⟩ y) p l := by
  obtain ⟨z0, z1, _, _⟩ := tw_c hF
  have hk : ∀ (q : Addr) (v : Value), q.block ≠ F → W.cell? q = some v → ((W.setCell ⟨F, 0, none⟩ x).setCell ⟨F, 1, none⟩ y).cell? q = some v := fun q v hq hc => by
    rw [World.cell?_setCell_other _ _ _ _ (fun e => hq (congrArg Addr.block e).symm), World.cell?_setCell_other _ _ _ _ (fun e => hq (congrArg Addr.block e).symm)]; exact hc
  have hp : p ≠ F := fun e => by
    have := h.made
    rw [e, z1] at this; cases this
  obtain ⟨v, h1, h2⟩ := h.v
  refine ⟨h.len, hk ⟨p, 1, none⟩ _ hp h.made, v, hk ⟨p, 0, none⟩ _ hp h1, h2.imp id ?_⟩
  rintro ⟨b, c, h3, h4⟩
  refine ⟨b, c, h3, fun j u hj => hk ⟨b, j, none⟩ _ (fun e => ?_) (h4 j u hj)⟩
  have e : b = F := e
  cases l with
  | nil => simp [elCs] at hj
  | cons x0 t =>
    have h5 := h4 0 (.int .u8 (x0.k : Int)) (by simp [elCs, elC])
    rw [e, z0] at h5
    simp at h5
end Go.Proofs.Ytpjpamdocfdibab
