/-
  Words: the document's side: what Lines and Cut hand back, whatever text they are called with.
-/
import Derived.Test.YtpfdgibgdehcdaaDoorTkf
import Derived.Test.YtpfdgibgdehcdaaDoorTkr
import Derived.Lib.OwnKind
namespace Go.Proofs.YtpfdgibgdehcdaaDoor
open RowKit Joins Deep
set_option linter.unusedVariables false

theorem sub_from (t : ByteArray) (a : Nat) (h1 : a ≤ t.size) : ∀ w : World, (Instr.slice 9 (.string t) (some (.int .i64 a)) none none).run Tryd.prog w = .ok (.string (t.extract a t.size)) w := by
  intro w
  rw [run_slice_string_from_if (P := Tryd.prog) w 9 t .i64 a Tryd.underlying9]
  rw [if_pos (by omega)]; simp
theorem cuT_app (s : ByteArray) (a b : List (Nat × Nat)) : cuT s (a ++ b) = cuT s a ++ cuT s b := by unfold cuT; simp
theorem liP_of {s : ByteArray} {D : List (Nat × Nat)} {f : Nat} (h : alP s = D ++ [(f, s.size)]) : liP s = if f = s.size then D else D ++ [(f, s.size)] := by
  unfold liP
  rw [h, List.getLast?_append]
  by_cases q : f = s.size
  · subst q; rw [if_pos rfl]; simp
  · rw [if_neg q, if_neg (by simp; exact q)]

theorem own_ne {w : World} {b1 b2 s1 s2 n1 n2 : Nat} {e1 e2 : TypeId} {v1 v2 : Value} {x1 x2 : List Value} (h1 : w.ownsRow b1 e1 s1 v1 n1 x1) (h2 : w.ownsRow b2 e2 s2 v2 n2 x2) (hne : e1 ≠ e2) : v1.ownBlock = none ∨ v1.ownBlock ≠ v2.ownBlock := by
  cases q : v1.ownBlock with
  | none => exact .inl rfl
  | some g =>
    refine .inr (fun e => ?_)
    obtain ⟨c1, f1, k1⟩ := Lib.ownsRow_kind h1 g q
    obtain ⟨c2, f2, k2⟩ := Lib.ownsRow_kind h2 g e.symm
    rw [k1] at k2
    simp only [Option.some.injEq, Obj.cells.injEq] at k2
    exact hne k2.2.1
theorem own_below {w w' : World} {b e sz n : Nat} {v : Value} {xs : List Value} (h : w.ownsRow b e sz v n xs) (hb : Below w.heap.size w w') : w'.ownsRow b e sz v n xs := by
  refine h.kept (row := none) ⟨hb.os, hb.tape, hb.output, hb.size, fun k hk _ => hb.block k hk⟩ ?_
  cases v.ownBlock
  · exact .inl rfl
  · exact .inr (by simp)
/-- what is known while the document's Cut goes on -/
structure Rcv (s : ByteArray) (w wr : World) (lv v0 : Value) (n : Nat) : Prop where
  bel : Below w.heap.size w wr
  fc : wr.heap[w.heap.size]? = some (.cells #[.int .i64 0, .int .i64 0] 30 (0, 0))
  tx : wr.ownsRow (w.heap.size + 1) 9 1 lv (liT s).length ((liT s).map Value.string)
  out : ∃ us : List Value, us.length = n ∧ wr.ownsRow (w.heap.size + 1) 80 1 v0 n us ∧ ∀ k u, us[k]? = some u → ∃ t, (liT s)[k]? = some t ∧ wr.ownsRow (w.heap.size + 1) 85 3 u (tkl k t).length (tcs (tkl k t))
  ok : ∀ j u, j < n → (liT s)[j]? = some u → bdE u = 0
theorem Rcv.below {s : ByteArray} {w wr w' : World} {lv v0 : Value} {n : Nat} (h : Rcv s w wr lv v0 n) (hb : Below wr.heap.size wr w') : Rcv s w w' lv v0 n := by
  obtain ⟨us, h1, h2, h3⟩ := h.out
  have hlt : w.heap.size < wr.heap.size := by
    rcases Nat.lt_or_ge w.heap.size wr.heap.size with q | q
    · exact q
    · have := h.fc; rw [Array.getElem?_eq_none q] at this; cases this
  exact ⟨h.bel.trans (hb.mono h.bel.size), (hb.block _ hlt).trans h.fc, own_below h.tx hb, ⟨us, h1, own_below h2 hb, fun k u hu => (h3 k u hu).imp fun t q => ⟨q.1, own_below q.2 hb⟩⟩, h.ok⟩
theorem Rcv.push {s : ByteArray} {w wr w2 : World} {lv v0 v' u : Value} {n : Nat} {t : ByteArray} (h : Rcv s w wr lv v0 n) (ht : (liT s)[n]? = some t) (hbd : bdE t = 0) {us : List Value} (h1 : us.length = n) (h2 : wr.ownsRow (w.heap.size + 1) 80 1 v0 n us)
    (h3 : ∀ k u, us[k]? = some u → ∃ t, (liT s)[k]? = some t ∧ wr.ownsRow (w.heap.size + 1) 85 3 u (tkl k t).length (tcs (tkl k t)))
    (hu : wr.ownsRow (w.heap.size + 1) 85 3 u (tkl n t).length (tcs (tkl n t))) (hg : wr.grownBy w2 v0.ownBlock) (ho : w2.ownsRow (w.heap.size + 1) 80 1 v' (n + 1) (us ++ [u])) : Rcv s w w2 lv v' (n + 1) := by
  have hlt : w.heap.size < wr.heap.size := by
    rcases Nat.lt_or_ge w.heap.size wr.heap.size with q | q
    · exact q
    · have := h.fc; rw [Array.getElem?_eq_none q] at this; cases this
  have hb0 : ∀ g, v0.ownBlock = some g → w.heap.size + 1 ≤ g := fun g e => (h2.lt g e).1
  refine ⟨h.bel.trans ⟨hg.os, hg.tape, hg.output, by have := hg.size; omega, fun k hk => hg.block k (by omega) (fun e => by have := hb0 k e.symm; omega)⟩, (hg.block _ hlt (fun e => by have := hb0 _ e.symm; omega)).trans h.fc, h.tx.kept hg (own_ne h.tx h2 (by decide)), ⟨us ++ [u], by simp [h1], ho, ?_⟩, ?_⟩
  · intro k x hx
    rcases Nat.lt_or_ge k n with q | q
    · rw [List.getElem?_append_left (by omega)] at hx
      obtain ⟨t', q1, q2⟩ := h3 k x hx
      exact ⟨t', q1, q2.kept hg (own_ne q2 h2 (by decide))⟩
    · rw [List.getElem?_append_right (by omega)] at hx
      have hk : k = n := by
        have := (List.getElem?_eq_some_iff.1 hx).1
        simp at this; omega
      subst hk
      rw [h1, Nat.sub_self] at hx
      cases hx
      exact ⟨t, ht, hu.kept hg (own_ne hu h2 (by decide))⟩
  · intro j x hj hx
    rcases Nat.lt_succ_iff_lt_or_eq.1 hj with q | rfl
    · exact h.ok j x q hx
    · rw [ht] at hx; cases hx; exact hbd
theorem own_sl {w : World} {b e sz n : Nat} {v : Value} {xs : List Value} (h : w.ownsRow b e sz v n xs) : ∃ A c, v = .slice A n c := by
  rcases ownsRow_forms h with ⟨rfl, h0⟩ | ⟨g, cap, rfl⟩
  · rw [h0]; exact ⟨_, _, rfl⟩
  · exact ⟨_, _, rfl⟩
theorem grown_al2 {w w2 : World} {o : Obj} {row : Option Nat} (h : (w.alloc o).grownBy w2 row) : w.grownBy w2 row :=
  ⟨h.os, h.tape, h.output, Nat.le_trans (by simp) h.size, fun k hk hr => (h.block k (by simp; omega) hr).trans (blk_alloc_lt _ _ _ hk)⟩
theorem Rcv.lt0 {s : ByteArray} {w wr : World} {lv v0 : Value} {n : Nat} (h : Rcv s w wr lv v0 n) : w.heap.size < wr.heap.size := by
  rcases Nat.lt_or_ge w.heap.size wr.heap.size with q | q
  · exact q
  · have := h.fc; rw [Array.getElem?_eq_none q] at this; cases this
/-- the rows that were told, read; the fault's cells are written -/
theorem Rcv.reads {s : ByteArray} {w wr : World} {lv v0 : Value} (hs : s.size ≤ 65536) (h : Rcv s w wr lv v0 (liT s).length) (x y : Value) : RdL ((wr.setCell ⟨w.heap.size, 0, none⟩ x).setCell ⟨w.heap.size, 1, none⟩ y) v0 (tkL 0 (liT s)) := by
  obtain ⟨us, h1, h2', h3'⟩ := h.out
  have h2 := ownsRow_setCell_below (ownsRow_setCell_below h2' (a := ⟨w.heap.size, 0, none⟩) (by show w.heap.size < _; omega) x) (a := ⟨w.heap.size, 1, none⟩) (by show w.heap.size < _; omega) y
  have h3 : ∀ k u, us[k]? = some u → ∃ t, (liT s)[k]? = some t ∧ ((wr.setCell ⟨w.heap.size, 0, none⟩ x).setCell ⟨w.heap.size, 1, none⟩ y).ownsRow (w.heap.size + 1) 85 3 u (tkl k t).length (tcs (tkl k t)) := fun k u hu => by
    obtain ⟨t, q1, q2⟩ := h3' k u hu
    exact ⟨t, q1, ownsRow_setCell_below (ownsRow_setCell_below q2 (a := ⟨w.heap.size, 0, none⟩) (by show w.heap.size < _; omega) x) (a := ⟨w.heap.size, 1, none⟩) (by show w.heap.size < _; omega) y⟩
  have hl := liP_len s
  rw [← liT_len] at hl
  refine ⟨by rw [tkL_len]; omega, ?_⟩
  rw [tkL_len]
  rcases ownsRow_forms h2 with ⟨rfl, h0⟩ | ⟨g, cap, rfl⟩
  · rw [h0]; exact ⟨none, 0, rfl, .inl (List.length_eq_zero_iff.1 (by rw [tkL_len]; exact h0))⟩
  · refine ⟨_, cap, rfl, .inr ⟨g, rfl, fun k l hk => ?_⟩⟩
    obtain ⟨t, e1, rfl⟩ := tkL_inv hk
    have hlt := (List.getElem?_eq_some_iff.1 e1).1
    obtain ⟨u, hu⟩ : ∃ u, us[k]? = some u := ⟨_, List.getElem?_eq_getElem (by omega)⟩
    obtain ⟨t', q1, q2⟩ := h3 k u hu
    rw [e1] at q1; cases q1
    refine ⟨u, by rw [h2.cellAt _ (by omega)]; exact hu, RdT.of q2 (by have := tkl_len k t; have := liT_size e1; omega)⟩

theorem Rcv.abv {s : ByteArray} {w wr : World} {lv v0 : Value} (h : Rcv s w wr lv v0 (liT s).length) (x y : Value) : Abv w.heap.size ((wr.setCell ⟨w.heap.size, 0, none⟩ x).setCell ⟨w.heap.size, 1, none⟩ y) v0 (tkL 0 (liT s)).length := by
  obtain ⟨us, h1, h2', h3'⟩ := h.out
  have h2 := ownsRow_setCell_below (ownsRow_setCell_below h2' (a := ⟨w.heap.size, 0, none⟩) (by show w.heap.size < _; omega) x) (a := ⟨w.heap.size, 1, none⟩) (by show w.heap.size < _; omega) y
  rw [tkL_len]
  rcases ownsRow_forms h2 with ⟨rfl, h0⟩ | ⟨g, cap, rfl⟩
  · rw [h0]; exact Abv.none _ _
  · refine ⟨_, _, rfl, fun b hb => ?_⟩
    simp only [Option.some.injEq, Addr.mk.injEq, and_true] at hb
    subst hb
    refine ⟨by have := (h2.lt g rfl).1; omega, fun k u q hk hu hq => ?_⟩
    rw [h2.cellAt _ (by omega)] at hu
    obtain ⟨t, _, q2⟩ := h3' k u hu
    have := (q2.lt q hq).1
    omega
theorem Tryd.infoRow2 : (Tryd.prog.info? 80).map (fun i => (i.zero, i.size, i.bytes)) = some (some (.slice none 0 0), 1, 24) := by kernel_rfl
end Go.Proofs.YtpfdgibgdehcdaaDoor
