/-
  Words: a list of words, a list of such lists, as they are read in memory.
-/
import Derived.Test.YtpfdgibgdehcdaaDoorTkd
namespace Go.Proofs.YtpfdgibgdehcdaaDoor
open RowKit Joins Deep
set_option linter.unusedVariables false

/-- the value v reads as the words ts -/
def RdT (w : World) (v : Value) (ts : List Tok) : Prop :=
  ts.length ≤ 4611686018427387904 ∧ ∃ A c, v = .slice A ts.length c ∧ (ts = [] ∨ ∃ b, A = some ⟨b, 0, none⟩ ∧ ∀ (k : Nat) (p : Tok), ts[k]? = some p → w.cell? ⟨b, k * 3, none⟩ = some (.string p.1) ∧ w.cell? ⟨b, k * 3 + 1, none⟩ = some (.int .i64 p.2.1) ∧ w.cell? ⟨b, k * 3 + 2, none⟩ = some (.int .i64 p.2.2))
/-- the value v reads as the lists ls -/
def RdL (w : World) (v : Value) (ls : List (List Tok)) : Prop :=
  ls.length ≤ 4611686018427387904 ∧ ∃ A c, v = .slice A ls.length c ∧ (ls = [] ∨ ∃ b, A = some ⟨b, 0, none⟩ ∧ ∀ (k : Nat) (ts : List Tok), ls[k]? = some ts → ∃ u, w.cell? ⟨b, k, none⟩ = some u ∧ RdT w u ts)
theorem RdT.kept {w w' : World} {v : Value} {ts : List Tok} (h : RdT w v ts) (hb : Below w.heap.size w w') : RdT w' v ts := by
  obtain ⟨h0, A, c, h1, h2⟩ := h
  refine ⟨h0, A, c, h1, h2.imp id ?_⟩
  rintro ⟨b, h3, h4⟩
  refine ⟨b, h3, fun k p hk => ?_⟩
  obtain ⟨q0, q1, q2⟩ := h4 k p hk
  exact ⟨(hb.cell (World.block_lt_of_cell? w _ q0)).trans q0, (hb.cell (World.block_lt_of_cell? w _ q1)).trans q1, (hb.cell (World.block_lt_of_cell? w _ q2)).trans q2⟩
theorem RdL.kept {w w' : World} {v : Value} {ls : List (List Tok)} (h : RdL w v ls) (hb : Below w.heap.size w w') : RdL w' v ls := by
  obtain ⟨h0, A, c, h1, h2⟩ := h
  refine ⟨h0, A, c, h1, h2.imp id ?_⟩
  rintro ⟨b, h3, h4⟩
  refine ⟨b, h3, fun k p hk => ?_⟩
  obtain ⟨u, q0, q1⟩ := h4 k p hk
  exact ⟨u, (hb.cell (World.block_lt_of_cell? w _ q0)).trans q0, q1.kept hb⟩
theorem RdT.of {w : World} {base : Nat} {v : Value} {ts : List Tok} (h : w.ownsRow base 85 3 v ts.length (tcs ts)) (hl : ts.length ≤ 4611686018427387904) : RdT w v ts := by
  refine ⟨hl, ?_⟩
  rcases ownsRow_forms h with ⟨rfl, h0⟩ | ⟨g, cap, rfl⟩
  · rw [h0]; exact ⟨none, 0, rfl, .inl (List.length_eq_zero_iff.1 h0)⟩
  · refine ⟨_, cap, rfl, .inr ⟨g, rfl, fun k p hk => ?_⟩⟩
    have hlt := (List.getElem?_eq_some_iff.1 hk).1
    obtain ⟨q0, q1, q2⟩ := tcs_get hk
    exact ⟨by rw [h.cellAt _ (by omega)]; exact q0, by rw [h.cellAt _ (by omega)]; exact q1, by rw [h.cellAt _ (by omega)]; exact q2⟩
theorem tkl_len (n : Nat) (t : ByteArray) : (tkl n t).length ≤ t.size := by
  rw [tkl_wtk, wtk_len]; exact (scn_wf t t.size).len
theorem liT_size {s : ByteArray} {k : Nat} {t : ByteArray} (h : (liT s)[k]? = some t) : t.size ≤ s.size := by
  obtain ⟨p, hp, _, ht⟩ := liT_get (s := s) (n := k) (by have := (List.getElem?_eq_some_iff.1 h).1; rw [liT_len] at this; exact this)
  rw [h] at ht
  cases ht
  rw [ex_size (liP_in hp).2]; have := (liP_in hp).2; omega
theorem tkL_inv {l : List ByteArray} {k : Nat} {ts : List Tok} (h : (tkL 0 l)[k]? = some ts) : ∃ t, l[k]? = some t ∧ ts = tkl k t := by
  have hlt := (List.getElem?_eq_some_iff.1 h).1
  rw [tkL_len] at hlt
  refine ⟨l[k], List.getElem?_eq_getElem hlt, ?_⟩
  rw [tkL_get (List.getElem?_eq_getElem hlt), Nat.zero_add] at h
  exact (Option.some.inj h).symm
/-- what Cut hands back, read -/
theorem RdL.fam {s : ByteArray} {w : World} {base BL : Nat} {vs : Nat → Value} {ts : Nat → List Tok} (hs : s.size ≤ 65536) (h : Fam w base BL (liP s).length vs ts) (ht : ∀ j u, (liT s)[j]? = some u → ts j = tkl j u) :
    RdL w (.slice (some ⟨BL, 0, none⟩) (liP s).length (liP s).length) (tkL 0 (liT s)) := by
  have hl := liP_len s
  refine ⟨by rw [tkL_len, liT_len]; omega, _, _, by rw [tkL_len, liT_len], .inr ⟨BL, rfl, fun k l hk => ?_⟩⟩
  obtain ⟨t, h1, rfl⟩ := tkL_inv hk
  have hlt := (List.getElem?_eq_some_iff.1 h1).1
  rw [liT_len] at hlt
  refine ⟨vs k, h.row.cell hlt, ?_⟩
  have := h.own k hlt
  rw [ht k t h1] at this
  exact RdT.of this (by have := tkl_len k t; have := liT_size h1; omega)
/-- a list of n lists lies above a place: its own block and its lists' blocks -/
def Abv (lo : Nat) (w : World) (v : Value) (n : Nat) : Prop :=
  ∃ A c, v = .slice A n c ∧ ∀ b, A = some ⟨b, 0, none⟩ → lo ≤ b ∧ ∀ k u g, k < n → w.cell? ⟨b, k, none⟩ = some u → u.ownBlock = some g → lo ≤ g
theorem Abv.kept {lo : Nat} {w w' : World} {v : Value} {ls : List (List Tok)} (h : Abv lo w v ls.length) (hr : RdL w v ls) (hb : Below w.heap.size w w') : Abv lo w' v ls.length := by
  obtain ⟨A, c, h1, h2⟩ := h
  refine ⟨A, c, h1, fun b hA => ⟨(h2 b hA).1, fun k u g hk hu hg => ?_⟩⟩
  obtain ⟨_, A', c', h1', h3⟩ := hr
  rw [h1] at h1'
  simp only [Value.slice.injEq] at h1'
  obtain ⟨rfl, _, rfl⟩ := h1'
  rcases h3 with h3 | ⟨b', h4, h5⟩
  · rw [h3] at hk; exact absurd hk (by simp)
  · rw [hA] at h4
    simp only [Option.some.injEq, Addr.mk.injEq, and_true] at h4
    subst h4
    obtain ⟨u', q1, _⟩ := h5 k _ (List.getElem?_eq_getElem hk)
    have := (hb.cell (World.block_lt_of_cell? w _ q1)).trans q1
    rw [this] at hu; cases hu
    exact (h2 b hA).2 k _ g hk q1 hg
theorem Abv.mono {lo lo' : Nat} {w : World} {v : Value} {n : Nat} (h : Abv lo w v n) (hl : lo' ≤ lo) : Abv lo' w v n := by
  obtain ⟨A, c, h1, h2⟩ := h
  exact ⟨A, c, h1, fun b hA => ⟨by have := (h2 b hA).1; omega, fun k u g hk hu hg => by have := (h2 b hA).2 k u g hk hu hg; omega⟩⟩
theorem RdT.move {lo : Nat} {w w' : World} {v : Value} {ts : List Tok} (h : RdT w v ts) (hl : ∀ g, v.ownBlock = some g → lo ≤ g) (hb : ∀ k, lo ≤ k → k < w.heap.size → w'.heap[k]? = w.heap[k]?) : RdT w' v ts := by
  obtain ⟨h0, A, c, h1, h2⟩ := h
  refine ⟨h0, A, c, h1, h2.imp id ?_⟩
  rintro ⟨b, h3, h4⟩
  refine ⟨b, h3, fun k p hk => ?_⟩
  obtain ⟨q0, q1, q2⟩ := h4 k p hk
  have hlo : lo ≤ b := hl b (by rw [h1, h3]; rfl)
  have e : w'.heap[b]? = w.heap[b]? := hb b hlo (World.block_lt_of_cell? w _ q0)
  exact ⟨(World.cell?_of_block (a := ⟨b, k * 3, none⟩) e).trans q0, (World.cell?_of_block (a := ⟨b, k * 3 + 1, none⟩) e).trans q1, (World.cell?_of_block (a := ⟨b, k * 3 + 2, none⟩) e).trans q2⟩
theorem RdL.move {lo : Nat} {w w' : World} {v : Value} {ls : List (List Tok)} (h : RdL w v ls) (ha : Abv lo w v ls.length) (hb : ∀ k, lo ≤ k → k < w.heap.size → w'.heap[k]? = w.heap[k]?) : RdL w' v ls := by
  obtain ⟨h0, A, c, h1, h2⟩ := h
  obtain ⟨A', c', h1', ha⟩ := ha
  rw [h1] at h1'
  simp only [Value.slice.injEq] at h1'
  obtain ⟨rfl, _, rfl⟩ := h1'
  refine ⟨h0, A, c, h1, h2.imp id ?_⟩
  rintro ⟨b, h3, h4⟩
  obtain ⟨hlo, har⟩ := ha b h3
  refine ⟨b, h3, fun k p hk => ?_⟩
  obtain ⟨u, q0, q1⟩ := h4 k p hk
  have e : w'.heap[b]? = w.heap[b]? := hb b hlo (World.block_lt_of_cell? w _ q0)
  refine ⟨u, (World.cell?_of_block (a := ⟨b, k, none⟩) e).trans q0, q1.move (lo := lo) (fun g hg => har k u g ?_ q0 hg) hb⟩
  exact (List.getElem?_eq_some_iff.1 hk).1
theorem Abv.fam {w : World} {base BL N lo : Nat} {vs : Nat → Value} {ts : Nat → List Tok} (h : Fam w base BL N vs ts) (h1 : lo ≤ base) (h2 : lo ≤ BL) : Abv lo w (.slice (some ⟨BL, 0, none⟩) N N) N := by
  refine ⟨_, _, rfl, fun b hb => ?_⟩
  simp only [Option.some.injEq, Addr.mk.injEq, and_true] at hb
  subst hb
  refine ⟨h2, fun k u g hk hu hg => ?_⟩
  rw [h.row.cell hk] at hu
  cases hu
  have := ((h.own k hk).lt g hg).1
  omega
theorem Abv.none (lo : Nat) (w : World) : Abv lo w (.slice none 0 0) 0 := ⟨_, _, rfl, fun b hb => by cases hb⟩
theorem RdL.none (w : World) : RdL w (.slice none 0 0) [] := ⟨by simp, _, _, rfl, .inl rfl⟩
end Go.Proofs.YtpfdgibgdehcdaaDoor
