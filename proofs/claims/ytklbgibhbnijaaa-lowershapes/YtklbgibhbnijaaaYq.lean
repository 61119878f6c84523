/-
  Rows of integers in one list, gone on with.
-/
import Derived.Test.YtklbgibhbnijaaaYp
import Derived.Laws.AppendOwn
import Derived.Laws.OwnMore
import Derived.Maps.AppendAt
import Derived.Maps.Range
import Derived.Deep.AppendLies
namespace Go.Proofs.Ytklbgibhbnijaaa.In
open Fl RowKit

theorem add_at (g j : Nat) : (⟨g, 0, none⟩ : Addr).add j = ⟨g, j, none⟩ := by unfold Addr.add; split <;> simp_all
/-- what a row held is read where it stood -/
def Keeps (v : Value) (xs : List Value) (w : World) : Prop := ∀ g j u, v.ownBlock = some g → xs[j]? = some u → w.cell? ⟨g, j, none⟩ = some u
/-- append, and what stood there stays readable where it stood -/
theorem run_append_keeps {P : Program} (w : World) (base : Nat) (t ty e : TypeId) (i : TypeInfo) (z : Value) (bytes : Nat) (ht : P.underlying t = some (.slice e)) (hi : P.info? e = some i) (hz : i.zero = some z)
    (hsize : i.size = 1) (hby : i.bytes = bytes) (hzs : z.cells.size = 1)
    (v : Value) (n : Nat) (xs : List Value) (hown : w.ownsRow base e 1 v n xs)
    (a : Addr) (m c : Nat) (news : List Value) (hl : news.length = m * 1) (hnews : ∀ j u, news[j]? = some u → w.cell? (a.add j) = some u) (h1 : ∀ u ∈ news, u.oneCell' = true)
    (h63 : n + m ≤ maxLen) (hbytes : (n + m) * bytes ≤ 140737488355328) (hbase : base ≤ w.heap.size) :
    ∃ v' w', (Builtin.append_ #[t, t] ty #[v, .slice (some a) m c]).run P w = .ok v' w' ∧ w'.ownsRow base e 1 v' (n + m) (xs ++ news) ∧ w.grownBy w' v.ownBlock ∧
      (v'.ownBlock = v.ownBlock ∨ v'.ownBlock = some w.heap.size) ∧ Keeps v xs w' := by
  obtain ⟨v', w', hr, h2, h3, _, h5⟩ := run_append_own_at (P := P) w base t ty e i z 1 bytes ht hi hz hsize hby hzs (by decide) v n xs hown a m c news hl hnews h1 h63 hbytes hbase
  refine ⟨v', w', hr, h2, h3, h5, ?_⟩
  intro g j u hg hj
  have hsmall : n + m ≤ 9223372036854775807 := by simp only [maxLen] at h63; omega
  rcases hown.2 with ⟨hv, _⟩ | ⟨g', cap, cur, hv, hbg, hg', hnc, hcm, hcs, htake⟩
  · subst hv; simp [Value.ownBlock] at hg
  · subst hv
    have e : g' = g := by simpa [Value.ownBlock] using hg
    subst e
    have holds : ∀ j u, xs[j]? = some u → w.cell? ((⟨g', 0, none⟩ : Addr).add j) = some u := hown.cells (g := g') rfl
    by_cases hroom : n + m ≤ cap
    · have hfit : n * i.size + news.length ≤ cur.size := by rw [hl, hcs, hsize, ← Nat.add_mul]; exact Nat.mul_le_mul_right _ hroom
      have hr2 := run_append_room (P := P) w t ty _ i ht hi g' n cap cur hg' a m c news (by rw [hsize]; exact hl) hnews h1 hroom hfit
      rw [hr] at hr2
      cases hr2
      have := h2.cells (g := g') rfl j u (by rw [List.getElem?_append_left ((List.getElem?_eq_some_iff.1 hj).1)]; exact hj)
      rw [add_at] at this; exact this
    · have hr2 := run_append_grow (P := P) w t ty _ i z ht hi hz ⟨g', 0, none⟩ n cap xs (by rw [hsize]; exact hown.1) holds a m c news (by rw [hsize]; exact hl) hnews (by omega) (by omega) (by rw [hby]; exact growslice_fits (by omega) hbytes)
      rw [hr] at hr2
      cases hr2
      have hlt : g' < w.heap.size := (Array.getElem?_eq_some_iff.1 hg').1
      rw [World.cell?_of_block (heap_alloc_old w.drew _ hlt)]
      have := holds j u hj
      rw [add_at] at this; exact this
theorem wpList_append_keeps {P : Program} {w : World} {ops : Array Oper} {rest : List Oper} {o : Oper} {a : Act} {Q : Exit → Act → World → Prop} (hgd : o.guard = none) (s x : Operand) (t : TypeId)
    (ho : o.op = .call { callee := .builtin .append, args := #[s, x], argTypes := #[t, t] })
    (base : Nat) (e : TypeId) (i : TypeInfo) (z : Value) (bytes : Nat) (ht : P.underlying t = some (.slice e)) (hi : P.info? e = some i) (hz : i.zero = some z)
    (hsize : i.size = 1) (hby : i.bytes = bytes) (hzs : z.cells.size = 1)
    (v : Value) (n : Nat) (xs : List Value) (hs : a.eval s = v) (hown : w.ownsRow base e 1 v n xs)
    (ad : Addr) (m c : Nat) (news : List Value) (hx : a.eval x = .slice (some ad) m c) (hl : news.length = m * 1) (hnews : ∀ j u, news[j]? = some u → w.cell? (ad.add j) = some u) (h1 : ∀ u ∈ news, u.oneCell' = true)
    (h63 : n + m ≤ maxLen) (hbytes : (n + m) * bytes ≤ 140737488355328) (hbase : base ≤ w.heap.size)
    (h : ∀ v' w', w'.ownsRow base e 1 v' (n + m) (xs ++ news) → w.grownBy w' v.ownBlock → (v'.ownBlock = v.ownBlock ∨ v'.ownBlock = some w.heap.size) → Keeps v xs w' → wpList P ops Q rest (a.put o.dst v') w') : wpList P ops Q (o :: rest) a w := by
  refine wpList_plain hgd fun K hK => ?_
  obtain ⟨v', w', hr, h2, h3, h4, h5⟩ := run_append_keeps (P := P) w base t o.type e i z bytes ht hi hz hsize hby hzs v n xs hown ad m c news hl hnews h1 h63 hbytes hbase
  unfold Oper.wp execOp
  simp only [ho, resolve, invoke, builtin, Sem.run_bind, Sem.run_pure, Result.andThen_ok, List.map_toArray, List.map_cons, List.map_nil, hs, hx, hr]
  exact hK _ _ (h v' w' h2 h3 h4 h5)

/-- m rows, and a row of them -/
structure Many (base LB m : Nat) (n : Nat → Nat) (V : Nat → Value) (L : Nat → List Int) (w : World) : Prop where
  cell : ∀ j, j < m → w.cell? ⟨LB, j, none⟩ = some (V j)
  own : ∀ j, j < m → w.ownsRow base 3 1 (V j) (n j) ((L j).map ci)
  len : ∀ j, j < m → (L j).length = n j
  apart : ∀ j k, j < m → k < m → j ≠ k → ∀ g, (V j).ownBlock = some g → (V k).ownBlock ≠ some g
  off : ∀ j, j < m → (V j).ownBlock ≠ some LB
  lt : LB < w.heap.size
theorem Many.at {base LB m : Nat} {n : Nat → Nat} {V : Nat → Value} {L : Nat → List Int} {w w' : World} (h : Many base LB m n V L w) (hs : w.heap.size ≤ w'.heap.size) (hl : w'.heap[LB]? = w.heap[LB]?) (hg : ∀ j, j < m → ∀ g, (V j).ownBlock = some g → w'.heap[g]? = w.heap[g]?) : Many base LB m n V L w' := by
  refine ⟨?_, ?_, h.len, h.apart, h.off, Nat.lt_of_lt_of_le h.lt hs⟩
  · intro j hj
    rw [World.cell?_of_block (w := w) hl]
    exact h.cell j hj
  · intro j hj
    exact own_at (h.own j hj) (hg j hj)
theorem Many.drewN {base LB m : Nat} {n : Nat → Nat} {V : Nat → Value} {L : Nat → List Int} {w : World} (h : Many base LB m n V L w) (q : Nat) : Many base LB m n V L (w.drewN q) := h.at (Nat.le_refl _) rfl (fun _ _ _ _ => rfl)
theorem Many.store {base LB m : Nat} {n : Nat → Nat} {V : Nat → Value} {L : Nat → List Int} {w : World} (h : Many base LB m n V L w) {k i g C : Nat} (hk : k < m) (hV : V k = .slice (some ⟨g, 0, none⟩) (n k) C) (u : Int) :
    Many base LB m n V (fun j => if j = k then (L k).set i u else L j) (w.setCell ⟨g, i, none⟩ (ci u)) := by
  have hb : (V k).ownBlock = some g := by rw [hV]; rfl
  have hoth : ∀ b, b ≠ g → (w.setCell ⟨g, i, none⟩ (ci u)).heap[b]? = w.heap[b]? := fun b hb => Below.heap_setCell _ _ _ _ hb
  refine ⟨?_, ?_, ?_, h.apart, h.off, by simpa using h.lt⟩
  · intro j hj
    rw [World.cell?_of_block (w := w) (hoth LB (fun e => h.off k hk (by rw [hb, e])))]
    exact h.cell j hj
  · intro j hj
    by_cases e : j = k
    · subst e
      simp only [if_true]
      have ho := h.own j hj
      rw [hV] at ho ⊢
      rw [List.map_set]
      exact (ho.stored i (ci u)).1
    · simp only [e, if_false]
      refine own_at (h.own j hj) ?_
      intro g' hg'
      refine hoth _ (fun e2 => ?_)
      subst e2
      exact h.apart j k hj hk e _ hg' hb
  · intro j hj
    by_cases e : j = k
    · simp only [e, if_true]; rw [List.length_set]; exact h.len k hk
    · simp only [e, if_false]; exact h.len j hj
/-- what stands in the rows while they are written: rows below k are full of marks, row k up to i -/
def wr1 (E : Nat → List Int) (k i : Nat) (n : Nat → Nat) (j : Nat) : List Int := if j < k then marks ((j : Int) + 10) (n j) else if j = k then marks ((k : Int) + 10) i ++ (E k).drop i else E j
theorem wr1_start (E : Nat → List Int) (n : Nat → Nat) : wr1 E 0 0 n = E := by
  funext j
  unfold wr1
  by_cases hj : j = 0
  · subst hj; simp [marks]
  · simp [hj]
theorem wr1_next (E : Nat → List Int) (k : Nat) (n : Nat → Nat) (h : (E k).length = n k) : wr1 E k (n k) n = wr1 E (k + 1) 0 n := by
  funext j
  unfold wr1
  by_cases h1 : j < k
  · rw [if_pos h1, if_pos (by omega)]
  · rw [if_neg h1]
    by_cases h2 : j = k
    · subst h2; rw [if_pos rfl, if_pos (by omega), ← h, List.drop_length, List.append_nil]
    · rw [if_neg h2, if_neg (by omega)]
      by_cases h3 : j = k + 1
      · subst h3; simp [marks]
      · rw [if_neg h3]
theorem wr1_set (E : Nat → List Int) (k i : Nat) (n : Nat → Nat) (h : i < (E k).length) : (fun j => if j = k then (wr1 E k i n k).set i (mk ((k : Int) + 10) (i : Int)) else wr1 E k i n j) = wr1 E k (i + 1) n := by
  funext j
  by_cases h1 : j = k
  · subst h1
    simp only [if_true]
    unfold wr1
    rw [if_neg (by omega), if_pos rfl, if_neg (by omega), if_pos rfl]
    rw [List.set_append_right _ _ (by rw [marks_len]; exact Nat.le_refl _), marks_len, Nat.sub_self, List.drop_eq_getElem_cons h, marks_succ, List.append_assoc]; rfl
  · simp only [h1, if_false]
    unfold wr1
    by_cases h2 : j < k
    · rw [if_pos h2, if_pos h2]
    · rw [if_neg h2, if_neg h2, if_neg h1, if_neg h1]

theorem own_form {w : World} {base e n : Nat} {v : Value} {xs : List Value} (h : w.ownsRow base e 1 v n xs) : ∃ A C, v = .slice A n C := by
  rcases h.2 with ⟨hv, h0⟩ | ⟨g, cap, cur, hv, _⟩
  · exact ⟨none, 0, by rw [hv, h0]⟩
  · exact ⟨_, _, hv⟩
theorem marks_get (k : Int) {m j : Nat} (h : j < m) : ((marks k m).map ci)[j]? = some (ci (mk k (j : Int))) := by
  rw [List.getElem?_map]; simp [marks, h]
theorem marks_next (k : Nat) (a b : Nat) : (marks ((k : Int) + 10) (a + b)).map ci ++ [ci (mk ((k : Int) + 10) ((a : Int) + (b : Int)))] = (marks ((k : Int) + 10) (a + (b + 1))).map ci := by
  rw [← Nat.add_assoc, marks_succ, List.map_append, Int.natCast_add]; rfl
theorem ne_or {X Y : Option Nat} (h : ∀ g, X = some g → Y ≠ some g) : X = none ∨ X ≠ Y := by
  cases X with
  | none => exact .inl rfl
  | some g => exact .inr (fun e => h g rfl e.symm)
/-- where the rows lie -/
structure Vs (W0 LB m : Nat) (V : Nat → Value) : Prop where
  lt : ∀ j, j < m → ∀ g, (V j).ownBlock = some g → g < W0
  apart : ∀ j k, j < m → k < m → j ≠ k → ∀ g, (V j).ownBlock = some g → (V k).ownBlock ≠ some g
  off : ∀ j, j < m → (V j).ownBlock ≠ some LB
  lb : LB < W0
/-- the first k rows gone on with by six marks; those from r on as they were written -/
structure Gone (base W0 LB m k r : Nat) (n : Nat → Nat) (V H : Nat → Value) (w : World) : Prop where
  row : ∀ j, j < k → w.ownsRow base 3 1 (H j) (n j + 6) ((marks ((j : Int) + 10) (n j + 6)).map ci)
  old : ∀ j, j < k → ∀ g, (V j).ownBlock = some g → ∀ i, i < n j → w.cell? ⟨g, i, none⟩ = some (ci (mk ((j : Int) + 10) (i : Int)))
  rest : ∀ j, r ≤ j → j < m → w.ownsRow base 3 1 (V j) (n j) ((marks ((j : Int) + 10) (n j)).map ci)
  cell : ∀ j, j < m → w.cell? ⟨LB, j, none⟩ = some (V j)
  size : W0 ≤ w.heap.size
  loc : ∀ j, j < k → (H j).ownBlock = (V j).ownBlock ∨ ∃ h, (H j).ownBlock = some h ∧ W0 ≤ h
  hap : ∀ i j, i < k → j < k → i ≠ j → ∀ g, (H i).ownBlock = some g → (H j).ownBlock ≠ some g
theorem Gone.less {base W0 LB m k r : Nat} {n : Nat → Nat} {V H : Nat → Value} {w : World} (h : Gone base W0 LB m k r n V H w) : Gone base W0 LB m k (r + 1) n V H w := ⟨h.row, h.old, fun j hj => h.rest j (by omega), h.cell, h.size, h.loc, h.hap⟩
theorem Gone.kept {base W0 LB m k r : Nat} {n : Nat → Nat} {V H : Nat → Value} {w w' : World} {row : Option Nat} (h : Gone base W0 LB m k r n V H w) (hS : Vs W0 LB m V) (hkm : k ≤ m) (hg : w.grownBy w' row)
    (hrow : ∀ g, row = some g → LB ≠ g ∧ (∀ j, j < m → (j < k ∨ r ≤ j) → (V j).ownBlock ≠ some g) ∧ (∀ j, j < k → (H j).ownBlock ≠ some g)) : Gone base W0 LB m k r n V H w' := by
  have hz := h.size
  refine ⟨?_, ?_, ?_, ?_, Nat.le_trans hz hg.size, h.loc, h.hap⟩
  · intro j hj
    exact (h.row j hj).kept hg (ne_or (fun g e e2 => (hrow g e2).2.2 j hj e))
  · intro j hj g hV i hi
    rw [hg.cell_far _ (by show g < _; have := hS.lt j (by omega) g hV; omega) (fun e => (hrow g e.symm).2.1 j (by omega) (.inl hj) hV)]
    exact h.old j hj g hV i hi
  · intro j hj hjm
    exact (h.rest j hj hjm).kept hg (ne_or (fun g e e2 => (hrow g e2).2.1 j hjm (.inr hj) e))
  · intro j hj
    rw [hg.cell_far _ (by show LB < _; have := hS.lb; omega) (fun e => (hrow LB e.symm).1 rfl)]
    exact h.cell j hj
def upd (f : Nat → Value) (k : Nat) (v : Value) (j : Nat) : Value := if j = k then v else f j
theorem upd_self (f : Nat → Value) (k : Nat) (v : Value) : upd f k v k = v := by unfold upd; rw [if_pos rfl]
theorem upd_ne (f : Nat → Value) {k j : Nat} (v : Value) (h : j ≠ k) : upd f k v j = f j := by unfold upd; rw [if_neg h]
theorem gone_push {base W0 LB m k : Nat} {n : Nat → Nat} {V H : Nat → Value} {w : World} {g0 : Value} (h : Gone base W0 LB m k (k + 1) n V H w)
    (hown : w.ownsRow base 3 1 g0 (n k + 6) ((marks ((k : Int) + 10) (n k + 6)).map ci))
    (hold : ∀ g, (V k).ownBlock = some g → ∀ i, i < n k → w.cell? ⟨g, i, none⟩ = some (ci (mk ((k : Int) + 10) (i : Int))))
    (hloc : g0.ownBlock = (V k).ownBlock ∨ ∃ h, g0.ownBlock = some h ∧ W0 ≤ h) (hap : ∀ j, j < k → ∀ g, (H j).ownBlock = some g → g0.ownBlock ≠ some g) : Gone base W0 LB m (k + 1) (k + 1) n V (upd H k g0) w := by
  refine ⟨?_, ?_, h.rest, h.cell, h.size, ?_, ?_⟩
  · intro j hj
    by_cases e : j = k
    · subst e; rw [upd_self]; exact hown
    · rw [upd_ne _ _ e]; exact h.row j (by omega)
  · intro j hj
    by_cases e : j = k
    · subst e; exact hold
    · exact h.old j (by omega)
  · intro j hj
    by_cases e : j = k
    · subst e; rw [upd_self]; exact hloc
    · rw [upd_ne _ _ e]; exact h.loc j (by omega)
  · intro i j hi hj hij g hg
    by_cases e : i = k
    · subst e
      rw [upd_self] at hg
      rw [upd_ne _ _ (Ne.symm hij)]
      intro e2
      exact hap j (by omega) g e2 hg
    · rw [upd_ne _ _ e] at hg
      by_cases e2 : j = k
      · subst e2; rw [upd_self]; exact hap i (by omega) g hg
      · rw [upd_ne _ _ e2]; exact h.hap i j (by omega) (by omega) hij g hg
theorem range_upd (H : Nat → Value) (k : Nat) (v : Value) : (List.range (k + 1)).map (upd H k v) = (List.range k).map H ++ [v] := by
  rw [List.range_succ, List.map_append]
  congr 1
  · refine List.map_congr_left ?_
    intro j hj
    have : j ≠ k := by have := List.mem_range.1 hj; omega
    exact upd_ne _ _ this
  · simp [upd_self]

end Go.Proofs.Ytklbgibhbnijaaa.In
