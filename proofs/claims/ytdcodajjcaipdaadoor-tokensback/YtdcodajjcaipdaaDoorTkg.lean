/-
  Words: the document's side: what Lines and Cut hand back, whatever text they are called with.
-/
import Derived.Test.YtdcodajjcaipdaaDoorTkf
import Derived.Test.YtdcodajjcaipdaaDoorTkr
import Derived.Lib.OwnKind
namespace Go.Proofs.YtdcodajjcaipdaaDoor
open RowKit Joins Deep
set_option linter.unusedVariables false

theorem sub_from (t : ByteArray) (a : Nat) (h1 : a ≤ t.size) : ∀ w : World, (Instr.slice 9 (.string t) (some (.int .i64 a)) none none).run Tryd.prog w = .ok (.string (t.extract a t.size)) w := by
  intro w
  rw [run_slice_string_from_if (P := Tryd.prog) w 9 t .i64 a Tryd.underlying9]
  rw [if_pos (by omega)]; simp
theorem cuT_app (s : ByteArray) (a b : List (Nat × Nat)) : cuT s (a ++ b) = cuT s a ++ cuT s b := by unfold cuT; simp
theorem liP_of {s : ByteArray} {D : List (Nat × Nat)} {f : Nat} (h : alP s = D ++ [(f, s.size)]) : liP s = if f = s.size then D else D ++ [(f, s.size)] := by
  unfold liP
  rw [h, List.getLast?_append]
  by_cases q : f = s.size
  · subst q; rw [if_pos rfl]; simp
  · rw [if_neg q, if_neg (by simp; exact q)]

set_option maxHeartbeats 4000000 in
set_option maxRecDepth 100000 in
theorem rlines_any (s : ByteArray) (w : World) (hs : s.size ≤ 65536) :
    Calls Tryd.prog 27 #[.string s] w fun e w' => ∃ v, e = .returned v ∧ w'.ownsRow w.heap.size 9 1 v (liT s).length ((liT s).map Value.string) ∧ Below w.heap.size w w' := by
  obtain ⟨i0, hi0, hz0, hz1, hz2⟩ := info_parts shI
  go_enter Tryd.func27, Tryd.ntmps27
  go_wp2_with fail
  go_loopw [3, 4, 5] (fun v fv iv wr => ∃ (i f : Nat) (D : List (Nat × Nat)) (v0 : Value), i ≤ s.size ∧ f ≤ i ∧ iv = .int .i64 i ∧ fv = .int .i64 f ∧ v0 = v ∧ Hid (D ++ pcs s (s.size - i) i f = alP s) ∧ D.length ≤ i ∧ Hid (wr.ownsRow w.heap.size 9 1 v0 D.length ((cuT s D).map Value.string)) ∧ Hid (Below w.heap.size w wr)) (fun _ _ iv _ => s.size - (intOf iv).toNat)
  case atStart => exact ⟨0, 0, [], _, Nat.zero_le _, Nat.le_refl _, rfl, rfl, rfl, rfl, Nat.le_refl _, World.ownsRow_nil _ _ _ _, Below.refl _ _⟩
  case round =>
    obtain ⟨i, f, D, v0, hle, hf, rfl, rfl, hv, HA, hD, HO, HW⟩ := hrel
    subst hv
    obtain ⟨A, cap, rfl⟩ : ∃ A cap, v0 = .slice A D.length cap := by
      rcases ownsRow_forms HO.out with ⟨rfl, h0⟩ | ⟨g, cap, rfl⟩
      · rw [h0]; exact ⟨_, _, rfl⟩
      · exact ⟨_, _, rfl⟩
    by_cases hp : i < s.size
    · have hg := bty_get hp
      obtain ⟨c, hc⟩ : ∃ c, c = bty s i := ⟨_, rfl⟩
      rw [← hc] at hg
      have HC : Hid (c = bty s i) := hc
      clear hc
      have hst : pcs s (s.size - i) i f = if bty s i = 10 then (f, i) :: pcs s (s.size - (i + 1)) (i + 1) (i + 1) else pcs s (s.size - (i + 1)) (i + 1) f := by
        obtain ⟨k, hk⟩ : ∃ k, s.size - i = k + 1 := ⟨s.size - i - 1, by omega⟩
        rw [hk, show s.size - (i + 1) = k by omega]; rfl
      by_cases h1 : c = 10
      · have hsl := sub_run s f i (i : Int) rfl hf (by omega)
        have HA2 : Hid ((D ++ [(f, i)]) ++ pcs s (s.size - (i + 1)) (i + 1) (i + 1) = alP s) := by
          have := HA.out
          rw [hst, if_pos (by rw [← HC.out]; exact h1)] at this
          show (D ++ [(f, i)]) ++ pcs s (s.size - (i + 1)) (i + 1) (i + 1) = alP s
          rw [List.append_assoc]; exact this
        clear hst
        subst h1
        go_wp2_with (at_builtin; refine wpList_append_lies _ (by rfl) _ _ 35 (by rfl) w.heap.size 9 i0 (.string ByteArray.empty) 1 16 Tryd.underlying35 hi0 hz0 hz1 hz2 (by rfl) (by decide) _ _ _ (by rfl) (HO.out.alloc _) ⟨_, 0, none⟩ 1 1 [.string (s.extract f i)] (by rfl) (by rfl) ?c1 ?c2 (by decide) ?c3 ?c4 ?c5 _ rfl ?next)
        case c1 => exact World.news_of_block (fr := (0, 0)) (t := 9) (cs := #[.string (s.extract f i)]) (heap_alloc_new _ _)
        case c2 => intro u hu; simp at hu; subst hu; rfl
        case c3 => unfold maxLen; omega
        case c4 => omega
        case c5 => have := HW.out.size; simp; omega
        case next =>
          intro g2 cap2 w2 hown2 hgrow hat hlt
          have HO2 : Hid (w2.ownsRow w.heap.size 9 1 (.slice (some ⟨g2, 0, none⟩) (D.length + 1) cap2) (D ++ [(f, i)]).length ((cuT s (D ++ [(f, i)])).map Value.string)) := by
            rw [cuT_app, List.map_append, List.length_append]; exact hown2
          have HW2 : Hid (Below w.heap.size w w2) := (HW.out.alloc HW.out.size _).grown hgrow (by have := HW.out.size; simp; omega) (fun k hk => (HO.out.lt k hk).1)
          clear hown2 hgrow hat hlt
          go_wp2_with fail
          go_roundw
          case rel => exact ⟨i + 1, i + 1, D ++ [(f, i)], _, by omega, by omega, by go_num, by go_num, rfl, HA2.out, by simp; omega, HO2.out, HW2.out⟩
          case measure => simp [intOf]; omega
      · have HA2 : Hid (D ++ pcs s (s.size - (i + 1)) (i + 1) f = alP s) := by
          have := HA.out
          rw [hst, if_neg (by rw [← HC.out]; exact h1)] at this
          exact this
        clear hst
        have n1 : ((c : Int) == 10) = false := by simp; omega
        go_wp2_with fail
        go_roundw
        case rel => exact ⟨i + 1, f, D, _, by omega, by omega, by go_num, rfl, rfl, HA2.out, by omega, HO.out, HW.out⟩
        case measure => simp [intOf]; omega
    · have e : i = s.size := by omega
      subst e
      have HA2 : Hid (liP s = if f = s.size then D else D ++ [(f, s.size)]) := liP_of (by rw [← HA.out, Nat.sub_self]; rfl)
      by_cases hfs : f < s.size
      · have hfi : (f : Int) < (s.size : Int) := by omega
        have hsl := sub_from s f (by omega)
        have HA3 : Hid (liT s = cuT s D ++ [s.extract f s.size]) := by
          show cuT s (liP s) = _
          rw [HA2.out, if_neg (by omega), cuT_app]; rfl
        go_wp2_with (at_builtin; refine wpList_append_lies _ (by rfl) _ _ 35 (by rfl) w.heap.size 9 i0 (.string ByteArray.empty) 1 16 Tryd.underlying35 hi0 hz0 hz1 hz2 (by rfl) (by decide) _ _ _ (by rfl) (HO.out.alloc _) ⟨_, 0, none⟩ 1 1 [.string (s.extract f s.size)] (by rfl) (by rfl) ?c1 ?c2 (by decide) ?c3 ?c4 ?c5 _ rfl ?next)
        case c1 => exact World.news_of_block (fr := (0, 0)) (t := 9) (cs := #[.string (s.extract f s.size)]) (heap_alloc_new _ _)
        case c2 => intro u hu; simp at hu; subst hu; rfl
        case c3 => unfold maxLen; omega
        case c4 => omega
        case c5 => have := HW.out.size; simp; omega
        case next =>
          intro g2 cap2 w2 hown2 hgrow hat hlt
          have HW2 : Hid (Below w.heap.size w w2) := (HW.out.alloc HW.out.size _).grown hgrow (by have := HW.out.size; simp; omega) (fun k hk => (HO.out.lt k hk).1)
          have HO2 : Hid (w2.ownsRow w.heap.size 9 1 (.slice (some ⟨g2, 0, none⟩) (D.length + 1) cap2) (D.length + 1) ((cuT s D).map Value.string ++ [.string (s.extract f s.size)])) := hown2
          clear hown2 hgrow hat hlt
          go_wp2_with fail
          go_ret
          rw [HA3.out, List.map_append, List.length_append, cuT_len]
          exact ⟨_, rfl, HO2.out, HW2.out⟩
      · have hfi : ¬ (f : Int) < (s.size : Int) := by omega
        have HA3 : Hid (liT s = cuT s D) := by
          show cuT s (liP s) = _
          rw [HA2.out, if_pos (by omega)]
        go_wp2_with fail
        go_ret
        rw [HA3.out, cuT_len]
        exact ⟨_, rfl, HO.out, HW.out⟩
theorem own_ne {w : World} {b1 b2 s1 s2 n1 n2 : Nat} {e1 e2 : TypeId} {v1 v2 : Value} {x1 x2 : List Value} (h1 : w.ownsRow b1 e1 s1 v1 n1 x1) (h2 : w.ownsRow b2 e2 s2 v2 n2 x2) (hne : e1 ≠ e2) : v1.ownBlock = none ∨ v1.ownBlock ≠ v2.ownBlock := by
  cases q : v1.ownBlock with
  | none => exact .inl rfl
  | some g =>
    refine .inr (fun e => ?_)
    obtain ⟨c1, f1, k1⟩ := Lib.ownsRow_kind h1 g q
    obtain ⟨c2, f2, k2⟩ := Lib.ownsRow_kind h2 g e.symm
    rw [k1] at k2
    simp only [Option.some.injEq, Obj.cells.injEq] at k2
    exact hne k2.2.1
theorem own_below {w w' : World} {b e sz n : Nat} {v : Value} {xs : List Value} (h : w.ownsRow b e sz v n xs) (hb : Below w.heap.size w w') : w'.ownsRow b e sz v n xs := by
  refine h.kept (row := none) ⟨hb.os, hb.tape, hb.output, hb.size, fun k hk _ => hb.block k hk⟩ ?_
  cases v.ownBlock
  · exact .inl rfl
  · exact .inr (by simp)
/-- what is known while the document's Cut goes on -/
structure Rcv (s : ByteArray) (w wr : World) (lv v0 : Value) (n : Nat) : Prop where
  bel : Below w.heap.size w wr
  fc : wr.heap[w.heap.size]? = some (.cells #[.int .i64 0, .int .i64 0] 25 (0, 0))
  tx : wr.ownsRow (w.heap.size + 1) 9 1 lv (liT s).length ((liT s).map Value.string)
  out : ∃ us : List Value, us.length = n ∧ wr.ownsRow (w.heap.size + 1) 30 1 v0 n us ∧ ∀ k u, us[k]? = some u → ∃ t, (liT s)[k]? = some t ∧ wr.ownsRow (w.heap.size + 1) 32 3 u (tkl k t).length (tcs (tkl k t))
  ok : ∀ j u, j < n → (liT s)[j]? = some u → bdE u = 0
theorem Rcv.below {s : ByteArray} {w wr w' : World} {lv v0 : Value} {n : Nat} (h : Rcv s w wr lv v0 n) (hb : Below wr.heap.size wr w') : Rcv s w w' lv v0 n := by
  obtain ⟨us, h1, h2, h3⟩ := h.out
  have hlt : w.heap.size < wr.heap.size := by
    rcases Nat.lt_or_ge w.heap.size wr.heap.size with q | q
    · exact q
    · have := h.fc; rw [Array.getElem?_eq_none q] at this; cases this
  exact ⟨h.bel.trans (hb.mono h.bel.size), (hb.block _ hlt).trans h.fc, own_below h.tx hb, ⟨us, h1, own_below h2 hb, fun k u hu => (h3 k u hu).imp fun t q => ⟨q.1, own_below q.2 hb⟩⟩, h.ok⟩
theorem Rcv.push {s : ByteArray} {w wr w2 : World} {lv v0 v' u : Value} {n : Nat} {t : ByteArray} (h : Rcv s w wr lv v0 n) (ht : (liT s)[n]? = some t) (hbd : bdE t = 0) {us : List Value} (h1 : us.length = n) (h2 : wr.ownsRow (w.heap.size + 1) 30 1 v0 n us)
    (h3 : ∀ k u, us[k]? = some u → ∃ t, (liT s)[k]? = some t ∧ wr.ownsRow (w.heap.size + 1) 32 3 u (tkl k t).length (tcs (tkl k t)))
    (hu : wr.ownsRow (w.heap.size + 1) 32 3 u (tkl n t).length (tcs (tkl n t))) (hg : wr.grownBy w2 v0.ownBlock) (ho : w2.ownsRow (w.heap.size + 1) 30 1 v' (n + 1) (us ++ [u])) : Rcv s w w2 lv v' (n + 1) := by
  have hlt : w.heap.size < wr.heap.size := by
    rcases Nat.lt_or_ge w.heap.size wr.heap.size with q | q
    · exact q
    · have := h.fc; rw [Array.getElem?_eq_none q] at this; cases this
  have hb0 : ∀ g, v0.ownBlock = some g → w.heap.size + 1 ≤ g := fun g e => (h2.lt g e).1
  refine ⟨h.bel.trans ⟨hg.os, hg.tape, hg.output, by have := hg.size; omega, fun k hk => hg.block k (by omega) (fun e => by have := hb0 k e.symm; omega)⟩, (hg.block _ hlt (fun e => by have := hb0 _ e.symm; omega)).trans h.fc, h.tx.kept hg (own_ne h.tx h2 (by decide)), ⟨us ++ [u], by simp [h1], ho, ?_⟩, ?_⟩
  · intro k x hx
    rcases Nat.lt_or_ge k n with q | q
    · rw [List.getElem?_append_left (by omega)] at hx
      obtain ⟨t', q1, q2⟩ := h3 k x hx
      exact ⟨t', q1, q2.kept hg (own_ne q2 h2 (by decide))⟩
    · rw [List.getElem?_append_right (by omega)] at hx
      have hk : k = n := by
        have := (List.getElem?_eq_some_iff.1 hx).1
        simp at this; omega
      subst hk
      rw [h1, Nat.sub_self] at hx
      cases hx
      exact ⟨t, ht, hu.kept hg (own_ne hu h2 (by decide))⟩
  · intro j x hj hx
    rcases Nat.lt_succ_iff_lt_or_eq.1 hj with q | rfl
    · exact h.ok j x q hx
    · rw [ht] at hx; cases hx; exact hbd
theorem own_sl {w : World} {b e sz n : Nat} {v : Value} {xs : List Value} (h : w.ownsRow b e sz v n xs) : ∃ A c, v = .slice A n c := by
  rcases ownsRow_forms h with ⟨rfl, h0⟩ | ⟨g, cap, rfl⟩
  · rw [h0]; exact ⟨_, _, rfl⟩
  · exact ⟨_, _, rfl⟩
theorem grown_al2 {w w2 : World} {o : Obj} {row : Option Nat} (h : (w.alloc o).grownBy w2 row) : w.grownBy w2 row :=
  ⟨h.os, h.tape, h.output, Nat.le_trans (by simp) h.size, fun k hk hr => (h.block k (by simp; omega) hr).trans (blk_alloc_lt _ _ _ hk)⟩
theorem Rcv.lt0 {s : ByteArray} {w wr : World} {lv v0 : Value} {n : Nat} (h : Rcv s w wr lv v0 n) : w.heap.size < wr.heap.size := by
  rcases Nat.lt_or_ge w.heap.size wr.heap.size with q | q
  · exact q
  · have := h.fc; rw [Array.getElem?_eq_none q] at this; cases this
/-- the rows that were told, read; the fault's cells are written -/
theorem Rcv.reads {s : ByteArray} {w wr : World} {lv v0 : Value} (hs : s.size ≤ 65536) (h : Rcv s w wr lv v0 (liT s).length) (x y : Value) : RdL ((wr.setCell ⟨w.heap.size, 0, none⟩ x).setCell ⟨w.heap.size, 1, none⟩ y) v0 (tkL 0 (liT s)) := by
  obtain ⟨us, h1, h2', h3'⟩ := h.out
  have h2 := ownsRow_setCell_below (ownsRow_setCell_below h2' (a := ⟨w.heap.size, 0, none⟩) (by show w.heap.size < _; omega) x) (a := ⟨w.heap.size, 1, none⟩) (by show w.heap.size < _; omega) y
  have h3 : ∀ k u, us[k]? = some u → ∃ t, (liT s)[k]? = some t ∧ ((wr.setCell ⟨w.heap.size, 0, none⟩ x).setCell ⟨w.heap.size, 1, none⟩ y).ownsRow (w.heap.size + 1) 32 3 u (tkl k t).length (tcs (tkl k t)) := fun k u hu => by
    obtain ⟨t, q1, q2⟩ := h3' k u hu
    exact ⟨t, q1, ownsRow_setCell_below (ownsRow_setCell_below q2 (a := ⟨w.heap.size, 0, none⟩) (by show w.heap.size < _; omega) x) (a := ⟨w.heap.size, 1, none⟩) (by show w.heap.size < _; omega) y⟩
  have hl := liP_len s
  rw [← liT_len] at hl
  refine ⟨by rw [tkL_len]; omega, ?_⟩
  rw [tkL_len]
  rcases ownsRow_forms h2 with ⟨rfl, h0⟩ | ⟨g, cap, rfl⟩
  · rw [h0]; exact ⟨none, 0, rfl, .inl (List.length_eq_zero_iff.1 (by rw [tkL_len]; exact h0))⟩
  · refine ⟨_, cap, rfl, .inr ⟨g, rfl, fun k l hk => ?_⟩⟩
    obtain ⟨t, e1, rfl⟩ := tkL_inv hk
    have hlt := (List.getElem?_eq_some_iff.1 e1).1
    obtain ⟨u, hu⟩ : ∃ u, us[k]? = some u := ⟨_, List.getElem?_eq_getElem (by omega)⟩
    obtain ⟨t', q1, q2⟩ := h3 k u hu
    rw [e1] at q1; cases q1
    refine ⟨u, by rw [h2.cellAt _ (by omega)]; exact hu, RdT.of q2 (by have := tkl_len k t; have := liT_size e1; omega)⟩

theorem Rcv.abv {s : ByteArray} {w wr : World} {lv v0 : Value} (h : Rcv s w wr lv v0 (liT s).length) (x y : Value) : Abv w.heap.size ((wr.setCell ⟨w.heap.size, 0, none⟩ x).setCell ⟨w.heap.size, 1, none⟩ y) v0 (tkL 0 (liT s)).length := by
  obtain ⟨us, h1, h2', h3'⟩ := h.out
  have h2 := ownsRow_setCell_below (ownsRow_setCell_below h2' (a := ⟨w.heap.size, 0, none⟩) (by show w.heap.size < _; omega) x) (a := ⟨w.heap.size, 1, none⟩) (by show w.heap.size < _; omega) y
  rw [tkL_len]
  rcases ownsRow_forms h2 with ⟨rfl, h0⟩ | ⟨g, cap, rfl⟩
  · rw [h0]; exact Abv.none _ _
  · refine ⟨_, _, rfl, fun b hb => ?_⟩
    simp only [Option.some.injEq, Addr.mk.injEq, and_true] at hb
    subst hb
    refine ⟨by have := (h2.lt g rfl).1; omega, fun k u q hk hu hq => ?_⟩
    rw [h2.cellAt _ (by omega)] at hu
    obtain ⟨t, _, q2⟩ := h3' k u hu
    have := (q2.lt q hq).1
    omega
theorem Tryd.infoRow2 : (Tryd.prog.info? 30).map (fun i => (i.zero, i.size, i.bytes)) = some (some (.slice none 0 0), 1, 24) := by kernel_rfl
set_option maxRecDepth 100000 in
theorem rcut_long (s : ByteArray) (w : World) (hs : 65536 < s.size) :
    Calls Tryd.prog 10 #[.string s] w fun e w' => e = .returned (.tuple #[.slice none 0 0, .agg #[.int .i64 3, .int .i64 (-1)]]) ∧ Below w.heap.size w w' := by
  go_enter Tryd.func10, Tryd.ntmps10
  go_wp2_with fail
  refine bodyPost_ret (by simp [results, Tryd.results10, go_sem]; try rfl) rfl ?_
  exact ⟨rfl, (Below.refl _ w).alloc (Nat.le_refl _) _⟩
set_option maxHeartbeats 4000000 in
set_option maxRecDepth 100000 in
theorem rcut_any (s : ByteArray) (w : World) (hs : s.size ≤ 65536) :
    Calls Tryd.prog 10 #[.string s] w fun e w' => Below w.heap.size w w' ∧ ∃ v, e = .returned (.tuple #[v, .agg #[.int .i64 (erL 0 (liT s)).1, .int .i64 (erL 0 (liT s)).2]]) ∧
      (((erL 0 (liT s)).1 = 0 ∧ (erL 0 (liT s)).2 = 0 ∧ RdL w' v (tkL 0 (liT s)) ∧ Abv w.heap.size w' v (tkL 0 (liT s)).length) ∨ ((erL 0 (liT s)).1 ≠ 0 ∧ v = .slice none 0 0)) := by
  obtain ⟨i0, hi0, hz0, hz1, hz2⟩ := info_parts Tryd.infoRow2
  have hlen := liP_len s
  rw [← liT_len] at hlen
  obtain ⟨N, hN⟩ : ∃ N, (liT s).length = N := ⟨_, rfl⟩
  have HL : Hid (∀ w : World, Calls Tryd.prog 27 #[.string s] w fun e w' => ∃ v, e = .returned v ∧ w'.ownsRow w.heap.size 9 1 v (liT s).length ((liT s).map Value.string) ∧ Below w.heap.size w w') := fun w => rlines_any s w hs
  go_enter Tryd.func10, Tryd.ntmps10
  go_wp2_with (go_at_call 27; (with_reducible refine (HL.out _).mono ?_); rintro e w1 ⟨lv, rfl, ho, hb⟩; (have HO : Hid _ := ho); (have HB : Hid _ := hb); clear ho hb)
  obtain ⟨A, cap, rfl⟩ : ∃ A cap, lv = .slice A N cap := by
    rcases ownsRow_forms HO.out with ⟨rfl, h0⟩ | ⟨g, cap, rfl⟩
    · rw [← hN, h0]; exact ⟨_, _, rfl⟩
    · rw [hN]; exact ⟨_, _, rfl⟩
  have HR : Hid (Rcv s w w1 (.slice A N cap) (.slice none 0 0) 0) := by
    refine ⟨((Below.refl _ w).alloc (Nat.le_refl _) _).trans (HB.out.mono (by simp)), (HB.out.block _ (by simp)).trans (heap_alloc_new _ _), ?_, ⟨[], rfl, World.ownsRow_nil _ _ _ _, fun k u hu => by simp at hu⟩, fun j u hj => absurd hj (by omega)⟩
    have h := HO.out
    rw [show (w.alloc (.cells #[.int .i64 0, .int .i64 0] 25)).heap.size = w.heap.size + 1 by simp] at h
    exact h
  clear HO HB
  go_loopw [4, 6] (fun v iv wr => ∃ (n : Nat) (v0 : Value), n ≤ N ∧ iv = .int .i64 n ∧ v0 = v ∧ Hid (Rcv s w wr (.slice A N cap) v0 n)) (fun _ iv _ => N - (intOf iv).toNat)
  case atStart => exact ⟨0, _, Nat.zero_le _, rfl, rfl, HR.out⟩
  case round =>
    clear HR
    obtain ⟨n, v0, hle, rfl, hv, HV⟩ := hrel
    subst hv
    obtain ⟨B, capB, rfl⟩ : ∃ B cap, v0 = .slice B n cap := by
      obtain ⟨us, _, h2, _⟩ := HV.out.out
      rcases ownsRow_forms h2 with ⟨rfl, h0⟩ | ⟨g, cap, rfl⟩
      · rw [h0]; exact ⟨_, _, rfl⟩
      · exact ⟨_, _, rfl⟩
    by_cases hp : n < N
    · obtain ⟨t, ht⟩ : ∃ t, (liT s)[n]? = some t := ⟨_, List.getElem?_eq_getElem (by omega)⟩
      have HT : Hid ((liT s)[n]? = some t) := ht
      have hts : t.size ≤ 65536 := by have := liT_size ht; omega
      obtain ⟨gl, rfl⟩ : ∃ gl, A = some ⟨gl, 0, none⟩ := by
        have := HV.out.tx
        rcases ownsRow_forms this with ⟨_, h0⟩ | ⟨g, cap, e⟩
        · omega
        · simp only [Value.slice.injEq] at e; exact ⟨g, e.1⟩
      have hcell : wr.cell? ⟨gl, n, none⟩ = some (.string t) := by
        have h := HV.out.tx
        rw [hN] at h
        rw [h.cellAt n (by omega), List.getElem?_map, ht]; rfl
      clear ht
      have hni : (n : Int) < (N : Int) := by omega
      have HWD : Hid (∀ w : World, Calls Tryd.prog 28 #[.string t, .int .i64 n] w fun e w' => ∃ v, e = .returned (.tuple #[v, .int .i64 (bdE t : Nat)]) ∧ Below w.heap.size w w' ∧ (bdE t = 0 → w'.ownsRow w.heap.size 32 3 v (tkl n t).length (tcs (tkl n t)))) := fun w => rwords_any t n w hts (by omega)
      by_cases hbd : bdE t = 0
      · have HBD : Hid (bdE t = 0) := hbd
        clear hbd
        go_wp2_with (first
          | (go_at_call 28; (with_reducible refine (HWD.out _).mono ?_); rintro e w2 ⟨u, rfl, hb, hu⟩; (have HV2 : Hid _ := HV.out.below hb); (have hsz : wr.heap.size ≤ w2.heap.size := hb.size); (have hu2 := hu HBD.out); (obtain ⟨Au, cu, rfl⟩ := own_sl hu2); (have HU : Hid (w2.ownsRow wr.heap.size 32 3 (.slice Au (tkl n t).length cu) (tkl n t).length (tcs (tkl n t))) := hu2); (obtain ⟨us, e1, e2, e3⟩ := HV2.out.out); (have HE : Hid (w2.ownsRow (w.heap.size + 1) 30 1 (.slice B n capB) n us ∧ us.length = n ∧ ∀ k u, us[k]? = some u → ∃ t, (liT s)[k]? = some t ∧ w2.ownsRow (w.heap.size + 1) 32 3 u (tkl k t).length (tcs (tkl k t))) := ⟨e2, e1, e3⟩); clear hb hu hu2 e1 e2 e3; rw [HBD.out])
          | (at_builtin; refine wpList_append_lies _ (by rfl) _ _ 22 (by rfl) (w.heap.size + 1) 30 i0 (.slice none 0 0) 1 24 Tryd.underlying22 hi0 hz0 hz1 hz2 (by rfl) (by decide) _ _ _ (by rfl) (HE.out.1.alloc _) ⟨_, 0, none⟩ 1 1 [.slice Au (tkl n t).length cu] (by rfl) (by rfl) ?c1 ?c2 (by decide) ?c3 ?c4 ?c5 _ rfl ?next))
        case c1 => exact World.news_of_block (fr := (0, 0)) (t := 30) (cs := #[.slice Au (tkl n t).length cu]) (heap_alloc_new _ _)
        case c2 => intro u hu; simp at hu; subst hu; rfl
        case c3 => unfold maxLen; omega
        case c4 => omega
        case c5 => have := HV2.out.bel.size; simp; omega
        case next =>
          intro g2 cap2 w3 hown2 hgrow hat hlt
          have hgr : w2.grownBy w3 (Value.slice B n capB).ownBlock := grown_al2 hgrow
          have HR2 : Hid (Rcv s w w3 (.slice (some ⟨gl, 0, none⟩) N cap) (.slice (some ⟨g2, 0, none⟩) (n + 1) cap2) (n + 1)) :=
            HV2.out.push HT.out HBD.out HE.out.2.1 HE.out.1 HE.out.2.2 (ownsRow_le HU.out (by have := HV.out.lt0; omega)) hgr hown2
          clear hown2 hgrow hat hlt hgr
          go_wp2_with fail
          go_roundw
          case rel => exact ⟨n + 1, _, by omega, by go_num, rfl, HR2.out⟩
          case measure => simp [intOf]; omega
      · have hz : erL 0 (liT s) = (bdE t, n) := by rw [erL_at (n := 0) HT.out HV.out.ok hbd, Nat.zero_add]
        have HZ : Hid (erL 0 (liT s) = (bdE t, n) ∧ bdE t ≠ 0) := ⟨hz, hbd⟩
        have hne : (((bdE t : Nat) : Int) == 0) = false := by simp; exact hbd
        clear hz hbd
        generalize hE : bdE t = E at HZ HWD hne
        clear hE
        go_wp2_with (first
          | (go_at_call 28; (with_reducible refine (HWD.out _).mono ?_); rintro e w2 ⟨u, rfl, hb, hu⟩; (have HV2 : Hid _ := HV.out.below hb); (have hsz : wr.heap.size ≤ w2.heap.size := hb.size); (obtain ⟨c0, c1, f0, f1⟩ := two_c HV2.out.fc); (have rr := two_set HV2.out.fc (.int .i64 E) (.int .i64 n)); clear hb hu))
        refine bodyPost_ret (by simp [results, Tryd.results10, go_sem, rr.1, rr.2]; try rfl) rfl ?_
        rw [HZ.out.1]
        exact ⟨below_two HV2.out.bel (Nat.le_refl _) _ _, _, rfl, .inr ⟨HZ.out.2, rfl⟩⟩
    · have e : n = N := by omega
      subst e
      have hni : ¬ (n : Int) < (n : Int) := by omega
      obtain ⟨c0, c1, f0, f1⟩ := two_c HV.out.fc
      have rr := two_set HV.out.fc (.int .i64 0) (.int .i64 0)
      go_wp2_with fail
      refine bodyPost_ret (by simp [results, Tryd.results10, go_sem, rr.1, rr.2]; try rfl) rfl ?_
      have hz : erL 0 (liT s) = (0, 0) := erL_ok fun t ht => by
        obtain ⟨j, hj⟩ := List.getElem?_of_mem ht
        exact HV.out.ok j t (by have := (List.getElem?_eq_some_iff.1 hj).1; omega) hj
      rw [hz]
      refine ⟨below_two HV.out.bel (Nat.le_refl _) _ _, _, rfl, .inl ⟨rfl, rfl, ?_⟩⟩
      have hr : Rcv s w wr (.slice A n cap) (.slice B n capB) (liT s).length := by rw [hN]; exact HV.out
      exact ⟨hr.reads hs _ _, hr.abv _ _⟩
end Go.Proofs.YtdcodajjcaipdaaDoor
