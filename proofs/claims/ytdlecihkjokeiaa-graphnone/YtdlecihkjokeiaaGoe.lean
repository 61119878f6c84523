/-
  An element is taken into a forest: take of package graph.
-/
import Derived.Test.YtdlecihkjokeiaaGod
namespace Go.Proofs.Ytdlecihkjokeiaa
open Go.Maps Go.RowKit
set_option linter.unusedVariables false
set_option maxRecDepth 100000

def pushT (tw : List (List Tw)) (a : Nat) (t : Tw) : List (List Tw) := tw.set a (tw.getD a [] ++ [t])
/-- take, without memory; none: seek did not come to an end -/
def Fr.take (f : Nat) (F : Fr) (nm : Nm) (a b : Nat) : Option Fr := match skF F.tw b f a (-1) with
  | none => none
  | some (some way) => some { F with lp := F.lp ++ [nm :: way] }
  | some none => some { F with tr := F.tr ++ [nm], tw := pushT (pushT F.tw a (nm, b)) b (nm, a) }
theorem row_slice {w : World} {base : Nat} {e : TypeId} {sz : Nat} {v : Value} {n : Nat} {xs : List Value} (h : w.ownsRow base e sz v n xs) : ∃ A cap, v = .slice A n cap := by
  obtain ⟨_, ⟨h1, h2⟩ | ⟨g, cap, cur, h1, _⟩⟩ := h
  · exact ⟨none, 0, by rw [h1, h2]⟩
  · exact ⟨_, _, h1⟩
theorem row_some {w : World} {base : Nat} {e : TypeId} {sz : Nat} {v : Value} {n : Nat} {xs : List Value} (h : w.ownsRow base e sz v n xs) (hn : 0 < n) : ∃ g cap, v = .slice (some ⟨g, 0, none⟩) n cap := by
  obtain ⟨_, ⟨h1, h2⟩ | ⟨g, cap, cur, h1, _⟩⟩ := h
  · omega
  · exact ⟨_, _, h1⟩
theorem skF_ne {tw : List (List Tw)} {b f a : Nat} {bef : Int} {l : List Nm} (h : skF tw b f a bef = some (some l)) (hab : a ≠ b) : 0 < l.length := by
  cases f with
  | zero => cases h
  | succ f =>
    unfold skF at h
    rw [if_neg hab] at h
    cases q : tw[a]? with
    | none => rw [q] at h; cases h
    | some ts =>
      rw [q] at h
      simp only at h
      clear q
      induction ts with
      | nil => cases h
      | cons t r ih =>
        unfold skL at h
        split at h
        · exact ih h
        · cases q : skF tw b f t.2 a with
          | none => rw [q] at h; cases h
          | some o =>
            cases o with
            | none => rw [q] at h; exact ih h
            | some m => rw [q] at h; cases h; simp
theorem Try.infoSS : (Try.prog.info? 29).map (fun i => (i.zero, i.size, i.bytes)) = some (some (.slice none 0 0), 1, 24) := by kernel_rfl
theorem Try.infoTW : (Try.prog.info? 109).map (fun i => (i.zero, i.size, i.bytes)) = some (some (.agg #[.string ⟨#[]⟩, .int .i64 0]), 2, 24) := by kernel_rfl
theorem fo_set {w : World} {fp : Nat} {c c' : Array Value} {T : TypeId} {i : Nat} {v : Value} (h : w.heap[fp]? = some (.cells c T (0, 0))) (hc : c.setIfInBounds i v = c') : (w.setCell ⟨fp, i, none⟩ v).heap[fp]? = some (.cells c' T (0, 0)) := by rw [← hc]; exact heap_setCell_same w fp i c T v h
theorem row_cells {w : World} {base : Nat} {e : TypeId} {sz : Nat} {v : Value} {n : Nat} {xs : List Value} (h : w.ownsRow base e sz v n xs) {k : Nat} {c : Array Value} {t : TypeId} {fz : Nat × Nat} (hk : w.heap[k]? = some (.cells c t fz)) (hne : t ≠ e) : v.ownBlock ≠ some k := by
  intro hv
  obtain ⟨_, ⟨rfl, _⟩ | ⟨g, cap, cur, rfl, _, h4, _⟩⟩ := h
  · cases hv
  · cases hv
    rw [h4] at hk
    injection hk with hk; injection hk with _ hk
    exact hne hk.symm
/-- elements and maps in memory stay -/
def Kq (w w' : World) : Prop := ∀ (k : Nat) (o : Obj), w.heap[k]? = some o → ((∃ es c, o = .map es c) ∨ ∃ c fz, o = .cells c 61 fz) → w'.heap[k]? = some o
theorem Kq.refl (w : World) : Kq w w := fun _ _ h _ => h
theorem Kq.trans {w w1 w2 : World} (h : Kq w w1) (h2 : Kq w1 w2) : Kq w w2 := fun k o hk ho => h2 k o (h k o hk ho) ho
theorem Kq.bel {w w' : World} (h : Below w.heap.size w w') : Kq w w' := fun k o hk _ => by rw [h.block k (Array.getElem?_eq_some_iff.1 hk).1]; exact hk
theorem Kq.row {w w1 : World} {base : Nat} {e : TypeId} {sz : Nat} {v : Value} {n : Nat} {xs : List Value} (h : w.ownsRow base e sz v n xs) (he : e ≠ 61) (hg : w.grownBy w1 v.ownBlock) : Kq w w1 := by
  intro k o hk ho
  rw [hg.block k (Array.getElem?_eq_some_iff.1 hk).1 ?_]
  · exact hk
  · intro q
    obtain ⟨_, ⟨rfl, _⟩ | ⟨g, cap, cur, rfl, _, h4, _⟩⟩ := h
    · cases q
    · cases q
      rw [h4] at hk
      cases hk
      rcases ho with ⟨es, c, q⟩ | ⟨c, fz, q⟩
      · cases q
      · cases q; exact he rfl
theorem Kq.set {w : World} {p j : Nat} {u : Value} {c0 : Array Value} {t : TypeId} {f0 : Nat × Nat} (hp : w.heap[p]? = some (.cells c0 t f0)) (ht : t ≠ 61) : Kq w (w.setCell ⟨p, j, none⟩ u) := by
  intro k o hk ho
  rw [heap_setCell_other w ⟨p, j, none⟩ k u ?_]
  · exact hk
  · rintro rfl
    rw [hp] at hk
    cases hk
    rcases ho with ⟨es, c, q⟩ | ⟨c, fz, q⟩
    · cases q
    · cases q; exact ht rfl
/-- a loop more: inner its list, the row of loops has grown -/
theorem Fo.pushLp {w w1 : World} {base fp : Nat} {F : Fr} {b : Fb} {u v' : Value} {l : List Nm} (h : Fo w base fp F b) (hu : w.ownsRow base 9 1 u l.length (l.map sv)) (hs : ∀ x ∈ b.lv, Sep x u) (ht : Sep u b.vt) (hg : w.grownBy w1 b.vl.ownBlock) (hr : w1.ownsRow base 29 1 v' (F.lp.length + 1) (b.lv ++ [u])) :
    Fo (w1.setCell ⟨fp, 3, none⟩ v') base fp { F with lp := F.lp ++ [l] } { b with vl := v', lv := b.lv ++ [u] } ∧ Below base w (w1.setCell ⟨fp, 3, none⟩ v') ∧ Kq w (w1.setCell ⟨fp, 3, none⟩ v') := by
  have hf : b.vl.ownBlock ≠ some fp := row_cells h.lps.out h.blk (by decide)
  have hb1 : w1.heap[fp]? = w.heap[fp]? := hg.block fp h.lt (fun e => hf e.symm)
  have hk : ∀ k, k < w.heap.size → k ≠ fp → b.vl.ownBlock ≠ some k → (w1.setCell ⟨fp, 3, none⟩ v').heap[k]? = w.heap[k]? := fun k h1 h2 h3 => (heap_setCell_other w1 ⟨fp, 3, none⟩ k v' (by simpa using h2)).trans (hg.block k h1 (fun e => h3 e.symm))
  have hrow : ∀ {e sz v n xs}, e ≠ 77 → e ≠ 29 → w.ownsRow base e sz v n xs → (w1.setCell ⟨fp, 3, none⟩ v').ownsRow base e sz v n xs := fun h1 h2 q => row_block q fun g hg2 => hk g (row_ge q hg2).2 (fun e => row_cells q h.blk (Ne.symm h1) (by rw [hg2, e])) (row_type q h.lps.out h2 hg2)
  have hfz : ∀ {e sz v n xs}, e ≠ 77 → w1.ownsRow base e sz v n xs → (w1.setCell ⟨fp, 3, none⟩ v').ownsRow base e sz v n xs := fun h1 q => row_block q fun g hg2 => heap_setCell_other w1 ⟨fp, 3, none⟩ g v' (fun e => row_cells q (hb1.trans h.blk) (Ne.symm h1) (by rw [hg2]; simpa using e))
  have hL := h.lps.push (v' := v') (l := l) (by rw [nmE_map]; exact hu) hs hg (by rw [← h.lps.len]; exact hr)
  refine ⟨⟨fo_set (hb1.trans h.blk) rfl, h.lo, hrow (by decide) (by decide) h.nd, ⟨h.tws.ty, hrow (by decide) (by decide) h.tws.out, h.tws.len, fun j x m h1 h2 => hrow (by decide) (by decide) (h.tws.inn j x m h1 h2), h.tws.apart⟩, hrow (by decide) (by decide) h.tr, ⟨hL.ty, hfz (by decide) hL.out, hL.len, fun j x m h1 h2 => hfz (by decide) (hL.inn j x m h1 h2), hL.apart⟩, h.s1, fun x hx => ?_⟩, ⟨hg.os, hg.tape, hg.output, by have := hg.size; simpa [World.setCell] using this, fun k hk2 => ?_⟩, (Kq.row h.lps.out (by decide) hg).trans (Kq.set (hb1.trans h.blk) (by decide))⟩
  · rcases List.mem_append.1 hx with q | q
    · exact h.s2 x q
    · simp at q; subst q; exact ht
  · have hlo := h.lo
    have hlt := h.lt
    exact hk k (by omega) (by omega) (fun e => by have := (row_ge h.lps.out e).1; omega)
/-- the tree has grown by a name -/
theorem Fo.pushTr {w w1 : World} {base fp : Nat} {F : Fr} {b : Fb} {v' : Value} {l : List Nm} (h : Fo w base fp F b) (hg : w.grownBy w1 b.vt.ownBlock) (hr : w1.ownsRow base 9 1 v' l.length (l.map sv)) (hv : ∀ g, v'.ownBlock = some g → b.vt.ownBlock = some g ∨ w.heap.size ≤ g) :
    Fo (w1.setCell ⟨fp, 2, none⟩ v') base fp { F with tr := l } { b with vt := v' } ∧ Below base w (w1.setCell ⟨fp, 2, none⟩ v') ∧ Kq w (w1.setCell ⟨fp, 2, none⟩ v') := by
  have hf : b.vt.ownBlock ≠ some fp := row_cells h.tr h.blk (by decide)
  have hb1 : w1.heap[fp]? = w.heap[fp]? := hg.block fp h.lt (fun e => hf e.symm)
  have hk : ∀ k, k < w.heap.size → k ≠ fp → b.vt.ownBlock ≠ some k → (w1.setCell ⟨fp, 2, none⟩ v').heap[k]? = w.heap[k]? := fun k h1 h2 h3 => (heap_setCell_other w1 ⟨fp, 2, none⟩ k v' (by simpa using h2)).trans (hg.block k h1 (fun e => h3 e.symm))
  have hrow : ∀ {e sz v n xs}, e ≠ 77 → (e ≠ 9 ∨ Sep v b.vt) → w.ownsRow base e sz v n xs → (w1.setCell ⟨fp, 2, none⟩ v').ownsRow base e sz v n xs := fun h1 h2 q => row_block q fun g hg2 => hk g (row_ge q hg2).2 (fun e => row_cells q h.blk (Ne.symm h1) (by rw [hg2, e])) (by
    rcases h2 with h2 | h2
    · exact row_type q h.tr h2 hg2
    · exact h2 g hg2)
  have hnew : ∀ {u : Value}, Sep u b.vt → (∀ g, u.ownBlock = some g → g < w.heap.size) → Sep u v' := fun h1 h2 => sep_new h1 hv h2
  refine ⟨⟨fo_set (hb1.trans h.blk) rfl, h.lo, hrow (by decide) (.inr h.s1.symm) h.nd, ⟨h.tws.ty, hrow (by decide) (.inl (by decide)) h.tws.out, h.tws.len, fun j x m h1 h2 => hrow (by decide) (.inl (by decide)) (h.tws.inn j x m h1 h2), h.tws.apart⟩, row_block hr fun g hg2 => heap_setCell_other w1 ⟨fp, 2, none⟩ g v' (fun e => row_cells hr (hb1.trans h.blk) (by decide) (by rw [hg2]; simpa using e)), ⟨h.lps.ty, hrow (by decide) (.inl (by decide)) h.lps.out, h.lps.len, fun j x m h1 h2 => hrow (by decide) (.inr (h.s2 x (List.mem_of_getElem? h1))) (h.lps.inn j x m h1 h2), h.lps.apart⟩, (hnew h.s1.symm fun g hg2 => (row_ge h.nd hg2).2).symm, fun x hx => hnew (h.s2 x hx) fun g hg2 => (h.lps.lt hx hg2).2⟩, ⟨hg.os, hg.tape, hg.output, by have := hg.size; simpa [World.setCell] using this, fun k hk2 => ?_⟩, (Kq.row h.tr (by decide) hg).trans (Kq.set (hb1.trans h.blk) (by decide))⟩
  have hlo := h.lo
  have hlt := h.lt
  exact hk k (by omega) (by omega) (fun e => by have := (row_ge h.tr e).1; omega)
theorem kq_BL {w w1 : World} {base BL n cap j : Nat} {u u' : Value} {vals xs : List Value} {m : Nat} (h : w.ownsRow base 107 1 (.slice (some ⟨BL, 0, none⟩) n cap) vals.length vals) (hu : w.ownsRow base 109 2 u m xs) (hg : w.grownBy w1 u.ownBlock) : Kq w1 (w1.setCell ⟨BL, j, none⟩ u') := by
  have hne : u.ownBlock ≠ some BL := fun e => row_type h hu (by decide) (g := BL) rfl e
  obtain ⟨_, ⟨q, _⟩ | ⟨g, c2, cur, q, _, h4, _⟩⟩ := h
  · cases q
  · cases q
    exact Kq.set ((hg.block _ (Array.getElem?_eq_some_iff.1 h4).1 (fun e => hne e.symm)).trans h4) (by decide)
/-- a twig more at a node -/
theorem Fo.pushTw {w w1 : World} {base fp : Nat} {F : Fr} {b : Fb} {u u' : Value} {a : Nat} {t : Tw} (h : Fo w base fp F b) (ha : b.tv[a]? = some u) (hg : w.grownBy w1 u.ownBlock) (hr : w1.ownsRow base 109 2 u' ((F.tw.getD a []).length + 1) ((F.tw.getD a [] ++ [t]).flatMap twE)) (hv : ∀ g, u'.ownBlock = some g → u.ownBlock = some g ∨ w.heap.size ≤ g) :
    Fo (w1.setCell ⟨b.BL, a, none⟩ u') base fp { F with tw := pushT F.tw a t } { b with tv := b.tv.set a u' } ∧ Below base w (w1.setCell ⟨b.BL, a, none⟩ u') ∧ Kq w (w1.setCell ⟨b.BL, a, none⟩ u') := by
  obtain ⟨l, hl, hru⟩ := h.tws.inn' ha
  have hBb := row_ge h.tws.out (g := b.BL) rfl
  have hf : u.ownBlock ≠ some fp := row_cells hru h.blk (by decide)
  have hfB : fp ≠ b.BL := fun e => row_cells h.tws.out h.blk (by decide) (by rw [e]; rfl)
  have hk : ∀ k, k < w.heap.size → k ≠ b.BL → u.ownBlock ≠ some k → (w1.setCell ⟨b.BL, a, none⟩ u').heap[k]? = w.heap[k]? := fun k h1 h2 h3 => (heap_setCell_other w1 ⟨b.BL, a, none⟩ k u' (by simpa using h2)).trans (hg.block k h1 (fun e => h3 e.symm))
  have hrow : ∀ {e sz v n xs}, e ≠ 107 → e ≠ 109 → w.ownsRow base e sz v n xs → (w1.setCell ⟨b.BL, a, none⟩ u').ownsRow base e sz v n xs := fun h1 h2 q => row_block q fun g hg2 => hk g (row_ge q hg2).2 (fun e => row_type h.tws.out q (Ne.symm h1) (g := b.BL) rfl (by rw [hg2, e])) (row_type q hru h2 hg2)
  have hS := h.tws.store (l' := F.tw.getD a [] ++ [t]) ha hg (by rw [List.length_append]; exact hr) hv
  have hln : (pushT F.tw a t).length = F.tw.length := by unfold pushT; simp
  refine ⟨⟨?_, h.lo, hrow (by decide) (by decide) h.nd, ?_, hrow (by decide) (by decide) h.tr, ⟨h.lps.ty, hrow (by decide) (by decide) h.lps.out, h.lps.len, fun j x m h1 h2 => hrow (by decide) (by decide) (h.lps.inn j x m h1 h2), h.lps.apart⟩, h.s1, h.s2⟩, ⟨hg.os, hg.tape, hg.output, by have := hg.size; simpa [World.setCell] using this, fun k hk2 => hk k (by have := h.lt; have := h.lo; omega) (by omega) (fun e => by have := (row_ge hru e).1; omega)⟩, (Kq.row hru (by decide) hg).trans (kq_BL h.tws.out hru hg)⟩
  · rw [hk fp h.lt hfB hf]
    show _ = some (Obj.cells #[b.vn, .slice (some ⟨b.BL, 0, none⟩) (pushT F.tw a t).length (pushT F.tw a t).length, b.vt, b.vl] _ _)
    rw [hln]; exact h.blk
  · show LL _ base _ _ 2 twE (.slice (some ⟨b.BL, 0, none⟩) (pushT F.tw a t).length (pushT F.tw a t).length) (b.tv.set a u') (pushT F.tw a t)
    rw [hln]; exact hS

end Go.Proofs.Ytdlecihkjokeiaa
