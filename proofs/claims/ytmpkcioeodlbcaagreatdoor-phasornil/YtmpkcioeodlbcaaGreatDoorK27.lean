/-
  Several texts in one: Nob Noc Nod Goa Gqv Pnt Dna.
-/
import Derived.Test.YtmpkcioeodlbcaaGreatDoorK08
import Derived.Test.YtmpkcioeodlbcaaGreatDoorK26
import Derived.Deep.RegionLaw
import Derived.Deep.Cut
import Derived.Deep.DeepCutAuto
import Derived.Deep.CutBlock
import Derived.Deep.CutRange
import Derived.Test.YtmpkcioeodlbcaaGreatDoorK07
import Derived.Lib.SmallJoins
import Derived.Below
namespace Go.Proofs.YtmpkcioeodlbcaaGreatDoor
open Go.Maps Go.RowKit
set_option linter.unusedVariables false
/-- an element's eight cells, a list's -/
def elC (x : Elm) : List Value := [.int .u8 (x.k : Int), .string x.n, .string x.a, .string x.b, .string x.c, .string x.d, .float .f64 x.v, .int .i64 x.ph]
def elCs (l : List Elm) : List Value := l.flatMap elC
theorem elCs_len (l : List Elm) : (elCs l).length = l.length * 8 := by
  induction l with
  | nil => rfl
  | cons x t ih => unfold elCs at *; rw [List.flatMap_cons, List.length_append, ih]; simp [elC]; omega
theorem elCs_snoc (l : List Elm) (x : Elm) : elCs (l ++ [x]) = elCs l ++ elC x := by unfold elCs; simp
theorem elCs_get {l : List Elm} {j : Nat} {x : Elm} (h : l[j]? = some x) {c : Nat} (hc : c < 8) : (elCs l)[j * 8 + c]? = (elC x)[c]? := by
  induction l generalizing j with
  | nil => cases h
  | cons y t ih =>
    have hu : elCs (y :: t) = elC y ++ elCs t := by unfold elCs; rw [List.flatMap_cons]
    have hy : (elC y).length = 8 := rfl
    rw [hu]
    cases j with
    | zero => cases h; rw [List.getElem?_append_left (by rw [hy]; omega)]; simp
    | succ j =>
      rw [List.getElem?_append_right (by rw [hy]; omega), hy, show (j + 1) * 8 + c - 8 = j * 8 + c by omega]
      exact ih (by simpa using h)
theorem row_block {w w' : World} {base : Nat} {e : TypeId} {sz : Nat} {v : Value} {n : Nat} {xs : List Value} (h : w.ownsRow base e sz v n xs) (hk : ∀ g, v.ownBlock = some g → w'.heap[g]? = w.heap[g]?) : w'.ownsRow base e sz v n xs := by
  obtain ⟨h0, h1 | ⟨g, cap, cur, rfl, h2, h3, h4⟩⟩ := h
  · exact ⟨h0, .inl h1⟩
  · exact ⟨h0, .inr ⟨g, cap, cur, rfl, h2, by rw [hk g rfl]; exact h3, h4⟩⟩
theorem row_ge {w : World} {base : Nat} {e : TypeId} {sz : Nat} {v : Value} {n : Nat} {xs : List Value} (h : w.ownsRow base e sz v n xs) {g : Nat} (hg : v.ownBlock = some g) : base ≤ g ∧ g < w.heap.size := by
  obtain ⟨h0, ⟨rfl, _⟩ | ⟨g2, cap, cur, rfl, h2, h3, h4⟩⟩ := h
  · cases hg
  · cases hg; exact ⟨h2, (Array.getElem?_eq_some_iff.1 h3).1⟩
theorem row_type {w : World} {base b2 : Nat} {e e2 : TypeId} {sz s2 : Nat} {v v2 : Value} {n n2 : Nat} {xs ys : List Value} (h : w.ownsRow base e sz v n xs) (h2 : w.ownsRow b2 e2 s2 v2 n2 ys) (hne : e ≠ e2) {g : Nat} (hg : v.ownBlock = some g) : v2.ownBlock ≠ some g := by
  intro hg2
  obtain ⟨_, ⟨rfl, _⟩ | ⟨_, _, _, rfl, _, q3, _⟩⟩ := h
  · cases hg
  · cases hg
    obtain ⟨_, ⟨rfl, _⟩ | ⟨_, _, _, rfl, _, r3, _⟩⟩ := h2
    · cases hg2
    · cases hg2
      rw [q3] at r3
      injection r3 with r3; injection r3 with _ r3
      exact hne r3
theorem Mp.blk {w w' : World} {B : Nat} {xs : List (List UInt8)} (h : Mp w B xs) (hk : w'.heap[B]? = w.heap[B]?) : Mp w' B xs := by
  obtain ⟨D, ⟨es, clock, h1, h2⟩, h3⟩ := h
  exact ⟨D, ⟨es, clock, by rw [hk]; exact h1, h2⟩, h3⟩
theorem Mp.lt {w : World} {B : Nat} {xs : List (List UInt8)} (h : Mp w B xs) : B < w.heap.size := by
  obtain ⟨D, ⟨es, clock, h1, h2⟩, h3⟩ := h
  exact (Array.getElem?_eq_some_iff.1 h1).1
theorem Mp.ne {w : World} {B : Nat} {xs : List (List UInt8)} (h : Mp w B xs) {p f : Nat} {u : Value} (hc : w.cell? ⟨p, f, none⟩ = some u) : p ≠ B := by
  obtain ⟨D, hown, _⟩ := h
  exact map_ne hown hc
theorem Mp.row {w : World} {B : Nat} {xs : List (List UInt8)} (h : Mp w B xs) {base : Nat} {e : TypeId} {sz : Nat} {v : Value} {n : Nat} {ys : List Value} (hr : w.ownsRow base e sz v n ys) : v.ownBlock ≠ some B := by
  intro hv
  obtain ⟨D, ⟨es, clock, hb, _⟩, _⟩ := h
  obtain ⟨_, ⟨rfl, _⟩ | ⟨g, cap, cur, rfl, _, h4, _⟩⟩ := hr
  · cases hv
  · simp [Value.ownBlock] at hv
    subst hv
    rw [hb] at h4; cases h4
/-- two rows that are no one's -/
def Sep (u v : Value) : Prop := ∀ g, u.ownBlock = some g → v.ownBlock ≠ some g
theorem Sep.symm {u v : Value} (h : Sep u v) : Sep v u := fun g h1 h2 => h g h2 h1
/-- add leaves another row of names as it was -/
theorem Rn.keep {w w' : World} {base p f f' : Nat} {v v' : Value} {B B' : Nat} {xs : List (List UInt8)} (h : Rn w base p f v B xs) (hp : p < base) (ha : Ad w w' p f' B' v') (h1 : f ≠ f') (h2 : f + 1 ≠ f') (hB : B ≠ B') (hs : Sep v v') (hv' : v'.ownBlock ≠ some B) (hv : v.ownBlock ≠ some B') : Rn w' base p f v B xs where
  c0 := (ha.cl f h1).trans h.c0
  c1 := (ha.cl (f + 1) h2).trans h.c1
  fz := (ha.fz f).trans h.fz
  row := row_block h.row fun g hg => ha.fr g (row_ge h.row hg).2 (fun e => by have := (row_ge h.row hg).1; omega) (fun e => hv (by rw [hg, e])) (hs g hg)
  mp := h.mp.blk (ha.fr B h.mp.lt (fun e => h.mp.ne h.c0 e.symm) hB hv')
/-- add, whether the name is there or not -/
theorem nadd_any (w : World) (base p f B : Nat) (v : Value) (xs : List (List UInt8)) (l : List UInt8) (hl : l.length ≤ 100000) (hx : xs.length ≤ 100000) (h : Rn w base p f v B xs) (hp : p < base) (hb : base ≤ w.heap.size) :
    Calls Tryz.prog 112 #[.pointer (some ⟨p, f, none⟩), sv l] w fun e w' => e = .returned (.tuple #[]) ∧ ∃ v', Rn w' base p f v' B (addU xs l) ∧ Ad w w' p f B v ∧ ∀ g, v'.ownBlock = some g → v.ownBlock = some g ∨ w.heap.size ≤ g := by
  unfold addU
  by_cases hm : l ∈ xs
  · rw [if_pos hm]
    refine (add_old w base p f B v xs l hl h hm).mono ?_
    rintro e w' ⟨rfl, rfl⟩
    exact ⟨rfl, v, h, ⟨rfl, rfl, rfl, Nat.le_refl _, fun _ _ _ _ _ => rfl, fun _ _ => rfl, fun _ => rfl⟩, fun g hg => .inl hg⟩
  · rw [if_neg hm]
    exact add_new w base p f B v xs l hl hx h hm (fun g hg e => by have := (row_ge h.row hg).1; omega) hb

/-- the blocks of a net -/
structure Nb where
  v0 : Value
  v1 : Value
  v3 : Value
  v5 : Value
  B2 : Nat
  B4 : Nat
  B6 : Nat
/-- a net in memory, at p -/
structure Nt (w : World) (base p : Nat) (N : Ns) (b : Nb) : Prop where
  c0 : w.cell? ⟨p, 0, none⟩ = some b.v0
  f0 : w.frozen? ⟨p, 0, none⟩ = false
  es : w.ownsRow base 96 8 b.v0 N.es.length (elCs N.es)
  nm : Rn w base p 1 b.v1 b.B2 N.nm
  nd : Rn w base p 3 b.v3 b.B4 N.nd
  br : Rn w base p 5 b.v5 b.B6 N.br
  lo : p < base
  hi : base ≤ w.heap.size
  m1 : b.B2 ≠ b.B4
  m2 : b.B2 ≠ b.B6
  m3 : b.B4 ≠ b.B6
  s1 : Sep b.v1 b.v3
  s2 : Sep b.v1 b.v5
  s3 : Sep b.v3 b.v5
theorem Nt.below {w w' : World} {base p : Nat} {N : Ns} {b : Nb} (h : Nt w base p N b) (hb : Below w.heap.size w w') : Nt w' base p N b := by
  have hp : p < w.heap.size := World.block_lt_of_cell? w _ h.c0
  have hR : ∀ {f v B xs}, Rn w base p f v B xs → Rn w' base p f v B xs := fun q => ⟨(hb.cell hp).trans q.c0, (hb.cell hp).trans q.c1, (World.frozen?_of_block (hb.block p hp)).trans q.fz, row_block q.row fun g hg => hb.block g (row_ge q.row hg).2, q.mp.blk (hb.block _ q.mp.lt)⟩
  exact ⟨(hb.cell hp).trans h.c0, (World.frozen?_of_block (hb.block p hp)).trans h.f0, row_block h.es fun g hg => hb.block g (row_ge h.es hg).2, hR h.nm, hR h.nd, hR h.br, h.lo, Nat.le_trans h.hi hb.size, h.m1, h.m2, h.m3, h.s1, h.s2, h.s3⟩
theorem ne_es : (96 : TypeId) ≠ 9 := by decide
theorem Nt.es_keep {w w' : World} {base p f' : Nat} {N : Ns} {b : Nb} {v' : Value} {B' : Nat} {xs : List (List UInt8)} (h : Nt w base p N b) (hr : Rn w base p f' v' B' xs) (ha : Ad w w' p f' B' v') : w'.ownsRow base 96 8 b.v0 N.es.length (elCs N.es) :=
  row_block h.es fun g hg => ha.fr g (row_ge h.es hg).2 (fun e => by have := (row_ge h.es hg).1; have := h.lo; omega) (fun e => hr.mp.row h.es (by rw [hg, e])) (row_type h.es hr.row ne_es hg)
theorem sep_new {u v v' : Value} {n : Nat} (h : Sep u v) (hv : ∀ g, v'.ownBlock = some g → v.ownBlock = some g ∨ n ≤ g) (hu : ∀ g, u.ownBlock = some g → g < n) : Sep u v' := by
  intro g h1 h2
  rcases hv g h2 with q | q
  · exact h g h1 q
  · have := hu g h1; omega
theorem Nt.addNm {w w' : World} {base p : Nat} {N : Ns} {b : Nb} {v' : Value} {xs : List (List UInt8)} (h : Nt w base p N b) (hr : Rn w' base p 1 v' b.B2 xs) (ha : Ad w w' p 1 b.B2 b.v1) (hv : ∀ g, v'.ownBlock = some g → b.v1.ownBlock = some g ∨ w.heap.size ≤ g) : Nt w' base p { N with nm := xs } { b with v1 := v' } where
  c0 := (ha.cl 0 (by decide)).trans h.c0
  f0 := (ha.fz 0).trans h.f0
  es := h.es_keep h.nm ha
  nm := hr
  nd := h.nd.keep h.lo ha (by decide) (by decide) (Ne.symm h.m1) h.s1.symm (h.nd.mp.row h.nm.row) (h.nm.mp.row h.nd.row)
  br := h.br.keep h.lo ha (by decide) (by decide) (Ne.symm h.m2) h.s2.symm (h.br.mp.row h.nm.row) (h.nm.mp.row h.br.row)
  lo := h.lo
  hi := Nat.le_trans h.hi ha.sz
  m1 := h.m1
  m2 := h.m2
  m3 := h.m3
  s1 := (sep_new h.s1.symm hv fun g hg => (row_ge h.nd.row hg).2).symm
  s2 := (sep_new h.s2.symm hv fun g hg => (row_ge h.br.row hg).2).symm
  s3 := h.s3
theorem Nt.addNd {w w' : World} {base p : Nat} {N : Ns} {b : Nb} {v' : Value} {xs : List (List UInt8)} (h : Nt w base p N b) (hr : Rn w' base p 3 v' b.B4 xs) (ha : Ad w w' p 3 b.B4 b.v3) (hv : ∀ g, v'.ownBlock = some g → b.v3.ownBlock = some g ∨ w.heap.size ≤ g) : Nt w' base p { N with nd := xs } { b with v3 := v' } where
  c0 := (ha.cl 0 (by decide)).trans h.c0
  f0 := (ha.fz 0).trans h.f0
  es := h.es_keep h.nd ha
  nm := h.nm.keep h.lo ha (by decide) (by decide) h.m1 h.s1 (h.nm.mp.row h.nd.row) (h.nd.mp.row h.nm.row)
  nd := hr
  br := h.br.keep h.lo ha (by decide) (by decide) (Ne.symm h.m3) h.s3.symm (h.br.mp.row h.nd.row) (h.nd.mp.row h.br.row)
  lo := h.lo
  hi := Nat.le_trans h.hi ha.sz
  m1 := h.m1
  m2 := h.m2
  m3 := h.m3
  s1 := sep_new h.s1 hv fun g hg => (row_ge h.nm.row hg).2
  s2 := h.s2
  s3 := (sep_new h.s3.symm hv fun g hg => (row_ge h.br.row hg).2).symm
theorem Nt.addBr {w w' : World} {base p : Nat} {N : Ns} {b : Nb} {v' : Value} {xs : List (List UInt8)} (h : Nt w base p N b) (hr : Rn w' base p 5 v' b.B6 xs) (ha : Ad w w' p 5 b.B6 b.v5) (hv : ∀ g, v'.ownBlock = some g → b.v5.ownBlock = some g ∨ w.heap.size ≤ g) : Nt w' base p { N with br := xs } { b with v5 := v' } where
  c0 := (ha.cl 0 (by decide)).trans h.c0
  f0 := (ha.fz 0).trans h.f0
  es := h.es_keep h.br ha
  nm := h.nm.keep h.lo ha (by decide) (by decide) h.m2 h.s2 (h.nm.mp.row h.br.row) (h.br.mp.row h.nm.row)
  nd := h.nd.keep h.lo ha (by decide) (by decide) h.m3 h.s3 (h.nd.mp.row h.br.row) (h.br.mp.row h.nd.row)
  br := hr
  lo := h.lo
  hi := Nat.le_trans h.hi ha.sz
  m1 := h.m1
  m2 := h.m2
  m3 := h.m3
  s1 := h.s1
  s2 := sep_new h.s2 hv fun g hg => (row_ge h.nm.row hg).2
  s3 := sep_new h.s3 hv fun g hg => (row_ge h.nd.row hg).2
/-- the list of elements anew: a row that has grown, its value stored -/
theorem Nt.addEs {w w1 : World} {base p : Nat} {N : Ns} {b : Nb} {v' : Value} {l : List Elm} (h : Nt w base p N b) (hg : w.grownBy w1 b.v0.ownBlock) (hr : w1.ownsRow base 96 8 v' l.length (elCs l)) (hv : ∀ g, v'.ownBlock = some g → b.v0.ownBlock = some g ∨ w.heap.size ≤ g) : Nt (w1.setCell ⟨p, 0, none⟩ v') base p { N with es := l } { b with v0 := v' } := by
  have hp : p < w.heap.size := World.block_lt_of_cell? w _ h.c0
  have hp0 : b.v0.ownBlock ≠ some p := fun e => by have := (row_ge h.es e).1; have := h.lo; omega
  have hk : ∀ k, k < w.heap.size → k ≠ p → b.v0.ownBlock ≠ some k → (w1.setCell ⟨p, 0, none⟩ v').heap[k]? = w.heap[k]? := fun k h1 h2 h3 => (heap_setCell_other w1 ⟨p, 0, none⟩ k v' (by simpa using h2)).trans (hg.block k h1 (fun e => h3 e.symm))
  have hpb : w1.heap[p]? = w.heap[p]? := hg.block p hp (fun e => hp0 e.symm)
  have hc : ∀ j, j ≠ 0 → (w1.setCell ⟨p, 0, none⟩ v').cell? ⟨p, j, none⟩ = w.cell? ⟨p, j, none⟩ := fun j hj => by
    rw [World.cell?_setCell_other _ _ _ _ (by intro e; cases e; exact hj rfl)]; exact World.cell?_of_block hpb
  have hz : ∀ j, (w1.setCell ⟨p, 0, none⟩ v').frozen? ⟨p, j, none⟩ = w.frozen? ⟨p, j, none⟩ := fun j => by
    rw [show (w1.setCell ⟨p, 0, none⟩ v').frozen? ⟨p, j, none⟩ = w1.frozen? ⟨p, j, none⟩ by simp]; exact World.frozen?_of_block hpb
  have hR : ∀ {f v B xs}, f ≠ 0 → Rn w base p f v B xs → Rn (w1.setCell ⟨p, 0, none⟩ v') base p f v B xs := fun hf q => ⟨(hc _ hf).trans q.c0, (hc _ (by omega)).trans q.c1, (hz _).trans q.fz, row_block q.row fun g hg2 => hk g (row_ge q.row hg2).2 (fun e => by have := (row_ge q.row hg2).1; have := h.lo; omega) (row_type q.row h.es (Ne.symm ne_es) hg2), q.mp.blk (hk _ q.mp.lt (fun e => q.mp.ne q.c0 e.symm) (q.mp.row h.es))⟩
  have hv1 : v'.ownBlock ≠ some p := fun e => by have := (row_ge hr e).1; have := h.lo; omega
  have hsz : w1.heap.size = (w1.setCell ⟨p, 0, none⟩ v').heap.size := by simp [World.setCell]
  exact ⟨World.cell?_setCell_same w1 _ _ ((World.cell?_of_block hpb).trans h.c0), (hz 0).trans h.f0, row_block hr fun g hg2 => heap_setCell_other w1 ⟨p, 0, none⟩ g v' (fun e => hv1 (by rw [hg2]; simpa using e)), hR (by decide) h.nm, hR (by decide) h.nd, hR (by decide) h.br, h.lo, by rw [← hsz]; exact Nat.le_trans h.hi hg.size, h.m1, h.m2, h.m3, h.s1, h.s2, h.s3⟩

end Go.Proofs.YtmpkcioeodlbcaaGreatDoor
namespace Go.Proofs.YtmpkcioeodlbcaaGreatDoor
open Go.Maps Go.RowKit
set_option linter.unusedVariables false
set_option maxRecDepth 100000
theorem add_s (w : World) (base p f B : Nat) (v : Value) (xs : List (List UInt8)) (s : ByteArray) (hl : s.size ≤ 100000) (hx : xs.length ≤ 100000) (h : Rn w base p f v B xs) (hp : p < base) (hb : base ≤ w.heap.size) :
    Calls Tryz.prog 112 #[.pointer (some ⟨p, f, none⟩), .string s] w fun e w' => e = .returned (.tuple #[]) ∧ ∃ v', Rn w' base p f v' B (addU xs (bl s)) ∧ Ad w w' p f B v ∧ ∀ g, v'.ownBlock = some g → v.ownBlock = some g ∨ w.heap.size ≤ g := nadd_any w base p f B v xs (bl s) hl hx h hp hb
/-- an element's block stays -/
theorem el_keep {w w' : World} {base p f q : Nat} {v : Value} {B : Nat} {xs : List (List UInt8)} {cs : Array Value} (hr : Rn w base p f v B xs) (ha : Ad w w' p f B v) (hq : w.heap[q]? = some (.cells cs 96 (0, 0))) (hpq : q ≠ p) : w'.heap[q]? = some (.cells cs 96 (0, 0)) := by
  rw [ha.fr q (Array.getElem?_eq_some_iff.1 hq).1 hpq ?_ ?_]
  · exact hq
  · rintro rfl
    obtain ⟨D, ⟨es, clock, hb, _⟩, _⟩ := hr.mp
    rw [hb] at hq; cases hq
  · intro hv
    obtain ⟨_, ⟨rfl, _⟩ | ⟨g, cap, cur, rfl, _, h4, _⟩⟩ := hr.row
    · cases hv
    · cases hv
      rw [h4] at hq
      injection hq with hq; injection hq with _ hq
      exact ne_es hq.symm
/-- what lay and Of write lies from n on -/
structure Lw (n p : Nat) (b : Nb) : Prop where
  p : n ≤ p
  b2 : n ≤ b.B2
  b4 : n ≤ b.B4
  b6 : n ≤ b.B6
theorem ad_below {w0 w w' : World} {n p f B : Nat} {v : Value} (h : Below n w0 w) (ha : Ad w w' p f B v) (h1 : n ≤ p) (h2 : n ≤ B) (h3 : ∀ g, v.ownBlock = some g → n ≤ g) (hn : n ≤ w.heap.size) : Below n w0 w' :=
  h.trans ⟨ha.os, ha.tape, ha.output, ha.sz, fun k hk => ha.fr k (by omega) (by omega) (by omega) (fun e => by have := h3 k e; omega)⟩
/-- an element lies in the block q while it is laid -/
structure Ly (w wr : World) (n base p q : Nat) (x : Elm) (N : Ns) (b : Nb) : Prop where
  nt : Nt wr base p N b
  ex : wr.heap[q]? = some (.cells (elA x) 96 (0, 0))
  bel : Below n w wr
  lw : Lw n p b
  pq : q ≠ p
theorem Ly.n {w wr : World} {n base p q : Nat} {x : Elm} {N : Ns} {b : Nb} (h : Ly w wr n base p q x N b) : n ≤ base := by have := h.lw.p; have := h.nt.lo; omega
theorem Ly.addNm {w wr w' : World} {n base p q : Nat} {x : Elm} {N : Ns} {b : Nb} {v' : Value} {xs : List (List UInt8)} (h : Ly w wr n base p q x N b) (hr : Rn w' base p 1 v' b.B2 xs) (ha : Ad wr w' p 1 b.B2 b.v1) (hv : ∀ g, v'.ownBlock = some g → b.v1.ownBlock = some g ∨ wr.heap.size ≤ g) : Ly w w' n base p q x { N with nm := xs } { b with v1 := v' } :=
  ⟨h.nt.addNm hr ha hv, el_keep h.nt.nm ha h.ex h.pq, ad_below h.bel ha h.lw.p h.lw.b2 (fun g hg => by have := (row_ge h.nt.nm.row hg).1; have := h.n; omega) (Nat.le_trans h.n h.nt.hi), ⟨h.lw.p, h.lw.b2, h.lw.b4, h.lw.b6⟩, h.pq⟩
theorem Ly.addNd {w wr w' : World} {n base p q : Nat} {x : Elm} {N : Ns} {b : Nb} {v' : Value} {xs : List (List UInt8)} (h : Ly w wr n base p q x N b) (hr : Rn w' base p 3 v' b.B4 xs) (ha : Ad wr w' p 3 b.B4 b.v3) (hv : ∀ g, v'.ownBlock = some g → b.v3.ownBlock = some g ∨ wr.heap.size ≤ g) : Ly w w' n base p q x { N with nd := xs } { b with v3 := v' } :=
  ⟨h.nt.addNd hr ha hv, el_keep h.nt.nd ha h.ex h.pq, ad_below h.bel ha h.lw.p h.lw.b4 (fun g hg => by have := (row_ge h.nt.nd.row hg).1; have := h.n; omega) (Nat.le_trans h.n h.nt.hi), ⟨h.lw.p, h.lw.b2, h.lw.b4, h.lw.b6⟩, h.pq⟩
theorem Ly.addBr {w wr w' : World} {n base p q : Nat} {x : Elm} {N : Ns} {b : Nb} {v' : Value} {xs : List (List UInt8)} (h : Ly w wr n base p q x N b) (hr : Rn w' base p 5 v' b.B6 xs) (ha : Ad wr w' p 5 b.B6 b.v5) (hv : ∀ g, v'.ownBlock = some g → b.v5.ownBlock = some g ∨ wr.heap.size ≤ g) : Ly w w' n base p q x { N with br := xs } { b with v5 := v' } :=
  ⟨h.nt.addBr hr ha hv, el_keep h.nt.br ha h.ex h.pq, ad_below h.bel ha h.lw.p h.lw.b6 (fun g hg => by have := (row_ge h.nt.br.row hg).1; have := h.n; omega) (Nat.le_trans h.n h.nt.hi), ⟨h.lw.p, h.lw.b2, h.lw.b4, h.lw.b6⟩, h.pq⟩
theorem Ly.below {w wr w' : World} {n base p q : Nat} {x : Elm} {N : Ns} {b : Nb} (h : Ly w wr n base p q x N b) (hb : Below wr.heap.size wr w') : Ly w w' n base p q x N b :=
  ⟨h.nt.below hb, by rw [hb.block q (Array.getElem?_eq_some_iff.1 h.ex).1]; exact h.ex, h.bel.trans (hb.mono (Nat.le_trans h.n h.nt.hi)), h.lw, h.pq⟩
theorem Ly.cells {w wr : World} {n base p q : Nat} {x : Elm} {N : Ns} {b : Nb} (h : Ly w wr n base p q x N b) : q < wr.heap.size ∧ wr.cell? ⟨q, 0, none⟩ = some (.int .u8 (x.k : Int)) ∧ wr.cell? ⟨q, 1, none⟩ = some (.string x.n) ∧ wr.cell? ⟨q, 2, none⟩ = some (.string x.a) ∧ wr.cell? ⟨q, 3, none⟩ = some (.string x.b) ∧ wr.cell? ⟨q, 4, none⟩ = some (.string x.c) ∧ wr.cell? ⟨q, 5, none⟩ = some (.string x.d) ∧ wr.cell? ⟨q, 6, none⟩ = some (.float .f64 x.v) ∧ wr.cell? ⟨q, 7, none⟩ = some (.int .i64 x.ph) := by
  refine ⟨(Array.getElem?_eq_some_iff.1 h.ex).1, ?_, ?_, ?_, ?_, ?_, ?_, ?_, ?_⟩ <;> rw [cell_of_row wr q _ _ _ (0, 0) h.ex] <;> rfl
theorem Ly.drw {w wr : World} {n base p q : Nat} {x : Elm} {N : Ns} {b : Nb} (h : Ly w wr n base p q x N b) : Ly w wr.drew n base p q x N b := h.below ((Below.refl _ wr).drew)
theorem Ly.al {w wr : World} {n base p q : Nat} {x : Elm} {N : Ns} {b : Nb} (h : Ly w wr n base p q x N b) (o : Obj) : Ly w (wr.alloc o) n base p q x N b := h.below ((Below.refl _ wr).alloc (Nat.le_refl _) o)
theorem Ly.addEs {w wr w1 : World} {n base p q : Nat} {x : Elm} {N : Ns} {b : Nb} {v' : Value} {l : List Elm} (h : Ly w wr n base p q x N b) (hq : b.v0.ownBlock ≠ some q) (hg : wr.grownBy w1 b.v0.ownBlock) (hr : w1.ownsRow base 96 8 v' l.length (elCs l)) (hv : ∀ g, v'.ownBlock = some g → b.v0.ownBlock = some g ∨ wr.heap.size ≤ g) : Ly w (w1.setCell ⟨p, 0, none⟩ v') n base p q x { N with es := l } { b with v0 := v' } := by
  refine ⟨h.nt.addEs hg hr hv, ?_, h.bel.trans ⟨hg.os, hg.tape, hg.output, ?_, fun k hk => ?_⟩, ⟨h.lw.p, h.lw.b2, h.lw.b4, h.lw.b6⟩, h.pq⟩
  · rw [heap_setCell_other w1 ⟨p, 0, none⟩ q v' (by simpa using h.pq), hg.block q (Array.getElem?_eq_some_iff.1 h.ex).1 (fun e => hq e.symm)]; exact h.ex
  · have := hg.size; simpa [World.setCell] using this
  · have h1 := h.lw.p
    have h2 := h.n
    have h3 := h.nt.hi
    rw [heap_setCell_other w1 ⟨p, 0, none⟩ k v' (by simp; omega), hg.block k (by omega) (fun e => by have := (row_ge h.nt.es e.symm).1; omega)]
theorem Tryz.infoE : (Tryz.prog.info? 96).map (fun i => (i.zero, i.size, i.bytes)) = some (some (.agg #[.int .u8 0, .string ⟨#[]⟩, .string ⟨#[]⟩, .string ⟨#[]⟩, .string ⟨#[]⟩, .string ⟨#[]⟩, .float .f64 0, .int .i64 0]), 8, 104) := by kernel_rfl
/-- the k-th of an element's nodes -/
def nod (x : Elm) : Nat → ByteArray
  | 0 => x.a
  | 1 => x.b
  | 2 => x.c
  | _ => x.d
/-- the nodes behind k of them -/
def ndK (xs : List (List UInt8)) (x : Elm) : Nat → List (List UInt8)
  | 0 => xs
  | k + 1 => ndO (ndK xs x k) (nod x k)
theorem ndK_4 (xs : List (List UInt8)) (x : Elm) : ndK xs x 4 = ndE xs x := rfl
theorem ndK_len (xs : List (List UInt8)) (x : Elm) (k : Nat) : (ndK xs x k).length ≤ xs.length + k := by
  induction k with
  | zero => exact Nat.le_refl _
  | succ k ih => have := ndO_len (ndK xs x k) (nod x k); show (ndO (ndK xs x k) (nod x k)).length ≤ _; omega
/-- the four nodes lie in the block r while they are laid -/
structure Lpn (w wr : World) (n base p q r : Nat) (x : Elm) (N : Ns) (k : Nat) : Prop where
  ly : ∃ b, Ly w wr n base p q x ⟨N.es ++ [x], addU N.nm (bl x.n), ndK N.nd x k, N.br⟩ b ∧ b.v3.ownBlock ≠ some r
  rb : wr.heap[r]? = some (.cells #[.string x.a, .string x.b, .string x.c, .string x.d] 9 (0, 0))
  pr : r ≠ p
theorem Lpn.cell {w wr : World} {n base p q r : Nat} {x : Elm} {N : Ns} {k : Nat} (h : Lpn w wr n base p q r x N k) (hk : k < 4) : wr.cell? ⟨r, k, none⟩ = some (.string (nod x k)) := by
  rw [cell_of_row wr r _ _ _ (0, 0) h.rb]
  match k, hk with
  | 0, _ => rfl
  | 1, _ => rfl
  | 2, _ => rfl
  | 3, _ => rfl
theorem Lpn.skip {w wr : World} {n base p q r : Nat} {x : Elm} {N : Ns} {k : Nat} (h : Lpn w wr n base p q r x N k) (hn : isN (nod x k) = false) : Lpn w wr n base p q r x N (k + 1) := by
  obtain ⟨b, h1, h2⟩ := h.ly
  refine ⟨⟨b, ?_, h2⟩, h.rb, h.pr⟩
  show Ly w wr n base p q x ⟨N.es ++ [x], addU N.nm (bl x.n), ndO (ndK N.nd x k) (nod x k), N.br⟩ b
  unfold ndO
  rw [if_neg (by rw [hn]; decide)]; exact h1
theorem Lpn.step {w wr w' : World} {n base p q r : Nat} {x : Elm} {N : Ns} {k : Nat} {b : Nb} {v' : Value} (h : Lpn w wr n base p q r x N k) (hn : isN (nod x k) = true) (h1 : Ly w wr n base p q x ⟨N.es ++ [x], addU N.nm (bl x.n), ndK N.nd x k, N.br⟩ b) (h2 : b.v3.ownBlock ≠ some r) (hr : Rn w' base p 3 v' b.B4 (addU (ndK N.nd x k) (bl (nod x k)))) (ha : Ad wr w' p 3 b.B4 b.v3) (hv : ∀ g, v'.ownBlock = some g → b.v3.ownBlock = some g ∨ wr.heap.size ≤ g) : Lpn w w' n base p q r x N (k + 1) := by
  have hlt := (Array.getElem?_eq_some_iff.1 h.rb).1
  refine ⟨⟨{ b with v3 := v' }, ?_, ?_⟩, ?_, h.pr⟩
  · show Ly w w' n base p q x ⟨N.es ++ [x], addU N.nm (bl x.n), ndO (ndK N.nd x k) (nod x k), N.br⟩ _
    unfold ndO
    rw [if_pos hn]; exact h1.addNd hr ha hv
  · intro e
    rcases hv r e with q | q
    · exact h2 q
    · omega
  · rw [ha.fr r hlt h.pr ?_ h2]
    · exact h.rb
    · intro e
      obtain ⟨D, ⟨es, clock, hb, _⟩, _⟩ := h1.nt.nd.mp
      rw [← e, h.rb] at hb; cases hb
set_option maxHeartbeats 4000000 in
theorem lay_any (w : World) (n base p : Nat) (N : Ns) (b : Nb) (x : Elm) (hN : Nt w base p N b) (hL : Lw n p b) (h1 : x.n.size ≤ 100000) (h2 : x.a.size ≤ 100000) (h3 : x.b.size ≤ 100000) (h4 : x.c.size ≤ 100000) (h5 : x.d.size ≤ 100000) (hf : N.fits N.es.length) (hlen : N.es.length ≤ 1000) :
    Calls Tryz.prog 83 #[.pointer (some ⟨p, 0, none⟩), elV x] w fun e w' => e = .returned (.tuple #[]) ∧ ∃ b', Nt w' base p (N.lay x) b' ∧ Lw n p b' ∧ Below n w w' := by
  obtain ⟨i0, hi0, hz0, hz1, hz2⟩ := info_parts Tryz.infoE
  have hp : p < w.heap.size := World.block_lt_of_cell? w _ hN.c0
  have hvp : b.v0.ownBlock ≠ some p := fun e => by have := (row_ge hN.es e).1; have := hN.lo; omega
  have hvq : b.v0.ownBlock ≠ some w.heap.size := fun e => by have := (row_ge hN.es e).2; omega
  obtain ⟨v0, hv0⟩ : ∃ v0, v0 = b.v0 := ⟨_, rfl⟩
  have hes := hN.es
  rw [← hv0] at hes hvp hvq
  obtain ⟨A, cap, rfl⟩ : ∃ A cap, v0 = .slice A N.es.length cap := by
    obtain ⟨_, ⟨h1, h2⟩ | ⟨g, cap, cur, h1, _⟩⟩ := hes
    · exact ⟨none, 0, by rw [h1, h2]⟩
    · exact ⟨_, _, h1⟩
  obtain ⟨wa, hwa⟩ : ∃ wa, w.alloc (.cells #[.int .u8 (x.k : Int), .string x.n, .string x.a, .string x.b, .string x.c, .string x.d, .float .f64 x.v, .int .i64 x.ph] 96) = wa := ⟨_, rfl⟩
  obtain ⟨q, hq⟩ : ∃ q, w.heap.size = q := ⟨_, rfl⟩
  have c0 : wa.cell? ⟨p, 0, none⟩ = some (.slice A N.es.length cap) := by rw [← hwa, World.cell?_alloc_lt _ _ _ hp, hN.c0, hv0]
  have z0 : wa.frozen? ⟨p, 0, none⟩ = false := by rw [← hwa, World.frozen?_alloc_old (h := (Nat.ne_of_lt hp : (⟨p, 0, none⟩ : Addr).block ≠ w.heap.size))]; exact hN.f0
  have hsa : wa.heap.size = q + 1 := by rw [← hwa, ← hq]; simp
  have HSA : Hid (wa.heap.size = q + 1) := hsa
  have hqa : q < wa.heap.size := by omega
  have L0 : Ly w wa n base p q x N b := by
    rw [← hwa, ← hq]
    exact ⟨hN.below ((Below.refl _ w).alloc (Nat.le_refl _) _), heap_alloc_new w _, (Below.refl _ w).alloc (by have := hL.p; omega) _, hL, by omega⟩
  have hpa : p < wa.heap.size := by omega
  obtain ⟨lq, e0, e1, e2, e3, e4, e5, e6, e7⟩ := L0.cells
  have hb1 : base ≤ q := by have := hN.hi; omega
  rw [hq] at hvq
  have hesa : wa.drew.ownsRow base 96 8 (.slice A N.es.length cap) N.es.length (elCs N.es) := by have := L0.nt.es; rw [← hv0] at this; exact this
  have hl8 := elCs_len N.es
  have HX : Hid (Ly w wa n base p q x N b ∧ .slice A N.es.length cap = b.v0) := ⟨L0, hv0⟩
  have hb2 : base ≤ wa.heap.size := by omega
  have hvp2 : some p ≠ (Value.slice A N.es.length cap).ownBlock := fun e => hvp e.symm
  have hvq2 : some q ≠ (Value.slice A N.es.length cap).ownBlock := fun e => hvq e.symm
  have HA : Hid (∀ (a : Addr) (v : Value), a.block < wa.heap.size → wa.cell? a = some v → (wa.alloc (.cells #[.int .u8 (x.k : Int), .string x.n, .string x.a, .string x.b, .string x.c, .string x.d, .float .f64 x.v, .int .i64 x.ph] 96)).drew.cell? a = some v) := fun a v h1 h2 => (World.cell?_alloc_lt wa _ a h1).trans h2
  have HF : Hid ((wa.alloc (.cells #[.int .u8 (x.k : Int), .string x.n, .string x.a, .string x.b, .string x.c, .string x.d, .float .f64 x.v, .int .i64 x.ph] 96)).drew.frozen? ⟨p, 0, none⟩ = false) := (World.frozen?_alloc_old wa _ ⟨p, 0, none⟩ (Nat.ne_of_lt hpa)).trans z0
  clear hN L0 hes hv0 hsa
  unfold elV
  go_enter Tryz.func83, Tryz.ntmps83
  go_wp2_with fail
  clear hwa hq
  go_cut [6] (fun _ wc => ∃ b', Ly w wc n base p q x { N with es := N.es ++ [x] } b')
  case first =>
    go_region_law
      (first | (refine step_append_lies _ (by rfl) _ _ 54 (by rfl) base 96 i0 _ 8 104 Tryz.underlying54 hi0 hz0 hz1 hz2 (by rfl) (by decide) _ _ _ (by rfl) (hesa.alloc _) ⟨wa.heap.size, 0, none⟩ 1 1 (elC x) (by rfl) (by rfl) (World.news_of_block (fr := (0, 0)) (t := 96) (cs := #[.int .u8 (x.k : Int), .string x.n, .string x.a, .string x.b, .string x.c, .string x.d, .float .f64 x.v, .int .i64 x.ph]) (heap_alloc_new _ _)) (fun u hu => by simp [elC] at hu; rcases hu with rfl | rfl | rfl | rfl | rfl | rfl | rfl | rfl <;> rfl) (by decide) (by unfold maxLen; omega) (by omega) (by simp; omega) (wa.heap.size + 1) (by simp) ?_; intro g cap2 w4 hown4 hgrow hat4 hlt4; (have k0 : w4.cell? ⟨p, 0, none⟩ = some (.slice A N.es.length cap) := hgrow.cell (HA.out _ _ hpa c0) hvp2); (have kf : w4.frozen? ⟨p, 0, none⟩ = false := (hgrow.frozen_far ⟨p, 0, none⟩ (by simp; omega) hvp2).trans HF.out); (have d0 : w4.cell? ⟨q, 0, none⟩ = some (.int .u8 (x.k : Int)) := hgrow.cell (HA.out _ _ hqa e0) hvq2); (have d1 : w4.cell? ⟨q, 1, none⟩ = some (.string x.n) := hgrow.cell (HA.out _ _ hqa e1) hvq2); (have d2 : w4.cell? ⟨q, 2, none⟩ = some (.string x.a) := hgrow.cell (HA.out _ _ hqa e2) hvq2); (have d3 : w4.cell? ⟨q, 3, none⟩ = some (.string x.b) := hgrow.cell (HA.out _ _ hqa e3) hvq2); (have d4 : w4.cell? ⟨q, 4, none⟩ = some (.string x.c) := hgrow.cell (HA.out _ _ hqa e4) hvq2); (have d5 : w4.cell? ⟨q, 5, none⟩ = some (.string x.d) := hgrow.cell (HA.out _ _ hqa e5) hvq2); (have d6 : w4.cell? ⟨q, 6, none⟩ = some (.float .f64 x.v) := hgrow.cell (HA.out _ _ hqa e6) hvq2); (have d7 : w4.cell? ⟨q, 7, none⟩ = some (.int .i64 x.ph) := hgrow.cell (HA.out _ _ hqa e7) hvq2)))
    all_goals go_wp2_with fail
    all_goals go_meet
    all_goals exact ⟨_, ((HX.out.1.al _).drw).addEs (v' := .slice (some ⟨g, 0, none⟩) (N.es.length + 1) cap2) (l := N.es ++ [x]) (by rw [← HX.out.2]; exact hvq) (by rw [← HX.out.2]; exact hgrow) (by rw [elCs_snoc, List.length_append]; exact hown4) (fun g2 h2 => by cases h2; rw [← HX.out.2]; rcases hat4 with h | h; exact .inl h; exact .inr (by rw [h]; simp))⟩
  obtain ⟨b1, L1⟩ := hcut
  clear HX HA HF hesa c0 z0 HSA hqa hpa hvp hvq hvp2 hvq2 hb1 hb2 lq e0 e1 e2 e3 e4 e5 e6 e7 hi0 hz0 hz1 hz2 hl8
  have hnm : N.nm.length ≤ 100000 := by have := hf.nm; omega
  have hnd : N.nd.length ≤ 90000 := by have := hf.nd; omega
  have hbr : N.br.length ≤ 100000 := by have := hf.br; omega
  obtain ⟨lq, e0, e1, e2, e3, e4, e5, e6, e7⟩ := L1.cells
  have HL1 : Hid _ := L1.drw
  clear L1 e0 e2 e3 e4 e5 e6 e7
  go_wp2_with fail
  go_region_with (first | (go_at_call 112; (with_reducible refine (add_s _ base p 1 b1.B2 b1.v1 N.nm x.n h1 hnm HL1.out.nt.nm HL1.out.nt.lo HL1.out.nt.hi).mono ?_); rintro e5 w5 ⟨rfl, v5, hr5, ha5, hv5⟩; (have HL2 : Hid _ := HL1.out.addNm hr5 ha5 hv5); clear hr5 ha5 hv5))
  obtain ⟨lq2, f0, f1, f2, f3, f4, f5, f6, f7⟩ := HL2.out.cells
  clear HL1 e1 lq f6 f7
  obtain ⟨r, hr⟩ : ∃ r, w5.heap.size = r := ⟨_, rfl⟩
  have HP0 : Hid (Lpn w (w5.alloc (.cells #[.string x.a, .string x.b, .string x.c, .string x.d] 9)) n base p q r x N 0) := by
    refine ⟨⟨_, HL2.out.al _, fun e => ?_⟩, by rw [← hr]; exact heap_alloc_new _ _, ?_⟩
    · have := (row_ge HL2.out.nt.nd.row e).2; omega
    · have := World.block_lt_of_cell? w5 _ HL2.out.nt.c0; simp at this; omega
  go_wp2_with fail
  clear hr HL2 f0 f1 f2 f3 f4 f5 lq2
  go_loopw [32] (fun iv wr => ∃ (k : Nat), k ≤ 4 ∧ iv = .int .i64 k ∧ Hid (Lpn w wr n base p q r x N k)) (fun iv _ => 4 - (intOf iv).toNat)
  case atStart => exact ⟨0, by omega, rfl, HP0⟩
  case round =>
    obtain ⟨k, hle, rfl, HP⟩ := hrel
    clear HP0
    by_cases hp4 : k < 4
    · have hpk : (k : Int) < 4 := by omega
      have hc := HP.out.cell hp4
      obtain ⟨s, hs⟩ : ∃ s, nod x k = s := ⟨_, rfl⟩
      rw [hs] at hc
      have hsz : s.size ≤ 100000 := by rw [← hs]; match k, hp4 with | 0, _ => exact h2 | 1, _ => exact h3 | 2, _ => exact h4 | 3, _ => exact h5
      have hln : (ndK N.nd x k).length ≤ 100000 := by have := ndK_len N.nd x k; omega
      obtain ⟨b2, Q1, Q2⟩ := HP.out.ly
      have HQ1 : Hid _ := Q1
      have HQ2 : Hid _ := Q2
      have HS : Hid (nod x k = s) := hs
      clear Q1 Q2 hs
      go_wp2_with (first | (go_at_call 112; (with_reducible refine (add_s _ base p 3 b2.B4 b2.v3 (ndK N.nd x k) s hsz hln HQ1.out.nt.nd HQ1.out.nt.lo HQ1.out.nt.hi).mono ?_); rintro e6 w6 ⟨rfl, v6, hr6, ha6, hv6⟩; (have HR6 : Hid _ := hr6); (have HA6 : Hid _ := ha6); (have HV6 : Hid _ := hv6); clear hr6 ha6 hv6))
      · go_roundw
        case rel => rename_i he; exact ⟨k + 1, by omega, by go_num, HP.out.skip (by rw [HS.out]; rw [ByteArray.toList_eq] at he; simp [isN, bl, he])⟩
        case measure => simp [intOf]; omega
      · go_roundw
        case rel => rename_i he hf2; exact ⟨k + 1, by omega, by go_num, HP.out.step (by rw [HS.out]; rw [ByteArray.toList_eq] at hf2; simp [isN, bl]; simpa using hf2) HQ1.out HQ2.out (by rw [HS.out]; exact HR6.out) HA6.out HV6.out⟩
        case measure => simp [intOf]; omega
      · go_roundw
        case rel => rename_i he hf2; exact ⟨k + 1, by omega, by go_num, HP.out.skip (by rw [HS.out]; rw [ByteArray.toList_eq] at he hf2; simp [isN, bl]; intro q1; simp at hf2; exact hf2.resolve_left q1)⟩
        case measure => simp [intOf]; omega
    · have hk4 : k = 4 := by omega
      subst hk4
      obtain ⟨b2, Q1, Q2⟩ := HP.out.ly
      have HQ1 : Hid _ := Q1
      obtain ⟨lq2, f0, f1, f2, f3, f4, f5, f6, f7⟩ := Q1.cells
      clear Q1 Q2 f2 f3 f4 f5 f6 f7 lq2 HP
      have HQ2 : Hid _ := HQ1.out.drw
      go_wp2_with fail
      · go_region_with (first | (go_at_call 112; (with_reducible refine (add_s _ base p 5 b2.B6 b2.v5 N.br x.n h1 hbr HQ2.out.nt.br HQ2.out.nt.lo HQ2.out.nt.hi).mono ?_); rintro e7 w7 ⟨rfl, v7, hr7, ha7, hv7⟩; (have HL7 : Hid _ := HQ2.out.addBr hr7 ha7 hv7); clear hr7 ha7 hv7))
        go_wp2_with fail
        go_end0
        rename_i hk5
        have hb : brE N.br x = addU N.br (bl x.n) := if_pos (by unfold isB; rw [show x.k = 5 by omega]; rfl)
        refine ⟨rfl, _, ?_, HL7.out.lw, HL7.out.bel⟩
        have h8 := HL7.out.nt
        unfold Ns.lay
        rw [hb, ← ndK_4]; exact h8
      · go_region_with (first | (go_at_call 112; (with_reducible refine (add_s _ base p 5 b2.B6 b2.v5 N.br x.n h1 hbr HQ2.out.nt.br HQ2.out.nt.lo HQ2.out.nt.hi).mono ?_); rintro e7 w7 ⟨rfl, v7, hr7, ha7, hv7⟩; (have HL7 : Hid _ := HQ2.out.addBr hr7 ha7 hv7); clear hr7 ha7 hv7))
        go_wp2_with fail
        go_end0
        rename_i hk5 hk7
        have hb : brE N.br x = addU N.br (bl x.n) := if_pos (by unfold isB; simp at hk7 ⊢; omega)
        refine ⟨rfl, _, ?_, HL7.out.lw, HL7.out.bel⟩
        have h8 := HL7.out.nt
        unfold Ns.lay
        rw [hb, ← ndK_4]; exact h8
      · go_end0
        rename_i hk5 hk7
        have hb : brE N.br x = N.br := if_neg (by unfold isB; simp at hk7 ⊢; omega)
        refine ⟨rfl, _, ?_, HQ1.out.lw, HQ1.out.bel⟩
        have h8 := HQ1.out.nt
        unfold Ns.lay
        rw [hb, ← ndK_4]; exact h8
end Go.Proofs.YtmpkcioeodlbcaaGreatDoor
namespace Go.Proofs.YtmpkcioeodlbcaaGreatDoor
open Go.Maps Go.RowKit
set_option linter.unusedVariables false
set_option maxRecDepth 100000
/-- eight cells from an address on -/
structure E8 (w : World) (b o : Nat) (x : Elm) : Prop where
  c0 : w.cell? ⟨b, o, none⟩ = some (.int .u8 (x.k : Int))
  c1 : w.cell? ⟨b, o + 1, none⟩ = some (.string x.n)
  c2 : w.cell? ⟨b, o + 2, none⟩ = some (.string x.a)
  c3 : w.cell? ⟨b, o + 3, none⟩ = some (.string x.b)
  c4 : w.cell? ⟨b, o + 4, none⟩ = some (.string x.c)
  c5 : w.cell? ⟨b, o + 5, none⟩ = some (.string x.d)
  c6 : w.cell? ⟨b, o + 6, none⟩ = some (.float .f64 x.v)
  c7 : w.cell? ⟨b, o + 7, none⟩ = some (.int .i64 x.ph)
theorem E8.bel {w w' : World} {b o n : Nat} {x : Elm} (h : E8 w b o x) (hn : b < n) (hb : Below n w w') : E8 w' b o x :=
  ⟨(hb.cell (p := ⟨b, o, none⟩) hn).trans h.c0, (hb.cell (p := ⟨b, o + 1, none⟩) hn).trans h.c1, (hb.cell (p := ⟨b, o + 2, none⟩) hn).trans h.c2, (hb.cell (p := ⟨b, o + 3, none⟩) hn).trans h.c3, (hb.cell (p := ⟨b, o + 4, none⟩) hn).trans h.c4, (hb.cell (p := ⟨b, o + 5, none⟩) hn).trans h.c5, (hb.cell (p := ⟨b, o + 6, none⟩) hn).trans h.c6, (hb.cell (p := ⟨b, o + 7, none⟩) hn).trans h.c7⟩
theorem E8.lt {w : World} {b o : Nat} {x : Elm} (h : E8 w b o x) : b < w.heap.size := World.block_lt_of_cell? w _ h.c0
/-- the value v reads as the elements l -/
def RdE (w : World) (v : Value) (l : List Elm) : Prop :=
  l.length ≤ 1000000000 ∧ ∃ A c, v = .slice A l.length c ∧ (l = [] ∨ ∃ b, A = some ⟨b, 0, none⟩ ∧ ∀ (k : Nat) (x : Elm), l[k]? = some x → E8 w b (k * 8) x)
theorem RdE.kept {w w' : World} {v : Value} {l : List Elm} (h : RdE w v l) (hb : Below w.heap.size w w') : RdE w' v l := by
  obtain ⟨h0, A, c, h1, h2⟩ := h
  refine ⟨h0, A, c, h1, h2.imp id ?_⟩
  rintro ⟨b, h3, h4⟩
  exact ⟨b, h3, fun k x hk => (h4 k x hk).bel (h4 k x hk).lt hb⟩
/-- names that are laid are short -/
theorem chk_short {x : Elm} (h : chkI x = 0) : x.n.size ≤ 16 ∧ 2 ≤ x.n.size ∧ x.a.size ≤ 16 ∧ x.b.size ≤ 16 ∧ x.c.size ≤ 16 ∧ x.d.size ≤ 16 := by
  unfold chkI at h
  by_cases h1 : ltr x.k = 0
  · rw [if_pos h1] at h; cases h
  rw [if_neg h1] at h
  by_cases h2 : naF x = false
  · rw [if_pos h2] at h; cases h
  rw [if_neg h2] at h
  by_cases h3 : (x.a.toList == x.b.toList) = true ∨ spF x = false
  · rw [if_pos h3] at h; cases h
  have h2' : naF x = true := by simpa using h2
  have h3' : spF x = true := by
    cases q : spF x
    · exact absurd (Or.inr q) h3
    · rfl
  unfold naF at h2'
  simp only [Bool.and_eq_true] at h2'
  obtain ⟨⟨⟨⟨q1, q2⟩, q3⟩, q4⟩, q5⟩ := h2'
  have hnm : 2 ≤ x.n.size ∧ x.n.size ≤ 16 := by
    by_cases h : 2 ≤ x.n.size ∧ x.n.size ≤ 16
    · exact h
    · rw [nm_out h] at q1; simp at q1
  have hnd : ∀ s, ndF s = true → s.size ≤ 16 := by
    intro s hs
    unfold ndF at hs
    simp at hs
    exact hs.1.2
  unfold spF at h3'
  simp only [Bool.and_eq_true, Bool.or_eq_true] at h3'
  refine ⟨hnm.2, hnm.1, hnd _ q3, hnd _ q4, ?_, ?_⟩
  · cases hf : fou x.k
    · have := (h3'.1.resolve_left (by rw [hf]; simp)).1
      rw [ByteArray.toList_eq] at this
      have e : x.c.data = #[] := by simpa using this
      have e2 : x.c.size = x.c.data.size := rfl
      rw [e] at e2
      rw [e2]; decide
    · rw [hf] at q5; simp at q5; exact hnd _ q5.1
  · cases hf : fou x.k
    · have := (h3'.1.resolve_left (by rw [hf]; simp)).2
      rw [ByteArray.toList_eq] at this
      have e : x.d.data = #[] := by simpa using this
      have e2 : x.d.size = x.d.data.size := rfl
      rw [e] at e2
      rw [e2]; decide
    · rw [hf] at q5; simp at q5; exact hnd _ q5.2
theorem place_s (w : World) (p f B : Nat) (xs : List (List UInt8)) (s : ByteArray) (hl : s.size ≤ 100000) (hc : w.cell? ⟨p, f + 1, none⟩ = some (.map (some B))) (hm : Mp w B xs) :
    Calls Tryz.prog 82 #[.pointer (some ⟨p, f, none⟩), .string s] w fun e w' => e = .returned (.tuple #[.int .i64 (posL xs (bl s)), .bool (decide (bl s ∈ xs))]) ∧ w' = w := nplace_any w p f B xs (bl s) hl hc hm
theorem norder_made {w : World} {base p : Nat} {N : Ns} {b : Nb} (h : Nt w base p N b) (h1 : N.nd.length ≤ 1000000) (h2 : N.br.length ≤ 1000000) : Calls Tryz.prog 74 #[.pointer (some ⟨p, 0, none⟩)] w fun e w' => e = .returned (.int .i64 ((N.nd.length + N.br.length : Nat) : Int)) ∧ Below w.heap.size w w' := by
  obtain ⟨A, cap, hv3⟩ : ∃ A cap, b.v3 = .slice A N.nd.length cap := by
    obtain ⟨_, ⟨h1, h2⟩ | ⟨g, cap, cur, h1, _⟩⟩ := h.nd.row
    · exact ⟨none, 0, by rw [h1, h2]⟩
    · exact ⟨_, _, h1⟩
  obtain ⟨A5, cap5, hv5⟩ : ∃ A cap, b.v5 = .slice A N.br.length cap := by
    obtain ⟨_, ⟨h1, h2⟩ | ⟨g, cap, cur, h1, _⟩⟩ := h.br.row
    · exact ⟨none, 0, by rw [h1, h2]⟩
    · exact ⟨_, _, h1⟩
  have c3 := h.nd.c0
  have c5 := h.br.c0
  have c2 := h.nm.c1
  rw [hv3] at c3
  rw [hv5] at c5
  have hw : wrap64 ((N.nd.length : Int) + (N.br.length : Int)) = (N.nd.length : Int) + (N.br.length : Int) := by unfold wrap64; omega
  go_enter Tryz.func74, Tryz.ntmps74
  go_wp2_with (go_at_call 66; (with_reducible refine (made_yes c2).mono ?_); rintro e1 w1 ⟨rfl, rfl⟩)
  go_region_held_law (fun W => W.cell? ⟨p, 3, none⟩ = some (.slice A N.nd.length cap) ∧ W.cell? ⟨p, 5, none⟩ = some (.slice A5 N.br.length cap5)) (first | exact ⟨c3, c5⟩ | go_keep) (fail)
  go_wp2_with fail
  go_ret
  refine ⟨?_, (Below.refl _ _).drew⟩
  simp
  rw [IntKind.wrap_i64]; omega
/-- what is known while Of goes on -/
structure Oi (wF wr : World) (base p i : Nat) (l : List Elm) (N : Ns) (b : Nb) : Prop where
  nt : Nt wr base p N b
  lw : Lw wF.heap.size p b
  bel : Below wF.heap.size wF wr
  fit : N.fits i
  rest : ofR N i (l.drop i) = ofR Ns.nil 0 l
theorem Oi.start {wF w1 w2 w3 : World} {B2 B4 B6 : Nat} {l : List Elm} (b1 : Below wF.heap.size wF w1) (b2 : Below w1.heap.size w1 w2) (b3 : Below w2.heap.size w2 w3) (m1 : Mp w1 B2 []) (m2 : Mp w2 B4 []) (m3 : Mp w3 B6 []) (h1 : wF.heap.size ≤ B2 ∧ B2 < w1.heap.size) (h2 : w1.heap.size ≤ B4 ∧ B4 < w2.heap.size) (h3 : w2.heap.size ≤ B6 ∧ B6 < w3.heap.size) :
    Oi wF (w3.alloc (.cells #[.slice none 0 0, .slice none 0 0, .map (some B2), .slice none 0 0, .map (some B4), .slice none 0 0, .map (some B6)] 66)) (w3.heap.size + 1) w3.heap.size 0 l Ns.nil ⟨.slice none 0 0, .slice none 0 0, .slice none 0 0, .slice none 0 0, B2, B4, B6⟩ := by
  have s1 := b1.size
  have s2 := b2.size
  have s3 := b3.size
  obtain ⟨W, hW⟩ : ∃ W, W = w3.alloc (.cells #[.slice none 0 0, .slice none 0 0, .map (some B2), .slice none 0 0, .map (some B4), .slice none 0 0, .map (some B6)] 66) := ⟨_, rfl⟩
  have hb : W.heap[w3.heap.size]? = some (.cells #[.slice none 0 0, .slice none 0 0, .map (some B2), .slice none 0 0, .map (some B4), .slice none 0 0, .map (some B6)] 66 (0, 0)) := by rw [hW]; exact heap_alloc_new _ _
  have h3W : Below w3.heap.size w3 W := by rw [hW]; exact (Below.refl _ _).alloc (Nat.le_refl _) _
  have hs : W.heap.size = w3.heap.size + 1 := by rw [hW]; simp
  rw [← hW]
  have M1 : Mp W B2 [] := m1.blk (by rw [h3W.block _ (by omega), b3.block _ (by omega), b2.block _ (by omega)])
  have M2 : Mp W B4 [] := m2.blk (by rw [h3W.block _ (by omega), b3.block _ (by omega)])
  have M3 : Mp W B6 [] := m3.blk (by rw [h3W.block _ (by omega)])
  have hc : ∀ j v, (#[.slice none 0 0, .slice none 0 0, .map (some B2), .slice none 0 0, .map (some B4), .slice none 0 0, .map (some B6)] : Array Value)[j]? = some v → W.cell? ⟨w3.heap.size, j, none⟩ = some v := fun j v hj => by rw [cell_of_row W w3.heap.size _ _ _ (0, 0) hb]; exact hj
  have hf : ∀ j, W.frozen? ⟨w3.heap.size, j, none⟩ = false := fun j => frozen_of_row W w3.heap.size j _ _ hb
  refine ⟨⟨hc 0 _ rfl, hf 0, World.ownsRow_nil _ _ _ _, ⟨hc 1 _ rfl, hc 2 _ rfl, hf 1, World.ownsRow_nil _ _ _ _, M1⟩, ⟨hc 3 _ rfl, hc 4 _ rfl, hf 3, World.ownsRow_nil _ _ _ _, M2⟩, ⟨hc 5 _ rfl, hc 6 _ rfl, hf 5, World.ownsRow_nil _ _ _ _, M3⟩, by omega, by omega, by simp only; omega, by simp only; omega, by simp only; omega, (fun g h => by cases h), (fun g h => by cases h), (fun g h => by cases h)⟩, ⟨by omega, h1.1, by simp only; omega, by simp only; omega⟩, ?_, Ns.fits.nil, rfl⟩
  exact b1.trans ((b2.mono s1).trans ((b3.mono (by omega)).trans (h3W.mono (by omega))))
theorem ofR_bad {N : Ns} {i : Nat} {x : Elm} {t : List Elm} (h : chkI x ≠ 0) : ofR N i (x :: t) = ((chkI x, (i : Int)), N) := by unfold ofR; rw [if_pos h]
theorem ofR_there {N : Ns} {i : Nat} {x : Elm} {t : List Elm} (h : chkI x = 0) (h2 : bl x.n ∈ N.nm) : ofR N i (x :: t) = ((9, (i : Int)), N) := by unfold ofR; rw [if_neg (by simp [h]), if_pos h2]
theorem ofR_go {N : Ns} {i : Nat} {x : Elm} {t : List Elm} (h : chkI x = 0) (h2 : bl x.n ∉ N.nm) : ofR N i (x :: t) = ofR (N.lay x) (i + 1) t := by rw [ofR, if_neg (by simp [h]), if_neg h2]
/-- what Of answers, in memory -/
def OfP (w : World) (l : List Elm) (e : Ending) (w' : World) : Prop :=
  Below w.heap.size w w' ∧ ((ofA l).1 = (0, 0) ∧ (∃ base p b, e = .returned (.tuple #[.pointer (some ⟨p, 0, none⟩), .agg #[.int .i64 0, .int .i64 0]]) ∧ Nt w' base p (ofA l).2 b ∧ w.heap.size ≤ p ∧ (ofA l).2.fits l.length) ∨ (ofA l).1.1 ≠ 0 ∧ e = .returned (.tuple #[.pointer none, .agg #[.int .i64 (ofA l).1.1, .int .i64 (ofA l).1.2]]))
theorem Nt.but {w w' : World} {n base p F : Nat} {N : Ns} {b : Nb} (h : Nt w base p N b) (hl : Lw n p b) (hF : F < n) (hs : w.heap.size ≤ w'.heap.size) (hk : ∀ k, k ≠ F → w'.heap[k]? = w.heap[k]?) : Nt w' base p N b := by
  have hp := hl.p
  have hlo := h.lo
  have hpb : w'.heap[p]? = w.heap[p]? := hk p (by omega)
  have hR : ∀ {f v B xs}, n ≤ B → Rn w base p f v B xs → Rn w' base p f v B xs := fun hB q => ⟨(World.cell?_of_block hpb).trans q.c0, (World.cell?_of_block hpb).trans q.c1, (World.frozen?_of_block hpb).trans q.fz, row_block q.row fun g hg => hk g (by have := (row_ge q.row hg).1; omega), q.mp.blk (hk _ (by omega))⟩
  exact ⟨(World.cell?_of_block hpb).trans h.c0, (World.frozen?_of_block hpb).trans h.f0, row_block h.es fun g hg => hk g (by have := (row_ge h.es hg).1; omega), hR hl.b2 h.nm, hR hl.b4 h.nd, hR hl.b6 h.br, h.lo, Nat.le_trans h.hi hs, h.m1, h.m2, h.m3, h.s1, h.s2, h.s3⟩
theorem check_w (x : Elm) (w : World) (h : x.ok) : Calls Tryz.prog 81 #[.agg #[.int .u8 (x.k : Int), .string x.n, .string x.a, .string x.b, .string x.c, .string x.d, .float .f64 x.v, .int .i64 x.ph]] w fun e w' => e = .returned (.int .i64 (chkI x)) ∧ Below w.heap.size w w' := check_any x w h
theorem lay_w (w : World) (n base p : Nat) (N : Ns) (b : Nb) (x : Elm) (hN : Nt w base p N b) (hL : Lw n p b) (h1 : x.n.size ≤ 100000) (h2 : x.a.size ≤ 100000) (h3 : x.b.size ≤ 100000) (h4 : x.c.size ≤ 100000) (h5 : x.d.size ≤ 100000) (hf : N.fits N.es.length) (hlen : N.es.length ≤ 1000) :
    Calls Tryz.prog 83 #[.pointer (some ⟨p, 0, none⟩), .agg #[.int .u8 (x.k : Int), .string x.n, .string x.a, .string x.b, .string x.c, .string x.d, .float .f64 x.v, .int .i64 x.ph]] w fun e w' => e = .returned (.tuple #[]) ∧ ∃ b', Nt w' base p (N.lay x) b' ∧ Lw n p b' ∧ Below n w w' := lay_any w n base p N b x hN hL h1 h2 h3 h4 h5 hf hlen
theorem Oi.below {wF wr w' : World} {base p i : Nat} {l : List Elm} {N : Ns} {b : Nb} (h : Oi wF wr base p i l N b) (hb : Below wr.heap.size wr w') : Oi wF w' base p i l N b :=
  ⟨h.nt.below hb, h.lw, h.bel.trans (hb.mono h.bel.size), h.fit, h.rest⟩
set_option maxHeartbeats 4000000 in
theorem netOf_any (w : World) (v : Value) (l : List Elm) (hv : RdE w v l) (hok : ∀ x ∈ l, x.ok) : Calls Tryz.prog 37 #[v] w (OfP w l) := by
  obtain ⟨hl9, A, cA, rfl, hA⟩ := hv
  have HA : Hid (l = [] ∨ ∃ b, A = some ⟨b, 0, none⟩ ∧ ∀ (k : Nat) (x : Elm), l[k]? = some x → E8 w b (k * 8) x) := hA
  have HOK : Hid (∀ x ∈ l, x.ok) := hok
  clear hA hok
  obtain ⟨n, hn⟩ : ∃ n, l.length = n := ⟨_, rfl⟩
  rw [hn] at hl9 ⊢
  have HN : Hid (l.length = n) := hn
  clear hn
  by_cases hbig : 256 < n
  · have hbi : (256 : Int) < (n : Int) := by omega
    go_enter Tryz.func37, Tryz.ntmps37
    go_wp2_with fail
    (try simp only [Exit.inBlock, Exit.then])
    refine bodyPost_ret (by simp [results, Tryz.results37, go_sem]; try rfl) rfl ?_
    have hA3 : ofA l = ((3, -1), Ns.nil) := if_pos (by have := HN.out; omega)
    exact ⟨(Below.refl _ w).alloc (Nat.le_refl _) _, .inr ⟨by rw [hA3]; simp, by rw [hA3]⟩⟩
  · have hbi : ¬ (256 : Int) < (n : Int) := by omega
    have HnR : Hid (∀ W : World, Calls Tryz.prog 80 #[] W fun e w' => ∃ B, e = .returned (.agg #[.slice none 0 0, .map (some B)]) ∧ Mp w' B [] ∧ Below W.heap.size W w' ∧ W.heap.size ≤ B ∧ B < w'.heap.size) := newRow_any
    go_enter Tryz.func37, Tryz.ntmps37
    go_wp2_with fail
    refine (HnR.out _).mono ?_
    rintro e1 w1 ⟨B2, rfl, m1, b1, g1, g1'⟩
    go_wp2_with fail
    refine (HnR.out _).mono ?_
    rintro e2 w2 ⟨B4, rfl, m2, b2, g2, g2'⟩
    go_wp2_with fail
    refine (HnR.out _).mono ?_
    rintro e3 w3 ⟨B6, rfl, m3, b3, g3, g3'⟩
    have HO : Hid _ := Oi.start (l := l) b1 b2 b3 m1 m2 m3 ⟨g1, g1'⟩ ⟨g2, g2'⟩ ⟨g3, g3'⟩
    clear m1 m2 m3 b1 b2 b3 g1 g1' g2 g2' g3 g3'
    go_wp2_with fail
    obtain ⟨wF, hwF⟩ : ∃ wF, w.alloc (.cells #[.int .i64 0, .int .i64 0] 69) = wF := ⟨_, rfl⟩
    obtain ⟨F, hF⟩ : ∃ F, w.heap.size = F := ⟨_, rfl⟩
    obtain ⟨p, hp⟩ : ∃ p, w3.heap.size = p := ⟨_, rfl⟩
    obtain ⟨W0, hW0⟩ : ∃ W0, w3.alloc (.cells #[.slice none 0 0, .slice none 0 0, .map (some B2), .slice none 0 0, .map (some B4), .slice none 0 0, .map (some B6)] 66) = W0 := ⟨_, rfl⟩
    rw [hwF, hp, hW0] at HO
    rw [hF, hp, hW0]
    have HF : Hid (wF.heap[F]? = some (.cells #[.int .i64 0, .int .i64 0] 69 (0, 0)) ∧ wF.heap.size = F + 1 ∧ Below F w wF ∧ w.heap.size = F) := by
      rw [← hwF, ← hF]
      exact ⟨heap_alloc_new w _, by simp, (Below.refl _ w).alloc (Nat.le_refl _) _, rfl⟩
    clear hwF hF hp hW0 HnR hbi
    go_loopw [21] (fun iv wr => ∃ (i : Nat) (N : Ns) (b : Nb), i ≤ n ∧ iv = .int .i64 i ∧ Hid (Oi wF wr (p + 1) p i l N b)) (fun iv _ => n - (intOf iv).toNat)
    case atStart => exact ⟨0, _, _, Nat.zero_le _, rfl, HO⟩
    case round =>
      obtain ⟨i, N, b, hle, rfl, HI⟩ := hrel
      clear HO
      by_cases hp4 : i < n
      · have hpi : (i : Int) < (n : Int) := by omega
        obtain ⟨x, hx⟩ : ∃ x, l[i]? = some x := ⟨_, List.getElem?_eq_getElem (by have := HN.out; omega)⟩
        obtain ⟨ba, rfl, hca⟩ := HA.out.resolve_left (by intro e; rw [e] at hx; cases hx)
        have hbF : ba < F := by have := (hca i x hx).lt; have := HF.out.2.2.2; omega
        have hE := ((hca i x hx).bel hbF HF.out.2.2.1).bel (n := wF.heap.size) (by have := HF.out.2.1; omega) HI.out.bel
        have HX : Hid (l[i]? = some x) := hx
        have HXo : Hid x.ok := HOK.out x (List.mem_of_getElem? hx)
        obtain ⟨c0, c1, c2, c3, c4, c5, c6, c7⟩ := hE
        clear hca hx
        obtain ⟨t, ht⟩ : ∃ t, l.drop i = x :: t := ⟨_, (List.drop_eq_getElem_cons (by have := HN.out; omega)).trans (by rw [(List.getElem?_eq_some_iff.1 HX.out).2])⟩
        have HR : Hid (ofR N i (x :: t) = ofR Ns.nil 0 l ∧ l.drop (i + 1) = t) := ⟨by rw [← ht]; exact HI.out.rest, by rw [List.drop_add_one_eq_tail_drop, ht]; rfl⟩
        obtain ⟨we, hwe⟩ : ∃ we, wr.alloc (.cells #[.int .u8 (x.k : Int), .string x.n, .string x.a, .string x.b, .string x.c, .string x.d, .float .f64 x.v, .int .i64 x.ph] 96) = we := ⟨_, rfl⟩
        obtain ⟨q, hq⟩ : ∃ q, wr.heap.size = q := ⟨_, rfl⟩
        have HE : Hid (Oi wF we (p + 1) p i l N b ∧ we.heap[q]? = some (.cells (elA x) 96 (0, 0)) ∧ q < we.heap.size) := by
          rw [← hwe, ← hq]
          exact ⟨HI.out.below ((Below.refl _ wr).alloc (Nat.le_refl _) _), heap_alloc_new wr _, by simp⟩
        obtain ⟨⟨d0, d1, d2, d3, d4, d5, d6, d7⟩, _⟩ := eight HE.out.2.1
        go_wp2_with fail
        clear d0 d1 d2 d3 d4 d5 d6 d7
        clear hwe hq c0 c1 c2 c3 c4 c5 c6 c7 HI ht
        refine (check_w x _ HXo.out).mono ?_
        rintro e4 w4 ⟨rfl, bk⟩
        have HO4 : Hid (Oi wF w4 (p + 1) p i l N b) := HE.out.1.below bk
        have hq4 : w4.heap[q]? = some (.cells (elA x) 96 (0, 0)) := by rw [bk.block q HE.out.2.2]; exact HE.out.2.1
        have hF4 : w4.heap[F]? = some (.cells #[.int .i64 0, .int .i64 0] 69 (0, 0)) := by rw [HO4.out.bel.block F (by have := HF.out.2.1; omega)]; exact HF.out.1
        clear bk HE
        by_cases hchk : chkI x = 0
        · obtain ⟨hs1, hs1', hs2, hs3, hs4, hs5⟩ := chk_short hchk
          have hck : ((chkI x) != 0) = false := by simp [hchk]
          obtain ⟨⟨d0, d1, d2, d3, d4, d5, d6, d7⟩, _⟩ := eight hq4
          have hmp := HO4.out.nt.nm.mp
          have hmc := HO4.out.nt.nm.c1
          have HPL : Hid (Calls Tryz.prog 82 #[.pointer (some ⟨p, 1, none⟩), .string x.n] w4.drew fun e w' => e = .returned (.tuple #[.int .i64 (posL N.nm (bl x.n)), .bool (decide (bl x.n ∈ N.nm))]) ∧ w' = w4.drew) := place_s w4.drew p 1 b.B2 N.nm x.n (by omega) hmc (hmp.blk rfl)
          clear hmp hmc
          rw [hchk]
          by_cases hin : bl x.n ∈ N.nm
          · have hin2 : decide (bl x.n ∈ N.nm) = true := decide_eq_true hin
            rw [hin2] at HPL
            go_wp2_with fail
            go_region_held_law (fun W => W.cell? ⟨q, 1, none⟩ = some (.string x.n)) (first | exact d1 | go_keep) (first | (go_at_call 82; (with_reducible refine HPL.out.mono ?_); rintro e5 w5 ⟨rfl, rfl⟩))
            obtain ⟨z0, z1, z2, z3⟩ := tw_c hF4
            have y0 : (w4.setCell ⟨F, 0, none⟩ (.int .i64 9)).cell? ⟨F, 0, none⟩ = some (.int .i64 9) := World.cell?_setCell_same _ _ _ z0
            have y1 := (tw_set hF4 (.int .i64 9) (.int .i64 (i : Int))).2
            go_wp2_with fail
            (try simp only [Exit.inBlock, Exit.then])
            refine bodyPost_ret (by simp [results, Tryz.results37, go_sem, y0, y1]; try rfl) rfl ?_
            have hA3 : ofA l = ((9, (i : Int)), N) := by unfold ofA; rw [if_neg (by have := HN.out; omega), ← HR.out.1, ofR_there hchk hin]
            refine ⟨(tw_bel (w' := w4) (f := F) (n := w.heap.size) ?_ (by have := HF.out.2.2.2; omega) _ _).drew, .inr ⟨by rw [hA3]; simp, by rw [hA3]⟩⟩
            exact (HF.out.2.2.1.mono (by have := HF.out.2.2.2; omega)).trans (HO4.out.bel.mono (by have := HF.out.2.1; have := HF.out.2.2.2; omega))
          · have hin2 : decide (bl x.n ∈ N.nm) = false := decide_eq_false hin
            rw [hin2] at HPL
            go_wp2_with fail
            go_region_held_law (fun W => W.cell? ⟨q, 1, none⟩ = some (.string x.n)) (first | exact d1 | go_keep) (first | (go_at_call 82; (with_reducible refine HPL.out.mono ?_); rintro e5 w5 ⟨rfl, rfl⟩))
            have HO5 : Hid (Oi wF w4.drew (p + 1) p i l N b) := HO4.out.below ((Below.refl _ w4).drew)
            have hly := lay_w w4.drew wF.heap.size (p + 1) p N b x HO5.out.nt HO5.out.lw (by omega) (by omega) (by omega) (by omega) (by omega) (by rw [HO5.out.fit.es]; exact HO5.out.fit) (by rw [HO5.out.fit.es]; omega)
            go_wp2_with fail
            refine hly.mono ?_
            rintro e6 w6 ⟨rfl, b6, hn6, hl6, hb6⟩
            have HO6 : Hid (Oi wF w6 (p + 1) p (i + 1) l (N.lay x) b6) := ⟨hn6, hl6, HO5.out.bel.trans hb6, HO5.out.fit.lay x, by rw [HR.out.2, ← ofR_go hchk hin]; exact HR.out.1⟩
            clear hn6 hl6 hb6
            go_wp2_with fail
            go_roundw
            case rel => exact ⟨i + 1, _, _, by omega, by go_num, HO6⟩
            case measure => simp [intOf]; omega
        · have hck : ((chkI x) != 0) = true := by simpa using hchk
          obtain ⟨z0, z1, z2, z3⟩ := tw_c hF4
          obtain ⟨y0, y1⟩ := tw_set hF4 (.int .i64 (chkI x)) (.int .i64 (i : Int))
          go_wp2_with fail
          (try simp only [Exit.inBlock, Exit.then])
          refine bodyPost_ret (by simp [results, Tryz.results37, go_sem, y0, y1]; try rfl) rfl ?_
          have hA3 : ofA l = ((chkI x, (i : Int)), N) := by unfold ofA; rw [if_neg (by have := HN.out; omega), ← HR.out.1, ofR_bad hchk]
          refine ⟨tw_bel ?_ (by have := HF.out.2.2.2; omega) _ _, .inr ⟨by rw [hA3]; exact hchk, by rw [hA3]⟩⟩
          exact (HF.out.2.2.1.mono (by have := HF.out.2.2.2; omega)).trans (HO4.out.bel.mono (by have := HF.out.2.1; have := HF.out.2.2.2; omega))
      · have hin : i = n := by omega
        subst hin
        have hnlt : ¬ ((i : Int) < (i : Int)) := by omega
        have hdr : l.drop i = [] := List.drop_eq_nil_of_le (by have := HN.out; omega)
        have HR : Hid (ofR N i [] = ofR Ns.nil 0 l) := by rw [← hdr]; exact HI.out.rest
        clear hdr
        obtain ⟨Ad, capd, hv3⟩ : ∃ A cap, b.v3 = .slice A N.nd.length cap := by
          obtain ⟨_, ⟨h1, h2⟩ | ⟨g, cap, cur, h1, _⟩⟩ := HI.out.nt.nd.row
          · exact ⟨none, 0, by rw [h1, h2]⟩
          · exact ⟨_, _, h1⟩
        have c3 := HI.out.nt.nd.c0
        rw [hv3] at c3
        have hnd1 : N.nd.length ≤ 1100 := by have := HI.out.fit.nd; omega
        have hbr1 : N.br.length ≤ 1100 := by have := HI.out.fit.br; omega
        obtain ⟨nd, hnd⟩ : ∃ nd, N.nd.length = nd := ⟨_, rfl⟩
        obtain ⟨br, hbr⟩ : ∃ br, N.br.length = br := ⟨_, rfl⟩
        have HOR : Hid (Calls Tryz.prog 74 #[.pointer (some ⟨p, 0, none⟩)] wr fun e w' => e = .returned (.int .i64 ((nd + br : Nat) : Int)) ∧ Below wr.heap.size wr w') := by
          rw [← hnd, ← hbr]; exact norder_made HI.out.nt (by omega) (by omega)
        rw [hnd] at c3 hnd1
        rw [hbr] at hbr1
        have HNB : Hid (N.nd.length = nd ∧ N.br.length = br) := ⟨hnd, hbr⟩
        clear hnd hbr hv3
        have hFr : wr.heap[F]? = some (.cells #[.int .i64 0, .int .i64 0] 69 (0, 0)) := by rw [HI.out.bel.block F (by have := HF.out.2.1; omega)]; exact HF.out.1
        by_cases h32 : 32 < nd
        · have h32i : (32 : Int) < (nd : Int) := by omega
          obtain ⟨z0, z1, z2, z3⟩ := tw_c hFr
          obtain ⟨y0, y1⟩ := tw_set hFr (.int .i64 3) (.int .i64 (-1))
          go_wp2_with fail
          (try simp only [Exit.inBlock, Exit.then])
          refine bodyPost_ret (by simp [results, Tryz.results37, go_sem, y0, y1]; try rfl) rfl ?_
          have hA3 : ofA l = ((3, -1), N) := by unfold ofA; rw [if_neg (by have := HN.out; omega), ← HR.out]; unfold ofR; rw [if_pos (by rw [HNB.out.1]; exact .inl h32)]
          refine ⟨tw_bel ?_ (by have := HF.out.2.2.2; omega) _ _, .inr ⟨by rw [hA3]; simp, by rw [hA3]⟩⟩
          exact (HF.out.2.2.1.mono (by have := HF.out.2.2.2; omega)).trans (HI.out.bel.mono (by have := HF.out.2.1; have := HF.out.2.2.2; omega))
        · have h32i : ¬ (32 : Int) < (nd : Int) := by omega
          by_cases h64 : 64 < nd + br
          · have h64i : (64 : Int) < ((nd + br : Nat) : Int) := by omega
            go_wp2_with (first | (go_at_call 74; (with_reducible refine HOR.out.mono ?_); rintro e6 w6 ⟨rfl, hb6⟩; (have hF6 : w6.heap[F]? = some (.cells #[.int .i64 0, .int .i64 0] 69 (0, 0)) := (by rw [hb6.block F (by have := (Array.getElem?_eq_some_iff.1 hFr).1; exact this)]; exact hFr)); (obtain ⟨z0, z1, z2, z3⟩ := tw_c hF6); (obtain ⟨y0, y1⟩ := tw_set hF6 (.int .i64 3) (.int .i64 (-1))); (have HB6 : Hid _ := hb6); clear hb6))
            (try simp only [Exit.inBlock, Exit.then])
            refine bodyPost_ret (by simp [results, Tryz.results37, go_sem, y0, y1]; try rfl) rfl ?_
            have hA3 : ofA l = ((3, -1), N) := by unfold ofA; rw [if_neg (by have := HN.out; omega), ← HR.out]; unfold ofR; rw [if_pos (by rw [HNB.out.1, HNB.out.2]; exact .inr h64)]
            refine ⟨tw_bel ?_ (by have := HF.out.2.2.2; omega) _ _, .inr ⟨by rw [hA3]; simp, by rw [hA3]⟩⟩
            exact ((HF.out.2.2.1.mono (by have := HF.out.2.2.2; omega)).trans (HI.out.bel.mono (by have := HF.out.2.1; have := HF.out.2.2.2; omega))).trans (HB6.out.mono (by have := HI.out.bel.size; have := HF.out.2.1; have := HF.out.2.2.2; omega))
          · have h64i : ¬ (64 : Int) < ((nd + br : Nat) : Int) := by omega
            go_wp2_with (first | (go_at_call 74; (with_reducible refine HOR.out.mono ?_); rintro e6 w6 ⟨rfl, hb6⟩; (have hF6 : w6.heap[F]? = some (.cells #[.int .i64 0, .int .i64 0] 69 (0, 0)) := (by rw [hb6.block F (by have := (Array.getElem?_eq_some_iff.1 hFr).1; exact this)]; exact hFr)); (obtain ⟨z0, z1, z2, z3⟩ := tw_c hF6); (obtain ⟨y0, y1⟩ := tw_set hF6 (.int .i64 0) (.int .i64 0)); (have HB6 : Hid _ := hb6); clear hb6))
            (try simp only [Exit.inBlock, Exit.then])
            refine bodyPost_ret (by simp [results, Tryz.results37, go_sem, y0, y1]; try rfl) rfl ?_
            have hA3 : ofA l = ((0, 0), N) := by unfold ofA; rw [if_neg (by have := HN.out; omega), ← HR.out]; unfold ofR; rw [if_neg (by rw [HNB.out.1, HNB.out.2]; rintro (q | q); exact h32 q; exact h64 q)]
            have O6 := HI.out.below HB6.out
            refine ⟨tw_bel ?_ (by have := HF.out.2.2.2; omega) _ _, .inl ⟨by rw [hA3], p + 1, p, b, rfl, ?_, by have := O6.lw.p; have := HF.out.2.1; have := HF.out.2.2.2; omega, by rw [hA3, HN.out]; exact O6.fit⟩⟩
            · exact (HF.out.2.2.1.mono (by have := HF.out.2.2.2; omega)).trans (O6.bel.mono (by have := HF.out.2.1; have := HF.out.2.2.2; omega))
            · rw [hA3]
              exact O6.nt.but (F := F) O6.lw (by have := HF.out.2.1; omega) (by simp [World.setCell]) (fun k hk => by rw [heap_setCell_other _ _ _ _ (by simpa using hk), heap_setCell_other _ _ _ _ (by simpa using hk)])
end Go.Proofs.YtmpkcioeodlbcaaGreatDoor
namespace Go.Proofs.YtmpkcioeodlbcaaGreatDoor
open Go.Maps Go.RowKit
set_option linter.unusedVariables false
set_option maxRecDepth 100000
/-- a name -/
abbrev Nm := List UInt8
/-- a twig: its name, its other node -/
abbrev Tw := Nm × Nat
/-- what seek finds among the twigs of a node: nothing said, no way, a way -/
def skL (go : Nat → Int → Option (Option (List Nm))) (a : Nat) (bef : Int) : List Tw → Option (Option (List Nm))
  | [] => some none
  | t :: r => if (t.2 : Int) = bef then skL go a bef r else match go t.2 a with
    | none => none
    | some none => skL go a bef r
    | some (some l) => some (some (l ++ [t.1]))
def skF (tw : List (List Tw)) (b : Nat) : Nat → Nat → Int → Option (Option (List Nm))
  | 0, _, _ => none
  | f + 1, a, bef => if a = b then some (some []) else match tw[a]? with
    | none => none
    | some ts => skL (skF tw b f) a bef ts
theorem skL_len {go : Nat → Int → Option (Option (List Nm))} {a : Nat} {bef : Int} {n : Nat} (hg : ∀ x y l, go x y = some (some l) → l.length ≤ n) {ts : List Tw} {l : List Nm} (h : skL go a bef ts = some (some l)) : l.length ≤ n + 1 := by
  induction ts with
  | nil => cases h
  | cons t r ih =>
    unfold skL at h
    split at h
    · exact ih h
    · cases q : go t.2 a with
      | none => rw [q] at h; cases h
      | some o =>
        cases o with
        | none => rw [q] at h; exact ih h
        | some m => rw [q] at h; cases h; have := hg _ _ _ q; simp; omega
theorem skF_len {tw : List (List Tw)} {b : Nat} {f : Nat} : ∀ {a : Nat} {bef : Int} {l : List Nm}, skF tw b f a bef = some (some l) → l.length ≤ f := by
  induction f with
  | zero => intro a bef l h; cases h
  | succ f ih =>
    intro a bef l h
    unfold skF at h
    split at h
    · cases h; exact Nat.zero_le _
    · cases q : tw[a]? with
      | none => rw [q] at h; cases h
      | some ts => rw [q] at h; exact skL_len (fun x y l => ih) h
/-- the value v reads as the twigs ts, below lim -/
def RdW (w : World) (lim : Nat) (v : Value) (ts : List Tw) : Prop :=
  ∃ A c, v = .slice A ts.length c ∧ (ts = [] ∨ ∃ g, A = some ⟨g, 0, none⟩ ∧ g < lim ∧ ∀ (k : Nat) (t : Tw), ts[k]? = some t → w.cell? ⟨g, k * 2, none⟩ = some (sv t.1) ∧ w.cell? ⟨g, k * 2 + 1, none⟩ = some (.int .i64 (t.2 : Int)))
/-- a forest's twigs, read; what they lie in lies below lim -/
structure TwR (w : World) (fp lim : Nat) (tw : List (List Tw)) : Prop where
  f : fp < lim
  n : tw.length ≤ 1000000
  t : ∀ ts ∈ tw, ts.length ≤ 1000000
  r : ∃ BL cap, w.cell? ⟨fp, 1, none⟩ = some (.slice (some ⟨BL, 0, none⟩) tw.length cap) ∧ BL < lim ∧ ∀ (j : Nat) (ts : List Tw), tw[j]? = some ts → ∃ u, w.cell? ⟨BL, j, none⟩ = some u ∧ RdW w lim u ts
theorem TwR.kept {w w' : World} {fp lim : Nat} {tw : List (List Tw)} (h : TwR w fp lim tw) (hb : Below lim w w') : TwR w' fp lim tw := by
  obtain ⟨BL, cap, h1, h2, h3⟩ := h.r
  refine ⟨h.f, h.n, h.t, BL, cap, (hb.cell (p := ⟨fp, 1, none⟩) h.f).trans h1, h2, fun j ts hj => ?_⟩
  obtain ⟨u, h4, A, c, h5, h6⟩ := h3 j ts hj
  refine ⟨u, (hb.cell (p := ⟨BL, j, none⟩) h2).trans h4, A, c, h5, h6.imp id ?_⟩
  rintro ⟨g, q1, q2, q3⟩
  exact ⟨g, q1, q2, fun k t hk => ⟨(hb.cell (p := ⟨g, k * 2, none⟩) q2).trans (q3 k t hk).1, (hb.cell (p := ⟨g, k * 2 + 1, none⟩) q2).trans (q3 k t hk).2⟩⟩
/-- while seek goes on: the boxes of back, the way so far -/
structure Sk (w : World) (L fp b : Nat) (tw : List (List Tw)) (way : List Nm) : Prop where
  cf : w.cell? ⟨L, 0, none⟩ = some (.pointer (some ⟨fp, 0, none⟩))
  cb : w.cell? ⟨L + 1, 0, none⟩ = some (.int .i64 (b : Int))
  cw : ∃ v, w.cell? ⟨L + 2, 0, none⟩ = some v ∧ w.frozen? ⟨L + 2, 0, none⟩ = false ∧ w.ownsRow (L + 4) 9 1 v way.length (way.map sv)
  cs : w.cell? ⟨L + 3, 0, none⟩ = some (.func (.func 228) #[] #[.pointer (some ⟨L + 1, 0, none⟩), .pointer (some ⟨L, 0, none⟩), .pointer (some ⟨L + 3, 0, none⟩), .pointer (some ⟨L + 2, 0, none⟩)])
  tw : TwR w fp L tw
  hi : L + 4 ≤ w.heap.size
theorem Sk.kept {w w' : World} {L fp b : Nat} {tw : List (List Tw)} {way : List Nm} (h : Sk w L fp b tw way) (hb : Below w.heap.size w w') : Sk w' L fp b tw way := by
  have hi := h.hi
  obtain ⟨v, h1, h2, h3⟩ := h.cw
  exact ⟨(hb.cell (p := ⟨L, 0, none⟩) (by simp only; omega)).trans h.cf, (hb.cell (p := ⟨L + 1, 0, none⟩) (by simp only; omega)).trans h.cb, ⟨v, (hb.cell (p := ⟨L + 2, 0, none⟩) (by simp only; omega)).trans h1, (World.frozen?_of_block (hb.block (L + 2) (by omega))).trans h2, row_block h3 fun g hg => hb.block g (row_ge h3 hg).2⟩, (hb.cell (p := ⟨L + 3, 0, none⟩) (by simp only; omega)).trans h.cs, h.tw.kept (hb.mono (by omega)), Nat.le_trans hi hb.size⟩
/-- twigs in memory stay -/
def Kt (L : Nat) (w w' : World) : Prop := ∀ k c fz, k ≠ L + 2 → w.heap[k]? = some (.cells c 247 fz) → w'.heap[k]? = some (.cells c 247 fz)
theorem Kt.refl (L : Nat) (w : World) : Kt L w w := fun _ _ _ _ h => h
theorem Kt.trans {L : Nat} {w w1 w2 : World} (h : Kt L w w1) (h2 : Kt L w1 w2) : Kt L w w2 := fun k c fz hk hc => h2 k c fz hk (h k c fz hk hc)
theorem Kt.bel {L : Nat} {w w' : World} (h : Below w.heap.size w w') : Kt L w w' := fun k c fz _ hc => by rw [h.block k (Array.getElem?_eq_some_iff.1 hc).1]; exact hc
theorem ne_tw : (247 : TypeId) ≠ 9 := by decide
/-- the way has grown -/
theorem Sk.push {w w1 : World} {L fp b : Nat} {tw : List (List Tw)} {way way' : List Nm} {v v' : Value} (h : Sk w L fp b tw way) (hc : w.cell? ⟨L + 2, 0, none⟩ = some v) (ho : w.ownsRow (L + 4) 9 1 v way.length (way.map sv)) (hg : w.grownBy w1 v.ownBlock) (hr : w1.ownsRow (L + 4) 9 1 v' way'.length (way'.map sv)) :
    Sk (w1.setCell ⟨L + 2, 0, none⟩ v') L fp b tw way' ∧ Below L w (w1.setCell ⟨L + 2, 0, none⟩ v') ∧ Kt L w (w1.setCell ⟨L + 2, 0, none⟩ v') := by
  have hi := h.hi
  have hk : ∀ k, k < L + 4 → k ≠ L + 2 → (w1.setCell ⟨L + 2, 0, none⟩ v').heap[k]? = w.heap[k]? := fun k h1 h2 => by
    rw [heap_setCell_other w1 ⟨L + 2, 0, none⟩ k v' (by simpa using h2), hg.block k (by omega) (fun e => by have := (row_ge ho e.symm).1; omega)]
  have hb : Below L w (w1.setCell ⟨L + 2, 0, none⟩ v') := ⟨hg.os, hg.tape, hg.output, by have := hg.size; simpa [World.setCell] using this, fun k hk2 => hk k (by omega) (by omega)⟩
  have hp : w1.heap[L + 2]? = w.heap[L + 2]? := hg.block (L + 2) (by omega) (fun e => by have := (row_ge ho e.symm).1; omega)
  obtain ⟨v0, _, hf, _⟩ := h.cw
  refine ⟨⟨(World.cell?_of_block (a := ⟨L, 0, none⟩) (hk L (by omega) (by omega))).trans h.cf, (World.cell?_of_block (a := ⟨L + 1, 0, none⟩) (hk (L + 1) (by omega) (by omega))).trans h.cb, ⟨v', World.cell?_setCell_same w1 _ _ ((World.cell?_of_block hp).trans hc), ?_, ?_⟩, (World.cell?_of_block (a := ⟨L + 3, 0, none⟩) (hk (L + 3) (by omega) (by omega))).trans h.cs, h.tw.kept hb, ?_⟩, hb, fun k c fz h1 h2 => ?_⟩
  · rw [show (w1.setCell ⟨L + 2, 0, none⟩ v').frozen? ⟨L + 2, 0, none⟩ = w1.frozen? ⟨L + 2, 0, none⟩ by simp]; exact (World.frozen?_of_block hp).trans hf
  · exact row_block hr fun g hg2 => heap_setCell_other w1 ⟨L + 2, 0, none⟩ g v' (by have := (row_ge hr hg2).1; simp; omega)
  · have := hb.size; omega
  · rw [heap_setCell_other w1 ⟨L + 2, 0, none⟩ k v' (by simpa using h1), hg.block k (Array.getElem?_eq_some_iff.1 h2).1 ?_]
    · exact h2
    · intro e
      obtain ⟨_, ⟨rfl, _⟩ | ⟨g, cap, cur, rfl, _, h4, _⟩⟩ := ho
      · cases e
      · cases e
        rw [h4] at h2
        injection h2 with h2; injection h2 with _ h2
        exact ne_tw h2.symm
set_option maxHeartbeats 4000000 in
theorem seek_any (L fp b : Nat) (tw : List (List Tw)) (f : Nat) : ∀ (a : Nat) (bef : Int) (way : List Nm) (r : Option (List Nm)) (w : World), Sk w L fp b tw way → way.length + f ≤ 100000 → skF tw b f a bef = some r →
    Calls Tryz.prog 228 #[.int .i64 (a : Int), .int .i64 bef, .pointer (some ⟨L + 1, 0, none⟩), .pointer (some ⟨L, 0, none⟩), .pointer (some ⟨L + 3, 0, none⟩), .pointer (some ⟨L + 2, 0, none⟩)] w fun e w' => e = .returned (.bool r.isSome) ∧ Sk w' L fp b tw (way ++ r.getD []) ∧ Below L w w' ∧ Kt L w w' := by
  induction f with
  | zero => intro a bef way r w _ _ h; cases h
  | succ f ih =>
    intro a bef way r w hS hl hr
    have HI : Hid (∀ (a : Nat) (bef : Int) (way : List Nm) (r : Option (List Nm)) (w : World), Sk w L fp b tw way → way.length + f ≤ 100000 → skF tw b f a bef = some r →
      Calls Tryz.prog 228 #[.int .i64 (a : Int), .int .i64 bef, .pointer (some ⟨L + 1, 0, none⟩), .pointer (some ⟨L, 0, none⟩), .pointer (some ⟨L + 3, 0, none⟩), .pointer (some ⟨L + 2, 0, none⟩)] w fun e w' => e = .returned (.bool r.isSome) ∧ Sk w' L fp b tw (way ++ r.getD []) ∧ Below L w w' ∧ Kt L w w') := ih
    clear ih
    have cb := hS.cb
    have cf := hS.cf
    have HS : Hid _ := hS
    unfold skF at hr
    by_cases hab : a = b
    · rw [if_pos hab] at hr
      cases hr
      subst hab
      clear hS
      go_enter Tryz.func228, Tryz.ntmps228
      go_wp2_with fail
      go_ret
      exact ⟨rfl, by simpa using HS.out, Below.refl _ _, Kt.refl _ _⟩
    · rw [if_neg hab] at hr
      have habi : ((a : Int) == (b : Int)) = false := by rw [beq_eq_false_iff_ne]; omega
      cases hq : tw[a]? with
      | none => rw [hq] at hr; cases hr
      | some ts =>
        rw [hq] at hr
        obtain ⟨BL, cap, c1, hBL, hts⟩ := hS.tw.r
        obtain ⟨u, cu, A, cA, rfl, hA⟩ := hts a ts hq
        have hlt : a < tw.length := (List.getElem?_eq_some_iff.1 hq).1
        have hti := hS.tw.t ts (List.mem_of_getElem? hq)
        have hni := hS.tw.n
        obtain ⟨n, hn⟩ : ∃ n, tw.length = n := ⟨_, rfl⟩
        obtain ⟨m, hm⟩ : ∃ m, ts.length = m := ⟨_, rfl⟩
        rw [hn] at c1 hlt hni
        rw [hm] at cu hti
        have hai : (a : Int) < (n : Int) := by omega
        have HM : Hid (ts.length = m) := hm
        have HA : Hid _ := hA
        have HR : Hid (skL (skF tw b f) a bef ts = some r) := hr
        clear hm hn hA hts hr hS hq
        go_enter Tryz.func228, Tryz.ntmps228
        go_wp2_with fail
        go_loopw [22] (fun iv wr => ∃ (k : Nat), k ≤ m ∧ iv = .int .i64 k ∧ Hid (Sk wr L fp b tw way ∧ Below L w wr ∧ Kt L w wr) ∧ Hid (skL (skF tw b f) a bef (ts.drop k) = some r)) (fun iv _ => m - (intOf iv).toNat)
        case atStart => exact ⟨0, Nat.zero_le _, rfl, ⟨HS.out, Below.refl _ _, Kt.refl _ _⟩, HR.out⟩
        case round =>
          obtain ⟨k, hle, rfl, HS2, HR2⟩ := hrel
          clear HR c1 cu cb cf
          by_cases hp4 : k < m
          · have hpk : (k : Int) < (m : Int) := by omega
            obtain ⟨⟨nm, far⟩, hx⟩ : ∃ t, ts[k]? = some t := ⟨_, List.getElem?_eq_getElem (by have := HM.out; omega)⟩
            obtain ⟨g, rfl, hg, hcs⟩ := HA.out.resolve_left (by intro e; rw [e] at hx; cases hx)
            obtain ⟨d0, d1⟩ := hcs k _ hx
            have e0 := (HS2.out.2.1.cell (p := ⟨g, k * 2, none⟩) hg).trans d0
            have e1 := (HS2.out.2.1.cell (p := ⟨g, k * 2 + 1, none⟩) hg).trans d1
            have hdr : ts.drop k = (nm, far) :: ts.drop (k + 1) := (List.drop_eq_getElem_cons (by have := HM.out; omega)).trans (by rw [(List.getElem?_eq_some_iff.1 hx).2])
            have hr2 := HR2.out
            rw [hdr] at hr2
            clear d0 d1 hcs hdr hx
            obtain ⟨wa, hwa⟩ : ∃ wa, wr.alloc (.cells #[.string ⟨nm.toArray⟩, .int .i64 (far : Int)] 247) = wa := ⟨_, rfl⟩
            obtain ⟨q, hq⟩ : ∃ q, wr.heap.size = q := ⟨_, rfl⟩
            have BA : Below wr.heap.size wr wa := by rw [← hwa]; exact (Below.refl _ _).alloc (Nat.le_refl _) _
            have SA := HS2.out.1.kept BA
            have cs := SA.cs
            have hLr : L ≤ wr.heap.size := by have := HS2.out.1.hi; omega
            have HSA : Hid (Sk wa L fp b tw way ∧ Below L w wa ∧ Kt L w wa) := ⟨SA, HS2.out.2.1.trans (BA.mono hLr), HS2.out.2.2.trans (Kt.bel BA)⟩
            have t0 : wa.cell? ⟨q, 0, none⟩ = some (.string ⟨nm.toArray⟩) := by rw [← hwa, ← hq]; exact World.cell?_alloc_new _ _ _ _
            have t1 : wa.cell? ⟨q, 1, none⟩ = some (.int .i64 (far : Int)) := by rw [← hwa, ← hq]; exact World.cell?_alloc_new _ _ _ _
            have hqa : q < wa.heap.size := by rw [← hwa, ← hq]; simp
            have HT : Hid (wa.heap[q]? = some (.cells #[.string ⟨nm.toArray⟩, .int .i64 (far : Int)] 247 (0, 0)) ∧ L + 4 ≤ q) := ⟨by rw [← hwa, ← hq]; exact heap_alloc_new _ _, by have := HS2.out.1.hi; omega⟩
            clear SA BA HS2
            simp only [sv] at e0 e1
            by_cases hfb : (far : Int) = bef
            · have hr3 : skL (skF tw b f) a bef (ts.drop (k + 1)) = some r := by rw [← hr2, skL, if_pos hfb]
              have HR3 : Hid (skL (skF tw b f) a bef (ts.drop (k + 1)) = some r) := hr3
              have hne : ((far : Int) != bef) = false := by simp [hfb]
              have HFB : Hid ((far : Int) = bef) := hfb
              clear hr3 hr2 hfb
              go_wp2_with fail
              go_roundw
              case rel => exact ⟨k + 1, by omega, by go_num, HSA.out, HR3.out⟩
              case measure => simp [intOf]; omega
            · have hne : ((far : Int) != bef) = true := by simp [hfb]
              have HFB : Hid (¬ (far : Int) = bef) := hfb
              rw [skL, if_neg hfb] at hr2
              clear hfb
              cases hq2 : skF tw b f far a with
              | none => rw [hq2] at hr2; cases hr2
              | some o =>
                rw [hq2] at hr2
                have hcall := HI.out far a way o wa HSA.out.1 (by omega) hq2
                have HO : Hid (skF tw b f far a = some o) := hq2
                clear hq2
                cases o with
                | none =>
                  have HR3 : Hid (skL (skF tw b f) a bef (ts.drop (k + 1)) = some r) := hr2
                  clear hr2
                  go_wp2_with fail
                  refine hcall.mono ?_
                  rintro e5 w5 ⟨rfl, S5, B5, K5⟩
                  have HS5 : Hid (Sk w5 L fp b tw way ∧ Below L w w5 ∧ Kt L w w5) := ⟨by simpa using S5, HSA.out.2.1.trans B5, HSA.out.2.2.trans K5⟩
                  clear S5 B5 K5 hcall
                  go_wp2_with fail
                  go_roundw
                  case rel => exact ⟨k + 1, by omega, by go_num, HS5.out, HR3.out⟩
                  case measure => simp [intOf]; omega
                | some l =>
                  have hr3 : r = some (l ++ [nm]) := (Option.some.inj hr2).symm
                  subst hr3
                  have hll := skF_len HO.out
                  clear hr2
                  go_wp2_with fail
                  refine hcall.mono ?_
                  rintro e5 w5 ⟨rfl, S5, B5, K5⟩
                  have hq5 := K5 q _ _ (by have := HT.out.2; omega) HT.out.1
                  have n0 : w5.cell? ⟨q, 0, none⟩ = some (.string ⟨nm.toArray⟩) := by rw [cell_of_row w5 q 0 _ _ (0, 0) hq5]; rfl
                  have S5' : Sk w5 L fp b tw (way ++ l) := S5
                  obtain ⟨v, cw, fw, ow⟩ := S5'.cw
                  have HS5 : Hid (Sk w5 L fp b tw (way ++ l) ∧ Below L w w5 ∧ Kt L w w5) := ⟨S5', HSA.out.2.1.trans B5, HSA.out.2.2.trans K5⟩
                  obtain ⟨i0, hi0, hz0, hz1, hz2⟩ := info_parts Tryz.infoS
                  obtain ⟨A5, cap5, rfl⟩ : ∃ A cap, v = .slice A (way ++ l).length cap := by
                    obtain ⟨_, ⟨h1, h2⟩ | ⟨g, cap, cur, h1, _⟩⟩ := ow
                    · exact ⟨none, 0, by rw [h1, h2]⟩
                    · exact ⟨_, _, h1⟩
                  have hwl : (way ++ l).length ≤ 100000 := by simp; omega
                  obtain ⟨z, hz⟩ : ∃ z, (way ++ l).length = z := ⟨_, rfl⟩
                  have HZ : Hid ((way ++ l).length = z) := hz
                  rw [hz] at ow cw hwl
                  have hL4 : L + 4 ≤ w5.heap.size := S5'.hi
                  have hvL : some (L + 2) ≠ (Value.slice A5 z cap5).ownBlock := fun e => by have := (row_ge ow e.symm).1; omega
                  clear S5 S5' B5 K5 hcall t0 t1 hqa cs e0 e1 hwa hq hz hLr
                  go_wp2_with (at_builtin; refine wpList_append_lies _ (by rfl) _ _ 61 (by rfl) (L + 4) 9 i0 (.string ByteArray.empty) 1 16 Tryz.underlying61 hi0 hz0 hz1 hz2 (by rfl) (by decide) _ _ _ (by rfl) (ow.alloc _) ⟨w5.heap.size, 0, none⟩ 1 1 [.string ⟨nm.toArray⟩] (by rfl) (by rfl) (World.news_of_block (fr := (0, 0)) (t := 9) (cs := #[.string ⟨nm.toArray⟩]) (heap_alloc_new _ _)) (fun u hu => by simp at hu; subst hu; rfl) (by decide) (by unfold maxLen; omega) (by omega) (by simp; omega) _ rfl ?_; intro g2 cap2 w6 hown6 hgrow hat6 hlt6; (have k6 : w6.cell? ⟨L + 2, 0, none⟩ = some (.slice A5 z cap5) := hgrow.cell (by rw [World.cell?_alloc_lt _ _ _ (World.block_lt_of_cell? w5 _ cw)]; exact cw) hvL); (have f6 : w6.frozen? ⟨L + 2, 0, none⟩ = false := (hgrow.frozen_far ⟨L + 2, 0, none⟩ (by simp; omega) hvL).trans ((World.frozen?_alloc_old w5 _ ⟨L + 2, 0, none⟩ (Nat.ne_of_lt (World.block_lt_of_cell? w5 _ cw))).trans fw)))
                  go_ret
                  have B6 : Below w5.heap.size w5 (w5.alloc (.cells #[.string ⟨nm.toArray⟩] 9)) := (Below.refl _ _).alloc (Nat.le_refl _) _
                  have P6 := (HS5.out.1.kept B6).push (way' := way ++ l ++ [nm]) (v' := .slice (some ⟨g2, 0, none⟩) (z + 1) cap2) (by rw [World.cell?_alloc_lt _ _ _ (World.block_lt_of_cell? w5 _ cw)]; exact cw) (by rw [HZ.out]; exact ow.alloc _) hgrow (by rw [List.length_append, HZ.out, List.map_append]; exact hown6)
                  refine ⟨rfl, ?_, HS5.out.2.1.trans ((B6.mono (by omega)).trans P6.2.1), HS5.out.2.2.trans ((Kt.bel B6).trans P6.2.2)⟩
                  have := P6.1
                  rw [List.append_assoc] at this
                  exact this
          · have hkm : k = m := by omega
            subst hkm
            have hrn : r = none := by
              have := HR2.out
              rw [List.drop_eq_nil_of_le (by have := HM.out; omega)] at this
              exact (Option.some.inj this).symm
            subst hrn
            have hkk : ¬ ((k : Int) < (k : Int)) := by omega
            clear HR2
            go_wp2_with fail
            go_ret
            exact ⟨rfl, by simpa using HS2.out.1, HS2.out.2.1, HS2.out.2.2⟩

end Go.Proofs.YtmpkcioeodlbcaaGreatDoor
namespace Go.Proofs.YtmpkcioeodlbcaaGreatDoor
set_option linter.unusedVariables false
theorem addU_self (xs : List (List UInt8)) (s : List UInt8) : s ∈ addU xs s := by unfold addU; split; assumption; simp
theorem addU_sub {xs : List (List UInt8)} {s x : List UInt8} (h : x ∈ xs) : x ∈ addU xs s := by unfold addU; split; exact h; exact List.mem_append_left _ h
theorem addU_mem {xs : List (List UInt8)} {s x : List UInt8} (h : x ∈ addU xs s) : x ∈ xs ∨ x = s := by
  unfold addU at h
  split at h
  · exact .inl h
  · rcases List.mem_append.1 h with q | q
    · exact .inl q
    · exact .inr (by simpa using q)
theorem addU_nodup {xs : List (List UInt8)} {s : List UInt8} (h : xs.Nodup) : (addU xs s).Nodup := by
  unfold addU
  split
  · exact h
  · rename_i hs
    rw [List.nodup_append]
    refine ⟨h, by simp, fun a ha b hb e => ?_⟩
    simp at hb
    rw [e, hb] at ha
    exact hs ha
/-- what is known of the nodes of a net -/
structure Nw (xs : List (List UInt8)) : Prop where
  u : xs.Nodup
  g : [48] ∉ xs
  s : ∀ s ∈ xs, s.length ≤ 100000
theorem Nw.nil : Nw [] := ⟨List.nodup_nil, by simp, by simp⟩
theorem ndO_sub {xs : List (List UInt8)} {s : ByteArray} {x : List UInt8} (h : x ∈ xs) : x ∈ ndO xs s := by unfold ndO; split; exact addU_sub h; exact h
theorem isN_iff {s : ByteArray} : isN s = true ↔ bl s ≠ [] ∧ bl s ≠ [48] := by
  unfold isN
  rw [Bool.and_eq_true, Bool.not_eq_true', Bool.not_eq_true', beq_eq_false_iff_ne, beq_eq_false_iff_ne]
theorem ndO_in {xs : List (List UInt8)} {s : ByteArray} (h : bl s ≠ []) : bl s ∈ [48] :: ndO xs s := by
  by_cases h2 : bl s = [48]
  · rw [h2]; exact List.mem_cons_self
  · refine List.mem_cons_of_mem _ ?_
    unfold ndO
    rw [if_pos (isN_iff.2 ⟨h, h2⟩)]
    exact addU_self _ _
theorem Nw.ndO {xs : List (List UInt8)} {s : ByteArray} (h : Nw xs) (hs : s.size ≤ 100000) : Nw (ndO xs s) := by
  unfold Go.Proofs.YtmpkcioeodlbcaaGreatDoor.ndO
  split
  · rename_i hn
    have hn2 := isN_iff.1 hn
    refine ⟨addU_nodup h.u, fun q => ?_, fun t ht => ?_⟩
    · rcases addU_mem q with q | q
      · exact h.g q
      · exact hn2.2 q.symm
    · rcases addU_mem ht with q | q
      · exact h.s t q
      · rw [q]; exact hs
  · exact h
theorem cons_sub {xs ys : List (List UInt8)} (h : ∀ x, x ∈ xs → x ∈ ys) {s : List UInt8} (hs : s ∈ [48] :: xs) : s ∈ [48] :: ys := by
  rcases List.mem_cons.1 hs with q | q
  · rw [q]; exact List.mem_cons_self
  · exact List.mem_cons_of_mem _ (h s q)
theorem ndE_sub {xs : List (List UInt8)} {x : Elm} {s : List UInt8} (h : s ∈ xs) : s ∈ ndE xs x := ndO_sub (ndO_sub (ndO_sub (ndO_sub h)))
/-- what Check says of an element that may be -/
structure Cks (x : Elm) : Prop where
  sh : x.n.size ≤ 16 ∧ 2 ≤ x.n.size ∧ x.a.size ≤ 16 ∧ x.b.size ≤ 16 ∧ x.c.size ≤ 16 ∧ x.d.size ≤ 16
  na : naF x = true
  ab : bl x.a ≠ bl x.b
  lt : ltr x.k ≠ 0
  a : bl x.a ≠ []
  b : bl x.b ≠ []
theorem ne_bl {s : ByteArray} (h : 0 < s.size) : bl s ≠ [] := fun q => by
  have : (bl s).length = 0 := by rw [q]; rfl
  rw [bl_len] at this; omega
theorem nd_pos {s : ByteArray} (h : ndF s = true) : 0 < s.size := by
  unfold ndF at h
  simp at h
  exact h.1.1
theorem chk_all {x : Elm} (h0 : chkI x = 0) : Cks x := by
  have hsh := chk_short h0
  have h := h0
  unfold chkI at h
  by_cases h1 : ltr x.k = 0
  · rw [if_pos h1] at h; cases h
  rw [if_neg h1] at h
  by_cases h2 : naF x = false
  · rw [if_pos h2] at h; cases h
  rw [if_neg h2] at h
  by_cases h3 : (x.a.toList == x.b.toList) = true ∨ spF x = false
  · rw [if_pos h3] at h; cases h
  have h2' : naF x = true := by simpa using h2
  have h4 := h2'
  unfold naF at h4
  simp only [Bool.and_eq_true] at h4
  refine ⟨hsh, h2', fun q => h3 (.inl ?_), h1, ne_bl (nd_pos h4.1.1.2), ne_bl (nd_pos h4.1.2)⟩
  rw [ByteArray.toList_eq, ByteArray.toList_eq]
  exact beq_iff_eq.2 q
/-- what is known of a net that is being made -/
structure Nv (N : Ns) : Prop where
  nw : Nw N.nd
  el : ∀ x ∈ N.es, bl x.a ∈ [48] :: N.nd ∧ bl x.b ∈ [48] :: N.nd ∧ Cks x
  nm : N.nm = N.es.map fun x => bl x.n
  nu : N.nm.Nodup
theorem Nv.nil : Nv Ns.nil := ⟨Nw.nil, (fun x hx => by cases hx), rfl, List.nodup_nil⟩
theorem Nv.lay {N : Ns} {x : Elm} (h : Nv N) (hc : chkI x = 0) (hn : bl x.n ∉ N.nm) : Nv (N.lay x) := by
  have ck := chk_all hc
  obtain ⟨s1, s2, s3, s4, s5, s6⟩ := ck.sh
  have hA : bl x.a ∈ [48] :: ndE N.nd x := cons_sub (fun y hy => ndO_sub (ndO_sub (ndO_sub hy))) (ndO_in ck.a)
  have hB : bl x.b ∈ [48] :: ndE N.nd x := cons_sub (fun y hy => ndO_sub (ndO_sub hy)) (ndO_in ck.b)
  have hnm : addU N.nm (bl x.n) = N.nm ++ [bl x.n] := if_neg hn
  refine ⟨((((h.nw.ndO (s := x.a) (by omega)).ndO (s := x.b) (by omega)).ndO (s := x.c) (by omega)).ndO (s := x.d) (by omega)), fun y hy => ?_, ?_, addU_nodup h.nu⟩
  · rcases List.mem_append.1 hy with q | q
    · obtain ⟨h1, h2, h3⟩ := h.el y q
      exact ⟨cons_sub (fun z hz => ndE_sub hz) h1, cons_sub (fun z hz => ndE_sub hz) h2, h3⟩
    · simp at q; rw [q]; exact ⟨hA, hB, ck⟩
  · show addU N.nm (bl x.n) = (N.es ++ [x]).map _
    rw [hnm, h.nm]; simp
theorem ofR_facts : ∀ (l : List Elm) (N N' : Ns) (i : Nat), Nv N → ofR N i l = ((0, 0), N') → Nv N' ∧ N'.es = N.es ++ l ∧ N'.nd.length ≤ 32 := by
  intro l
  induction l with
  | nil =>
    intro N N' i h ho
    unfold ofR at ho
    split at ho
    · simp at ho
    · rename_i hb
      have : N = N' := by simpa using ho
      subst this
      exact ⟨h, by simp, by omega⟩
  | cons x t ih =>
    intro N N' i h ho
    by_cases hc : chkI x = 0
    · by_cases hn : bl x.n ∈ N.nm
      · rw [ofR_there hc hn] at ho
        simp at ho
      · rw [ofR_go hc hn] at ho
        obtain ⟨h1, h2, h3⟩ := ih (N.lay x) N' (i + 1) (h.lay hc hn) ho
        exact ⟨h1, by rw [h2]; show (N.es ++ [x]) ++ t = _; simp, h3⟩
    · rw [ofR_bad hc] at ho
      simp at ho
      exact absurd ho.1.1 hc
theorem ofA_facts {l : List Elm} {N : Ns} (h : ofA l = ((0, 0), N)) : Nv N ∧ N.es = l ∧ N.nd.length ≤ 32 ∧ l.length ≤ 256 := by
  unfold ofA at h
  split at h
  · simp at h
  · rename_i hl
    obtain ⟨h1, h2, h3⟩ := ofR_facts l Ns.nil N 0 Nv.nil h
    exact ⟨h1, by rw [h2]; rfl, h3, by omega⟩
/-- the other way: what is known of a list makes a net of it -/
theorem Nv.nm_ne {N : Ns} (h : Nv N) : [] ∉ N.nm := by
  rw [h.nm]
  intro q
  obtain ⟨x, hx, he⟩ := List.mem_map.1 q
  have := (h.el x hx).2.2.sh.2.1
  have h2 : (bl x.n).length = 0 := by rw [he]; rfl
  rw [bl_len] at h2; omega
end Go.Proofs.YtmpkcioeodlbcaaGreatDoor
namespace Go.Proofs.YtmpkcioeodlbcaaGreatDoor
open Fl Go.Maps RowKit Joins Deep
set_option linter.unusedVariables false
/-- a node's place; -1: the ground's -/
def plI (N : Ns) (s : ByteArray) : Int := if bl s ∈ N.nd then (posL N.nd (bl s) : Int) else -1
/-- a branch's row -/
def rwI (N : Ns) (x : Elm) : Int := (N.nd.length : Int) + (posL N.br (bl x.n) : Int)
theorem plI_lo (N : Ns) (s : ByteArray) : -1 ≤ plI N s := by unfold plI; split <;> omega
theorem posL_lt {xs : List (List UInt8)} {s : List UInt8} (h : s ∈ xs) : posL xs s < xs.length := by unfold posL; rw [if_pos h]; exact List.idxOf_lt_length_of_mem h
theorem plI_hi {N : Ns} {s : ByteArray} : plI N s < N.nd.length := by
  unfold plI
  split
  · rename_i h; have := posL_lt h; omega
  · omega
theorem rwI_lo (N : Ns) (x : Elm) : -1 ≤ rwI N x := by unfold rwI; omega
theorem posL_le (xs : List (List UInt8)) (t : List UInt8) : posL xs t ≤ xs.length := by
  by_cases h : t ∈ xs
  · exact Nat.le_of_lt (posL_lt h)
  · unfold posL; rw [if_neg h]; omega
/-- nothing that was there is touched but the block s -/
structure Kp (s : Nat) (w w' : World) : Prop where
  bel : Below s w w'
  ot : ∀ q, q < w.heap.size → q ≠ s → w'.heap[q]? = w.heap[q]?
theorem Kp.refl (s : Nat) (w : World) : Kp s w w := ⟨Below.refl _ _, fun _ _ _ => rfl⟩
theorem Kp.size {s : Nat} {w w' : World} (h : Kp s w w') : w.heap.size ≤ w'.heap.size := h.bel.size
theorem Kp.trans {s : Nat} {a b c : World} (h : Kp s a b) (k : Kp s b c) : Kp s a c := ⟨h.bel.trans k.bel, fun q h1 h2 => (k.ot q (Nat.lt_of_lt_of_le h1 h.size) h2).trans (h.ot q h1 h2)⟩
theorem Kp.of {s : Nat} {w w' : World} (h : Below w.heap.size w w') (hs : s < w.heap.size) : Kp s w w' := ⟨h.mono (Nat.le_of_lt hs), fun q h1 _ => h.block q h1⟩
theorem Kp.dN (s : Nat) (w : World) (m : Nat) : Kp s w (w.drewN m) := ⟨⟨rfl, rfl, rfl, Nat.le_refl _, fun _ _ => rfl⟩, fun _ _ _ => rfl⟩
theorem Kp.setCell {s : Nat} {w w' : World} (h : Kp s w w') (j : Nat) (u : Value) : Kp s w (w'.setCell ⟨s, j, none⟩ u) := ⟨h.bel.setCell (p := ⟨s, j, none⟩) (Nat.le_refl s) u, fun q h1 h2 => (Below.heap_setCell w' ⟨s, j, none⟩ u q h2).trans (h.ot q h1 h2)⟩
theorem plc_made {w : World} {base p : Nat} {N : Ns} {b : Nb} (h : Nt w base p N b) (s : ByteArray) (hs : s.size ≤ 100000) : Calls Tryz.prog 45 #[.pointer (some ⟨p, 0, none⟩), .string s] w fun e w' => e = .returned (.tuple #[.int .i64 (posL N.nd (bl s)), .bool (decide (bl s ∈ N.nd))]) ∧ w' = w := by
  have c2 := h.nm.c1
  have hpl := place_s w p 3 b.B4 N.nd s hs h.nd.c1 h.nd.mp
  go_enter Tryz.func45, Tryz.ntmps45
  go_wp2_with (first | (go_at_call 66; (with_reducible refine (made_yes c2).mono ?_); rintro e1 w1 ⟨rfl, hw1⟩; subst w1) | (go_at_call 82; (with_reducible refine hpl.mono ?_); rintro e2 w2 ⟨rfl, hw2⟩; subst w2))
  go_ret2
  exact ⟨rfl, rfl⟩
theorem brn_made {w : World} {base p : Nat} {N : Ns} {b : Nb} (h : Nt w base p N b) (s : ByteArray) (hs : s.size ≤ 100000) : Calls Tryz.prog 48 #[.pointer (some ⟨p, 0, none⟩), .string s] w fun e w' => e = .returned (.tuple #[.int .i64 (posL N.br (bl s)), .bool (decide (bl s ∈ N.br))]) ∧ w' = w := by
  have c2 := h.nm.c1
  have hpl := place_s w p 5 b.B6 N.br s hs h.br.c1 h.br.mp
  go_enter Tryz.func48, Tryz.ntmps48
  go_wp2_with (first | (go_at_call 66; (with_reducible refine (made_yes c2).mono ?_); rintro e1 w1 ⟨rfl, hw1⟩; subst w1) | (go_at_call 82; (with_reducible refine hpl.mono ?_); rintro e2 w2 ⟨rfl, hw2⟩; subst w2))
  go_ret2
  exact ⟨rfl, rfl⟩
theorem wto_made {w : World} {base p : Nat} {N : Ns} {b : Nb} (h : Nt w base p N b) (hn : bl ⟨#[]⟩ ∉ N.nm) : Calls Tryz.prog 92 #[.pointer (some ⟨p, 0, none⟩), .string ⟨#[]⟩] w fun e w' => e = .returned (.tuple #[.pointer none, .int .i64 10]) ∧ w' = w := by
  have c2 := h.nm.c1
  have hpl := place_s w p 1 b.B2 N.nm ⟨#[]⟩ (by decide) c2 h.nm.mp
  rw [show decide (bl ⟨#[]⟩ ∈ N.nm) = false from decide_eq_false hn] at hpl
  go_enter Tryz.func92, Tryz.ntmps92
  go_wp2_with (first | (go_at_call 66; (with_reducible refine (made_yes c2).mono ?_); rintro e1 w1 ⟨rfl, hw1⟩; subst w1) | (go_at_call 82; (with_reducible refine hpl.mono ?_); rintro e2 w2 ⟨rfl, hw2⟩; subst w2))
  go_ret2
  exact ⟨rfl, rfl⟩
end Go.Proofs.YtmpkcioeodlbcaaGreatDoor
namespace Go.Proofs.YtmpkcioeodlbcaaGreatDoor
set_option linter.unusedVariables false
/-- the nodes of a list -/
def ndR (l : List Elm) : List (List UInt8) := l.foldl ndE []
/-- the branches of a list -/
def brR (l : List Elm) : List (List UInt8) := (l.filter isB).map fun x => bl x.n
theorem ndR_snoc (l : List Elm) (x : Elm) : ndR (l ++ [x]) = ndE (ndR l) x := by unfold ndR; rw [List.foldl_append]; rfl
theorem brR_snoc (l : List Elm) (x : Elm) : brR (l ++ [x]) = if isB x = true then brR l ++ [bl x.n] else brR l := by
  unfold brR
  rw [List.filter_append, List.map_append]
  by_cases h : isB x = true
  · rw [if_pos h, List.filter_cons_of_pos h]; rfl
  · rw [if_neg h, List.filter_cons_of_neg h]; simp
theorem brR_sub {l : List Elm} {s : List UInt8} (h : s ∈ brR l) : s ∈ l.map fun x => bl x.n := by
  unfold brR at h
  obtain ⟨x, hx, rfl⟩ := List.mem_map.1 h
  exact List.mem_map.2 ⟨x, (List.mem_filter.1 hx).1, rfl⟩
/-- what Of lays is what the document counts -/
theorem ofR_counts : ∀ (l : List Elm) (N N' : Ns) (i : Nat), Nv N → N.nd = ndR N.es → N.br = brR N.es → ofR N i l = ((0, 0), N') → N'.nd = ndR N'.es ∧ N'.br = brR N'.es ∧ N'.nd.length ≤ 32 ∧ N'.nd.length + N'.br.length ≤ 64 := by
  intro l
  induction l with
  | nil =>
    intro N N' i hv h1 h2 ho
    unfold ofR at ho
    split at ho
    · simp at ho
    · rename_i hb
      have : N = N' := by simpa using ho
      subst this
      exact ⟨h1, h2, by omega, by omega⟩
  | cons x t ih =>
    intro N N' i hv h1 h2 ho
    by_cases hc : chkI x = 0
    · by_cases hn : bl x.n ∈ N.nm
      · rw [ofR_there hc hn] at ho
        simp at ho
      · rw [ofR_go hc hn] at ho
        refine ih (N.lay x) N' (i + 1) (hv.lay hc hn) ?_ ?_ ho
        · show ndE N.nd x = ndR (N.es ++ [x]); rw [ndR_snoc, h1]
        · show brE N.br x = brR (N.es ++ [x])
          rw [brR_snoc, h2]
          unfold brE
          by_cases hx : isB x = true
          · rw [if_pos hx, if_pos hx]
            refine if_neg fun q => hn ?_
            rw [hv.nm]
            exact brR_sub q
          · rw [if_neg hx, if_neg hx]
    · rw [ofR_bad hc] at ho
      simp at ho
      exact absurd ho.1.1 hc
theorem ofA_counts {l : List Elm} {N : Ns} (h : ofA l = ((0, 0), N)) : N.es = l ∧ N.nd = ndR l ∧ N.br = brR l ∧ N.nd.length ≤ 32 ∧ N.nd.length + N.br.length ≤ 64 := by
  have he := (ofA_facts h).2.1
  unfold ofA at h
  split at h
  · simp at h
  · obtain ⟨h1, h2, h3, h4⟩ := ofR_counts l Ns.nil N 0 Nv.nil rfl rfl h
    rw [he] at h1 h2
    exact ⟨he, h1, h2, h3, h4⟩
end Go.Proofs.YtmpkcioeodlbcaaGreatDoor
