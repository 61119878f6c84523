/-
  Kept of Noc.
-/
import Derived.Test.YtmpkcioeodlbcaaGreatDoorK21
import Derived.Deep.RegionLaw
import Derived.Deep.Cut
import Derived.Deep.DeepCutAuto
import Derived.Deep.CutBlock
import Derived.Deep.CutRange
namespace Go.Proofs.YtmpkcioeodlbcaaGreatDoor
open Go.Maps Go.RowKit
set_option linter.unusedVariables false
set_option maxRecDepth 100000
theorem add_s (w : World) (base p f B : Nat) (v : Value) (xs : List (List UInt8)) (s : ByteArray) (hl : s.size ≤ 100000) (hx : xs.length ≤ 100000) (h : Rn w base p f v B xs) (hp : p < base) (hb : base ≤ w.heap.size) :
    Calls Tryz.prog 112 #[.pointer (some ⟨p, f, none⟩), .string s] w fun e w' => e = .returned (.tuple #[]) ∧ ∃ v', Rn w' base p f v' B (addU xs (bl s)) ∧ Ad w w' p f B v ∧ ∀ g, v'.ownBlock = some g → v.ownBlock = some g ∨ w.heap.size ≤ g := nadd_any w base p f B v xs (bl s) hl hx h hp hb
/-- an element's block stays -/
theorem el_keep {w w' : World} {base p f q : Nat} {v : Value} {B : Nat} {xs : List (List UInt8)} {cs : Array Value} (hr : Rn w base p f v B xs) (ha : Ad w w' p f B v) (hq : w.heap[q]? = some (.cells cs 96 (0, 0))) (hpq : q ≠ p) : w'.heap[q]? = some (.cells cs 96 (0, 0)) := by
  rw [ha.fr q (Array.getElem?_eq_some_iff.1 hq).1 hpq ?_ ?_]
  · exact hq
  · rintro rfl
    obtain ⟨D, ⟨es, clock, hb, _⟩, _⟩ := hr.mp
    rw [hb] at hq; cases hq
  · intro hv
    obtain ⟨_, ⟨rfl, _⟩ | ⟨g, cap, cur, rfl, _, h4, _⟩⟩ := hr.row
    · cases hv
    · cases hv
      rw [h4] at hq
      injection hq with hq; injection hq with _ hq
      exact ne_es hq.symm
/-- what lay and Of write lies from n on -/
structure Lw (n p : Nat) (b : Nb) : Prop where
  p : n ≤ p
  b2 : n ≤ b.B2
  b4 : n ≤ b.B4
  b6 : n ≤ b.B6
theorem ad_below {w0 w w' : World} {n p f B : Nat} {v : Value} (h : Below n w0 w) (ha : Ad w w' p f B v) (h1 : n ≤ p) (h2 : n ≤ B) (h3 : ∀ g, v.ownBlock = some g → n ≤ g) (hn : n ≤ w.heap.size) : Below n w0 w' :=
  h.trans ⟨ha.os, ha.tape, ha.output, ha.sz, fun k hk => ha.fr k (by omega) (by omega) (by omega) (fun e => by have := h3 k e; omega)⟩
/-- an element lies in the block q while it is laid -/
structure Ly (w wr : World) (n base p q : Nat) (x : Elm) (N : Ns) (b : Nb) : Prop where
  nt : Nt wr base p N b
  ex : wr.heap[q]? = some (.cells (elA x) 96 (0, 0))
  bel : Below n w wr
  lw : Lw n p b
  pq : q ≠ p
theorem Ly.n {w wr : World} {n base p q : Nat} {x : Elm} {N : Ns} {b : Nb} (h : Ly w wr n base p q x N b) : n ≤ base := by have := h.lw.p; have := h.nt.lo; omega
theorem Ly.addNm {w wr w' : World} {n base p q : Nat} {x : Elm} {N : Ns} {b : Nb} {v' : Value} {xs : List (List UInt8)} (h : Ly w wr n base p q x N b) (hr : Rn w' base p 1 v' b.B2 xs) (ha : Ad wr w' p 1 b.B2 b.v1) (hv : ∀ g, v'.ownBlock = some g → b.v1.ownBlock = some g ∨ wr.heap.size ≤ g) : Ly w w' n base p q x { N with nm := xs } { b with v1 := v' } :=
  ⟨h.nt.addNm hr ha hv, el_keep h.nt.nm ha h.ex h.pq, ad_below h.bel ha h.lw.p h.lw.b2 (fun g hg => by have := (row_ge h.nt.nm.row hg).1; have := h.n; omega) (Nat.le_trans h.n h.nt.hi), ⟨h.lw.p, h.lw.b2, h.lw.b4, h.lw.b6⟩, h.pq⟩
theorem Ly.addNd {w wr w' : World} {n base p q : Nat} {x : Elm} {N : Ns} {b : Nb} {v' : Value} {xs : List (List UInt8)} (h : Ly w wr n base p q x N b) (hr : Rn w' base p 3 v' b.B4 xs) (ha : Ad wr w' p 3 b.B4 b.v3) (hv : ∀ g, v'.ownBlock = some g → b.v3.ownBlock = some g ∨ wr.heap.size ≤ g) : Ly w w' n base p q x { N with nd := xs } { b with v3 := v' } :=
  ⟨h.nt.addNd hr ha hv, el_keep h.nt.nd ha h.ex h.pq, ad_below h.bel ha h.lw.p h.lw.b4 (fun g hg => by have := (row_ge h.nt.nd.row hg).1; have := h.n; omega) (Nat.le_trans h.n h.nt.hi), ⟨h.lw.p, h.lw.b2, h.lw.b4, h.lw.b6⟩, h.pq⟩
theorem Ly.addBr {w wr w' : World} {n base p q : Nat} {x : Elm} {N : Ns} {b : Nb} {v' : Value} {xs : List (List UInt8)} (h : Ly w wr n base p q x N b) (hr : Rn w' base p 5 v' b.B6 xs) (ha : Ad wr w' p 5 b.B6 b.v5) (hv : ∀ g, v'.ownBlock = some g → b.v5.ownBlock = some g ∨ wr.heap.size ≤ g) : Ly w w' n base p q x { N with br := xs } { b with v5 := v' } :=
  ⟨h.nt.addBr hr ha hv, el_keep h.nt.br ha h.ex h.pq, ad_below h.bel ha h.lw.p h.lw.b6 (fun g hg => by have := (row_ge h.nt.br.row hg).1; have := h.n; omega) (Nat.le_trans h.n h.nt.hi), ⟨h.lw.p, h.lw.b2, h.lw.b4, h.lw.b6⟩, h.pq⟩
theorem Ly.below {w wr w' : World} {n base p q : Nat} {x : Elm} {N : Ns} {b : Nb} (h : Ly w wr n base p q x N b) (hb : Below wr.heap.size wr w') : Ly w w' n base p q x N b :=
  ⟨h.nt.below hb, by rw [hb.block q (Array.getElem?_eq_some_iff.1 h.ex).1]; exact h.ex, h.bel.trans (hb.mono (Nat.le_trans h.n h.nt.hi)), h.lw, h.pq⟩
theorem Ly.cells {w wr : World} {n base p q : Nat} {x : Elm} {N : Ns} {b : Nb} (h : Ly w wr n base p q x N b) : q < wr.heap.size ∧ wr.cell? ⟨q, 0, none⟩ = some (.int .u8 (x.k : Int)) ∧ wr.cell? ⟨q, 1, none⟩ = some (.string x.n) ∧ wr.cell? ⟨q, 2, none⟩ = some (.string x.a) ∧ wr.cell? ⟨q, 3, none⟩ = some (.string x.b) ∧ wr.cell? ⟨q, 4, none⟩ = some (.string x.c) ∧ wr.cell? ⟨q, 5, none⟩ = some (.string x.d) ∧ wr.cell? ⟨q, 6, none⟩ = some (.float .f64 x.v) ∧ wr.cell? ⟨q, 7, none⟩ = some (.int .i64 x.ph) := by
  refine ⟨(Array.getElem?_eq_some_iff.1 h.ex).1, ?_, ?_, ?_, ?_, ?_, ?_, ?_, ?_⟩ <;> rw [cell_of_row wr q _ _ _ (0, 0) h.ex] <;> rfl
theorem Ly.drw {w wr : World} {n base p q : Nat} {x : Elm} {N : Ns} {b : Nb} (h : Ly w wr n base p q x N b) : Ly w wr.drew n base p q x N b := h.below ((Below.refl _ wr).drew)
theorem Ly.al {w wr : World} {n base p q : Nat} {x : Elm} {N : Ns} {b : Nb} (h : Ly w wr n base p q x N b) (o : Obj) : Ly w (wr.alloc o) n base p q x N b := h.below ((Below.refl _ wr).alloc (Nat.le_refl _) o)
theorem Ly.addEs {w wr w1 : World} {n base p q : Nat} {x : Elm} {N : Ns} {b : Nb} {v' : Value} {l : List Elm} (h : Ly w wr n base p q x N b) (hq : b.v0.ownBlock ≠ some q) (hg : wr.grownBy w1 b.v0.ownBlock) (hr : w1.ownsRow base 96 8 v' l.length (elCs l)) (hv : ∀ g, v'.ownBlock = some g → b.v0.ownBlock = some g ∨ wr.heap.size ≤ g) : Ly w (w1.setCell ⟨p, 0, none⟩ v') n base p q x { N with es := l } { b with v0 := v' } := by
  refine ⟨h.nt.addEs hg hr hv, ?_, h.bel.trans ⟨hg.os, hg.tape, hg.output, ?_, fun k hk => ?_⟩, ⟨h.lw.p, h.lw.b2, h.lw.b4, h.lw.b6⟩, h.pq⟩
  · rw [heap_setCell_other w1 ⟨p, 0, none⟩ q v' (by simpa using h.pq), hg.block q (Array.getElem?_eq_some_iff.1 h.ex).1 (fun e => hq e.symm)]; exact h.ex
  · have := hg.size; simpa [World.setCell] using this
  · have h1 := h.lw.p
    have h2 := h.n
    have h3 := h.nt.hi
    rw [heap_setCell_other w1 ⟨p, 0, none⟩ k v' (by simp; omega), hg.block k (by omega) (fun e => by have := (row_ge h.nt.es e.symm).1; omega)]
theorem Tryz.infoE : (Tryz.prog.info? 96).map (fun i => (i.zero, i.size, i.bytes)) = some (some (.agg #[.int .u8 0, .string ⟨#[]⟩, .string ⟨#[]⟩, .string ⟨#[]⟩, .string ⟨#[]⟩, .string ⟨#[]⟩, .float .f64 0, .int .i64 0]), 8, 104) := by kernel_rfl
/-- the k-th of an element's nodes -/
def nod (x : Elm) : Nat → ByteArray
  | 0 => x.a
  | 1 => x.b
  | 2 => x.c
  | _ => x.d
/-- the nodes behind k of them -/
def ndK (xs : List (List UInt8)) (x : Elm) : Nat → List (List UInt8)
  | 0 => xs
  | k + 1 => ndO (ndK xs x k) (nod x k)
theorem ndK_4 (xs : List (List UInt8)) (x : Elm) : ndK xs x 4 = ndE xs x := rfl
theorem ndK_len (xs : List (List UInt8)) (x : Elm) (k : Nat) : (ndK xs x k).length ≤ xs.length + k := by
  induction k with
  | zero => exact Nat.le_refl _
  | succ k ih => have := ndO_len (ndK xs x k) (nod x k); show (ndO (ndK xs x k) (nod x k)).length ≤ _; omega
/-- the four nodes lie in the block r while they are laid -/
structure Lpn (w wr : World) (n base p q r : Nat) (x : Elm) (N : Ns) (k : Nat) : Prop where
  ly : ∃ b, Ly w wr n base p q x ⟨N.es ++ [x], addU N.nm (bl x.n), ndK N.nd x k, N.br⟩ b ∧ b.v3.ownBlock ≠ some r
  rb : wr.heap[r]? = some (.cells #[.string x.a, .string x.b, .string x.c, .string x.d] 9 (0, 0))
  pr : r ≠ p
theorem Lpn.cell {w wr : World} {n base p q r : Nat} {x : Elm} {N : Ns} {k : Nat} (h : Lpn w wr n base p q r x N k) (hk : k < 4) : wr.cell? ⟨r, k, none⟩ = some (.string (nod x k)) := by
  rw [cell_of_row wr r _ _ _ (0, 0) h.rb]
  match k, hk with
  | 0, _ => rfl
  | 1, _ => rfl
  | 2, _ => rfl
  | 3, _ => rfl
theorem Lpn.skip {w wr : World} {n base p q r : Nat} {x : Elm} {N : Ns} {k : Nat} (h : Lpn w wr n base p q r x N k) (hn : isN (nod x k) = false) : Lpn w wr n base p q r x N (k + 1) := by
  obtain ⟨b, h1, h2⟩ := h.ly
  refine ⟨⟨b, ?_, h2⟩, h.rb, h.pr⟩
  show Ly w wr n base p q x ⟨N.es ++ [x], addU N.nm (bl x.n), ndO (ndK N.nd x k) (nod x k), N.br⟩ b
  unfold ndO
  rw [if_neg (by rw [hn]; decide)]; exact h1
theorem Lpn.step {w wr w' : World} {n base p q r : Nat} {x : Elm} {N : Ns} {k : Nat} {b : Nb} {v' : Value} (h : Lpn w wr n base p q r x N k) (hn : isN (nod x k) = true) (h1 : Ly w wr n base p q x ⟨N.es ++ [x], addU N.nm (bl x.n), ndK N.nd x k, N.br⟩ b) (h2 : b.v3.ownBlock ≠ some r) (hr : Rn w' base p 3 v' b.B4 (addU (ndK N.nd x k) (bl (nod x k)))) (ha : Ad wr w' p 3 b.B4 b.v3) (hv : ∀ g, v'.ownBlock = some g → b.v3.ownBlock = some g ∨ wr.heap.size ≤ g) : Lpn w w' n base p q r x N (k + 1) := by
  have hlt := (Array.getElem?_eq_some_iff.1 h.rb).1
  refine ⟨⟨{ b with v3 := v' }, ?_, ?_⟩, ?_, h.pr⟩
  · show Ly w w' n base p q x ⟨N.es ++ [x], addU N.nm (bl x.n), ndO (ndK N.nd x k) (nod x k), N.br⟩ _
    unfold ndO
    rw [if_pos hn]; exact h1.addNd hr ha hv
  · intro e
    rcases hv r e with q | q
    · exact h2 q
    · omega
  · rw [ha.fr r hlt h.pr ?_ h2]
    · exact h.rb
    · intro e
      obtain ⟨D, ⟨es, clock, hb, _⟩, _⟩ := h1.nt.nd.mp
      rw [← e, h.rb] at hb; cases hb
set_option maxHeartbeats 4000000 in
theorem lay_any (w : World) (n base p : Nat) (N : Ns) (b : Nb) (x : Elm) (hN : Nt w base p N b) (hL : Lw n p b) (h1 : x.n.size ≤ 100000) (h2 : x.a.size ≤ 100000) (h3 : x.b.size ≤ 100000) (h4 : x.c.size ≤ 100000) (h5 : x.d.size ≤ 100000) (hf : N.fits N.es.length) (hlen : N.es.length ≤ 1000) :
    Calls Tryz.prog 83 #[.pointer (some ⟨p, 0, none⟩), elV x] w fun e w' => e = .returned (.tuple #[]) ∧ ∃ b', Nt w' base p (N.lay x) b' ∧ Lw n p b' ∧ Below n w w' := by
  obtain ⟨i0, hi0, hz0, hz1, hz2⟩ := info_parts Tryz.infoE
  have hp : p < w.heap.size := World.block_lt_of_cell? w _ hN.c0
  have hvp : b.v0.ownBlock ≠ some p := fun e => by have := (row_ge hN.es e).1; have := hN.lo; omega
  have hvq : b.v0.ownBlock ≠ some w.heap.size := fun e => by have := (row_ge hN.es e).2; omega
  obtain ⟨v0, hv0⟩ : ∃ v0, v0 = b.v0 := ⟨_, rfl⟩
  have hes := hN.es
  rw [← hv0] at hes hvp hvq
  obtain ⟨A, cap, rfl⟩ : ∃ A cap, v0 = .slice A N.es.length cap := by
    obtain ⟨_, ⟨h1, h2⟩ | ⟨g, cap, cur, h1, _⟩⟩ := hes
    · exact ⟨none, 0, by rw [h1, h2]⟩
    · exact ⟨_, _, h1⟩
  obtain ⟨wa, hwa⟩ : ∃ wa, w.alloc (.cells #[.int .u8 (x.k : Int), .string x.n, .string x.a, .string x.b, .string x.c, .string x.d, .float .f64 x.v, .int .i64 x.ph] 96) = wa := ⟨_, rfl⟩
  obtain ⟨q, hq⟩ : ∃ q, w.heap.size = q := ⟨_, rfl⟩
  have c0 : wa.cell? ⟨p, 0, none⟩ = some (.slice A N.es.length cap) := by rw [← hwa, World.cell?_alloc_lt _ _ _ hp, hN.c0, hv0]
  have z0 : wa.frozen? ⟨p, 0, none⟩ = false := by rw [← hwa, World.frozen?_alloc_old (h := (Nat.ne_of_lt hp : (⟨p, 0, none⟩ : Addr).block ≠ w.heap.size))]; exact hN.f0
  have hsa : wa.heap.size = q + 1 := by rw [← hwa, ← hq]; simp
  have HSA : Hid (wa.heap.size = q + 1) := hsa
  have hqa : q < wa.heap.size := by omega
  have L0 : Ly w wa n base p q x N b := by
    rw [← hwa, ← hq]
    exact ⟨hN.below ((Below.refl _ w).alloc (Nat.le_refl _) _), heap_alloc_new w _, (Below.refl _ w).alloc (by have := hL.p; omega) _, hL, by omega⟩
  have hpa : p < wa.heap.size := by omega
  obtain ⟨lq, e0, e1, e2, e3, e4, e5, e6, e7⟩ := L0.cells
  have hb1 : base ≤ q := by have := hN.hi; omega
  rw [hq] at hvq
  have hesa : wa.drew.ownsRow base 96 8 (.slice A N.es.length cap) N.es.length (elCs N.es) := by have := L0.nt.es; rw [← hv0] at this; exact this
  have hl8 := elCs_len N.es
  have HX : Hid (Ly w wa n base p q x N b ∧ .slice A N.es.length cap = b.v0) := ⟨L0, hv0⟩
  have hb2 : base ≤ wa.heap.size := by omega
  have hvp2 : some p ≠ (Value.slice A N.es.length cap).ownBlock := fun e => hvp e.symm
  have hvq2 : some q ≠ (Value.slice A N.es.length cap).ownBlock := fun e => hvq e.symm
  have HA : Hid (∀ (a : Addr) (v : Value), a.block < wa.heap.size → wa.cell? a = some v → (wa.alloc (.cells #[.int .u8 (x.k : Int), .string x.n, .string x.a, .string x.b, .string x.c, .string x.d, .float .f64 x.v, .int .i64 x.ph] 96)).drew.cell? a = some v) := fun a v h1 h2 => (World.cell?_alloc_lt wa _ a h1).trans h2
  have HF : Hid ((wa.alloc (.cells #[.int .u8 (x.k : Int), .string x.n, .string x.a, .string x.b, .string x.c, .string x.d, .float .f64 x.v, .int .i64 x.ph] 96)).drew.frozen? ⟨p, 0, none⟩ = false) := (World.frozen?_alloc_old wa _ ⟨p, 0, none⟩ (Nat.ne_of_lt hpa)).trans z0
  clear hN L0 hes hv0 hsa
  unfold elV
  go_enter Tryz.func83, Tryz.ntmps83
  go_wp2_with fail
  clear hwa hq
  go_cut [6] (fun _ wc => ∃ b', Ly w wc n base p q x { N with es := N.es ++ [x] } b')
  case first =>
    go_region_law
      (first | (refine step_append_lies _ (by rfl) _ _ 54 (by rfl) base 96 i0 _ 8 104 Tryz.underlying54 hi0 hz0 hz1 hz2 (by rfl) (by decide) _ _ _ (by rfl) (hesa.alloc _) ⟨wa.heap.size, 0, none⟩ 1 1 (elC x) (by rfl) (by rfl) (World.news_of_block (fr := (0, 0)) (t := 96) (cs := #[.int .u8 (x.k : Int), .string x.n, .string x.a, .string x.b, .string x.c, .string x.d, .float .f64 x.v, .int .i64 x.ph]) (heap_alloc_new _ _)) (fun u hu => by simp [elC] at hu; rcases hu with rfl | rfl | rfl | rfl | rfl | rfl | rfl | rfl <;> rfl) (by decide) (by unfold maxLen; omega) (by omega) (by simp; omega) (wa.heap.size + 1) (by simp) ?_; intro g cap2 w4 hown4 hgrow hat4 hlt4; (have k0 : w4.cell? ⟨p, 0, none⟩ = some (.slice A N.es.length cap) := hgrow.cell (HA.out _ _ hpa c0) hvp2); (have kf : w4.frozen? ⟨p, 0, none⟩ = false := (hgrow.frozen_far ⟨p, 0, none⟩ (by simp; omega) hvp2).trans HF.out); (have d0 : w4.cell? ⟨q, 0, none⟩ = some (.int .u8 (x.k : Int)) := hgrow.cell (HA.out _ _ hqa e0) hvq2); (have d1 : w4.cell? ⟨q, 1, none⟩ = some (.string x.n) := hgrow.cell (HA.out _ _ hqa e1) hvq2); (have d2 : w4.cell? ⟨q, 2, none⟩ = some (.string x.a) := hgrow.cell (HA.out _ _ hqa e2) hvq2); (have d3 : w4.cell? ⟨q, 3, none⟩ = some (.string x.b) := hgrow.cell (HA.out _ _ hqa e3) hvq2); (have d4 : w4.cell? ⟨q, 4, none⟩ = some (.string x.c) := hgrow.cell (HA.out _ _ hqa e4) hvq2); (have d5 : w4.cell? ⟨q, 5, none⟩ = some (.string x.d) := hgrow.cell (HA.out _ _ hqa e5) hvq2); (have d6 : w4.cell? ⟨q, 6, none⟩ = some (.float .f64 x.v) := hgrow.cell (HA.out _ _ hqa e6) hvq2); (have d7 : w4.cell? ⟨q, 7, none⟩ = some (.int .i64 x.ph) := hgrow.cell (HA.out _ _ hqa e7) hvq2)))
    all_goals go_wp2_with fail
    all_goals go_meet
    all_goals exact ⟨_, ((HX.out.1.al _).drw).addEs (v' := .slice (some ⟨g, 0, none⟩) (N.es.length + 1) cap2) (l := N.es ++ [x]) (by rw [← HX.out.2]; exact hvq) (by rw [← HX.out.2]; exact hgrow) (by rw [elCs_snoc, List.length_append]; exact hown4) (fun g2 h2 => by cases h2; rw [← HX.out.2]; rcases hat4 with h | h; exact .inl h; exact .inr (by rw [h]; simp))⟩
  obtain ⟨b1, L1⟩ := hcut
  clear HX HA HF hesa c0 z0 HSA hqa hpa hvp hvq hvp2 hvq2 hb1 hb2 lq e0 e1 e2 e3 e4 e5 e6 e7 hi0 hz0 hz1 hz2 hl8
  have hnm : N.nm.length ≤ 100000 := by have := hf.nm; omega
  have hnd : N.nd.length ≤ 90000 := by have := hf.nd; omega
  have hbr : N.br.length ≤ 100000 := by have := hf.br; omega
  obtain ⟨lq, e0, e1, e2, e3, e4, e5, e6, e7⟩ := L1.cells
  have HL1 : Hid _ := L1.drw
  clear L1 e0 e2 e3 e4 e5 e6 e7
  go_wp2_with fail
  go_region_with (first | (go_at_call 112; (with_reducible refine (add_s _ base p 1 b1.B2 b1.v1 N.nm x.n h1 hnm HL1.out.nt.nm HL1.out.nt.lo HL1.out.nt.hi).mono ?_); rintro e5 w5 ⟨rfl, v5, hr5, ha5, hv5⟩; (have HL2 : Hid _ := HL1.out.addNm hr5 ha5 hv5); clear hr5 ha5 hv5))
  obtain ⟨lq2, f0, f1, f2, f3, f4, f5, f6, f7⟩ := HL2.out.cells
  clear HL1 e1 lq f6 f7
  obtain ⟨r, hr⟩ : ∃ r, w5.heap.size = r := ⟨_, rfl⟩
  have HP0 : Hid (Lpn w (w5.alloc (.cells #[.string x.a, .string x.b, .string x.c, .string x.d] 9)) n base p q r x N 0) := by
    refine ⟨⟨_, HL2.out.al _, fun e => ?_⟩, by rw [← hr]; exact heap_alloc_new _ _, ?_⟩
    · have := (row_ge HL2.out.nt.nd.row e).2; omega
    · have := World.block_lt_of_cell? w5 _ HL2.out.nt.c0; simp at this; omega
  go_wp2_with fail
  clear hr HL2 f0 f1 f2 f3 f4 f5 lq2
  go_loopw [32] (fun iv wr => ∃ (k : Nat), k ≤ 4 ∧ iv = .int .i64 k ∧ Hid (Lpn w wr n base p q r x N k)) (fun iv _ => 4 - (intOf iv).toNat)
  case atStart => exact ⟨0, by omega, rfl, HP0⟩
  case round =>
    obtain ⟨k, hle, rfl, HP⟩ := hrel
    clear HP0
    by_cases hp4 : k < 4
    · have hpk : (k : Int) < 4 := by omega
      have hc := HP.out.cell hp4
      obtain ⟨s, hs⟩ : ∃ s, nod x k = s := ⟨_, rfl⟩
      rw [hs] at hc
      have hsz : s.size ≤ 100000 := by rw [← hs]; match k, hp4 with | 0, _ => exact h2 | 1, _ => exact h3 | 2, _ => exact h4 | 3, _ => exact h5
      have hln : (ndK N.nd x k).length ≤ 100000 := by have := ndK_len N.nd x k; omega
      obtain ⟨b2, Q1, Q2⟩ := HP.out.ly
      have HQ1 : Hid _ := Q1
      have HQ2 : Hid _ := Q2
      have HS : Hid (nod x k = s) := hs
      clear Q1 Q2 hs
      go_wp2_with (first | (go_at_call 112; (with_reducible refine (add_s _ base p 3 b2.B4 b2.v3 (ndK N.nd x k) s hsz hln HQ1.out.nt.nd HQ1.out.nt.lo HQ1.out.nt.hi).mono ?_); rintro e6 w6 ⟨rfl, v6, hr6, ha6, hv6⟩; (have HR6 : Hid _ := hr6); (have HA6 : Hid _ := ha6); (have HV6 : Hid _ := hv6); clear hr6 ha6 hv6))
      · go_roundw
        case rel => rename_i he; exact ⟨k + 1, by omega, by go_num, HP.out.skip (by rw [HS.out]; rw [ByteArray.toList_eq] at he; simp [isN, bl, he])⟩
        case measure => simp [intOf]; omega
      · go_roundw
        case rel => rename_i he hf2; exact ⟨k + 1, by omega, by go_num, HP.out.step (by rw [HS.out]; rw [ByteArray.toList_eq] at hf2; simp [isN, bl]; simpa using hf2) HQ1.out HQ2.out (by rw [HS.out]; exact HR6.out) HA6.out HV6.out⟩
        case measure => simp [intOf]; omega
      · go_roundw
        case rel => rename_i he hf2; exact ⟨k + 1, by omega, by go_num, HP.out.skip (by rw [HS.out]; rw [ByteArray.toList_eq] at he hf2; simp [isN, bl]; intro q1; simp at hf2; exact hf2.resolve_left q1)⟩
        case measure => simp [intOf]; omega
    · have hk4 : k = 4 := by omega
      subst hk4
      obtain ⟨b2, Q1, Q2⟩ := HP.out.ly
      have HQ1 : Hid _ := Q1
      obtain ⟨lq2, f0, f1, f2, f3, f4, f5, f6, f7⟩ := Q1.cells
      clear Q1 Q2 f2 f3 f4 f5 f6 f7 lq2 HP
      have HQ2 : Hid _ := HQ1.out.drw
      go_wp2_with fail
      · go_region_with (first | (go_at_call 112; (with_reducible refine (add_s _ base p 5 b2.B6 b2.v5 N.br x.n h1 hbr HQ2.out.nt.br HQ2.out.nt.lo HQ2.out.nt.hi).mono ?_); rintro e7 w7 ⟨rfl, v7, hr7, ha7, hv7⟩; (have HL7 : Hid _ := HQ2.out.addBr hr7 ha7 hv7); clear hr7 ha7 hv7))
        go_wp2_with fail
        go_end0
        rename_i hk5
        have hb : brE N.br x = addU N.br (bl x.n) := if_pos (by unfold isB; rw [show x.k = 5 by omega]; rfl)
        refine ⟨rfl, _, ?_, HL7.out.lw, HL7.out.bel⟩
        have h8 := HL7.out.nt
        unfold Ns.lay
        rw [hb, ← ndK_4]; exact h8
      · go_region_with (first | (go_at_call 112; (with_reducible refine (add_s _ base p 5 b2.B6 b2.v5 N.br x.n h1 hbr HQ2.out.nt.br HQ2.out.nt.lo HQ2.out.nt.hi).mono ?_); rintro e7 w7 ⟨rfl, v7, hr7, ha7, hv7⟩; (have HL7 : Hid _ := HQ2.out.addBr hr7 ha7 hv7); clear hr7 ha7 hv7))
        go_wp2_with fail
        go_end0
        rename_i hk5 hk7
        have hb : brE N.br x = addU N.br (bl x.n) := if_pos (by unfold isB; simp at hk7 ⊢; omega)
        refine ⟨rfl, _, ?_, HL7.out.lw, HL7.out.bel⟩
        have h8 := HL7.out.nt
        unfold Ns.lay
        rw [hb, ← ndK_4]; exact h8
      · go_end0
        rename_i hk5 hk7
        have hb : brE N.br x = N.br := if_neg (by unfold isB; simp at hk7 ⊢; omega)
        refine ⟨rfl, _, ?_, HQ1.out.lw, HQ1.out.bel⟩
        have h8 := HQ1.out.nt
        unfold Ns.lay
        rw [hb, ← ndK_4]; exact h8
end Go.Proofs.YtmpkcioeodlbcaaGreatDoor
