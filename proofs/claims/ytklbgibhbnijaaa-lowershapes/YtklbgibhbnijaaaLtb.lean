/-
  What the statements' told carries: four matrices, two lists of numbers, two orders, each new memory; apart.
-/
import Derived.Test.YtklbgibhbnijaaaVro
import Derived.Test.YtklbgibhbnijaaaYr
import Derived.Test.YtklbgibhbnijaaaSld
import Derived.Test.YtklbgibhbnijaaaLmc
namespace Go.Proofs.Ytklbgibhbnijaaa
open Fl RowKit
set_option linter.unusedVariables false

structure Tc (w0 : World) (N T pa pb pc pd ga gb gc gd gp gq go gs : Nat) (L U P : List Cw) (O : List Int) (W : World) : Prop where
  bel : Below w0.heap.size w0 W
  va : V3 pa (.int .i64 N) (.int .i64 N) (.slice (some ⟨ga, 0, none⟩) T T) W
  vb : V3 pb (.int .i64 N) (.int .i64 N) (.slice (some ⟨gb, 0, none⟩) T T) W
  vc : V3 pc (.int .i64 N) (.int .i64 N) (.slice (some ⟨gc, 0, none⟩) T T) W
  vd : V3 pd (.int .i64 N) (.int .i64 N) (.slice (some ⟨gd, 0, none⟩) T T) W
  ra : Rw W w0.heap.size (.slice (some ⟨ga, 0, none⟩) T T) T L
  rb : Rw W w0.heap.size (.slice (some ⟨gb, 0, none⟩) T T) T U
  rc : Rw W w0.heap.size (.slice (some ⟨gc, 0, none⟩) T T) T L
  rd : Rw W w0.heap.size (.slice (some ⟨gd, 0, none⟩) T T) T U
  rp : Rw W w0.heap.size (.slice (some ⟨gp, 0, none⟩) N N) N P
  rq : Rw W w0.heap.size (.slice (some ⟨gq, 0, none⟩) N N) N P
  io : Ir W w0.heap.size (.slice (some ⟨go, 0, none⟩) N N) N O
  js : Ir W w0.heap.size (.slice (some ⟨gs, 0, none⟩) N N) N O
  ap : ga < gb ∧ gb < gc ∧ gc < gd ∧ gd < gp ∧ gp < gq ∧ gq < go ∧ go < gs
section
variable {w0 : World} {N T pa pb pc pd ga gb gc gd gp gq go gs : Nat} {L U P : List Cw} {O : List Int}
theorem Tc.below {W W' : World} (h : Tc w0 N T pa pb pc pd ga gb gc gd gp gq go gs L U P O W) (hb : Below W.heap.size W W') : Tc w0 N T pa pb pc pd ga gb gc gd gp gq go gs L U P O W' :=
  ⟨bt h.bel hb, h.va.below hb, h.vb.below hb, h.vc.below hb, h.vd.below hb, h.ra.below hb, h.rb.below hb, h.rc.below hb, h.rd.below hb, h.rp.below hb, h.rq.below hb, h.io.below hb, h.js.below hb, h.ap⟩
theorem Tc.dr {W : World} (h : Tc w0 N T pa pb pc pd ga gb gc gd gp gq go gs L U P O W) : Tc w0 N T pa pb pc pd ga gb gc gd gp gq go gs L U P O W.drew := h.below (Below.refl _ _).drew
theorem Tc.s {W : World} (h : Tc w0 N T pa pb pc pd ga gb gc gd gp gq go gs L U P O W) : (W.cell? ⟨pa, 0, none⟩ = some (.int .i64 N) ∧ W.cell? ⟨pa, 1, none⟩ = some (.int .i64 N) ∧ W.cell? ⟨pa, 2, none⟩ = some (.slice (some ⟨ga, 0, none⟩) T T)) ∧ (W.cell? ⟨pb, 0, none⟩ = some (.int .i64 N) ∧ W.cell? ⟨pb, 1, none⟩ = some (.int .i64 N) ∧ W.cell? ⟨pb, 2, none⟩ = some (.slice (some ⟨gb, 0, none⟩) T T)) ∧ (W.cell? ⟨pc, 0, none⟩ = some (.int .i64 N) ∧ W.cell? ⟨pc, 1, none⟩ = some (.int .i64 N) ∧ W.cell? ⟨pc, 2, none⟩ = some (.slice (some ⟨gc, 0, none⟩) T T)) ∧ (W.cell? ⟨pd, 0, none⟩ = some (.int .i64 N) ∧ W.cell? ⟨pd, 1, none⟩ = some (.int .i64 N) ∧ W.cell? ⟨pd, 2, none⟩ = some (.slice (some ⟨gd, 0, none⟩) T T)) :=
  ⟨⟨h.va.c0, h.va.c1, h.va.c2⟩, ⟨h.vb.c0, h.vb.c1, h.vb.c2⟩, ⟨h.vc.c0, h.vc.c1, h.vc.c2⟩, ⟨h.vd.c0, h.vd.c1, h.vd.c2⟩⟩
end
theorem rw_ls {w : World} {b n g c : Nat} {zs : List Cw} (h : Rw w b (.slice (some ⟨g, 0, none⟩) n c) n zs) (hz : okl zs) : Lst w (some ⟨g, 0, none⟩) n (fun j => anz (zat zs j)) zs := lst_self h.len hz h.rc
section
variable {w0 W : World} {lv : Value} {N T : Nat} {M : Nat → Nat → Cw} {o : Nat → Nat} {s : Int} (HL : Lhd w0 lv N M o s) (hN : N ≤ 64) (hT : T = N * N) (B : Below w0.heap.size w0 W)
include HL B
theorem t_size : Calls Try.prog 61 #[lv] W fun e w' => e = .returned (.int .i64 (N : Int)) ∧ Below W.heap.size W w' := lh_size (HL.below B)
theorem t_sign : Calls Try.prog 19 #[lv] W fun e w' => e = .returned (.int .i64 s) ∧ Below W.heap.size W w' := lh_sign (HL.below B)
include hN
theorem t_ord : Calls Try.prog 18 #[lv] W fun e w' => ∃ g, e = .returned (.slice (some ⟨g, 0, none⟩) N N) ∧ Ir w' W.heap.size (.slice (some ⟨g, 0, none⟩) N N) N (ri N o) ∧ Below W.heap.size W w' := lh_order (HL.below B) hN
theorem t_piv : Calls Try.prog 21 #[lv] W fun e w' => ∃ g, e = .returned (.slice (some ⟨g, 0, none⟩) N N) ∧ Rw w' W.heap.size (.slice (some ⟨g, 0, none⟩) N N) N (ro N (fun i => M i i)) ∧ Below W.heap.size W w' := lh_piv (HL.below B) hN
include hT
theorem t_l : Calls Try.prog 16 #[lv] W fun e w' => ∃ g, e = .returned (.agg #[.int .i64 N, .int .i64 N, .slice (some ⟨g, 0, none⟩) T T]) ∧ Rw w' W.heap.size (.slice (some ⟨g, 0, none⟩) T T) T (ro T (flw N (lE M))) ∧ Below W.heap.size W w' := by
  subst hT; exact lh_l (HL.below B) hN
theorem t_u : Calls Try.prog 17 #[lv] W fun e w' => ∃ g, e = .returned (.agg #[.int .i64 N, .int .i64 N, .slice (some ⟨g, 0, none⟩) T T]) ∧ Rw w' W.heap.size (.slice (some ⟨g, 0, none⟩) T T) T (ro T (flw N (uE M))) ∧ Below W.heap.size W w' := by
  subst hT; exact lh_u (HL.below B) hN
end
theorem sn_w {n ca cb : Nat} {ao bo : Option Addr} {F : Nat → Cn} {xs ys : List Cw} {w : World} (h : Lst w ao n F xs) (k : Lst w bo n F ys) (hsz : n * 16 ≤ 140737488355328) :
    Calls Try.prog 45 #[.slice ao n ca, .slice bo n cb] w fun e w' => e = .returned (.bool true) ∧ Below w.heap.size w w' := by
  refine (tsame h k hsz).mono ?_
  rintro e w' ⟨m, rfl, rfl⟩
  exact ⟨rfl, below_drewN (Below.refl _ _) m⟩
theorem si_w (ao bo : Option Addr) (ca cb n : Nat) (xs : List Int) (w : World) (hn : xs.length = n) (hsz : n * 8 ≤ 140737488355328) (hc : Qi w ao xs) (hd : Qi w bo xs) :
    Calls Try.prog 39 #[.slice ao n ca, .slice bo n cb] w fun e w' => e = .returned (.bool true) ∧ Below w.heap.size w w' := by
  refine (ksameI ao bo ca cb n xs w hn hsz hc hd).mono ?_
  rintro e w' ⟨m, rfl, rfl⟩
  exact ⟨rfl, below_drewN (Below.refl _ _) m⟩
def pk6 {α : Type} (a b c d e f : α) (j : Nat) : α := if j = 0 then a else if j = 1 then b else if j = 2 then c else if j = 3 then d else if j = 4 then e else f
theorem six {P : Nat → Prop} (h0 : P 0) (h1 : P 1) (h2 : P 2) (h3 : P 3) (h4 : P 4) (h5 : P 5) : ∀ j, j < 6 → P j := by
  intro j hj
  rcases (by omega : j = 0 ∨ j = 1 ∨ j = 2 ∨ j = 3 ∨ j = 4 ∨ j = 5) with rfl | rfl | rfl | rfl | rfl | rfl
  · exact h0
  · exact h1
  · exact h2
  · exact h3
  · exact h4
  · exact h5
section
variable {w0 : World} {N T pa pb pc pd ga gb gc gd gp gq go gs : Nat} {L U P : List Cw} {O : List Int}
theorem Tc.apartN {W : World} (h : Tc w0 N T pa pb pc pd ga gb gc gd gp gq go gs L U P O W) (hT : T ≤ 4096) (hN : N ≤ 64) :
    Calls Try.prog 73 #[.slice (some ⟨W.heap.size, 0, none⟩) 6 6] (W.alloc (.cells #[.slice (some ⟨ga, 0, none⟩) T T, .slice (some ⟨gb, 0, none⟩) T T, .slice (some ⟨gc, 0, none⟩) T T, .slice (some ⟨gd, 0, none⟩) T T, .slice (some ⟨gp, 0, none⟩) N N, .slice (some ⟨gq, 0, none⟩) N N] 24)) fun e w' => e = .returned (.bool true) ∧ Below w0.heap.size w0 w' ∧ Ir w' w0.heap.size (.slice (some ⟨go, 0, none⟩) N N) N O ∧ Ir w' w0.heap.size (.slice (some ⟨gs, 0, none⟩) N N) N O := by
  have ap := h.ap
  have blk : ∀ j, j < 6 → ((pk6 (α := Value) (.slice (some ⟨ga, 0, none⟩) T T) (.slice (some ⟨gb, 0, none⟩) T T) (.slice (some ⟨gc, 0, none⟩) T T) (.slice (some ⟨gd, 0, none⟩) T T) (.slice (some ⟨gp, 0, none⟩) N N) (.slice (some ⟨gq, 0, none⟩) N N)) j).ownBlock = some (pk6 ga gb gc gd gp gq j) := six rfl rfl rfl rfl rfl rfl
  have ap6 : ∀ j k, j < k → k < 6 → pk6 ga gb gc gd gp gq j < pk6 ga gb gc gd gp gq k := by
    have q : ∀ j, j < 5 → pk6 ga gb gc gd gp gq j < pk6 ga gb gc gd gp gq (j + 1) := by
      intro j hj
      rcases (by omega : j = 0 ∨ j = 1 ∨ j = 2 ∨ j = 3 ∨ j = 4) with rfl | rfl | rfl | rfl | rfl
      · exact ap.1
      · exact ap.2.1
      · exact ap.2.2.1
      · exact ap.2.2.2.1
      · exact ap.2.2.2.2.1
    intro j k hjk
    induction k with
    | zero => omega
    | succ k ih =>
      intro hk
      rcases Nat.lt_succ_iff_lt_or_eq.1 hjk with e | e
      · exact Nat.lt_trans (ih e (by omega)) (q k (by omega))
      · subst e; exact q j (by omega)
  have last : ∀ j, j < 6 → pk6 ga gb gc gd gp gq j ≤ gq := by
    intro j hj
    rcases (by omega : j = 5 ∨ j < 5) with rfl | e
    · exact Nat.le_refl _
    · exact Nat.le_of_lt (ap6 j 5 e (by omega))
  have hM : Many w0.heap.size W.heap.size 6 (pk6 T T T T N N) ((pk6 (α := Value) (.slice (some ⟨ga, 0, none⟩) T T) (.slice (some ⟨gb, 0, none⟩) T T) (.slice (some ⟨gc, 0, none⟩) T T) (.slice (some ⟨gd, 0, none⟩) T T) (.slice (some ⟨gp, 0, none⟩) N N) (.slice (some ⟨gq, 0, none⟩) N N))) (pk6 L U L U P P) (W.alloc (.cells #[.slice (some ⟨ga, 0, none⟩) T T, .slice (some ⟨gb, 0, none⟩) T T, .slice (some ⟨gc, 0, none⟩) T T, .slice (some ⟨gd, 0, none⟩) T T, .slice (some ⟨gp, 0, none⟩) N N, .slice (some ⟨gq, 0, none⟩) N N] 24)) := by
    refine many_of _ _ (six rfl rfl rfl rfl rfl rfl) (six h.ra h.rb h.rc h.rd h.rp h.rq) ?_
    intro j k hjk hk g hg e
    rw [blk j (by omega)] at hg
    rw [blk k hk] at e
    have := ap6 j k hjk hk
    have e1 := Option.some.inj hg
    have e2 := Option.some.inj e
    omega
  have hz := h.bel.size
  refine (kapart_ex w0.heap.size W.heap.size 6 0 _ _ _ _ (by omega) (by omega) hM (six (by show T * 16 + 96 ≤ _; omega) (by show T * 16 + 96 ≤ _; omega) (by show T * 16 + 96 ≤ _; omega) (by show T * 16 + 96 ≤ _; omega) (by show N * 16 + 96 ≤ _; omega) (by show N * 16 + 96 ≤ _; omega)) (fun _ _ _ _ => Nat.zero_le _) (Nat.zero_le _) (by rw [size_al]; omega)).mono ?_
  rintro e w' ⟨rfl, hx⟩
  have low : ∀ k, RS 6 ((pk6 (α := Value) (.slice (some ⟨ga, 0, none⟩) T T) (.slice (some ⟨gb, 0, none⟩) T T) (.slice (some ⟨gc, 0, none⟩) T T) (.slice (some ⟨gd, 0, none⟩) T T) (.slice (some ⟨gp, 0, none⟩) N N) (.slice (some ⟨gq, 0, none⟩) N N))) k → w0.heap.size ≤ k := by
    rintro k ⟨j, hj, e⟩
    have key : ∀ j, j < 6 → w0.heap.size ≤ pk6 ga gb gc gd gp gq j := six h.ra.lt.1 h.rb.lt.1 h.rc.lt.1 h.rd.lt.1 h.rp.lt.1 h.rq.lt.1
    have := key j hj
    rw [blk j hj] at e
    have e1 := Option.some.inj e
    omega
  have off : ∀ g, gq < g → ¬ RS 6 ((pk6 (α := Value) (.slice (some ⟨ga, 0, none⟩) T T) (.slice (some ⟨gb, 0, none⟩) T T) (.slice (some ⟨gc, 0, none⟩) T T) (.slice (some ⟨gd, 0, none⟩) T T) (.slice (some ⟨gp, 0, none⟩) N N) (.slice (some ⟨gq, 0, none⟩) N N))) g := by
    rintro g hg ⟨j, hj, e⟩
    have := last j hj
    rw [blk j hj] at e
    have e1 := Option.some.inj e
    omega
  have one : ∀ g, gq < g → ∀ n c (zs : List Int), Ir W w0.heap.size (.slice (some ⟨g, 0, none⟩) n c) n zs → Ir w' w0.heap.size (.slice (some ⟨g, 0, none⟩) n c) n zs := by
    intro g hg n c zs hi
    have h2 := hi.below (bal W (.cells #[.slice (some ⟨ga, 0, none⟩) T T, .slice (some ⟨gb, 0, none⟩) T T, .slice (some ⟨gc, 0, none⟩) T T, .slice (some ⟨gd, 0, none⟩) T T, .slice (some ⟨gp, 0, none⟩) N N, .slice (some ⟨gq, 0, none⟩) N N] 24))
    refine ⟨h2.len, own_at h2.own (fun q hq => ?_)⟩
    have eq : g = q := by simpa [Value.ownBlock] using hq
    subst eq
    exact hx.block g (h2.own.lt g rfl).2 (off g hg)
  exact ⟨rfl, (ba h.bel _).trans (hx.below low (by rw [size_al]; omega)), one go (by omega) _ _ _ h.io, one gs (by omega) _ _ _ h.js⟩
end
namespace In
theorem many_two {w : World} {base m : Nat} {n : Nat → Nat} {V : Nat → Value} {L : Nat → List Int} (cs : Array Value) (t : TypeId) (hcs : ∀ j, j < m → cs[j]? = some (V j)) (hR : ∀ j, j < m → Ir w base (V j) (n j) (L j)) (hap : ∀ j k, j < k → k < m → ∀ g, (V j).ownBlock = some g → (V k).ownBlock ≠ some g) :
    Many base w.heap.size m n V L (w.alloc (.cells cs t)) := by
  refine ⟨fun j hj => by rw [al_at w cs t _ j rfl]; exact hcs j hj, fun j hj => (hR j hj).own.alloc _, fun j hj => (hR j hj).len, ?_, ?_, by rw [size_al]; omega⟩
  · intro j k hj hk hne g hg e
    rcases Nat.lt_or_gt_of_ne hne with h | h
    · exact hap j k h hk g hg e
    · exact hap k j h hj g e hg
  · intro j hj e
    have := ((hR j hj).own.lt _ e).2
    omega
end In
def pk2 {α : Type} (a b : α) (j : Nat) : α := if j = 0 then a else b
theorem two_ {P : Nat → Prop} (h0 : P 0) (h1 : P 1) : ∀ j, j < 2 → P j := by
  intro j hj
  rcases (by omega : j = 0 ∨ j = 1) with rfl | rfl
  · exact h0
  · exact h1
theorem apartI {W w0 : World} {N go gs : Nat} {O : List Int} (B : Below w0.heap.size w0 W) (io : Ir W w0.heap.size (.slice (some ⟨go, 0, none⟩) N N) N O) (js : Ir W w0.heap.size (.slice (some ⟨gs, 0, none⟩) N N) N O) (hne : go < gs) (hN : N ≤ 64) :
    Calls Try.prog 74 #[.slice (some ⟨W.heap.size, 0, none⟩) 2 2] (W.alloc (.cells #[.slice (some ⟨go, 0, none⟩) N N, .slice (some ⟨gs, 0, none⟩) N N] 31)) fun e w' => e = .returned (.bool true) ∧ Below w0.heap.size w0 w' := by
  have hz := B.size
  have hM : In.Many w0.heap.size W.heap.size 2 (pk2 N N) (pk2 (.slice (some ⟨go, 0, none⟩) N N) (.slice (some ⟨gs, 0, none⟩) N N)) (pk2 O O) (W.alloc (.cells #[.slice (some ⟨go, 0, none⟩) N N, .slice (some ⟨gs, 0, none⟩) N N] 31)) := by
    refine In.many_two _ _ (two_ rfl rfl) (two_ io js) ?_
    intro j k hjk hk g hg e
    rcases (by omega : j = 0 ∧ k = 1) with ⟨rfl, rfl⟩
    have e1 : go = g := by simpa [pk2, Value.ownBlock] using hg
    have e2 : gs = g := by simpa [pk2, Value.ownBlock] using e
    omega
  refine (In.kapart_any w0.heap.size W.heap.size 2 w0.heap.size _ _ _ _ (by omega) (by omega) hM (two_ (by show N * 8 + 48 ≤ _; omega) (by show N * 8 + 48 ≤ _; omega)) (two_ (fun g hg => own_ge io.own hg) (fun g hg => own_ge js.own hg)) (by rw [size_al]; omega) (by rw [size_al]; omega)).mono ?_
  rintro e w' ⟨rfl, hx⟩
  exact ⟨rfl, (ba B _).trans hx⟩
end Go.Proofs.Ytklbgibhbnijaaa
