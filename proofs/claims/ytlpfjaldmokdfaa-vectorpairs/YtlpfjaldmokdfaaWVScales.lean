/-
  The walk of VectorScales: it hands back true and only lays new memory.
-/
import Derived.Test.YtlpfjaldmokdfaaVt
import Derived.Deep.RegionHeldLaw
namespace Go.Proofs.Ytlpfjaldmokdfaa
open Fl RowKit

def pk4 {α : Type} (a b c d : α) (j : Nat) : α := if j = 0 then a else if j = 1 then b else if j = 2 then c else d
theorem pk4_all {α : Type} {P : Nat → α → Prop} {a b c d : α} (h0 : P 0 a) (h1 : P 1 b) (h2 : P 2 c) (h3 : P 3 d) : ∀ j, j < 4 → P j (pk4 a b c d j) := by
  intro j hj
  rcases (by omega : j = 0 ∨ j = 1 ∨ j = 2 ∨ j = 3) with rfl | rfl | rfl | rfl
  · exact h0
  · exact h1
  · exact h2
  · exact h3
theorem four {P : Nat → Prop} (h0 : P 0) (h1 : P 1) (h2 : P 2) (h3 : P 3) : ∀ j, j < 4 → P j := by
  intro j hj
  rcases (by omega : j = 0 ∨ j = 1 ∨ j = 2 ∨ j = 3) with rfl | rfl | rfl | rfl
  · exact h0
  · exact h1
  · exact h2
  · exact h3
theorem many4 {w : World} {b0 b1 b2 b3 n0 n1 n2 n3 base : Nat} {v0 v1 v2 v3 : Value} {l0 l1 l2 l3 : List Cw} (t : TypeId) (hb : base ≤ b0) (h01 : b0 ≤ b1) (h12 : b1 ≤ b2) (h23 : b2 ≤ b3)
    (r0 : Rw w b0 v0 n0 l0) (r1 : Rw w b1 v1 n1 l1) (r2 : Rw w b2 v2 n2 l2) (r3 : Rw w b3 v3 n3 l3)
    (k0 : ∀ g, v0.ownBlock = some g → g < b1) (k1 : ∀ g, v1.ownBlock = some g → g < b2) (k2 : ∀ g, v2.ownBlock = some g → g < b3) :
    Many base w.heap.size 4 (pk4 n0 n1 n2 n3) (pk4 v0 v1 v2 v3) (pk4 l0 l1 l2 l3) (w.alloc (.cells #[v0, v1, v2, v3] t)) := by
  refine many_of _ t (four rfl rfl rfl rfl) (four (rw_base r0 (by omega)) (rw_base r1 (by omega)) (rw_base r2 (by omega)) (rw_base r3 (by omega))) ?_
  intro j k hjk hk g hg e
  have a1 : ∀ g, v1.ownBlock = some g → b1 ≤ g := fun g e => own_ge r1.own e
  have a2 : ∀ g, v2.ownBlock = some g → b2 ≤ g := fun g e => own_ge r2.own e
  have a3 : ∀ g, v3.ownBlock = some g → b3 ≤ g := fun g e => own_ge r3.own e
  rcases (by omega : (j = 0 ∧ k = 1) ∨ (j = 0 ∧ k = 2) ∨ (j = 0 ∧ k = 3) ∨ (j = 1 ∧ k = 2) ∨ (j = 1 ∧ k = 3) ∨ (j = 2 ∧ k = 3)) with ⟨rfl, rfl⟩ | ⟨rfl, rfl⟩ | ⟨rfl, rfl⟩ | ⟨rfl, rfl⟩ | ⟨rfl, rfl⟩ | ⟨rfl, rfl⟩
  · have := k0 g hg; have := a1 g e; omega
  · have := k0 g hg; have := a2 g e; omega
  · have := k0 g hg; have := a3 g e; omega
  · have := k1 g hg; have := a2 g e; omega
  · have := k1 g hg; have := a3 g e; omega
  · have := k2 g hg; have := a3 g e; omega
theorem blk {g0 : Nat} {n c : Nat} {K : Nat} (h : g0 < K) : ∀ g, (Value.slice (some ⟨g0, 0, none⟩) n c).ownBlock = some g → g < K := fun g e => by
  have : g0 = g := by simpa [Value.ownBlock] using e
  omega
theorem blk_none {K : Nat} : ∀ g, (Value.slice none 0 0).ownBlock = some g → g < K := fun g e => by simp [Value.ownBlock] at e
theorem nblk {g0 q : Nat} {n c : Nat} (h : g0 ≠ q) : (Value.slice (some ⟨g0, 0, none⟩) n c).ownBlock ≠ some q := fun e => h (by simpa [Value.ownBlock] using e)
theorem nown {w : World} {b n q : Nat} {v : Value} {zs : List Cw} (h : Rw w b v n zs) (hq : q < b) : v.ownBlock ≠ some q := fun e => by have := own_ge h.own e; omega
theorem und1 {w w' : World} (h : Below w.drew.heap.size w.drew w') : Below w.heap.size w w' := ⟨h.os, h.tape, h.output, h.size, h.block⟩
theorem Lst.drew {w : World} {A : Option Addr} {n : Nat} {f : Nat → Cn} {zs : List Cw} (h : Lst w A n f zs) : Lst w.drew A n f zs := ⟨h.len, h.rep, h.rc⟩
theorem blkge {g0 : Nat} {n c : Nat} {K : Nat} (h : K ≤ g0) : ∀ g, (Value.slice (some ⟨g0, 0, none⟩) n c).ownBlock = some g → K ≤ g := fun g e => by
  have : g0 = g := by simpa [Value.ownBlock] using e
  omega

set_option maxRecDepth 10000 in
set_option maxHeartbeats 16000000 in
theorem vscales_ok (t : Cw) (ao bo : Option Addr) (ca cb n : Nat) (xs ys : List Cw) (w : World) (ht : okz t) (hn : xs.length = n) (hn2 : ys.length = n) (hw1 : n * 16 + 192 ≤ 140737488355328) (hm : n ≤ 65536) (hc : Rz w ao xs) (hd : Rz w bo ys) (hx : okl xs) (hy : okl ys) :
    Calls Try.prog 4 #[.agg #[.int .u64 (t.1 : Int), .int .u64 (t.2 : Int)], .slice ao n ca, .slice bo n cb] w fun e w' => e = .returned (.bool true) ∧ Below w.heap.size w w' := by
  have hs1 : n * 16 ≤ 140737488355328 := by omega
  have hz1 : n * 16 + 96 ≤ 140737488355328 := by omega
  have hz2 : n * 16 + 96 ≤ 140737488355328 := by omega
  have hzz : (n + 6) * 16 + 96 ≤ 140737488355328 := by omega
  have hs2 : n * 16 ≤ 140737488355328 := by omega
  have st : Stg 0 := ⟨trivial⟩
  go_enter Try.func4, Try.ntmps4
  go_wp2_with (first
    | (go_at_call 31; (refine (number_any t.1 t.2 _).mono ?_); rintro e w' ⟨rfl, rfl⟩)
    | ((have _ := (st : Stg 0)); go_at_call 9; (refine (tnumbers hn hs1 hx (hc.below ?hb)).mono ?_); (case hb => (repeat first | exact below_self _ | refine Below.drew ?_ | refine ba ?_ _ | refine below_drewN ?_ _)); rintro e w1 ⟨A, C, rfl, SA, hb⟩; clear st; (have st : Stg 1 := ⟨trivial⟩); (have BB : Below w.heap.size w w1 := by (refine Below.trans ?_ (hb.mono (by first | (simp; done) | (simp; omega))); repeat first | exact below_self _ | refine Below.drew ?_ | refine ba ?_ _ | refine below_drewN ?_ _)); (have hd := hd.below BB); clear hc hb)
    | ((have _ := (st : Stg 1)); go_at_call 9; (with_reducible refine (tnumbers hn2 hs2 hy hd).mono ?_); rintro e w2 ⟨D, G, rfl, SB, hb⟩; clear st; (have st : Stg 2 := ⟨trivial⟩); (replace SA := SA.below hb); (replace BB := BB.trans (hb.mono BB.size)); (have BS2 := BB.size); clear hb hd)
    | ((have _ := (st : Stg 2)); go_at_call 10; (with_reducible refine (tlent SA hz1).mono ?_); rintro e w3 ⟨gx, cxx, rfl, ⟨hcx, hcx2⟩, RX, hb⟩; clear st; (have st : Stg 3 := ⟨trivial⟩); (have SA0 := SA); (have SB0 := SB); (have LX := RX.lt); (have Z3 := hb.size); (replace SA := SA.below hb); (replace SB := SB.below hb); (replace BB := BB.trans (hb.mono BB.size)); clear hb)
    | ((have _ := (st : Stg 3)); go_at_call 10; (with_reducible refine (tlent SB hz2).mono ?_); rintro e w4 ⟨gy, cy, rfl, ⟨hcy, hcy2⟩, RY, hb⟩; clear st; (have st : Stg 4 := ⟨trivial⟩); (have LY := RY.lt); (have Z4 := hb.size); (replace SA := SA.below hb); (replace SB := SB.below hb); (replace RX := RX.below hb); (replace BB := BB.trans (hb.mono BB.size)); clear hb))
  go_region_held_law (fun _ => True) (trivial) ((go_at_call 32; (with_reducible refine (taxpy (rw_pre RX hn hx).drew (rw_pre RY hn2 hy).drew hm t ht).mono ?_); rintro e w5 ⟨ga, za, rfl, KA, OA, hb⟩; (replace hb := und1 hb); (replace OA : Rw w5 w4.heap.size (.slice (some ⟨ga, 0, none⟩) n n) n za := OA); (have LA := OA.lt); (have Z5 := hb.size); (replace SA := SA.below hb); (replace SB := SB.below hb); (replace RX := RX.below hb); (replace RY := RY.below hb); (replace BB := BB.trans (hb.mono BB.size)); clear hb))
  go_wp2_with (first
    | (go_at_call 33; (with_reducible refine (tscale (rw_pre RX hn hx) hs1 t ht).mono ?_); rintro e w6 ⟨gs, zs, rfl, KS, OS, hb⟩; (have LS := OS.lt); (have Z6 := hb.size); (replace SA := SA.below hb); (replace SB := SB.below hb); (replace RX := RX.below hb); (replace RY := RY.below hb); (replace OA := OA.below hb); (replace BB := BB.trans (hb.mono BB.size)); clear hb)
    | (go_at_call 34; (with_reducible refine (traxpy SA.lst SB.lst hm t ht).mono ?_); rintro e w7 ⟨AW, CW, zw, rfl, KW, OW, hb⟩; (have Z7 := hb.size); (replace SA := SA.below hb); (replace SB := SB.below hb); (replace RX := RX.below hb); (replace RY := RY.below hb); (replace OA := OA.below hb); (replace OS := OS.below hb); (replace BB := BB.trans (hb.mono BB.size)); clear hb)
    | (go_at_call 26; (with_reducible refine (tkept SA hz1 RX).mono ?_); rintro e w8 ⟨rfl, hb⟩; (have Z8 := hb.size); (replace SA := SA.below hb); (replace SB := SB.below hb); (replace RX := RX.below hb); (replace RY := RY.below hb); (replace OA := OA.below hb); (replace OS := OS.below hb); (replace OW := OW.below hb); (replace BB := BB.trans (hb.mono BB.size)); clear hb)
    | (go_at_call 26; (with_reducible refine (tkept SB hz2 RY).mono ?_); rintro e w9 ⟨rfl, hb⟩; (have Z9 := hb.size); (replace SA := SA.below hb); (replace SB := SB.below hb); (replace RX := RX.below hb); (replace RY := RY.below hb); (replace OA := OA.below hb); (replace OS := OS.below hb); (replace OW := OW.below hb); (replace BB := BB.trans (hb.mono BB.size)); clear hb)
    | (go_at_call 27; (with_reducible refine (tover RX (by omega)).mono ?_); rintro e w10 ⟨rfl, RX2, ho⟩; (have Z10 := ho.size); (replace RY := RY.only ho (nblk (by omega))); (replace OA := OA.only ho (nown OA (by omega))); (replace OS := OS.only ho (nown OS (by omega))); (replace OW := OW.only ho (nown OW (by omega))); (replace SA := SA0.only SA ho (by omega)); (replace SB := SB0.only SB ho (by omega)); (replace BB := below_only BB ho (by omega)); clear RX ho)
    | (go_at_call 27; (with_reducible refine (tover RY (by omega)).mono ?_); rintro e w11 ⟨rfl, RY2, ho⟩; (have Z11 := ho.size); (replace RX2 := RX2.only ho (nblk (by omega))); (replace OA := OA.only ho (nown OA (by omega))); (replace OS := OS.only ho (nown OS (by omega))); (replace OW := OW.only ho (nown OW (by omega))); (replace SA := SA0.only SA ho (by omega)); (replace BB := below_only BB ho (by omega)); clear RY ho SB SB0)
    | (go_at_call 28; (with_reducible refine (tsame (rw_lst OA KA.out) (rw_lst OW KW.out) hs1).mono ?_); rintro e w' ⟨m1, rfl, rfl⟩; clear OW KW KA)
    | (go_at_call 35; (with_reducible refine (trscale (SA.drewN _).lst hs1 t ht).mono ?_); rintro e w12 ⟨AS, CS, zr, rfl, KR, OR, hb⟩; (replace hb := und hb); (have Z12 := hb.size); (replace RX2 := RX2.below hb); (replace RY2 := RY2.below hb); (replace OA := OA.below hb); (replace OS := OS.below hb); (replace BB := BB.trans (hb.mono BB.size)); clear hb SA SA0)
    | (go_at_call 28; (with_reducible refine (tsame (rw_lst OS KS.out) (rw_lst OR KR.out) hs1).mono ?_); rintro e w' ⟨m2, rfl, rfl⟩; clear OR KR KS)
    | (go_at_call 30; (refine (kapart_any w.heap.size _ 4 w.heap.size (pk4 (n + 6) (n + 6) n n) (pk4 (.slice (some ⟨gx, 0, none⟩) (n + 6) cxx) (.slice (some ⟨gy, 0, none⟩) (n + 6) cy) (.slice (some ⟨ga, 0, none⟩) n n) (.slice (some ⟨gs, 0, none⟩) n n)) (pk4 (marks 9 (n + 6)) (marks 9 (n + 6)) za zs) _ (by omega) (by omega) (many4 (w := w12.drewN m2) 23 BS2 Z3 Z4 Z5 (RX2.drewN m2) (RY2.drewN m2) (OA.drewN m2) (OS.drewN m2) (blk (by omega)) (blk (by omega)) (blk (by omega))) (four hzz hzz hz1 hz1) (four (blkge (by omega)) (blkge (by omega)) (blkge (by omega)) (blkge (by omega))) (by simp; omega) (by simp; omega)).mono ?_); rintro e w13 ⟨rfl, hb⟩))
  all_goals
    go_ret
    exact ⟨rfl, ((below_drewN BB _).alloc (by simp; omega) _).trans hb⟩

set_option maxRecDepth 10000 in
set_option maxHeartbeats 16000000 in
theorem vscales_err (t : Cw) (ao bo : Option Addr) (ca cb n n2 : Nat) (xs ys : List Cw) (w : World) (ht : okz t) (hn : xs.length = n) (hn2 : ys.length = n2) (hw1 : n * 16 + 192 ≤ 140737488355328) (hw2 : n2 * 16 + 192 ≤ 140737488355328) (hb1 : n ≤ 1000000000000000) (hb2 : n2 ≤ 1000000000000000) (E : Int) (he : ¬ E = 0) (hE : E = errV n n2) (hc : Rz w ao xs) (hd : Rz w bo ys) (hx : okl xs) (hy : okl ys) :
    Calls Try.prog 4 #[.agg #[.int .u64 (t.1 : Int), .int .u64 (t.2 : Int)], .slice ao n ca, .slice bo n2 cb] w fun e w' => e = .returned (.bool true) ∧ Below w.heap.size w w' := by
  have hs1 : n * 16 ≤ 140737488355328 := by omega
  have hz1 : n * 16 + 96 ≤ 140737488355328 := by omega
  have hz2 : n2 * 16 + 96 ≤ 140737488355328 := by omega
  have hzz : (n + 6) * 16 + 96 ≤ 140737488355328 := by omega
  have hzz2 : (n2 + 6) * 16 + 96 ≤ 140737488355328 := by omega
  have hs2 : n2 * 16 ≤ 140737488355328 := by omega
  have st : Stg 0 := ⟨trivial⟩
  have HE : Hid (E = errV n n2) := hE
  clear hE
  go_enter Try.func4, Try.ntmps4
  go_wp2_with (first
    | (go_at_call 31; (refine (number_any t.1 t.2 _).mono ?_); rintro e w' ⟨rfl, rfl⟩)
    | ((have _ := (st : Stg 0)); go_at_call 9; (refine (tnumbers hn hs1 hx (hc.below ?hb)).mono ?_); (case hb => (repeat first | exact below_self _ | refine Below.drew ?_ | refine ba ?_ _ | refine below_drewN ?_ _)); rintro e w1 ⟨A, C, rfl, SA, hb⟩; clear st; (have st : Stg 1 := ⟨trivial⟩); (have BB : Below w.heap.size w w1 := by (refine Below.trans ?_ (hb.mono (by first | (simp; done) | (simp; omega))); repeat first | exact below_self _ | refine Below.drew ?_ | refine ba ?_ _ | refine below_drewN ?_ _)); (have hd := hd.below BB); clear hc hb)
    | ((have _ := (st : Stg 1)); go_at_call 9; (with_reducible refine (tnumbers hn2 hs2 hy hd).mono ?_); rintro e w2 ⟨D, G, rfl, SB, hb⟩; clear st; (have st : Stg 2 := ⟨trivial⟩); (replace SA := SA.below hb); (replace BB := BB.trans (hb.mono BB.size)); (have BS2 := BB.size); clear hb hd)
    | ((have _ := (st : Stg 2)); go_at_call 10; (with_reducible refine (tlent SA hz1).mono ?_); rintro e w3 ⟨gx, cxx, rfl, ⟨hcx, hcx2⟩, RX, hb⟩; clear st; (have st : Stg 3 := ⟨trivial⟩); (have SA0 := SA); (have SB0 := SB); (have LX := RX.lt); (have Z3 := hb.size); (replace SA := SA.below hb); (replace SB := SB.below hb); (replace BB := BB.trans (hb.mono BB.size)); clear hb)
    | ((have _ := (st : Stg 3)); go_at_call 10; (with_reducible refine (tlent SB hz2).mono ?_); rintro e w4 ⟨gy, cy, rfl, ⟨hcy, hcy2⟩, RY, hb⟩; clear st; (have st : Stg 4 := ⟨trivial⟩); (have LY := RY.lt); (have Z4 := hb.size); (replace SA := SA.below hb); (replace SB := SB.below hb); (replace RX := RX.below hb); (replace BB := BB.trans (hb.mono BB.size)); clear hb))
  go_region_held_law (fun _ => True) (trivial) ((go_at_call 32; (with_reducible refine (gaxpy _ _ _ _ _ hb1 hb2 he HE.out t).mono ?_); rintro e w5 ⟨rfl, hb⟩; (replace hb := und1 hb); (have Z5 := hb.size); (replace SA := SA.below hb); (replace SB := SB.below hb); (replace RX := RX.below hb); (replace RY := RY.below hb); (replace BB := BB.trans (hb.mono BB.size)); clear hb))
  go_wp2_with (first
    | (go_at_call 33; (with_reducible refine (tscale (rw_pre RX hn hx) hs1 t ht).mono ?_); rintro e w6 ⟨gs, zs, rfl, KS, OS, hb⟩; (have LS := OS.lt); (have Z6 := hb.size); (replace SA := SA.below hb); (replace SB := SB.below hb); (replace RX := RX.below hb); (replace RY := RY.below hb); (replace BB := BB.trans (hb.mono BB.size)); clear hb)
    | (go_at_call 34; (with_reducible refine (faxpy A D C G _ hb1 hb2 he HE.out t).mono ?_); rintro e w' ⟨rfl, hw'⟩; subst w')
    | (go_at_call 26; (with_reducible refine (tkept SA hz1 RX).mono ?_); rintro e w8 ⟨rfl, hb⟩; (have Z8 := hb.size); (replace SA := SA.below hb); (replace SB := SB.below hb); (replace RX := RX.below hb); (replace RY := RY.below hb); (replace OS := OS.below hb); (replace BB := BB.trans (hb.mono BB.size)); clear hb)
    | (go_at_call 26; (with_reducible refine (tkept SB hz2 RY).mono ?_); rintro e w9 ⟨rfl, hb⟩; (have Z9 := hb.size); (replace SA := SA.below hb); (replace SB := SB.below hb); (replace RX := RX.below hb); (replace RY := RY.below hb); (replace OS := OS.below hb); (replace BB := BB.trans (hb.mono BB.size)); clear hb)
    | (go_at_call 27; (with_reducible refine (tover RX (by omega)).mono ?_); rintro e w10 ⟨rfl, RX2, ho⟩; (have Z10 := ho.size); (replace RY := RY.only ho (nblk (by omega))); (replace OS := OS.only ho (nown OS (by omega))); (replace SA := SA0.only SA ho (by omega)); (replace SB := SB0.only SB ho (by omega)); (replace BB := below_only BB ho (by omega)); clear RX ho)
    | (go_at_call 27; (with_reducible refine (tover RY (by omega)).mono ?_); rintro e w11 ⟨rfl, RY2, ho⟩; (have Z11 := ho.size); (replace RX2 := RX2.only ho (nblk (by omega))); (replace OS := OS.only ho (nown OS (by omega))); (replace SA := SA0.only SA ho (by omega)); (replace BB := below_only BB ho (by omega)); clear RY ho SB SB0)
    | (go_at_call 28; (with_reducible refine (tsame_none _).mono ?_); rintro e w' ⟨m1, rfl, rfl⟩)
    | (go_at_call 35; (with_reducible refine (trscale (SA.drewN _).lst hs1 t ht).mono ?_); rintro e w12 ⟨AS, CS, zr, rfl, KR, OR, hb⟩; (replace hb := und hb); (have Z12 := hb.size); (replace RX2 := RX2.below hb); (replace RY2 := RY2.below hb); (replace OS := OS.below hb); (replace BB := BB.trans (hb.mono BB.size)); clear hb SA SA0)
    | (go_at_call 28; (with_reducible refine (tsame (rw_lst OS KS.out) (rw_lst OR KR.out) hs1).mono ?_); rintro e w' ⟨m2, rfl, rfl⟩; clear OR KR KS)
    | (go_at_call 30; (refine (kapart_any w.heap.size _ 4 w.heap.size (pk4 (n + 6) (n2 + 6) 0 n) (pk4 (.slice (some ⟨gx, 0, none⟩) (n + 6) cxx) (.slice (some ⟨gy, 0, none⟩) (n2 + 6) cy) (.slice none 0 0) (.slice (some ⟨gs, 0, none⟩) n n)) (pk4 (marks 9 (n + 6)) (marks 9 (n2 + 6)) [] zs) _ (by omega) (by omega) (many4 (w := w12.drewN m2) 23 BS2 Z3 Z4 Z5 (RX2.drewN m2) (RY2.drewN m2) (rw_nil _ _) (OS.drewN m2) (blk (by omega)) (blk (by omega)) blk_none) (four hzz hzz2 (by show (0 : Nat) * 16 + 96 ≤ _; omega) hz1) (four (blkge (by omega)) (blkge (by omega)) (fun g e => by simp [pk4, Value.ownBlock] at e) (blkge (by omega))) (by simp; omega) (by simp; omega)).mono ?_); rintro e w13 ⟨rfl, hb⟩))
  all_goals
    go_ret
    exact ⟨rfl, ((below_drewN BB _).alloc (by simp; omega) _).trans hb⟩
end Go.Proofs.Ytlpfjaldmokdfaa
