/-
  The walk of VectorPairs: it hands back true and only lays new memory.
-/
import Derived.Test.YtlpfjaldmokdfaaWVScales
namespace Go.Proofs.Ytlpfjaldmokdfaa
open Fl RowKit

def pk5 {α : Type} (a b c d e : α) (j : Nat) : α := if j = 0 then a else if j = 1 then b else if j = 2 then c else if j = 3 then d else e
theorem five {P : Nat → Prop} (h0 : P 0) (h1 : P 1) (h2 : P 2) (h3 : P 3) (h4 : P 4) : ∀ j, j < 5 → P j := by
  intro j hj
  rcases (by omega : j = 0 ∨ j = 1 ∨ j = 2 ∨ j = 3 ∨ j = 4) with rfl | rfl | rfl | rfl | rfl
  · exact h0
  · exact h1
  · exact h2
  · exact h3
  · exact h4
theorem many5 {w : World} {b0 b1 b2 b3 b4 n0 n1 n2 n3 n4 base : Nat} {v0 v1 v2 v3 v4 : Value} {l0 l1 l2 l3 l4 : List Cw} (t : TypeId) (hb : base ≤ b0) (h01 : b0 ≤ b1) (h12 : b1 ≤ b2) (h23 : b2 ≤ b3) (h34 : b3 ≤ b4)
    (r0 : Rw w b0 v0 n0 l0) (r1 : Rw w b1 v1 n1 l1) (r2 : Rw w b2 v2 n2 l2) (r3 : Rw w b3 v3 n3 l3) (r4 : Rw w b4 v4 n4 l4)
    (k0 : ∀ g, v0.ownBlock = some g → g < b1) (k1 : ∀ g, v1.ownBlock = some g → g < b2) (k2 : ∀ g, v2.ownBlock = some g → g < b3) (k3 : ∀ g, v3.ownBlock = some g → g < b4) :
    Many base w.heap.size 5 (pk5 n0 n1 n2 n3 n4) (pk5 v0 v1 v2 v3 v4) (pk5 l0 l1 l2 l3 l4) (w.alloc (.cells #[v0, v1, v2, v3, v4] t)) := by
  refine many_of _ t (five rfl rfl rfl rfl rfl) (five (rw_base r0 (by omega)) (rw_base r1 (by omega)) (rw_base r2 (by omega)) (rw_base r3 (by omega)) (rw_base r4 (by omega))) ?_
  intro j k hjk hk g hg e
  have lo : ∀ k, k < 5 → ∀ g, (pk5 v0 v1 v2 v3 v4 k).ownBlock = some g → pk5 b0 b1 b2 b3 b4 k ≤ g := five (fun g e => own_ge r0.own e) (fun g e => own_ge r1.own e) (fun g e => own_ge r2.own e) (fun g e => own_ge r3.own e) (fun g e => own_ge r4.own e)
  have hi : ∀ j, j < 4 → ∀ g, (pk5 v0 v1 v2 v3 v4 j).ownBlock = some g → g < pk5 b0 b1 b2 b3 b4 (j + 1) := four k0 k1 k2 k3
  have mono : ∀ j, j < 4 → pk5 b0 b1 b2 b3 b4 j ≤ pk5 b0 b1 b2 b3 b4 (j + 1) := four h01 h12 h23 h34
  have up : ∀ d j, j + d < 5 → pk5 b0 b1 b2 b3 b4 j ≤ pk5 b0 b1 b2 b3 b4 (j + d) := by
    intro d
    induction d with
    | zero => intro j _; exact Nat.le_refl _
    | succ d ih => intro j hj; exact Nat.le_trans (ih j (by omega)) (mono (j + d) (by omega))
  have u := up (k - (j + 1)) (j + 1) (by omega)
  rw [show j + 1 + (k - (j + 1)) = k by omega] at u
  have x1 := hi j (by omega) g hg
  have x2 := lo k hk g e
  omega
theorem Rw.drew {w : World} {b n : Nat} {v : Value} {zs : List Cw} (h : Rw w b v n zs) : Rw w.drew b v n zs := ⟨h.len, h.own⟩

set_option maxRecDepth 10000 in
set_option maxHeartbeats 32000000 in
theorem vpairs_ok (ao bo : Option Addr) (ca cb n : Nat) (xs ys : List Cw) (w : World) (hn : xs.length = n) (hn2 : ys.length = n) (hw1 : n * 16 + 192 ≤ 140737488355328) (hm : n ≤ 65536) (hc : Rz w ao xs) (hd : Rz w bo ys) (hx : okl xs) (hy : okl ys) :
    Calls Try.prog 3 #[.slice ao n ca, .slice bo n cb] w fun e w' => e = .returned (.bool true) ∧ Below w.heap.size w w' := by
  have hs1 : n * 16 ≤ 140737488355328 := by omega
  have hz1 : n * 16 + 96 ≤ 140737488355328 := by omega
  have hzz : (n + 6) * 16 + 96 ≤ 140737488355328 := by omega
  have hs2 : n * 16 ≤ 140737488355328 := by omega
  have hz2 : n * 16 + 96 ≤ 140737488355328 := by omega
  have hzz2 : (n + 6) * 16 + 96 ≤ 140737488355328 := by omega
  have st : Stg 0 := ⟨trivial⟩
  obtain ⟨mx, hmx⟩ : ∃ mx, mx = nmx xs n := ⟨_, rfl⟩
  have HMX : Hid (mx = nmx xs n) := hmx
  clear hmx
  go_enter Try.func3, Try.ntmps3
  go_wp2_with (first
    | ((have _ := (st : Stg 0)); go_at_call 9; (with_reducible refine (tnumbers hn hs1 hx hc).mono ?_); rintro e w1 ⟨A, C, rfl, SA, BB⟩; clear st; (have st : Stg 1 := ⟨trivial⟩); (have hd := hd.below BB); clear hc)
    | ((have _ := (st : Stg 1)); go_at_call 9; (with_reducible refine (tnumbers hn2 hs2 hy hd).mono ?_); rintro e w2 ⟨D, G, rfl, SB, hb⟩; clear st; (have st : Stg 2 := ⟨trivial⟩); (replace SA := SA.below hb); (replace BB := BB.trans (hb.mono BB.size)); (have BS2 := BB.size); clear hb hd)
    | ((have _ := (st : Stg 2)); go_at_call 10; (with_reducible refine (tlent SA hz1).mono ?_); rintro e w3 ⟨gx, cxx, rfl, ⟨hcx, hcx2⟩, RX, hb⟩; clear st; (have st : Stg 3 := ⟨trivial⟩); (have SA0 := SA); (have SB0 := SB); (have LX := RX.lt); (have Z3 := hb.size); (replace SA := SA.below hb); (replace SB := SB.below hb); (replace BB := BB.trans (hb.mono BB.size)); clear hb)
    | ((have _ := (st : Stg 3)); go_at_call 10; (with_reducible refine (tlent SB hz2).mono ?_); rintro e w4 ⟨gy, cy, rfl, ⟨hcy, hcy2⟩, RY, hb⟩; clear st; (have st : Stg 4 := ⟨trivial⟩); (have LY := RY.lt); (have Z4 := hb.size); (replace SA := SA.below hb); (replace SB := SB.below hb); (replace RX := RX.below hb); (replace BB := BB.trans (hb.mono BB.size)); clear hb))
  go_region_held_law (fun _ => True) (trivial) (fail)
  all_goals
    go_wp2_with (first
      | (go_at_call 11; (with_reducible refine (tadd (rw_pre RX hn hx).drew (rw_pre RY hn2 hy).drew hm).mono ?_); rintro e w5 ⟨ga, za, rfl, KA, OA, hb⟩; (replace hb := und1 hb); (replace OA : Rw w5 w4.heap.size (.slice (some ⟨ga, 0, none⟩) n n) n za := OA); (have LA := OA.lt); (have Z5 := hb.size); (replace SA := SA.below hb); (replace SB := SB.below hb); (replace RX := RX.below hb); (replace RY := RY.below hb); (replace BB := BB.trans (hb.mono BB.size)); clear hb)
      | (go_at_call 12; (with_reducible refine (tsub (rw_pre RX hn hx) (rw_pre RY hn2 hy) hm).mono ?_); rintro e w6 ⟨gb, zb, rfl, KB, OB, hb⟩; (have LB := OB.lt); (have Z6 := hb.size); (replace SA := SA.below hb); (replace SB := SB.below hb); (replace RX := RX.below hb); (replace RY := RY.below hb); (replace OA := OA.below hb); (replace BB := BB.trans (hb.mono BB.size)); clear hb)
      | (go_at_call 13; (with_reducible refine (ldot_ok (rw_pre RX hn hx) (rw_pre RY hn2 hy) hm).mono ?_); rintro e w' ⟨s1, s2, m1, rfl, hs, rfl⟩; (have HD : Hid (repz (sumZ (zipF mulZ (fun j => anz (zat xs j)) (fun j => anz (zat ys j))) n) (s1, s2)) := hs); clear hs)
      | (go_at_call 14; (with_reducible refine (linner_ok ((rw_pre RX hn hx).drewN _) ((rw_pre RY hn2 hy).drewN _) hm).mono ?_); rintro e w' ⟨i1, i2, m2, rfl, hs, rfl⟩; (have HI : Hid (repz (sumZ (zipF innZ (fun j => anz (zat xs j)) (fun j => anz (zat ys j))) n) (i1, i2)) := hs); clear hs)
      | (go_at_call 15; (with_reducible refine (tconj ((rw_pre RX hn hx).drewN _) hs1).mono ?_); rintro e w7 ⟨gc, zc, rfl, KC, OC, hb⟩; (replace hb := und hb); (replace OC : Rw w7 w6.heap.size (.slice (some ⟨gc, 0, none⟩) n n) n zc := OC); (have LC := OC.lt); (have Z7 := hb.size); (replace SA := SA.below hb); (replace SB := SB.below hb); (replace RX := RX.below hb); (replace RY := RY.below hb); (replace OA := OA.below hb); (replace OB := OB.below hb); (replace BB := BB.trans (hb.mono BB.size)); clear hb)
      | (go_at_call 16; (with_reducible refine (tradd SA.lst SB.lst hm).mono ?_); rintro e w8 ⟨AW, CW, zw, rfl, KW, OW, hb⟩; (have Z8 := hb.size); (replace SA := SA.below hb); (replace SB := SB.below hb); (replace RX := RX.below hb); (replace RY := RY.below hb); (replace OA := OA.below hb); (replace OB := OB.below hb); (replace OC := OC.below hb); (replace BB := BB.trans (hb.mono BB.size)); clear hb)
      | (go_at_call 17; (with_reducible refine (trsub SA.lst SB.lst hm).mono ?_); rintro e w9 ⟨AV, CV, zv, rfl, KV, OV, hb⟩; (have Z9 := hb.size); (replace SA := SA.below hb); (replace SB := SB.below hb); (replace OW := OW.below hb); (replace RX := RX.below hb); (replace RY := RY.below hb); (replace OA := OA.below hb); (replace OB := OB.below hb); (replace OC := OC.below hb); (replace BB := BB.trans (hb.mono BB.size)); clear hb)
      | (go_at_call 18; (with_reducible refine (trdot SA.lst SB.lst hm).mono ?_); rintro e w' ⟨t1, t2, m3, rfl, hs, rfl⟩; (have HSD : Hid ((smB s1 t1 && smB s2 t2) = true) := smBB HD.out hs); clear hs)
      | (go_at_call 19; (with_reducible refine (trinner (SA.drewN _).lst (SB.drewN _).lst hm).mono ?_); rintro e w' ⟨j1, j2, m4, rfl, hs, rfl⟩; (have HSI : Hid ((smB i1 j1 && smB i2 j2) = true) := smBB HI.out hs); clear hs)
      | (go_at_call 20; (with_reducible refine (ksame_any s1 s2 t1 t2 _).mono ?_); rintro e w' ⟨rfl, rfl⟩; rw [HSD.out])
      | (go_at_call 20; (with_reducible refine (ksame_any i1 i2 j1 j2 _).mono ?_); rintro e w' ⟨rfl, rfl⟩; rw [HSI.out])
      | (go_at_call 22; (with_reducible refine (lnorm_any ((rw_pre RX hn hx).drewN _) hs1).mono ?_); rintro e w' ⟨o, m6, rfl, ho, rfl⟩)
      | (go_at_call 23; (with_reducible refine (trnorm (SA.drewN _).lst hs1).mono ?_); rintro e w' ⟨o2, m7, rfl, ho2, rfl⟩; (have HS2 : Hid (smB o o2 = true) := smB_of ho ho2); clear ho2 ho)
      | (go_at_call 21; (with_reducible refine (ksameR_any o o2 _).mono ?_); rintro e w' ⟨rfl, rfl⟩; rw [HS2.out])
      | (go_at_call 24; (with_reducible refine (lmax_any ((rw_pre RX hn hx).drewN _) hs1).mono ?_); rintro e w' ⟨m8, rfl, rfl⟩; rw [← HMX.out])
      | (go_at_call 25; (with_reducible refine (trmax (SA.drewN _).lst hs1).mono ?_); rintro e w' ⟨m9, rfl, rfl⟩; rw [← HMX.out])
      | (go_at_call 21; (with_reducible refine (ksameR_any mx mx _).mono ?_); rintro e w' ⟨rfl, rfl⟩; rw [smB_self])
      | (go_at_call 26; (with_reducible refine (tkept (SA.drewN _) hz1 (RX.drewN _)).mono ?_); rintro e w10 ⟨rfl, hb⟩; (replace hb := und hb); (have Z10 := hb.size); (replace SA := SA.below hb); (replace SB := SB.below hb); (replace RX := RX.below hb); (replace RY := RY.below hb); (replace OA := OA.below hb); (replace OB := OB.below hb); (replace OC := OC.below hb); (replace OW := OW.below hb); (replace OV := OV.below hb); (replace BB := BB.trans (hb.mono BB.size)); clear hb)
      | (go_at_call 26; (with_reducible refine (tkept SB hz2 RY).mono ?_); rintro e w11 ⟨rfl, hb⟩; (have Z11 := hb.size); (replace SA := SA.below hb); (replace SB := SB.below hb); (replace RX := RX.below hb); (replace RY := RY.below hb); (replace OA := OA.below hb); (replace OB := OB.below hb); (replace OC := OC.below hb); (replace OW := OW.below hb); (replace OV := OV.below hb); (replace BB := BB.trans (hb.mono BB.size)); clear hb)
      | (go_at_call 27; (with_reducible refine (tover RX (by omega)).mono ?_); rintro e w12 ⟨rfl, RX2, ho⟩; (have Z12 := ho.size); (replace RY := RY.only ho (nblk (by omega))); (replace OA := OA.only ho (nown OA (by omega))); (replace OB := OB.only ho (nown OB (by omega))); (replace OC := OC.only ho (nown OC (by omega))); (replace OW := OW.only ho (nown OW (by omega))); (replace OV := OV.only ho (nown OV (by omega))); (replace SA := SA0.only SA ho (by omega)); (replace SB := SB0.only SB ho (by omega)); (replace BB := below_only BB ho (by omega)); clear RX ho)
      | (go_at_call 27; (with_reducible refine (tover RY (by omega)).mono ?_); rintro e w13 ⟨rfl, RY2, ho⟩; (have Z13 := ho.size); (replace RX2 := RX2.only ho (nblk (by omega))); (replace OA := OA.only ho (nown OA (by omega))); (replace OB := OB.only ho (nown OB (by omega))); (replace OC := OC.only ho (nown OC (by omega))); (replace OW := OW.only ho (nown OW (by omega))); (replace OV := OV.only ho (nown OV (by omega))); (replace SA := SA0.only SA ho (by omega)); (replace BB := below_only BB ho (by omega)); clear RY ho SB SB0)
      | (go_at_call 28; (with_reducible refine (tsame (rw_lst OA KA.out) (rw_lst OW KW.out) hs1).mono ?_); rintro e w' ⟨m11, rfl, rfl⟩; clear OW KW KA)
      | (go_at_call 28; (with_reducible refine (tsame ((rw_lst OB KB.out).drewN _) ((rw_lst OV KV.out).drewN _) hs1).mono ?_); rintro e w' ⟨m12, rfl, rfl⟩; clear OV KV KB)
      | (go_at_call 29; (with_reducible refine (trconj (SA.drewN _).lst hs1).mono ?_); rintro e w14 ⟨AS, CS, zr, rfl, KR, OR, hb⟩; (replace hb := und hb); (have Z14 := hb.size); (replace RX2 := RX2.below hb); (replace RY2 := RY2.below hb); (replace OA := OA.below hb); (replace OB := OB.below hb); (replace OC := OC.below hb); (replace BB := BB.trans (hb.mono BB.size)); clear hb SA SA0)
      | (go_at_call 28; (with_reducible refine (tsame (rw_lst OC KC.out) (rw_lst OR KR.out) hs1).mono ?_); rintro e w' ⟨m13, rfl, rfl⟩; clear OR KR KC)
      | (go_at_call 30; (refine (kapart_any w.heap.size _ 5 w.heap.size (pk5 (n + 6) (n + 6) n n n) (pk5 (.slice (some ⟨gx, 0, none⟩) (n + 6) cxx) (.slice (some ⟨gy, 0, none⟩) (n + 6) cy) (.slice (some ⟨ga, 0, none⟩) n n) (.slice (some ⟨gb, 0, none⟩) n n) (.slice (some ⟨gc, 0, none⟩) n n)) (pk5 (marks 9 (n + 6)) (marks 9 (n + 6)) za zb zc) _ (by omega) (by omega) (many5 (w := w14.drewN m13) 23 BS2 Z3 Z4 Z5 Z6 (RX2.drewN m13) (RY2.drewN m13) (OA.drewN m13) (OB.drewN m13) (OC.drewN m13) (blk (by omega)) (blk (by omega)) (blk (by omega)) (blk (by omega))) (five hzz hzz hz1 hz1 hz1) (five (blkge (by omega)) (blkge (by omega)) (blkge (by omega)) (blkge (by omega)) (blkge (by omega))) (by simp; omega) (by simp; omega)).mono ?_); rintro e w15 ⟨rfl, hb⟩))
    all_goals
      go_ret
      exact ⟨rfl, ((below_drewN BB _).alloc (by simp; omega) _).trans hb⟩
end Go.Proofs.Ytlpfjaldmokdfaa
