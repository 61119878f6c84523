/-
  The walk of VectorPairs where the lists are too long or have not as many numbers: it hands back true and only lays new memory.
-/
import Derived.Test.YtlpfjaldmokdfaaWVPairs
namespace Go.Proofs.Ytlpfjaldmokdfaa
open Fl RowKit


set_option maxRecDepth 10000 in
set_option maxHeartbeats 32000000 in
theorem vpairs_err (ao bo : Option Addr) (ca cb n n2 : Nat) (xs ys : List Cw) (w : World) (hn : xs.length = n) (hn2 : ys.length = n2) (hw1 : n * 16 + 192 ≤ 140737488355328) (hw2 : n2 * 16 + 192 ≤ 140737488355328) (hb1 : n ≤ 1000000000000000) (hb2 : n2 ≤ 1000000000000000) (E : Int) (he : ¬ E = 0) (hE : E = errV n n2) (hc : Rz w ao xs) (hd : Rz w bo ys) (hx : okl xs) (hy : okl ys) :
    Calls Try.prog 3 #[.slice ao n ca, .slice bo n2 cb] w fun e w' => e = .returned (.bool true) ∧ Below w.heap.size w w' := by
  have hs1 : n * 16 ≤ 140737488355328 := by omega
  have hz1 : n * 16 + 96 ≤ 140737488355328 := by omega
  have hzz : (n + 6) * 16 + 96 ≤ 140737488355328 := by omega
  have hs2 : n2 * 16 ≤ 140737488355328 := by omega
  have hz2 : n2 * 16 + 96 ≤ 140737488355328 := by omega
  have hzz2 : (n2 + 6) * 16 + 96 ≤ 140737488355328 := by omega
  have st : Stg 0 := ⟨trivial⟩
  obtain ⟨mx, hmx⟩ : ∃ mx, mx = nmx xs n := ⟨_, rfl⟩
  have HMX : Hid (mx = nmx xs n) := hmx
  clear hmx
  have HE : Hid (E = errV n n2) := hE
  clear hE
  go_enter Try.func3, Try.ntmps3
  go_wp2_with (first
    | ((have _ := (st : Stg 0)); go_at_call 9; (with_reducible refine (tnumbers hn hs1 hx hc).mono ?_); rintro e w1 ⟨A, C, rfl, SA, BB⟩; clear st; (have st : Stg 1 := ⟨trivial⟩); (have hd := hd.below BB); clear hc)
    | ((have _ := (st : Stg 1)); go_at_call 9; (with_reducible refine (tnumbers hn2 hs2 hy hd).mono ?_); rintro e w2 ⟨D, G, rfl, SB, hb⟩; clear st; (have st : Stg 2 := ⟨trivial⟩); (replace SA := SA.below hb); (replace BB := BB.trans (hb.mono BB.size)); (have BS2 := BB.size); clear hb hd)
    | ((have _ := (st : Stg 2)); go_at_call 10; (with_reducible refine (tlent SA hz1).mono ?_); rintro e w3 ⟨gx, cxx, rfl, ⟨hcx, hcx2⟩, RX, hb⟩; clear st; (have st : Stg 3 := ⟨trivial⟩); (have SA0 := SA); (have SB0 := SB); (have LX := RX.lt); (have Z3 := hb.size); (replace SA := SA.below hb); (replace SB := SB.below hb); (replace BB := BB.trans (hb.mono BB.size)); clear hb)
    | ((have _ := (st : Stg 3)); go_at_call 10; (with_reducible refine (tlent SB hz2).mono ?_); rintro e w4 ⟨gy, cy, rfl, ⟨hcy, hcy2⟩, RY, hb⟩; clear st; (have st : Stg 4 := ⟨trivial⟩); (have LY := RY.lt); (have Z4 := hb.size); (replace SA := SA.below hb); (replace SB := SB.below hb); (replace RX := RX.below hb); (replace BB := BB.trans (hb.mono BB.size)); clear hb))
  go_region_held_law (fun _ => True) (trivial) (fail)
  all_goals
    go_wp2_with (first
      | (go_at_call 11; (with_reducible refine (eadd _ _ _ _ _ hb1 hb2 he HE.out).mono ?_); rintro e w' ⟨rfl, rfl⟩)
      | (go_at_call 12; (with_reducible refine (esub _ _ _ _ _ hb1 hb2 he HE.out).mono ?_); rintro e w' ⟨rfl, rfl⟩)
      | (go_at_call 13; (with_reducible refine (edot _ _ _ _ _ hb1 hb2 he HE.out).mono ?_); rintro e w' ⟨rfl, rfl⟩)
      | (go_at_call 14; (with_reducible refine (einner _ _ _ _ _ hb1 hb2 he HE.out).mono ?_); rintro e w' ⟨rfl, rfl⟩)
      | (go_at_call 15; (with_reducible refine (tconj (rw_pre RX hn hx).drew hs1).mono ?_); rintro e w7 ⟨gc, zc, rfl, KC, OC, hb⟩; (replace hb := und1 hb); (replace OC : Rw w7 w4.heap.size (.slice (some ⟨gc, 0, none⟩) n n) n zc := OC); (have LC := OC.lt); (have Z7 := hb.size); (replace SA := SA.below hb); (replace SB := SB.below hb); (replace RX := RX.below hb); (replace RY := RY.below hb); (replace BB := BB.trans (hb.mono BB.size)); clear hb)
      | (go_at_call 16; (with_reducible refine (fadd A D C G _ hb1 hb2 he HE.out).mono ?_); rintro e w' ⟨rfl, hw'⟩; subst w')
      | (go_at_call 17; (with_reducible refine (fsub A D C G _ hb1 hb2 he HE.out).mono ?_); rintro e w' ⟨rfl, hw'⟩; subst w')
      | (go_at_call 18; (with_reducible refine (fdot A D C G _ hb1 hb2 he HE.out).mono ?_); rintro e w' ⟨rfl, hw'⟩; subst w')
      | (go_at_call 19; (with_reducible refine (finner A D C G _ hb1 hb2 he HE.out).mono ?_); rintro e w' ⟨rfl, hw'⟩; subst w')
      | (go_at_call 20; (with_reducible refine (same_none _).mono ?_); rintro e w' ⟨rfl, hw'⟩; subst w')
      | (go_at_call 22; (with_reducible refine (lnorm_any (rw_pre RX hn hx) hs1).mono ?_); rintro e w' ⟨o, m6, rfl, ho, rfl⟩)
      | (go_at_call 23; (with_reducible refine (trnorm (SA.drewN _).lst hs1).mono ?_); rintro e w' ⟨o2, m7, rfl, ho2, rfl⟩; (have HS2 : Hid (smB o o2 = true) := smB_of ho ho2); clear ho2 ho)
      | (go_at_call 21; (with_reducible refine (ksameR_any o o2 _).mono ?_); rintro e w' ⟨rfl, rfl⟩; rw [HS2.out])
      | (go_at_call 24; (with_reducible refine (lmax_any ((rw_pre RX hn hx).drewN _) hs1).mono ?_); rintro e w' ⟨m8, rfl, rfl⟩; rw [← HMX.out])
      | (go_at_call 25; (with_reducible refine (trmax (SA.drewN _).lst hs1).mono ?_); rintro e w' ⟨m9, rfl, rfl⟩; rw [← HMX.out])
      | (go_at_call 21; (with_reducible refine (ksameR_any mx mx _).mono ?_); rintro e w' ⟨rfl, rfl⟩; rw [smB_self])
      | (go_at_call 26; (with_reducible refine (tkept (SA.drewN _) hz1 (RX.drewN _)).mono ?_); rintro e w10 ⟨rfl, hb⟩; (replace hb := und hb); (have Z10 := hb.size); (replace SA := SA.below hb); (replace SB := SB.below hb); (replace RX := RX.below hb); (replace RY := RY.below hb); (replace OC := OC.below hb); (replace BB := BB.trans (hb.mono BB.size)); clear hb)
      | (go_at_call 26; (with_reducible refine (tkept SB hz2 RY).mono ?_); rintro e w11 ⟨rfl, hb⟩; (have Z11 := hb.size); (replace SA := SA.below hb); (replace SB := SB.below hb); (replace RX := RX.below hb); (replace RY := RY.below hb); (replace OC := OC.below hb); (replace BB := BB.trans (hb.mono BB.size)); clear hb)
      | (go_at_call 27; (with_reducible refine (tover RX (by omega)).mono ?_); rintro e w12 ⟨rfl, RX2, ho⟩; (have Z12 := ho.size); (replace RY := RY.only ho (nblk (by omega))); (replace OC := OC.only ho (nown OC (by omega))); (replace SA := SA0.only SA ho (by omega)); (replace SB := SB0.only SB ho (by omega)); (replace BB := below_only BB ho (by omega)); clear RX ho)
      | (go_at_call 27; (with_reducible refine (tover RY (by omega)).mono ?_); rintro e w13 ⟨rfl, RY2, ho⟩; (have Z13 := ho.size); (replace RX2 := RX2.only ho (nblk (by omega))); (replace OC := OC.only ho (nown OC (by omega))); (replace SA := SA0.only SA ho (by omega)); (replace BB := below_only BB ho (by omega)); clear RY ho SB SB0)
      | (go_at_call 28; (with_reducible refine (tsame_none _).mono ?_); rintro e w' ⟨m11, rfl, rfl⟩)
      | (go_at_call 29; (with_reducible refine (trconj (SA.drewN _).lst hs1).mono ?_); rintro e w14 ⟨AS, CS, zr, rfl, KR, OR, hb⟩; (replace hb := und hb); (have Z14 := hb.size); (replace RX2 := RX2.below hb); (replace RY2 := RY2.below hb); (replace OC := OC.below hb); (replace BB := BB.trans (hb.mono BB.size)); clear hb SA SA0)
      | (go_at_call 28; (with_reducible refine (tsame (rw_lst OC KC.out) (rw_lst OR KR.out) hs1).mono ?_); rintro e w' ⟨m13, rfl, rfl⟩; clear OR KR KC)
      | (go_at_call 30; (refine (kapart_any w.heap.size _ 5 w.heap.size (pk5 (n + 6) (n2 + 6) 0 0 n) (pk5 (.slice (some ⟨gx, 0, none⟩) (n + 6) cxx) (.slice (some ⟨gy, 0, none⟩) (n2 + 6) cy) (.slice none 0 0) (.slice none 0 0) (.slice (some ⟨gc, 0, none⟩) n n)) (pk5 (marks 9 (n + 6)) (marks 9 (n2 + 6)) [] [] zc) _ (by omega) (by omega) (many5 (w := w14.drewN m13) 23 BS2 Z3 Z4 (Nat.le_refl _) (Nat.le_refl _) (RX2.drewN m13) (RY2.drewN m13) (rw_nil _ _) (rw_nil _ _) (OC.drewN m13) (blk (by omega)) (blk (by omega)) blk_none blk_none) (five hzz hzz2 (by show (0 : Nat) * 16 + 96 ≤ _; omega) (by show (0 : Nat) * 16 + 96 ≤ _; omega) hz1) (five (blkge (by omega)) (blkge (by omega)) (fun g e => by simp [pk5, Value.ownBlock] at e) (fun g e => by simp [pk5, Value.ownBlock] at e) (blkge (by omega))) (by simp; omega) (by simp; omega)).mono ?_); rintro e w15 ⟨rfl, hb⟩))
    all_goals
      go_ret
      exact ⟨rfl, ((below_drewN BB _).alloc (by simp; omega) _).trans hb⟩
end Go.Proofs.Ytlpfjaldmokdfaa
