/-
  The walk of InverseMirror.
-/
import Derived.Test.YtomllbpkjhoepaaImr
import Derived.Test.YtomllbpkjhoepaaBnb
import Derived.Deep.RegionHeldLaw
namespace Go.Proofs.Ytomllbpkjhoepaa
open Fl RowKit

theorem conjT' (R C : Int) (ao : Option Addr) (cap n : Nat) (f : Nat → Cw) (w : World) (hsz : n ≤ 4096) (hc : Rc w ao (ro n f)) (hx : ∀ k, k < n → okz (f k)) :
    Calls Try.prog 23 #[.agg #[.int .i64 R, .int .i64 C, .slice ao n cap]] w fun e w' => ∃ A c, e = .returned (.agg #[.int .i64 R, .int .i64 C, .slice A n c]) ∧ Rc w' A (ro n (fun k => cjw (f k))) ∧ Below w.heap.size w w' := by
  refine (conjM_any R C ao cap n f w hsz hc hx).mono ?_
  rintro e w' ⟨A, c, rfl, hR, hb⟩
  exact ⟨A, c, rfl, rw_rc hR, hb⟩
set_option maxRecDepth 20000 in
set_option maxHeartbeats 8000000 in
theorem imir_walk (a : Int) (N : Nat) (xs : List Cw) (ao : Option Addr) (cap n : Nat) (w : World) (hn : xs.length = n) (hsz : n * 16 ≤ 140737488355328) (hc : Rz w ao xs) (hx : okl xs) (hN : N ≤ 64)
    (SQ : ∀ (ao : Option Addr) (cap n : Nat) (xs : List Cw) (w : World), xs.length = n → n * 16 ≤ 140737488355328 → Rz w ao xs → Calls Try.prog 22 #[.int .i64 a, .slice ao n cap] w fun e w' => ∃ A c, e = .returned (.agg #[.int .i64 N, .int .i64 N, .slice A (N * N) c]) ∧ Rw w' w.heap.size (.slice A (N * N) c) (N * N) (ro (N * N) (zat xs)) ∧ Below w.heap.size w w') :
    Calls Try.prog 6 #[.int .i64 a, .slice ao n cap] w fun e w' => e = .returned (.bool true) ∧ Below w.heap.size w w' := by
  obtain ⟨E, b, E', b', X, R, L, g, g', hX, hL, hg, I1, I2, C1, C2, hEQ⟩ := imir_cases N (zat xs) hN (fun k _ => hx k)
  have h4 := le_4096 hN hN
  unfold InvG at I1 I2
  unfold CarG at C1 C2
  obtain ⟨T, hT⟩ : ∃ T, T = N * N := ⟨_, rfl⟩
  rw [← hT] at SQ h4 I1 I2 C1 C2
  have HSQ := hid_o SQ
  have HI1 := hid_o I1
  have HI2 := hid_o I2
  have HC1 := hid_o C1
  have HC2 := hid_o C2
  have HEQ := hid_o hEQ
  have HG := hid_o hg
  have HC := hid_o hc
  have HX := hid_o hx
  have HL : Hid (L ≤ 65536) := by show L ≤ 65536; omega
  have hoX := order_num hX
  have HK : Hid (∀ (W : World) (A : Option Addr) (c : Nat), Rc W A (ro T (zat xs)) → Calls Try.prog 23 #[.agg #[.int .i64 N, .int .i64 N, .slice A T c]] W fun e w' => ∃ A' c', e = .returned (.agg #[.int .i64 N, .int .i64 N, .slice A' T c']) ∧ Sl w' A' c' (ro T (fun k => cjw (zat xs k))) ∧ Below W.heap.size W w') := fun W A c h => by
    refine (conjM_any N N A c T (zat xs) W h4 h (fun k _ => hx k)).mono ?_
    rintro e w' ⟨A', c', rfl, hR, hb⟩
    exact ⟨A', c', rfl, rw_sl hR, hb⟩
  have HKG : Hid (∀ (W : World) (A : Option Addr) (c : Nat), Rc W A (ro L g) → Calls Try.prog 23 #[.agg #[.int .i64 R, .int .i64 R, .slice A L c]] W fun e w' => ∃ A' c', e = .returned (.agg #[.int .i64 R, .int .i64 R, .slice A' L c']) ∧ Rc w' A' (ro L (fun k => cjw (g k))) ∧ Below W.heap.size W w') := fun W A c h => conjT' R R A c L g W hL h hg
  clear SQ I1 I2 C1 C2 hEQ hg hc hx hX hL h4 hT hN
  have st : Stg 0 := ⟨trivial⟩
  go_enter Try.func6, Try.ntmps6
  go_wp2_with (first
    | (go_at_call 22; (refine (HSQ.out _ _ _ _ _ hn hsz HC.out).mono ?_); rintro e w1 ⟨A, c, rfl, hR, hb⟩; (have VM := hid_o (v3_new w1 (.int .i64 N) (.int .i64 N) (.slice A T c) 28)); (have SM := hid_o ((rw_sl hR).below (bal _ (.cells #[.int .i64 N, .int .i64 N, .slice A T c] 28)))); (have B1 := hid_o (ba hb (.cells #[.int .i64 N, .int .i64 N, .slice A T c] 28))); (have BM := hid_o (Below.refl (w1.alloc (.cells #[.int .i64 N, .int .i64 N, .slice A T c] 28)).heap.size (w1.alloc (.cells #[.int .i64 N, .int .i64 N, .slice A T c] 28)))); clear hR hb)
    | ((have _ := (st : Stg 0)); go_at_call 13; (with_reducible refine (HI1.out _ _ _ SM.out).mono ?_); rintro e w2 ⟨A2, c2, rfl, hR, hb⟩; (have VA := hid_o ((v3_new w2 (.int .i64 R) (.int .i64 R) (.slice A2 L c2) 28).below (bal _ (.cells #[.int .i64 E, .int .i64 b] 39)))); (have VF := hid_o (v2_at (w2.alloc (.cells #[.int .i64 R, .int .i64 R, .slice A2 L c2] 28)) (.int .i64 E) (.int .i64 b) 39 (show (w2.alloc (.cells #[.int .i64 R, .int .i64 R, .slice A2 L c2] 28)).heap.size = w2.heap.size + 1 by simp))); (have RA := hid_o ((hR.below (bal _ (.cells #[.int .i64 R, .int .i64 R, .slice A2 L c2] 28))).below (bal _ (.cells #[.int .i64 E, .int .i64 b] 39)))); (have BY := bt (bt (bt BM.out hb) (bal _ (.cells #[.int .i64 R, .int .i64 R, .slice A2 L c2] 28))) (bal _ (.cells #[.int .i64 E, .int .i64 b] 39))); (replace BM := hid_o BY); (obtain ⟨ml, m0, m1, m2, _, _, _⟩ := VM.out.below BY); (have BN := hid_o (Below.refl ((w2.alloc (.cells #[.int .i64 R, .int .i64 R, .slice A2 L c2] 28)).alloc (.cells #[.int .i64 E, .int .i64 b] 39)).heap.size ((w2.alloc (.cells #[.int .i64 R, .int .i64 R, .slice A2 L c2] 28)).alloc (.cells #[.int .i64 E, .int .i64 b] 39)))); clear hR hb BY st; (have st : Stg 1 := ⟨trivial⟩))
    | ((have _ := (st : Stg 1)); go_at_call 23; (with_reducible refine (HK.out _ _ _ (SM.out.below BM.out).rd).mono ?_); rintro e w3 ⟨A3, c3, rfl, hS, hb⟩; (have S3 := hid_o hS); (replace BM := hid_o (bt BM.out hb)); (replace BN := hid_o (bt BN.out hb)); clear hS hb st ml m0 m1 m2; (have st : Stg 2 := ⟨trivial⟩))
    | ((have _ := (st : Stg 2)); go_at_call 13; (with_reducible refine (HI2.out _ _ _ S3.out).mono ?_); rintro e w4 ⟨A4, c4, rfl, hR, hb⟩; (have VB := hid_o ((v3_new w4 (.int .i64 R) (.int .i64 R) (.slice A4 L c4) 28).below (bal _ (.cells #[.int .i64 E, .int .i64 b] 39)))); (have VG := hid_o (v2_at (w4.alloc (.cells #[.int .i64 R, .int .i64 R, .slice A4 L c4] 28)) (.int .i64 E) (.int .i64 b) 39 (show (w4.alloc (.cells #[.int .i64 R, .int .i64 R, .slice A4 L c4] 28)).heap.size = w4.heap.size + 1 by simp))); (have RB := hid_o ((hR.below (bal _ (.cells #[.int .i64 R, .int .i64 R, .slice A4 L c4] 28))).below (bal _ (.cells #[.int .i64 E, .int .i64 b] 39)))); (have BY := bt (bt (bt BM.out hb) (bal _ (.cells #[.int .i64 R, .int .i64 R, .slice A4 L c4] 28))) (bal _ (.cells #[.int .i64 E, .int .i64 b] 39))); (replace BM := hid_o BY); (replace BN := hid_o (bt (bt (bt BN.out hb) (bal _ (.cells #[.int .i64 R, .int .i64 R, .slice A4 L c4] 28))) (bal _ (.cells #[.int .i64 E, .int .i64 b] 39)))); (obtain ⟨ml, m0, m1, m2, _, _, _⟩ := VM.out.below BY); (have BO := hid_o (Below.refl ((w4.alloc (.cells #[.int .i64 R, .int .i64 R, .slice A4 L c4] 28)).alloc (.cells #[.int .i64 E, .int .i64 b] 39)).heap.size ((w4.alloc (.cells #[.int .i64 R, .int .i64 R, .slice A4 L c4] 28)).alloc (.cells #[.int .i64 E, .int .i64 b] 39)))); clear hR hb BY st S3; (have st : Stg 3 := ⟨trivial⟩))
    | ((have _ := (st : Stg 3)); go_at_call 15; (with_reducible refine (HC1.out _ _ _ (SM.out.below BM.out)).mono ?_); rintro e w5 ⟨rfl, hb⟩; (have VH := hid_o (v2_new w5 (.int .i64 E') (.int .i64 b') 39)); (have BY := bt (bt BM.out hb) (bal _ (.cells #[.int .i64 E', .int .i64 b'] 39))); (replace BM := hid_o BY); (replace BN := hid_o (bt (bt BN.out hb) (bal _ (.cells #[.int .i64 E', .int .i64 b'] 39)))); (replace BO := hid_o (bt (bt BO.out hb) (bal _ (.cells #[.int .i64 E', .int .i64 b'] 39)))); (have BP := hid_o (Below.refl (w5.alloc (.cells #[.int .i64 E', .int .i64 b'] 39)).heap.size (w5.alloc (.cells #[.int .i64 E', .int .i64 b'] 39)))); (clear ml m0 m1 m2); (obtain ⟨ml, m0, m1, m2, _, _, _⟩ := VM.out.below BY); clear hb BY st; (have st : Stg 4 := ⟨trivial⟩))
    | ((have _ := (st : Stg 4)); go_at_call 23; (with_reducible refine (HK.out _ _ _ (SM.out.below BM.out).rd).mono ?_); rintro e w6 ⟨A6, c6, rfl, hS, hb⟩; (have S6 := hid_o hS); (replace BM := hid_o (bt BM.out hb)); (replace BN := hid_o (bt BN.out hb)); (replace BO := hid_o (bt BO.out hb)); (replace BP := hid_o (bt BP.out hb)); clear hS hb st ml m0 m1 m2; (have st : Stg 5 := ⟨trivial⟩))
    | ((have _ := (st : Stg 5)); go_at_call 15; (with_reducible refine (HC2.out _ _ _ S6.out).mono ?_); rintro e w7 ⟨rfl, hb⟩; (have VI := hid_o (v2_new w7 (.int .i64 E') (.int .i64 b') 39)); (replace BM := hid_o (bt (bt BM.out hb) (bal _ (.cells #[.int .i64 E', .int .i64 b'] 39)))); (replace BN := hid_o (bt (bt BN.out hb) (bal _ (.cells #[.int .i64 E', .int .i64 b'] 39)))); (replace BO := hid_o (bt (bt BO.out hb) (bal _ (.cells #[.int .i64 E', .int .i64 b'] 39)))); (replace BP := hid_o (bt (bt BP.out hb) (bal _ (.cells #[.int .i64 E', .int .i64 b'] 39)))); clear hb st))
  obtain ⟨wz, hwz⟩ : ∃ wz, wz = w7.alloc (.cells #[.int .i64 E', .int .i64 b'] 39) := ⟨_, rfl⟩
  rw [← hwz] at BM BN BO BP VI ⊢
  have Bz := hid_o (bt B1.out BM.out)
  have SA : Hid (∀ W : World, Below wz.heap.size wz W → W.cell? ⟨w2.heap.size + 1, 0, none⟩ = some (.int .i64 E) ∧ W.cell? ⟨w2.heap.size + 1, 1, none⟩ = some (.int .i64 b) ∧ W.cell? ⟨w4.heap.size + 1, 0, none⟩ = some (.int .i64 E) ∧ W.cell? ⟨w4.heap.size + 1, 1, none⟩ = some (.int .i64 b) ∧ W.cell? ⟨w5.heap.size, 0, none⟩ = some (.int .i64 E') ∧ W.cell? ⟨w5.heap.size, 1, none⟩ = some (.int .i64 b') ∧ W.cell? ⟨w7.heap.size, 0, none⟩ = some (.int .i64 E') ∧ W.cell? ⟨w7.heap.size, 1, none⟩ = some (.int .i64 b') ∧ W.cell? ⟨w2.heap.size, 0, none⟩ = some (.int .i64 R) ∧ W.cell? ⟨w2.heap.size, 1, none⟩ = some (.int .i64 R) ∧ W.cell? ⟨w2.heap.size, 2, none⟩ = some (.slice A2 L c2) ∧ W.cell? ⟨w4.heap.size, 0, none⟩ = some (.int .i64 R) ∧ W.cell? ⟨w4.heap.size, 1, none⟩ = some (.int .i64 R) ∧ W.cell? ⟨w4.heap.size, 2, none⟩ = some (.slice A4 L c4)) := fun W hW => ⟨(VF.out.below (bt BN.out hW)).c0, (VF.out.below (bt BN.out hW)).c1, (VG.out.below (bt BO.out hW)).c0, (VG.out.below (bt BO.out hW)).c1, (VH.out.below (bt BP.out hW)).c0, (VH.out.below (bt BP.out hW)).c1, (VI.out.below (bt (Below.refl _ _) hW)).c0, (VI.out.below (bt (Below.refl _ _) hW)).c1, (VA.out.below (bt BN.out hW)).c0, (VA.out.below (bt BN.out hW)).c1, (VA.out.below (bt BN.out hW)).c2, (VB.out.below (bt BO.out hW)).c0, (VB.out.below (bt BO.out hW)).c1, (VB.out.below (bt BO.out hW)).c2⟩
  have RAz := hid_o (RA.out.below BN.out)
  have RBz := hid_o (RB.out.below BO.out)
  have D0 : Hid (Below wz.heap.size wz wz.drew) := (Below.refl _ _).drew
  clear hwz BM BN BO BP
  go_region_held_law (fun W => W.cell? ⟨w2.heap.size + 1, 0, none⟩ = some (.int .i64 E) ∧ W.cell? ⟨w2.heap.size + 1, 1, none⟩ = some (.int .i64 b) ∧ W.cell? ⟨w4.heap.size + 1, 0, none⟩ = some (.int .i64 E) ∧ W.cell? ⟨w4.heap.size + 1, 1, none⟩ = some (.int .i64 b) ∧ W.cell? ⟨w5.heap.size, 0, none⟩ = some (.int .i64 E') ∧ W.cell? ⟨w5.heap.size, 1, none⟩ = some (.int .i64 b') ∧ W.cell? ⟨w7.heap.size, 0, none⟩ = some (.int .i64 E') ∧ W.cell? ⟨w7.heap.size, 1, none⟩ = some (.int .i64 b') ∧ W.cell? ⟨w2.heap.size, 0, none⟩ = some (.int .i64 R) ∧ W.cell? ⟨w2.heap.size, 1, none⟩ = some (.int .i64 R) ∧ W.cell? ⟨w2.heap.size, 2, none⟩ = some (.slice A2 L c2) ∧ W.cell? ⟨w4.heap.size, 0, none⟩ = some (.int .i64 R) ∧ W.cell? ⟨w4.heap.size, 1, none⟩ = some (.int .i64 R) ∧ W.cell? ⟨w4.heap.size, 2, none⟩ = some (.slice A4 L c4))
    (first | with_reducible exact SA.out _ HB4.out | with_reducible exact SA.out _ HB3.out | with_reducible exact SA.out _ HB2.out | with_reducible exact SA.out _ D0.out)
    (first
    | (go_at_call 23; (with_reducible refine (HKG.out _ _ _ (RAz.out.below D0.out)).mono ?_); rintro e w8 ⟨A8, c8, rfl, hR, hb⟩; (have R8 := hid_o hR); (have HB2 := hid_o (bt D0.out hb)); clear hR hb)
    | (go_at_call 18; (with_reducible refine (keqM R R (ro_len L _) (ro_len L _) R8.out (RBz.out.below HB2.out) HL.out HEQ.out).mono ?_); rintro e w9 ⟨rfl, hb⟩; (have HB3 := hid_o (bt HB2.out hb)); clear hb)
    | (go_at_call 19; (with_reducible refine (awake12 _).mono ?_); rintro e w10 ⟨rfl, hb⟩; (have HB4 := hid_o (bt HB3.out hb)); clear hb))
  all_goals
    go_wp2_with fail
    go_ret
    exact ⟨rfl, bt Bz.out HB4.out⟩

end Go.Proofs.Ytomllbpkjhoepaa
