/-
  The walk of LowerNames.
-/
import Derived.Test.YtiddmcbecoopoaaLna
namespace Go.Proofs.Ytiddmcbecoopoaa
open Fl RowKit

@[go_sem] theorem run_fieldM0 (R C : Int) (A : Option Addr) (n c : Nat) (w : World) : Sem.run Try.prog (Instr.field 26 (.agg #[.int .i64 R, .int .i64 C, .slice A n c]) 0) w = .ok (.int .i64 R) w := by kernel_rfl
@[go_sem] theorem run_fieldM1 (R C : Int) (A : Option Addr) (n c : Nat) (w : World) : Sem.run Try.prog (Instr.field 26 (.agg #[.int .i64 R, .int .i64 C, .slice A n c]) 1) w = .ok (.int .i64 C) w := by kernel_rfl
@[go_sem] theorem run_fieldM2 (R C : Int) (A : Option Addr) (n c : Nat) (w : World) : Sem.run Try.prog (Instr.field 26 (.agg #[.int .i64 R, .int .i64 C, .slice A n c]) 2) w = .ok (.slice A n c) w := by kernel_rfl
@[go_sem] theorem run_negComplex9 (a b : Nat) (w : World) : (Op.unary UnOp.neg (.complex .f64 a b)).run Try.prog w = .ok (.complex .f64 (Op.negFloat .f64 a) (Op.negFloat .f64 b)) w := rfl
theorem hp_any {w : World} {p N : Nat} {S : Es} (h : Lh w p N S) (hN : N ≤ 64) : Calls Try.prog 26 #[.pointer (some ⟨p, 0, none⟩)] w fun e w' => ∃ g, e = .returned (.slice (some ⟨g, 0, none⟩) N N) ∧ Rc w' (some ⟨g, 0, none⟩) (ro N (fun i => S.M i i)) ∧ Below w.heap.size w w' := by
  obtain ⟨b, gr, go, bl, hL⟩ := h
  refine (pivots_any hN hL.hs hL.rws).mono ?_
  rintro e w' ⟨g, rfl, hR, hb⟩
  exact ⟨g, rfl, hR.rc, hb⟩
theorem hsz_any {w : World} {p N : Nat} {S : Es} (h : Lh w p N S) : Calls Try.prog 30 #[.pointer (some ⟨p, 0, none⟩)] w fun e w' => e = .returned (.int .i64 N) ∧ Below w.heap.size w w' := by
  obtain ⟨b, gr, go, bl, hL⟩ := h
  exact lsize_any hL.hs
theorem eqp_any {w : World} {g : Nat} (h : Rc w (some ⟨g, 0, none⟩) pA) : Calls Try.prog 25 #[.slice (some ⟨g, 0, none⟩) 2 2, .slice (some ⟨w.heap.size, 0, none⟩) 2 2] (w.alloc (.cells #[.complex .f64 4613937818241073152 0, .complex .f64 4604180019048437078 0] 53)) fun e w' => ∃ n, e = .returned (.bool true) ∧ w' = (w.alloc (.cells #[.complex .f64 4613937818241073152 0, .complex .f64 4604180019048437078 0] 53)).drewN n :=
  kequal_len 2 _ _ 2 2 pA [(4613937818241073152, 0), (4604180019048437078, 0)] _ (by decide) (ro_len _ _) rfl (h.below (bal _ _)) (al_rc2 w (4613937818241073152, 0) (4604180019048437078, 0) 53 _ rfl) eqPA
set_option maxHeartbeats 1000000 in
theorem refd_any (R C : Int) (A : Option Addr) (l c : Nat) (E q : Int) (w : World) (OF : ∀ W, Below w.heap.size w W → Calls Try.prog 15 #[.agg #[.int .i64 R, .int .i64 C, .slice A l c]] W fun e w' => e = .returned (.tuple #[.pointer none, .agg #[.int .i64 E, .int .i64 q]]) ∧ Below W.heap.size W w') :
    Calls Try.prog 28 #[.agg #[.int .i64 R, .int .i64 C, .slice A l c], .int .i64 E, .int .i64 q] w fun e w' => e = .returned (.bool true) ∧ Below w.heap.size w w' := by
  have HOF := hid_o (OF _ (bal w (.cells #[.int .i64 R, .int .i64 C, .slice A l c] 26)))
  clear OF
  go_enter Try.func28, Try.ntmps28
  go_wp2_with (go_at_call 15; (refine HOF.out.mono ?_); rintro e w1 ⟨rfl, hb⟩)
  go_ret
  exact ⟨rfl, ba (bt (bal _ _) hb) _⟩
theorem of_nil (W : World) : Calls Try.prog 15 #[.agg #[.int .i64 0, .int .i64 0, .slice none 0 0]] W fun e w' => ∃ p, e = .returned (.tuple #[.pointer (some ⟨p, 0, none⟩), .agg #[.int .i64 0, .int .i64 0]]) ∧ Lh w' p 0 ⟨fun _ _ => (0, 0), fun i => i, 1⟩ ∧ Below W.heap.size W w' := by
  refine (of_square 0 none 0 [] (fun _ _ => (0, 0)) W (by decide) rfl (by decide) (Rc.nil _ _) okl_nil rfl (fun i j hi => absurd hi (Nat.not_lt_zero _))).mono ?_
  rintro e w' ⟨_, h2, h3⟩
  obtain ⟨p, gr, go, bl, he, hL⟩ := h2 rfl
  exact ⟨p, he, ⟨_, gr, go, bl, hL⟩, h3⟩
theorem of_nan {W : World} {B : Nat} (h : Rc W (some ⟨B, 0, none⟩) [(9221120237041090561, 0)]) : Calls Try.prog 15 #[.agg #[.int .i64 1, .int .i64 1, .slice (some ⟨B, 0, none⟩) 1 1]] W fun e w' => e = .returned (.tuple #[.pointer none, .agg #[.int .i64 5, .int .i64 0]]) ∧ Below W.heap.size W w' :=
  of_number 1 (some ⟨B, 0, none⟩) 1 [(9221120237041090561, 0)] W (by decide) rfl h (okl_cons ⟨by decide, by decide⟩ okl_nil) (by decide)
theorem refd_EC {w : World} {B : Nat} (h : Rc w (some ⟨B, 0, none⟩) [(0, 0), (4607182418800017408, 0), (0, 0), (4611686018427387904, 0)]) : Calls Try.prog 28 #[.agg #[.int .i64 2, .int .i64 2, .slice (some ⟨B, 0, none⟩) 4 4], .int .i64 7, .int .i64 0] w fun e w' => e = .returned (.bool true) ∧ Below w.heap.size w w' := refd_any 2 2 _ 4 4 7 0 w (fun _ hW => of_EC (h.below hW))
theorem refd_ED {w : World} {B : Nat} (h : Rc w (some ⟨B, 0, none⟩) [(4607182418800017408, 0), (4611686018427387904, 0), (4611686018427387904, 0), (4616189618054758400, 0)]) : Calls Try.prog 28 #[.agg #[.int .i64 2, .int .i64 2, .slice (some ⟨B, 0, none⟩) 4 4], .int .i64 7, .int .i64 1] w fun e w' => e = .returned (.bool true) ∧ Below w.heap.size w w' := refd_any 2 2 _ 4 4 7 1 w (fun _ hW => of_ED (h.below hW))
theorem refd_EE {w : World} {B : Nat} (h : Rc w (some ⟨B, 0, none⟩) [(4607182418800017408, 0), (9214364837600034816, 0), (13830554455654793216, 0), (9214364837600034816, 0)]) : Calls Try.prog 28 #[.agg #[.int .i64 2, .int .i64 2, .slice (some ⟨B, 0, none⟩) 4 4], .int .i64 6, .int .i64 0] w fun e w' => e = .returned (.bool true) ∧ Below w.heap.size w w' := refd_any 2 2 _ 4 4 6 0 w (fun _ hW => of_EE (h.below hW))
theorem refd_13 (A : Option Addr) (w : World) : Calls Try.prog 28 #[.agg #[.int .i64 1, .int .i64 3, .slice A 3 3], .int .i64 4, .int .i64 (-1)] w fun e w' => e = .returned (.bool true) ∧ Below w.heap.size w w' := refd_any 1 3 A 3 3 4 (-1) w (fun W _ => of_shape 1 3 A 3 3 W (by decide) (fun h => absurd h.2 (by decide)))
theorem refd_65 (A : Option Addr) (w : World) : Calls Try.prog 28 #[.agg #[.int .i64 65, .int .i64 65, .slice A 4225 4225], .int .i64 4, .int .i64 (-1)] w fun e w' => e = .returned (.bool true) ∧ Below w.heap.size w w' := refd_any 65 65 A 4225 4225 4 (-1) w (fun W _ => of_shape 65 65 A 4225 4225 W (by decide) (fun h => absurd h.1 (by decide)))
theorem refd_nan {W : World} : Calls Try.prog 28 #[.agg #[.int .i64 1, .int .i64 1, .slice (some ⟨W.heap.size, 0, none⟩) 1 1], .int .i64 5, .int .i64 0] (W.alloc (.cells #[.complex .f64 9221120237041090561 0] 53)) fun e w' => e = .returned (.bool true) ∧ Below (W.alloc (.cells #[.complex .f64 9221120237041090561 0] 53)).heap.size (W.alloc (.cells #[.complex .f64 9221120237041090561 0] 53)) w' := refd_any 1 1 _ 1 1 5 0 _ (fun _ hV => of_nan ((al_rc1 W (9221120237041090561, 0) 53 _ rfl).below hV))
set_option maxRecDepth 20000 in
set_option maxHeartbeats 8000000 in
theorem names_any (w : World) : Calls Try.prog 6 #[] w fun e w' => e = .returned (.bool true) ∧ Below w.heap.size w w' := by
  have st : Stg 0 := ⟨trivial⟩
  have BB := hid_o (below_self w)
  have mk3 : ∀ w : World, (Instr.makeSlice 24 (.int .i64 3) (.int .i64 3)).run Try.prog w = .ok (.slice (some ⟨w.heap.size, 0, none⟩) 3 3) (w.alloc (.cells (madeCells #[.complex .f64 0 0] 3) 53)) := run_mkC 3 (by decide)
  have mk65 : ∀ w : World, (Instr.makeSlice 24 (.int .i64 4225) (.int .i64 4225)).run Try.prog w = .ok (.slice (some ⟨w.heap.size, 0, none⟩) 4225 4225) (w.alloc (.cells (madeCells #[.complex .f64 0 0] 4225) 53)) := run_mkC 4225 (by decide)
  obtain ⟨cs65, hcs⟩ : ∃ cs, cs = madeCells #[.complex .f64 0 0] 4225 := ⟨_, rfl⟩
  rw [← hcs] at mk65
  obtain ⟨cs3, hcs3⟩ : ∃ cs, cs = madeCells #[.complex .f64 0 0] 3 := ⟨_, rfl⟩
  rw [← hcs3] at mk3
  clear hcs hcs3
  have q1 := mulV_of f4
  have q2 := subV_of fD
  have q3 := cm2
  have q4 := nBIG
  have q5 := n00
  go_enter Try.func6, Try.ntmps6
  go_wp2_with (first
    | (go_at_call 22; (refine (sq_any _ _ _ _ _ _ _ _ _).mono ?_); rintro e ws ⟨Bq, rfl, hr, hb⟩; (try (clear RQ)); (try (replace HA := hid_o (HA.out.below hb))); (try (replace HB := hid_o (HB.out.below hb))); (try (replace HZ := hid_o (HZ.out.below hb))); (try (replace RX := hid_o (RX.out.below hb))); (try (replace QX := hid_o (QX.out.below hb))); (replace BB := hid_o (bt BB.out hb)); (have RQ := hid_o hr); clear hr hb)
    | ((have _ := (st : Stg 0)); go_at_call 15; (refine (of_EA RQ.out).mono ?_); rintro e w2 ⟨pa, rfl, hL, hb⟩; (have HA := hid_o (hL.below (bal _ (.cells #[.int .i64 0, .int .i64 0] 35)))); (replace BB := hid_o (ba (bt BB.out hb) (.cells #[.int .i64 0, .int .i64 0] 35))); clear hL hb RQ st; (have st : Stg 1 := ⟨trivial⟩))
    | ((have _ := (st : Stg 2)); go_at_call 15; (refine (of_EB RQ.out).mono ?_); rintro e w2 ⟨pb, rfl, hL, hb⟩; (have HB := hid_o (hL.below (bal _ (.cells #[.int .i64 0, .int .i64 0] 35)))); (replace HA := hid_o ((HA.out.below hb).below (bal _ (.cells #[.int .i64 0, .int .i64 0] 35)))); (replace BB := hid_o (ba (bt BB.out hb) (.cells #[.int .i64 0, .int .i64 0] 35))); clear hL hb RQ st; (have st : Stg 3 := ⟨trivial⟩))
    | ((have _ := (st : Stg 1)); go_at_call 19; (refine (ho_any HA.out (by decide)).mono ?_); rintro e w3 ⟨g3, rfl, hQ, hb⟩; (rw [oEA] at hQ); (have QX := hid_o (hQ.below (bal _ (.cells #[.int .i64 1, .int .i64 0] 3)))); (have QY := hid_o (qi2 w3 1 0 3 _ rfl)); (replace HA := hid_o ((HA.out.below hb).below (bal _ (.cells #[.int .i64 1, .int .i64 0] 3)))); (replace BB := hid_o (ba (bt BB.out hb) (.cells #[.int .i64 1, .int .i64 0] 3))); clear hQ hb)
    | (go_at_call 23; (refine (ksameI _ _ _ _ 2 [1, 0] _ rfl (by decide) QX.out QY.out).mono ?_); rintro e w4 ⟨m4, rfl, hw4⟩; subst w4; clear QX QY; (try (replace HA := hid_o (HA.out.drewN m4))); (try (replace HB := hid_o (HB.out.drewN m4))); (try (replace HZ := hid_o (HZ.out.drewN m4))); (try (replace RX := hid_o (RX.out.drewN m4))); (try (replace RQ := hid_o (RQ.out.drewN m4))); (try (replace QX := hid_o (QX.out.drewN m4))); (replace BB := hid_o (below_drewN BB.out m4)); (try (simp only [World.drewN_drewN] at BB)); (try (simp only [World.drewN_drewN] at HA)); (try (simp only [World.drewN_drewN] at HB)))
    | ((have _ := (st : Stg 1)); go_at_call 20; (refine (hs_any HA.out).mono ?_); rintro e w5 ⟨rfl, hb⟩; (rw [sEA]); (try (replace HA := hid_o (HA.out.below hb))); (try (replace HB := hid_o (HB.out.below hb))); (try (replace HZ := hid_o (HZ.out.below hb))); (try (replace RX := hid_o (RX.out.below hb))); (try (replace RQ := hid_o (RQ.out.below hb))); (try (replace QX := hid_o (QX.out.below hb))); (replace BB := hid_o (bt BB.out hb)); clear hb)
    | ((have _ := (st : Stg 1)); go_at_call 17; (refine (hl_any HA.out (by decide) (T := 4) rfl).mono ?_); rintro e w6 ⟨g6, rfl, hr, hb⟩; (try (clear RX)); (try (replace HA := hid_o (HA.out.below hb))); (try (replace HB := hid_o (HB.out.below hb))); (try (replace HZ := hid_o (HZ.out.below hb))); (try (replace RQ := hid_o (RQ.out.below hb))); (try (replace QX := hid_o (QX.out.below hb))); (replace BB := hid_o (bt BB.out hb)); (have RX : Hid (Rc w6 (some ⟨g6, 0, none⟩) lEA) := hr); (have mklEA : Stg 0 := ⟨trivial⟩); clear hr hb)
    | ((have _ := (st : Stg 1)); go_at_call 18; (refine (hu_any HA.out (by decide) (T := 4) rfl).mono ?_); rintro e w6 ⟨g6, rfl, hr, hb⟩; (try (clear RX)); (try (replace HA := hid_o (HA.out.below hb))); (try (replace HB := hid_o (HB.out.below hb))); (try (replace HZ := hid_o (HZ.out.below hb))); (try (replace RQ := hid_o (RQ.out.below hb))); (try (replace QX := hid_o (QX.out.below hb))); (replace BB := hid_o (bt BB.out hb)); (have RX : Hid (Rc w6 (some ⟨g6, 0, none⟩) uEA) := hr); (have mkuEA : Stg 0 := ⟨trivial⟩); clear hr hb)
    | ((have _ := (st : Stg 3)); go_at_call 17; (refine (hl_any HB.out (by decide) (T := 4) rfl).mono ?_); rintro e w6 ⟨g6, rfl, hr, hb⟩; (try (clear RX)); (try (replace HA := hid_o (HA.out.below hb))); (try (replace HB := hid_o (HB.out.below hb))); (try (replace HZ := hid_o (HZ.out.below hb))); (try (replace RQ := hid_o (RQ.out.below hb))); (try (replace QX := hid_o (QX.out.below hb))); (replace BB := hid_o (bt BB.out hb)); (have RX : Hid (Rc w6 (some ⟨g6, 0, none⟩) lEB) := hr); (have mklEB : Stg 0 := ⟨trivial⟩); clear hr hb)
    | ((have _ := (st : Stg 3)); go_at_call 18; (refine (hu_any HB.out (by decide) (T := 4) rfl).mono ?_); rintro e w6 ⟨g6, rfl, hr, hb⟩; (try (clear RX)); (try (replace HA := hid_o (HA.out.below hb))); (try (replace HB := hid_o (HB.out.below hb))); (try (replace HZ := hid_o (HZ.out.below hb))); (try (replace RQ := hid_o (RQ.out.below hb))); (try (replace QX := hid_o (QX.out.below hb))); (replace BB := hid_o (bt BB.out hb)); (have RX : Hid (Rc w6 (some ⟨g6, 0, none⟩) uEB) := hr); (have mkuEB : Stg 0 := ⟨trivial⟩); clear hr hb)
    | ((have _ := (mklEA : Stg 0)); go_at_call 24; (refine (keqM 2 2 (ro_len _ _) rfl RX.out RQ.out (by decide) eqLA).mono ?_); rintro e w7 ⟨rfl, hb⟩; clear RX RQ mklEA; (try (replace HA := hid_o (HA.out.below hb))); (try (replace HB := hid_o (HB.out.below hb))); (try (replace HZ := hid_o (HZ.out.below hb))); (try (replace RX := hid_o (RX.out.below hb))); (try (replace RQ := hid_o (RQ.out.below hb))); (try (replace QX := hid_o (QX.out.below hb))); (replace BB := hid_o (bt BB.out hb)); clear hb)
    | ((have _ := (mkuEA : Stg 0)); go_at_call 24; (refine (keqM 2 2 (ro_len _ _) rfl RX.out RQ.out (by decide) eqUA).mono ?_); rintro e w7 ⟨rfl, hb⟩; clear RX RQ mkuEA; (try (replace HA := hid_o (HA.out.below hb))); (try (replace HB := hid_o (HB.out.below hb))); (try (replace HZ := hid_o (HZ.out.below hb))); (try (replace RX := hid_o (RX.out.below hb))); (try (replace RQ := hid_o (RQ.out.below hb))); (try (replace QX := hid_o (QX.out.below hb))); (replace BB := hid_o (bt BB.out hb)); clear hb)
    | ((have _ := (mklEB : Stg 0)); go_at_call 24; (refine (keqM 2 2 (ro_len _ _) rfl RX.out RQ.out (by decide) eqLB).mono ?_); rintro e w7 ⟨rfl, hb⟩; clear RX RQ mklEB; (try (replace HA := hid_o (HA.out.below hb))); (try (replace HB := hid_o (HB.out.below hb))); (try (replace HZ := hid_o (HZ.out.below hb))); (try (replace RX := hid_o (RX.out.below hb))); (try (replace RQ := hid_o (RQ.out.below hb))); (try (replace QX := hid_o (QX.out.below hb))); (replace BB := hid_o (bt BB.out hb)); clear hb)
    | ((have _ := (mkuEB : Stg 0)); go_at_call 24; (refine (keqM 2 2 (ro_len _ _) rfl RX.out RQ.out (by decide) eqUB).mono ?_); rintro e w7 ⟨rfl, hb⟩; clear RX RQ mkuEB; (try (replace HA := hid_o (HA.out.below hb))); (try (replace HB := hid_o (HB.out.below hb))); (try (replace HZ := hid_o (HZ.out.below hb))); (try (replace RX := hid_o (RX.out.below hb))); (try (replace RQ := hid_o (RQ.out.below hb))); (try (replace QX := hid_o (QX.out.below hb))); (replace BB := hid_o (bt BB.out hb)); clear hb)
    | ((have _ := (st : Stg 1)); go_at_call 26; (refine (hp_any HA.out (by decide)).mono ?_); rintro e w8 ⟨g8, rfl, hr, hb⟩; (have RP : Hid (Rc w8 (some ⟨g8, 0, none⟩) pA) := hr); (try (replace HA := hid_o (HA.out.below hb))); (try (replace HB := hid_o (HB.out.below hb))); (try (replace HZ := hid_o (HZ.out.below hb))); (try (replace RX := hid_o (RX.out.below hb))); (try (replace RQ := hid_o (RQ.out.below hb))); (try (replace QX := hid_o (QX.out.below hb))); (replace BB := hid_o (bt BB.out hb)); clear hr hb)
    | (go_at_call 25; (refine (eqp_any RP.out).mono ?_); rintro e w9 ⟨m9, rfl, hw9⟩; subst w9; (replace HA := hid_o ((HA.out.below (bal _ (.cells #[.complex .f64 4613937818241073152 0, .complex .f64 4604180019048437078 0] 53))).drewN m9)); (replace BB := hid_o (below_drewN (ba BB.out (.cells #[.complex .f64 4613937818241073152 0, .complex .f64 4604180019048437078 0] 53)) m9)); clear RP st; (have st : Stg 2 := ⟨trivial⟩))
    | (go_at_call 27; (with_reducible refine (ld600 _).mono ?_); rintro e wl ⟨ml, rfl, hwl⟩; subst wl; (try (replace HA := hid_o (HA.out.drewN ml))); (try (replace HB := hid_o (HB.out.drewN ml))); (try (replace HZ := hid_o (HZ.out.drewN ml))); (try (replace RX := hid_o (RX.out.drewN ml))); (try (replace RQ := hid_o (RQ.out.drewN ml))); (try (replace QX := hid_o (QX.out.drewN ml))); (replace BB := hid_o (below_drewN BB.out ml)); (try (simp only [World.drewN_drewN] at BB)); (try (simp only [World.drewN_drewN] at HA)); (try (simp only [World.drewN_drewN] at HB)))
    | (go_at_call 27; (with_reducible refine (ld1000 _).mono ?_); rintro e wl ⟨ml, rfl, hwl⟩; subst wl; (try (replace HA := hid_o (HA.out.drewN ml))); (try (replace HB := hid_o (HB.out.drewN ml))); (try (replace HZ := hid_o (HZ.out.drewN ml))); (try (replace RX := hid_o (RX.out.drewN ml))); (try (replace RQ := hid_o (RQ.out.drewN ml))); (try (replace QX := hid_o (QX.out.drewN ml))); (replace BB := hid_o (below_drewN BB.out ml)); (try (simp only [World.drewN_drewN] at BB)); (try (simp only [World.drewN_drewN] at HA)); (try (simp only [World.drewN_drewN] at HB)))
    | (go_at_call 27; (with_reducible refine (ld1023 _).mono ?_); rintro e wl ⟨ml, rfl, hwl⟩; subst wl; (try (replace HA := hid_o (HA.out.drewN ml))); (try (replace HB := hid_o (HB.out.drewN ml))); (try (replace HZ := hid_o (HZ.out.drewN ml))); (try (replace RX := hid_o (RX.out.drewN ml))); (try (replace RQ := hid_o (RQ.out.drewN ml))); (try (replace QX := hid_o (QX.out.drewN ml))); (replace BB := hid_o (below_drewN BB.out ml)); (try (simp only [World.drewN_drewN] at BB)); (try (simp only [World.drewN_drewN] at HA)); (try (simp only [World.drewN_drewN] at HB)))
    | (go_at_call 28; (with_reducible refine (refd_EC RQ.out).mono ?_); rintro e wr ⟨rfl, hb⟩; clear RQ; (try (replace HA := hid_o (HA.out.below hb))); (try (replace HB := hid_o (HB.out.below hb))); (try (replace HZ := hid_o (HZ.out.below hb))); (try (replace RX := hid_o (RX.out.below hb))); (try (replace RQ := hid_o (RQ.out.below hb))); (try (replace QX := hid_o (QX.out.below hb))); (replace BB := hid_o (bt BB.out hb)); clear hb)
    | (go_at_call 28; (with_reducible refine (refd_ED RQ.out).mono ?_); rintro e wr ⟨rfl, hb⟩; clear RQ; (try (replace HA := hid_o (HA.out.below hb))); (try (replace HB := hid_o (HB.out.below hb))); (try (replace HZ := hid_o (HZ.out.below hb))); (try (replace RX := hid_o (RX.out.below hb))); (try (replace RQ := hid_o (RQ.out.below hb))); (try (replace QX := hid_o (QX.out.below hb))); (replace BB := hid_o (bt BB.out hb)); clear hb)
    | (go_at_call 28; (with_reducible refine (refd_EE RQ.out).mono ?_); rintro e wr ⟨rfl, hb⟩; clear RQ; (try (replace HA := hid_o (HA.out.below hb))); (try (replace HB := hid_o (HB.out.below hb))); (try (replace HZ := hid_o (HZ.out.below hb))); (try (replace RX := hid_o (RX.out.below hb))); (try (replace RQ := hid_o (RQ.out.below hb))); (try (replace QX := hid_o (QX.out.below hb))); (replace BB := hid_o (bt BB.out hb)); clear hb)
    | ((have _ := (st : Stg 3)); go_at_call 28; (with_reducible refine (refd_13 _ _).mono ?_); rintro e wr ⟨rfl, hb⟩; (try (replace HA := hid_o ((HA.out.below (bal _ _)).below hb))); (try (replace HB := hid_o ((HB.out.below (bal _ _)).below hb))); (replace BB := hid_o (bt (ba BB.out _) hb)); clear hb)
    | (go_at_call 29; (refine (nan_1 _).mono ?_); rintro e wn ⟨rfl, hwn⟩; subst wn)
    | ((have _ := (st : Stg 3)); go_at_call 28; (with_reducible refine refd_nan.mono ?_); rintro e wr ⟨rfl, hb⟩; (try (replace HA := hid_o ((HA.out.below (bal _ _)).below hb))); (try (replace HB := hid_o ((HB.out.below (bal _ _)).below hb))); (replace BB := hid_o (bt (ba BB.out _) hb)); clear hb)
    | ((have _ := (st : Stg 3)); go_at_call 28; (with_reducible refine (refd_65 _ _).mono ?_); rintro e wr ⟨rfl, hb⟩; (try (replace HA := hid_o ((HA.out.below (bal _ _)).below hb))); (try (replace HB := hid_o ((HB.out.below (bal _ _)).below hb))); (replace BB := hid_o (bt (ba BB.out _) hb)); clear hb st; (have st : Stg 4 := ⟨trivial⟩))
    | ((have _ := (st : Stg 4)); go_at_call 15; (refine (of_nil _).mono ?_); rintro e w2 ⟨pz, rfl, hL, hb⟩; (have HZ := hid_o (hL.below (bal _ (.cells #[.int .i64 0, .int .i64 0] 35)))); (replace BB := hid_o (ba (bt BB.out hb) (.cells #[.int .i64 0, .int .i64 0] 35))); clear hL hb st; (have st : Stg 5 := ⟨trivial⟩))
    | ((have _ := (st : Stg 5)); go_at_call 30; (refine (hsz_any HZ.out).mono ?_); rintro e w3 ⟨rfl, hb⟩; (try (replace HA := hid_o (HA.out.below hb))); (try (replace HB := hid_o (HB.out.below hb))); (try (replace HZ := hid_o (HZ.out.below hb))); (try (replace RX := hid_o (RX.out.below hb))); (try (replace RQ := hid_o (RQ.out.below hb))); (try (replace QX := hid_o (QX.out.below hb))); (replace BB := hid_o (bt BB.out hb)); clear hb)
    | ((have _ := (st : Stg 5)); go_at_call 20; (refine (hs_any HZ.out).mono ?_); rintro e w3 ⟨rfl, hb⟩; (try (replace HA := hid_o (HA.out.below hb))); (try (replace HB := hid_o (HB.out.below hb))); (try (replace HZ := hid_o (HZ.out.below hb))); (try (replace RX := hid_o (RX.out.below hb))); (try (replace RQ := hid_o (RQ.out.below hb))); (try (replace QX := hid_o (QX.out.below hb))); (replace BB := hid_o (bt BB.out hb)); clear hb)
    | ((have _ := (st : Stg 5)); go_at_call 19; (refine (ho_any HZ.out (by decide)).mono ?_); rintro e w3 ⟨gz, rfl, _, hb⟩; (try (replace HA := hid_o (HA.out.below hb))); (try (replace HB := hid_o (HB.out.below hb))); (try (replace HZ := hid_o (HZ.out.below hb))); (try (replace RX := hid_o (RX.out.below hb))); (try (replace RQ := hid_o (RQ.out.below hb))); (try (replace QX := hid_o (QX.out.below hb))); (replace BB := hid_o (bt BB.out hb)); clear hb)
    | ((have _ := (st : Stg 5)); go_at_call 17; (refine (hl_any HZ.out (by decide) (T := 0) rfl).mono ?_); rintro e w3 ⟨gz, rfl, _, hb⟩; (try (replace HA := hid_o (HA.out.below hb))); (try (replace HB := hid_o (HB.out.below hb))); (try (replace HZ := hid_o (HZ.out.below hb))); (try (replace RX := hid_o (RX.out.below hb))); (try (replace RQ := hid_o (RQ.out.below hb))); (try (replace QX := hid_o (QX.out.below hb))); (replace BB := hid_o (bt BB.out hb)); clear hb))
  go_loopw [165] (fun iv wr => ∃ k : Nat, k ≤ 2 ∧ iv = .int .i64 k ∧ Below w.heap.size w wr ∧ (wr.cell? ⟨w3.heap.size + 1, 0, none⟩ = some (.pointer none) ∧ wr.cell? ⟨w3.heap.size + 1, 1, none⟩ = some (.pointer (some ⟨w3.heap.size, 0, none⟩)) ∧ w3.heap.size + 1 < wr.heap.size) ∧ V3 w3.heap.size (.slice none 0 0) (.slice none 0 0) (.int .i64 0) wr) (fun iv _ => 2 - (intOf iv).toNat)
  case atStart => exact ⟨0, Nat.zero_le _, rfl, ba (ba BB.out _) _, ⟨al_at _ _ _ _ 0 (by simp), al_at _ _ _ _ 1 (by simp), by simp⟩, (v3_new _ _ _ _ _).below (bal _ _)⟩
  case round =>
    clear q1 q2 q3 q4 q5 mk3 mk65
    obtain ⟨k, hk, rfl, hbel, ⟨hc0, hc1, hcl⟩, hV⟩ := hrel
    by_cases hlt : k < 2
    · have hv : ∃ v, wr.cell? ⟨w3.heap.size + 1, k, none⟩ = some v ∧ Hs wr v none 0 0 none 0 0 0 := by
        match k, hlt with
        | 0, _ => exact ⟨_, hc0, hs_nil _⟩
        | 1, _ => exact ⟨_, hc1, .inr ⟨_, rfl, hV⟩⟩
      obtain ⟨v, hcv, hH⟩ := hv
      have HH := hid_o hH
      have HB0 := hid_o (below_self wr)
      have FIN : Hid (∀ W', Below wr.heap.size wr W' → Below w.heap.size w W' ∧ (W'.cell? ⟨w3.heap.size + 1, 0, none⟩ = some (.pointer none) ∧ W'.cell? ⟨w3.heap.size + 1, 1, none⟩ = some (.pointer (some ⟨w3.heap.size, 0, none⟩)) ∧ w3.heap.size + 1 < W'.heap.size) ∧ V3 w3.heap.size (.slice none 0 0) (.slice none 0 0) (.int .i64 0) W') := fun W' hb => ⟨bt hbel hb, ⟨(hb.cell (p := ⟨w3.heap.size + 1, 0, none⟩) hcl).trans hc0, (hb.cell (p := ⟨w3.heap.size + 1, 1, none⟩) hcl).trans hc1, Nat.lt_of_lt_of_le hcl hb.size⟩, hV.below hb⟩
      clear hbel hc0 hc1 hV hH
      go_wp2_with (first
        | (go_at_call 30; (refine (lsize_any HH.out).mono ?_); rintro e wy ⟨rfl, hb⟩; (replace HH := hid_o (HH.out.below hb)); (replace HB0 := hid_o (bt HB0.out hb)); clear hb)
        | (go_at_call 20; (refine (lsign_any HH.out).mono ?_); rintro e wy ⟨rfl, hb⟩; (replace HH := hid_o (HH.out.below hb)); (replace HB0 := hid_o (bt HB0.out hb)); clear hb)
        | (go_at_call 19; (refine (lorder_any [] rfl (by decide) HH.out (fun k hk => absurd hk (Nat.not_lt_zero _))).mono ?_); rintro e wy ⟨gz, rfl, _, hb⟩; (replace HH := hid_o (HH.out.below hb)); (replace HB0 := hid_o (bt HB0.out hb)); clear hb)
        | (go_at_call 17; (refine (l_any (M := fun _ _ => (0, 0)) (by decide) HH.out (rws_nil _ _)).mono ?_); rintro e wy ⟨gz, rfl, _, hb⟩; (replace HH := hid_o (HH.out.below hb)); (replace HB0 := hid_o (bt HB0.out hb)); clear hb)
        | (go_at_call 18; (refine (u_any (M := fun _ _ => (0, 0)) (by decide) HH.out (rws_nil _ _)).mono ?_); rintro e wy ⟨gz, rfl, _, hb⟩; (replace HH := hid_o (HH.out.below hb)); (replace HB0 := hid_o (bt HB0.out hb)); clear hb)
        | (go_at_call 26; (refine (pivots_any (M := fun _ _ => (0, 0)) (by decide) HH.out (rws_nil _ _)).mono ?_); rintro e wy ⟨gz, rfl, _, hb⟩; (replace HH := hid_o (HH.out.below hb)); (replace HB0 := hid_o (bt HB0.out hb)); clear hb))
      go_roundw
      case measure => simp [intOf]; omega
      case rel => exact ⟨k + 1, by omega, by go_num, FIN.out _ HB0.out⟩
    · have e : k = 2 := by omega
      subst e
      have HBF := hid_o hbel
      clear hc0 hc1 hV hbel
      go_wp2_with (go_at_call 13; (refine (awake9 _).mono ?_); rintro e wz ⟨rfl, hb⟩)
      go_ret
      exact ⟨rfl, bt HBF.out hb⟩

end Go.Proofs.Ytiddmcbecoopoaa
