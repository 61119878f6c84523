/-
  The statements' own examples: three, lives.
-/
import Derived.Test.YtiohceelphpifaaRfn
import Derived.Test.YtiohceelphpifaaRfo
import Derived.Test.YtiohceelphpifaaSlm
import Derived.Deep.QuietTactic
import Derived.BigQuiet
namespace Go.Proofs.Ytiohceelphpifaa
open Fl RowKit

abbrev n3 : Cw := (4613937818241073152, 0)
abbrev n2 : Cw := (4611686018427387904, 0)
abbrev n9 : Cw := (4621256167635550208, 0)
theorem three_any (w : World) : Calls Try.prog 26 #[] w fun e w' => ∃ g, e = .returned (.agg #[.int .i64 1, .int .i64 1, .slice (some ⟨g, 0, none⟩) 1 1]) ∧ Rc w' (some ⟨g, 0, none⟩) [n3] ∧ Below w.heap.size w w' := by
  go_enter Try.func26, Try.ntmps26
  go_wp2
  refine bodyPost_ret (by simp [results, Try.results26, go_sem]; try rfl) rfl ?_
  exact ⟨w.heap.size + 1, rfl, al_rc1 _ n3 _ _ (by simp), ba (bal _ _) _⟩
theorem t_a : lfL 1 [n3] [(4611686018427387904, 4607182418800017408)] [(4619567317775286272, 4613937818241073152)] = [(4607182418800017408, 0)] := by kernel_rfl
theorem t_b : lfL 1 [n3] [(4599676419421066581, 0)] [(4607182418800017408, 0)] = [(4363988038922010624, 0)] := by kernel_rfl
theorem t_c : lfK 1 [n3] [(4611686018427387904, 4607182418800017408)] [(4619567317775286272, 4613937818241073152)] = true := by kernel_rfl
theorem t_d : lfK 1 [n3] [(4599676419421066581, 0)] [(4607182418800017408, 0)] = true := by kernel_rfl
abbrev xA : Cw := (4611686018427387904, 4607182418800017408)
abbrev bA : Cw := (4619567317775286272, 4613937818241073152)
abbrev xB : Cw := (4599676419421066581, 0)
abbrev n1 : Cw := (4607182418800017408, 0)
theorem gd1 {z : Cw} (h : okz z) (hf : finZ z = true) : Gd 1 [z] := ⟨rfl, fun k => by
  match k with
  | 0 => exact h
  | k + 1 => rw [zat_ge (by simp)]; exact ⟨by decide, by decide⟩, by unfold finL finL; rw [show zat [z] 0 = z from rfl, hf]; rfl⟩
theorem g3 : Gd (1 * 1) [n3] := gd1 ⟨by decide, by decide⟩ (by kernel_rfl)
section one
variable {w : World} {A X B : Nat} {ca cx' cb : Nat} {x b : Cw} (hc : 1 ≤ ca) (rd : Rc w (some ⟨A, 0, none⟩) [n3]) (rx : Rc w (some ⟨X, 0, none⟩) [x]) (rb : Rc w (some ⟨B, 0, none⟩) [b]) (hx : Gd 1 [x]) (hb : Gd 1 [b])
include hc rd rx rb hx hb
theorem left1 {r : Cw} (hk : lfK 1 [n3] [x] [b] = true) (hr : lfL 1 [n3] [x] [b] = [r]) : Calls Try.prog 12 #[.agg #[.int .i64 1, .int .i64 1, .slice (some ⟨A, 0, none⟩) 1 ca], .slice (some ⟨X, 0, none⟩) 1 cx', .slice (some ⟨B, 0, none⟩) 1 cb] w fun e w' => ∃ g, e = .returned (.tuple #[.slice (some ⟨g, 0, none⟩) 1 1, .int .i64 0]) ∧ Rc w' (some ⟨g, 0, none⟩) [r] ∧ Below w.heap.size w w' :=
  (left_y (N := 1) (by decide) hc (.inr ⟨_, _, rfl⟩) g3 hx hb rd rx rb hk).mono (by rintro e w' ⟨g, rfl, h1, _, h3⟩; rw [hr] at h1; exact ⟨g, rfl, h1.rc, h3⟩)
end one
theorem ld54 (W : World) : Calls Try.prog 29 #[.float .f64 4607182418800017408, .int .i64 (-54)] W fun e w' => e = .returned (.float .f64 4363988038922010624) ∧ ∃ m, w' = W.drewN m := by
  have e : ldx 4607182418800017408 (-54) = 4363988038922010624 := by kernel_rfl
  refine (ldexp_gen 4607182418800017408 (-54) W (by decide) (by unfold Fl.fin; decide) (by decide) (by decide) (fun _ => ?_)).mono ?_
  · have : nX (mg 4607182418800017408) = 1023 := by kernel_rfl
    omega
  · rintro e' w' ⟨n, rfl, rfl⟩
    exact ⟨by rw [e], n, rfl⟩
theorem rc1_cell {w : World} {g : Nat} {z : Cw} (h : Rc w (some ⟨g, 0, none⟩) [z]) : w.cell? ⟨g, 0, none⟩ = some (.complex .f64 z.1 z.2) := by
  obtain ⟨b, off, e, _, hc⟩ := h 0 (by simp)
  injection e with e
  injection e with e1 e2
  subst e1
  subst e2
  exact hc
set_option maxHeartbeats 4000000 in
theorem lives_any (w : World) : Calls Try.prog 7 #[] w fun e w' => e = .returned (.bool true) ∧ Below w.heap.size w w' := by
  have z0 : (FloatKind.f64.format.order 0 0 == some .eq) = true := by kernel_rfl
  have z1 : (FloatKind.f64.format.order 4607182418800017408 4607182418800017408 == some .eq) = true := by kernel_rfl
  have z2 : (FloatKind.f64.format.order 4363988038922010624 4363988038922010624 == some .eq) = true := by kernel_rfl
  have st : Stg 0 := ⟨trivial⟩
  go_enter Try.func7, Try.ntmps7
  go_wp2_with (first
    | ((have _ := (st : Stg 0)); go_at_call 26; (with_reducible refine (three_any _).mono ?_); rintro e w1 ⟨g1, rfl, hr, hb⟩; have R1 := hid_o hr; have B1 := hid_o hb; clear hr hb st; have st : Stg 1 := ⟨trivial⟩)
    | ((have _ := (st : Stg 1)); go_at_call 12; (refine (left1 (x := xA) (b := bA) (Nat.le_refl _) ((R1.out.below (bal _ _)).below (bal _ _)) ((al_rc1 _ xA 56 _ rfl).below (bal _ _)) (al_rc1 _ bA 56 _ (by simp)) (gd1 ⟨by decide, by decide⟩ (by kernel_rfl)) (gd1 ⟨by decide, by decide⟩ (by kernel_rfl)) t_c t_a).mono ?_); rintro e w2 ⟨g2, rfl, hr, hb⟩; have R2 := hid_o hr; have B2 := hid_o (bt (ba (ba B1.out _) _) hb); clear hr hb R1 B1 st; have st : Stg 2 := ⟨trivial⟩)
    | ((have _ := (st : Stg 2)); go_at_call 26; (with_reducible refine (three_any _).mono ?_); rintro e w3 ⟨g3', rfl, hr, hb⟩; have R3 := hid_o hr; have Q3 := hid_o (R2.out.below hb); have B3 := hid_o (bt B2.out hb); clear hr hb st R2 B2; have st : Stg 3 := ⟨trivial⟩)
    | ((have _ := (st : Stg 3)); go_at_call 12; (refine (left1 (x := xB) (b := n1) (Nat.le_refl _) ((R3.out.below (bal _ _)).below (bal _ _)) ((al_rc1 _ xB 56 _ rfl).below (bal _ _)) (al_rc1 _ n1 56 _ (by simp)) (gd1 ⟨by decide, by decide⟩ (by kernel_rfl)) (gd1 ⟨by decide, by decide⟩ (by kernel_rfl)) t_d t_b).mono ?_); rintro e w4 ⟨g4, rfl, hr, hb⟩; have R4 := rc1_cell hr; have Q4 := rc1_cell (((Q3.out.below (bal _ _)).below (bal _ _)).below hb); have B4 := hid_o (bt (ba (ba B3.out _) _) hb); clear hr hb R3 Q3 B3 st; have st : Stg 4 := ⟨trivial⟩))
  go_quiet ((go_at_call 29; exact Calls.quiet_of (ld54 _)))
  go_wp2
  go_ret
  exact ⟨rfl, below_drewN B4.out _⟩
end Go.Proofs.Ytiohceelphpifaa
