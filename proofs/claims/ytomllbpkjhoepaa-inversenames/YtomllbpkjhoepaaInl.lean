/-
  Closed calls of inverse: what InverseNames asks.
-/
import Derived.Test.YtomllbpkjhoepaaIvf
import Derived.Test.YtomllbpkjhoepaaSlm
import Derived.Test.YtomllbpkjhoepaaIpb
namespace Go.Proofs.Ytomllbpkjhoepaa
open Fl RowKit

theorem one12 (a b : Nat) (w : World) : Calls Try.prog 16 #[.complex .f64 a b] w fun e w' => ∃ B, e = .returned (.agg #[.int .i64 1, .int .i64 1, .slice (some ⟨B, 0, none⟩) 1 1]) ∧ Sl w' (some ⟨B, 0, none⟩) 1 (ro 1 (zat [(a, b)])) ∧ Below w.heap.size w w' := by
  go_enter Try.func16, Try.ntmps16
  go_wp2
  refine bodyPost_ret (by simp [results, Try.results16, go_sem]; try rfl) rfl ?_
  exact ⟨w.heap.size + 1, rfl, ⟨al_rc1 (w.alloc _) (a, b) 43 _ (by simp), .inr ⟨_, _, rfl⟩, by rw [ro_len]; omega⟩, ba (bal _ _) _⟩
abbrev tL : List Cw := [(0, 0), (4607182418800017408, 0), (4607182418800017408, 0), (0, 0)]
abbrev sL : List Cw := [(4607182418800017408, 0), (4611686018427387904, 0), (4611686018427387904, 0), (4616189618054758400, 0)]
theorem tL_ok : ∀ k, k < 2 * 2 → okz (zat tL k) := okl4 _ _ _ _ ⟨by decide, by decide⟩ ⟨by decide, by decide⟩ ⟨by decide, by decide⟩ ⟨by decide, by decide⟩
theorem sL_ok : ∀ k, k < 2 * 2 → okz (zat sL k) := okl4 _ _ _ _ ⟨by decide, by decide⟩ ⟨by decide, by decide⟩ ⟨by decide, by decide⟩ ⟨by decide, by decide⟩
theorem tL_1 : nff (ro (2 * 2) (zat tL)) (2 * 2) = 2 * 2 := by kernel_rfl
theorem tL_2 : (elm 2 (mat9 2 (zat tL)) 2).1.1 = 0 := by kernel_rfl
abbrev tS : Es := (elm 2 (mat9 2 (zat tL)) 2).2
theorem tL_3 : fstN (inK 2 (elm 2 (mat9 2 (zat tL)) 2).2.M (elm 2 (mat9 2 (zat tL)) 2).2.o) 2 = 2 := by kernel_rfl
theorem tL_4 : ∀ k, k < 4 → eqB (zat (ro 4 (ivW 2 tS)) k).1 (zat (ro 4 (zat tL)) k).1 = true ∧ eqB (zat (ro 4 (ivW 2 tS)) k).2 (zat (ro 4 (zat tL)) k).2 = true := by decide +kernel
theorem tL_5 : nW 2 (zat tL) = one1 := by kernel_rfl
theorem tL_6 : nW 2 (ivW 2 tS) = one1 := by kernel_rfl
theorem tL_m : InvMakes 2 (zat tL) (ivW 2 (elm 2 (mat9 2 (zat tL)) 2).2) := inv_lit (N := 2) (f := zat tL) (g := ivW 2 (elm 2 (mat9 2 (zat tL)) 2).2) (by decide) tL_ok tL_1 tL_2 tL_3 (fun k _ => Eq.refl (ivW 2 (elm 2 (mat9 2 (zat tL)) 2).2 k))
theorem sL_1 : nff (ro (2 * 2) (zat sL)) (2 * 2) = 2 * 2 := by kernel_rfl
theorem sL_2 : (elm 2 (mat9 2 (zat sL)) 2).1 = (7, 1) := by kernel_rfl
theorem sL_m : InvFails 2 (zat sL) 7 (1 : Nat) := inv_lit_no (by decide) sL_ok sL_1 sL_2 (by decide)
theorem ok1 {a b : Nat} (ha : a < 18446744073709551616) (hb : b < 18446744073709551616) : ∀ k, k < 1 * 1 → okz (zat [(a, b)] k) := fun k hk => by
  match k, hk with
  | 0, _ => exact ⟨ha, hb⟩
abbrev lL : List Cw := [(1, 0)]
theorem lL_1 : nff (ro (1 * 1) (zat lL)) (1 * 1) = 1 * 1 := by kernel_rfl
theorem lL_2 : (elm 1 (mat9 1 (zat lL)) 1).1.1 = 0 := by kernel_rfl
theorem lL_3 : fstN (inK 1 (elm 1 (mat9 1 (zat lL)) 1).2.M (elm 1 (mat9 1 (zat lL)) 1).2.o) 1 = 0 := by kernel_rfl
theorem lL_m : InvFails 1 (zat lL) 6 (0 : Nat) := inv_lit_over (by decide) (ok1 (by decide) (by decide)) lL_1 lL_2 lL_3 (by decide)
theorem nL_2 (f : Nat → Cw) : (elm 0 (mat9 0 f) 0).1.1 = 0 := rfl
theorem nL_m : InvMakes 0 (fun _ => (0, 0)) (fun _ => (0, 0)) := inv_lit (by decide) (fun k hk => absurd hk (by omega)) rfl rfl rfl (fun k hk => absurd hk (by omega))
theorem of_tL {W : World} {B : Nat} (hr : Sl W (some ⟨B, 0, none⟩) 4 (ro 4 (zat tL))) : Calls Try.prog 13 #[.agg #[.int .i64 2, .int .i64 2, .slice (some ⟨B, 0, none⟩) 4 4]] W fun e w' => ∃ B', e = .returned (.tuple #[.agg #[.int .i64 2, .int .i64 2, .slice (some ⟨B', 0, none⟩) 4 4], .agg #[.int .i64 0, .int .i64 0]]) ∧ Rc w' (some ⟨B', 0, none⟩) (ro 4 (ivW 2 tS)) ∧ Below W.heap.size W w' := by
  refine Calls.mono (tL_m W (some ⟨B, 0, none⟩) 4 (by decide) hr.rd) ?_
  rintro e w' ⟨B', rfl, h1, h2⟩
  exact ⟨B', rfl, h1.rc, h2⟩
theorem ca_tL {W : World} {B : Nat} (hr : Sl W (some ⟨B, 0, none⟩) 4 (ro 4 (zat tL))) : Calls Try.prog 15 #[.agg #[.int .i64 2, .int .i64 2, .slice (some ⟨B, 0, none⟩) 4 4]] W fun e w' => e = .returned (.tuple #[.float .f64 4607182418800017408, .agg #[.int .i64 0, .int .i64 0]]) ∧ Below W.heap.size W w' := by
  have h := car_makes (by decide) tL_ok (fun k hk => ivW_ok hk) tL_m W (some ⟨B, 0, none⟩) 4 hr
  rw [tL_5, tL_6] at h
  exact h
theorem of_sL {W : World} {B : Nat} (hr : Sl W (some ⟨B, 0, none⟩) 4 (ro 4 (zat sL))) : Calls Try.prog 13 #[.agg #[.int .i64 2, .int .i64 2, .slice (some ⟨B, 0, none⟩) 4 4]] W fun e w' => e = .returned (.tuple #[.agg #[.int .i64 0, .int .i64 0, .slice none 0 0], .agg #[.int .i64 7, .int .i64 1]]) ∧ Below W.heap.size W w' := sL_m W (some ⟨B, 0, none⟩) 4 (by decide) hr.rd
theorem of_sh (A : Option Addr) (c : Nat) (W : World) : Calls Try.prog 13 #[.agg #[.int .i64 1, .int .i64 3, .slice A 3 c]] W fun e w' => e = .returned (.tuple #[.agg #[.int .i64 0, .int .i64 0, .slice none 0 0], .agg #[.int .i64 4, .int .i64 (-1)]]) ∧ Below W.heap.size W w' := inv_shape 1 3 A 3 c W (by decide) (by decide)
theorem of_lL {W : World} {B : Nat} (hr : Sl W (some ⟨B, 0, none⟩) 1 (ro 1 (zat lL))) : Calls Try.prog 13 #[.agg #[.int .i64 1, .int .i64 1, .slice (some ⟨B, 0, none⟩) 1 1]] W fun e w' => e = .returned (.tuple #[.agg #[.int .i64 0, .int .i64 0, .slice none 0 0], .agg #[.int .i64 6, .int .i64 0]]) ∧ Below W.heap.size W w' := lL_m W (some ⟨B, 0, none⟩) 1 (by decide) hr.rd
theorem ca_lL {W : World} {B : Nat} (hr : Sl W (some ⟨B, 0, none⟩) 1 (ro 1 (zat lL))) : Calls Try.prog 15 #[.agg #[.int .i64 1, .int .i64 1, .slice (some ⟨B, 0, none⟩) 1 1]] W fun e w' => e = .returned (.tuple #[.float .f64 0, .agg #[.int .i64 6, .int .i64 0]]) ∧ Below W.heap.size W w' := car_fails (by decide) lL_m W (some ⟨B, 0, none⟩) 1 (by decide) hr.rd
theorem of_nL (W : World) : Calls Try.prog 13 #[.agg #[.int .i64 0, .int .i64 0, .slice none 0 0]] W fun e w' => ∃ B', e = .returned (.tuple #[.agg #[.int .i64 0, .int .i64 0, .slice (some ⟨B', 0, none⟩) 0 0], .agg #[.int .i64 0, .int .i64 0]]) ∧ Below W.heap.size W w' := by
  refine Calls.mono (nL_m W none 0 (by decide) (Rc.nil _ _)) ?_
  rintro e w' ⟨B', rfl, h1, h2⟩
  exact ⟨B', rfl, h2⟩
theorem ca_nL (W : World) : Calls Try.prog 15 #[.agg #[.int .i64 0, .int .i64 0, .slice none 0 0]] W fun e w' => e = .returned (.tuple #[.float .f64 0, .agg #[.int .i64 0, .int .i64 0]]) ∧ Below W.heap.size W w' :=
  car_makes (by decide) (fun k hk => absurd hk (by omega)) (fun k hk => absurd hk (by omega)) nL_m W none 0 ⟨Rc.nil _ _, .inl ⟨rfl, rfl⟩, Nat.le_refl _⟩
theorem off_2h : offW 1 (fun k => anz (zat [(4611686018427387904, 0)] k)) (fun k => anz (zat [(4602678819172646912, 0)] k)) = 0 := by kernel_rfl
theorem off_21 : offW 1 (fun k => anz (zat [(4611686018427387904, 0)] k)) (fun k => anz (zat [(4607182418800017408, 0)] k)) = 4607182418800017408 := by kernel_rfl
theorem of_2h {W : World} {B B' : Nat} (h : Sl W (some ⟨B, 0, none⟩) 1 (ro 1 (zat [(4611686018427387904, 0)]))) (h' : Sl W (some ⟨B', 0, none⟩) 1 (ro 1 (zat [(4602678819172646912, 0)]))) : Calls Try.prog 9 #[.agg #[.int .i64 1, .int .i64 1, .slice (some ⟨B, 0, none⟩) 1 1], .agg #[.int .i64 1, .int .i64 1, .slice (some ⟨B', 0, none⟩) 1 1]] W fun e w' => e = .returned (.tuple #[.float .f64 0, .int .i64 0]) ∧ Below W.heap.size W w' := by
  have k := off_ok (mx_of (N := 1) (by decide) (ok1 (by decide) (by decide)) h) (mx_of (N := 1) (by decide) (ok1 (by decide) (by decide)) h')
  rw [off_2h] at k
  exact k
theorem of_21 {W : World} {B B' : Nat} (h : Sl W (some ⟨B, 0, none⟩) 1 (ro 1 (zat [(4611686018427387904, 0)]))) (h' : Sl W (some ⟨B', 0, none⟩) 1 (ro 1 (zat [(4607182418800017408, 0)]))) : Calls Try.prog 9 #[.agg #[.int .i64 1, .int .i64 1, .slice (some ⟨B, 0, none⟩) 1 1], .agg #[.int .i64 1, .int .i64 1, .slice (some ⟨B', 0, none⟩) 1 1]] W fun e w' => e = .returned (.tuple #[.float .f64 4607182418800017408, .int .i64 0]) ∧ Below W.heap.size W w' := by
  have k := off_ok (mx_of (N := 1) (by decide) (ok1 (by decide) (by decide)) h) (mx_of (N := 1) (by decide) (ok1 (by decide) (by decide)) h')
  rw [off_21] at k
  exact k
theorem of_24 (W : World) (B B' : Nat) : Calls Try.prog 9 #[.agg #[.int .i64 1, .int .i64 1, .slice (some ⟨B, 0, none⟩) 1 1], .agg #[.int .i64 2, .int .i64 2, .slice (some ⟨B', 0, none⟩) 4 4]] W fun e w' => e = .returned (.tuple #[.float .f64 0, .int .i64 4]) ∧ Below W.heap.size W w' := off_no (by decide) (by decide) (by decide)
theorem ld_m : ldx 4607182418800017408 (-1074) = 1 := by kernel_rfl
theorem ld_x : nX (mg 4607182418800017408) + -1074 ≤ 2046 := by decide +kernel
theorem ld_any (w : World) : Calls Try.prog 17 #[.float .f64 4607182418800017408, .int .i64 (-1074)] w fun e w' => ∃ n, e = .returned (.float .f64 1) ∧ w' = w.drewN n := by
  have h := ldexp_gen 4607182418800017408 (-1074) w (by decide) (by unfold Fl.fin; decide) (by decide) (by decide) (fun _ => ld_x)
  rw [ld_m] at h
  exact h
theorem mk3 (w : World) : ∀ n, Below w.heap.size w (w.drewN n) := fun n => below_drewN (Below.refl _ _) n

end Go.Proofs.Ytomllbpkjhoepaa
