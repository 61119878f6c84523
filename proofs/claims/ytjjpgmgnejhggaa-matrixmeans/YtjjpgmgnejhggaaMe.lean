/-
  What the calls of package matrix hand back.
-/
import Derived.Test.YtjjpgmgnejhggaaMd
namespace Go.Proofs.Ytjjpgmgnejhggaa
open Fl RowKit

@[go_sem] theorem run_fieldM (a b : Int) (o : Option Addr) (l c : Nat) (w : World) : Sem.run Try.prog (Instr.field 28 (.agg #[.int .i64 a, .int .i64 b, .slice o l c]) 2) w = .ok (.slice o l c) w := by kernel_rfl
theorem v3_at (w : World) {p : Nat} (a b c : Value) (t : TypeId) (hp : w.heap.size = p) : V3 p a b c (w.alloc (.cells #[a, b, c] t)) := by subst hp; exact v3_new w a b c t
theorem mb_of {R C : Nat} {n : Nat} (hR : R ≤ 64) (hC : C ≤ 64) (hn : n = R * C) : mb (R : Int) (C : Int) n = true := decide_eq_true ⟨by omega, by omega, by omega, by omega, by rw [hn, Int.natCast_mul]⟩
theorem Mx.mb {w : World} {R C c : Nat} {A : Option Addr} {F : Nat → Cn} {xs : List Cw} (h : Mx w R C A c F xs) : mb (R : Int) (C : Int) (R * C) = true := mb_of h.hR h.hC rfl
theorem New.base {base base' n : Nat} {f : Nat → Cn} {zs : List Cw} {v : Value} {w : World} (h : New base f n zs v w) (hb : base' ≤ base) : New base' f n zs v w := ⟨h.len, h.rep, own_base h.own hb⟩
theorem New.ge {base n g c : Nat} {f : Nat → Cn} {zs : List Cw} {w : World} (h : New base f n zs (.slice (some ⟨g, 0, none⟩) n c) w) : base ≤ g := own_ge h.own rfl
theorem ent_conj1 : Ent 69 := fun _ _ => by go_simp
theorem ent_trans1 : Ent 106 := fun _ _ => by go_simp
theorem ent_row1 : Ent 91 := fun _ _ => by go_simp
theorem ent_col1 : Ent 92 := fun _ _ => by go_simp
theorem ent_swap1 : Ent 73 := fun _ _ => by go_simp
theorem ent_id1 : Ent 96 := fun _ _ => by go_simp
theorem ent_mul1 : Ent 66 := fun _ _ => by go_simp
theorem ent_apply1 : Ent 93 := fun _ _ => by go_simp
theorem ent_placed1 : Ent 105 := fun _ _ => by go_simp
theorem ent_same1 : Ent 83 := fun _ _ => by go_simp
theorem ent_equal1 : Ent 85 := fun _ _ => by go_simp
theorem ent_sym1 : Ent 87 := fun _ _ => by go_simp
theorem New.congr {base n : Nat} {f g : Nat → Cn} {zs : List Cw} {v : Value} {w : World} (h : New base f n zs v w) (e : ∀ j, j < n → f j = g j) : New base g n zs v w := ⟨h.len, repl_congr h.rep e, h.own⟩
theorem small {n : Nat} (h : n ≤ 4096) : n ≤ 1000000000000000 := by omega
theorem cell_al {w : World} {q : Addr} {v : Value} {o : Obj} (h : w.cell? q = some v) (hq : q.block < w.heap.size) : (w.alloc o).cell? q = some v := by rw [← h]; exact (bal w o).cell hq
section one
variable {w : World} {R C c : Nat} {A : Option Addr} {F : Nat → Cn} {xs : List Cw} (h : Mx w R C A c F xs)
include h
set_option maxHeartbeats 1000000 in
theorem mtransposed : Calls Try.prog 64 #[.agg #[.int .i64 R, .int .i64 C, .slice A (R * C) c]] w fun e w' => ∃ g zs, e = .returned (.agg #[.int .i64 C, .int .i64 R, .slice (some ⟨g, 0, none⟩) (C * R) (C * R)]) ∧ New w.heap.size (flat R (fun j i => F (i * C + j))) (C * R) zs (.slice (some ⟨g, 0, none⟩) (C * R) (C * R)) w' ∧ Below w.heap.size w w' := by
  have hR := h.hR
  have hC := h.hC
  go_enter Try.func64, Try.ntmps64
  go_wp2_with (first
    | (go_at_call 65; (refine (made_any _ _ _ C R _ hC hR ent_trans1 (says_mtrans (B := w.heap.size) (h.below (by repeat first | exact below_self _ | refine ba ?_ _ )) (by repeat first | exact v3_at _ _ _ _ _ (by first | rfl | (simp only [size_al]; first | done | omega)) | refine V3.below ?_ (bal _ _)))).mono ?_); (rintro e w3 ⟨g, zs, rfl, hN, hb⟩); (have Vr : V3 (w.heap.size + 1) (.int .i64 0) (.int .i64 0) (.slice none 0 0) w3 := V3.below (by repeat first | exact v3_at _ _ _ _ _ (by first | rfl | (simp only [size_al]; first | done | omega)) | refine V3.below ?_ (bal _ _)) hb); (obtain ⟨r0, r1, r2⟩ := Vr.reads); (obtain ⟨_, q0, q1, q2, q3, q4, q5⟩ := Vr); (have BB : Below w.heap.size w w3 := b_of (by repeat first | exact below_self _ | refine ba ?_ _ ) hb (by simp; try omega)); (have HN : New w.heap.size _ _ zs _ w3 := hN.base (by simp; try omega)); (have hg := hN.ge); (simp at hg); clear hN hb))
  refine bodyPost_ret (by simp [results, Try.results64, go_sem, r0, r1, r2]; try rfl) rfl ?_
  exact ⟨_, zs, rfl, HN.set3 (by omega) _ _ _, below_set3 BB (by omega) _ _ _⟩
set_option maxHeartbeats 1000000 in
theorem mconj : Calls Try.prog 15 #[.agg #[.int .i64 R, .int .i64 C, .slice A (R * C) c]] w fun e w' => ∃ g zs, e = .returned (.tuple #[.agg #[.int .i64 R, .int .i64 C, .slice (some ⟨g, 0, none⟩) (R * C) (R * C)], .int .i64 0]) ∧ New w.heap.size (flat C (fun i j => conZ (F (i * C + j)))) (R * C) zs (.slice (some ⟨g, 0, none⟩) (R * C) (R * C)) w' ∧ Below w.heap.size w w' := by
  have hR := h.hR
  have hC := h.hC
  have hmb := h.mb
  have hn := small (le_4096 hR hC)
  go_enter Try.func15, Try.ntmps15
  go_wp2_with (first
    | (go_at_call 63; (refine (mayBe_any _ _ _ _ _ _ hn).mono ?_); (rintro e w' ⟨rfl, rfl⟩); (rw [hmb]))
    | (go_at_call 65; (refine (made_any _ _ _ R C _ hR hC ent_conj1 (says_mconj (B := w.heap.size) (h.below (by repeat first | exact below_self _ | refine ba ?_ _ )) (by repeat first | exact v3_at _ _ _ _ _ (by first | rfl | (simp only [size_al]; first | done | omega)) | refine V3.below ?_ (bal _ _)))).mono ?_); (rintro e w3 ⟨g, zs, rfl, hN, hb⟩); (have Vr : V3 (w.heap.size + 1) (.int .i64 0) (.int .i64 0) (.slice none 0 0) w3 := V3.below (by repeat first | exact v3_at _ _ _ _ _ (by first | rfl | (simp only [size_al]; first | done | omega)) | refine V3.below ?_ (bal _ _)) hb); (obtain ⟨r0, r1, r2⟩ := Vr.reads); (obtain ⟨_, q0, q1, q2, q3, q4, q5⟩ := Vr); (have BB : Below w.heap.size w w3 := b_of (by repeat first | exact below_self _ | refine ba ?_ _ ) hb (by simp; try omega)); (have HN : New w.heap.size _ _ zs _ w3 := hN.base (by simp; try omega)); (have hg := hN.ge); (simp at hg); clear hN hb))
  refine bodyPost_ret (by simp [results, Try.results15, go_sem, r0, r1, r2]; try rfl) rfl ?_
  exact ⟨_, zs, rfl, HN.set3 (by omega) _ _ _, below_set3 BB (by omega) _ _ _⟩
set_option maxHeartbeats 1000000 in
theorem mtranspose : Calls Try.prog 14 #[.agg #[.int .i64 R, .int .i64 C, .slice A (R * C) c]] w fun e w' => ∃ g zs, e = .returned (.tuple #[.agg #[.int .i64 C, .int .i64 R, .slice (some ⟨g, 0, none⟩) (C * R) (C * R)], .int .i64 0]) ∧ New w.heap.size (flat R (fun j i => F (i * C + j))) (C * R) zs (.slice (some ⟨g, 0, none⟩) (C * R) (C * R)) w' ∧ Below w.heap.size w w' := by
  have hR := h.hR
  have hC := h.hC
  have hmb := h.mb
  have hn := small (le_4096 hR hC)
  go_enter Try.func14, Try.ntmps14
  go_wp2_with (first
    | (go_at_call 63; (refine (mayBe_any _ _ _ _ _ _ hn).mono ?_); (rintro e w' ⟨rfl, rfl⟩); (rw [hmb]))
    | (go_at_call 64; (refine (mtransposed (h.below (by repeat first | exact below_self _ | refine ba ?_ _ ))).mono ?_); (rintro e w3 ⟨g, zs, rfl, hN, hb⟩); (have Vr : V3 (w.heap.size + 1) (.int .i64 0) (.int .i64 0) (.slice none 0 0) w3 := V3.below (by repeat first | exact v3_at _ _ _ _ _ (by first | rfl | (simp only [size_al]; first | done | omega)) | refine V3.below ?_ (bal _ _)) hb); (obtain ⟨r0, r1, r2⟩ := Vr.reads); (obtain ⟨_, q0, q1, q2, q3, q4, q5⟩ := Vr); (have BB : Below w.heap.size w w3 := b_of (by repeat first | exact below_self _ | refine ba ?_ _ ) hb (by simp; try omega)); (have HN : New w.heap.size _ _ zs _ w3 := hN.base (by simp; try omega)); (have hg := hN.ge); (simp at hg); clear hN hb))
  refine bodyPost_ret (by simp [results, Try.results14, go_sem, r0, r1, r2]; try rfl) rfl ?_
  exact ⟨_, zs, rfl, HN.set3 (by omega) _ _ _, below_set3 BB (by omega) _ _ _⟩
set_option maxHeartbeats 1000000 in
theorem mswap {i j : Nat} (hi : i < R) (hj : j < R) : Calls Try.prog 16 #[.agg #[.int .i64 R, .int .i64 C, .slice A (R * C) c], .int .i64 i, .int .i64 j] w fun e w' => ∃ g zs, e = .returned (.tuple #[.agg #[.int .i64 R, .int .i64 C, .slice (some ⟨g, 0, none⟩) (R * C) (R * C)], .int .i64 0]) ∧ New w.heap.size (flat C (fun r k => F (swp2 i j r * C + k))) (R * C) zs (.slice (some ⟨g, 0, none⟩) (R * C) (R * C)) w' ∧ Below w.heap.size w w' := by
  have hR := h.hR
  have hC := h.hC
  have hmb := h.mb
  have hn := small (le_4096 hR hC)
  have hwi : decide (0 ≤ (i : Int) ∧ (i : Int) < (R : Int)) = true := decide_eq_true ⟨by omega, by omega⟩
  have hwj : decide (0 ≤ (j : Int) ∧ (j : Int) < (R : Int)) = true := decide_eq_true ⟨by omega, by omega⟩
  go_enter Try.func16, Try.ntmps16
  go_wp2_with (first
    | (go_at_call 63; (refine (mayBe_any _ _ _ _ _ _ hn).mono ?_); (rintro e w' ⟨rfl, rfl⟩); (rw [hmb]))
    | (go_at_call 72; (refine (within_any _ _ _).mono ?_); (rintro e w' ⟨rfl, rfl⟩); (first | rw [hwi] | rw [hwj]))
    | (go_at_call 65; (refine (made_any _ _ _ R C _ hR hC ent_swap1 (says_mswap (B := w.heap.size) (Bi := w.heap.size + 1) (Bj := w.heap.size + 1 + 1) (h.below (by repeat first | exact below_self _ | refine ba ?_ _ )) (by repeat first | exact v3_at _ _ _ _ _ (by first | rfl | (simp only [size_al]; first | done | omega)) | refine V3.below ?_ (bal _ _)) hi hj (by simp; try omega) (by repeat first | exact al_at _ _ _ _ 0 (by first | rfl | (simp only [size_al]; first | done | omega)) | (refine cell_al ?_ (by simp only [size_al]; omega))) (by simp; try omega) (by repeat first | exact al_at _ _ _ _ 0 (by first | rfl | (simp only [size_al]; first | done | omega)) | (refine cell_al ?_ (by simp only [size_al]; omega))))).mono ?_); (rintro e w3 ⟨g, zs, rfl, hN, hb⟩); (have Vr : V3 (w.heap.size + 1 + 1 + 1) (.int .i64 0) (.int .i64 0) (.slice none 0 0) w3 := V3.below (by repeat first | exact v3_at _ _ _ _ _ (by first | rfl | (simp only [size_al]; first | done | omega)) | refine V3.below ?_ (bal _ _)) hb); (obtain ⟨r0, r1, r2⟩ := Vr.reads); (obtain ⟨_, q0, q1, q2, q3, q4, q5⟩ := Vr); (have BB : Below w.heap.size w w3 := b_of (by repeat first | exact below_self _ | refine ba ?_ _ ) hb (by simp; try omega)); (have HN : New w.heap.size _ _ zs _ w3 := hN.base (by simp; try omega)); (have hg := hN.ge); (simp at hg); clear hN hb))
  refine bodyPost_ret (by simp [results, Try.results16, go_sem, r0, r1, r2]; try rfl) rfl ?_
  exact ⟨_, zs, rfl, HN.set3 (by omega) _ _ _, below_set3 BB (by omega) _ _ _⟩
set_option maxHeartbeats 1000000 in
theorem mrowc {i : Nat} (hi : i < R) : Calls Try.prog 37 #[.agg #[.int .i64 R, .int .i64 C, .slice A (R * C) c], .int .i64 i] w fun e w' => ∃ g zs, e = .returned (.tuple #[.slice (some ⟨g, 0, none⟩) C C, .int .i64 0]) ∧ New w.heap.size (fun k => F (i * C + k)) C zs (.slice (some ⟨g, 0, none⟩) C C) w' ∧ Below w.heap.size w w' := by
  have hR := h.hR
  have hC := h.hC
  have hmb := h.mb
  have hn := small (le_4096 hR hC)
  have hwi : decide (0 ≤ (i : Int) ∧ (i : Int) < (R : Int)) = true := decide_eq_true ⟨by omega, by omega⟩
  have hwj := hwi
  have FEQ : ∀ k, k < C → flat C (fun _ j => F (i * C + j)) k = F (i * C + k) := fun k hk => by unfold flat; rw [Nat.mod_eq_of_lt hk]
  go_enter Try.func37, Try.ntmps37
  go_wp2_with (first
    | (go_at_call 63; (refine (mayBe_any _ _ _ _ _ _ hn).mono ?_); (rintro e w' ⟨rfl, rfl⟩); (rw [hmb]))
    | (go_at_call 72; (refine (within_any _ _ _).mono ?_); (rintro e w' ⟨rfl, rfl⟩); (first | rw [hwi] | rw [hwj]))
    | (go_at_call 65; (refine (made_any _ _ _ 1 C _ (by decide) hC ent_row1 (says_mrow (B := w.heap.size) (Bi := w.heap.size + 1) (h.below (by repeat first | exact below_self _ | refine ba ?_ _ )) (by repeat first | exact v3_at _ _ _ _ _ (by first | rfl | (simp only [size_al]; first | done | omega)) | refine V3.below ?_ (bal _ _)) hi (by simp; try omega) (by repeat first | exact al_at _ _ _ _ 0 (by first | rfl | (simp only [size_al]; first | done | omega)) | (refine cell_al ?_ (by simp only [size_al]; omega))))).mono ?_); (rintro e w3 ⟨g, zs, rfl, hN, hb⟩); (have BB : Below w.heap.size w w3 := b_of (by repeat first | exact below_self _ | refine ba ?_ _ ) hb (by simp; try omega)); (have HN : New w.heap.size _ _ zs _ w3 := hN.base (by simp; try omega)); (have hg := hN.ge); (simp at hg); clear hN hb))
  go_ret2
  exact ⟨_, zs, rfl, by simpa using (HN.congr (fun k hk => FEQ k (by simpa using hk))), BB⟩
set_option maxHeartbeats 1000000 in
theorem mcolc {j : Nat} (hj : j < C) : Calls Try.prog 38 #[.agg #[.int .i64 R, .int .i64 C, .slice A (R * C) c], .int .i64 j] w fun e w' => ∃ g zs, e = .returned (.tuple #[.slice (some ⟨g, 0, none⟩) R R, .int .i64 0]) ∧ New w.heap.size (fun k => F (k * C + j)) R zs (.slice (some ⟨g, 0, none⟩) R R) w' ∧ Below w.heap.size w w' := by
  have hR := h.hR
  have hC := h.hC
  have hmb := h.mb
  have hn := small (le_4096 hR hC)
  have hwi : decide (0 ≤ (j : Int) ∧ (j : Int) < (C : Int)) = true := decide_eq_true ⟨by omega, by omega⟩
  have hwj := hwi
  have FEQ : ∀ k, k < R → flat 1 (fun i _ => F (i * C + j)) k = F (k * C + j) := fun k _ => by unfold flat; rw [Nat.div_one]
  go_enter Try.func38, Try.ntmps38
  go_wp2_with (first
    | (go_at_call 63; (refine (mayBe_any _ _ _ _ _ _ hn).mono ?_); (rintro e w' ⟨rfl, rfl⟩); (rw [hmb]))
    | (go_at_call 72; (refine (within_any _ _ _).mono ?_); (rintro e w' ⟨rfl, rfl⟩); (first | rw [hwi] | rw [hwj]))
    | (go_at_call 65; (refine (made_any _ _ _ R 1 _ hR (by decide) ent_col1 (says_mcol (B := w.heap.size) (Bj := w.heap.size + 1) (h.below (by repeat first | exact below_self _ | refine ba ?_ _ )) (by repeat first | exact v3_at _ _ _ _ _ (by first | rfl | (simp only [size_al]; first | done | omega)) | refine V3.below ?_ (bal _ _)) hj (by simp; try omega) (by repeat first | exact al_at _ _ _ _ 0 (by first | rfl | (simp only [size_al]; first | done | omega)) | (refine cell_al ?_ (by simp only [size_al]; omega))))).mono ?_); (rintro e w3 ⟨g, zs, rfl, hN, hb⟩); (have BB : Below w.heap.size w w3 := b_of (by repeat first | exact below_self _ | refine ba ?_ _ ) hb (by simp; try omega)); (have HN : New w.heap.size _ _ zs _ w3 := hN.base (by simp; try omega)); (have hg := hN.ge); (simp at hg); clear hN hb))
  go_ret2
  exact ⟨_, zs, rfl, by simpa using (HN.congr (fun k hk => FEQ k (by simpa using hk))), BB⟩
set_option maxHeartbeats 1000000 in
theorem mapply {X : Option Addr} {cX : Nat} {G : Nat → Cn} {ys : List Cw} (hx : Lst w X C G ys) : Calls Try.prog 39 #[.agg #[.int .i64 R, .int .i64 C, .slice A (R * C) c], .slice X C cX] w fun e w' => ∃ g zs, e = .returned (.tuple #[.slice (some ⟨g, 0, none⟩) R R, .int .i64 0]) ∧ New w.heap.size (fun k => sumZ (fun t => mulZ (F (k * C + t)) (G t)) C) R zs (.slice (some ⟨g, 0, none⟩) R R) w' ∧ Below w.heap.size w w' := by
  have hR := h.hR
  have hC := h.hC
  have hmb := h.mb
  have hn := small (le_4096 hR hC)
  have FEQ : ∀ k, k < R → flat 1 (fun i _ => sumZ (fun k => mulZ (F (i * C + k)) (G k)) C) k = sumZ (fun t => mulZ (F (k * C + t)) (G t)) C := fun k _ => by unfold flat; rw [Nat.div_one]
  go_enter Try.func39, Try.ntmps39
  go_wp2_with (first
    | (go_at_call 63; (refine (mayBe_any _ _ _ _ _ _ hn).mono ?_); (rintro e w' ⟨rfl, rfl⟩); (rw [hmb]))
    | (go_at_call 65; (refine (made_any _ _ _ R 1 _ hR (by decide) ent_apply1 (says_mapply (B := w.heap.size) (Bx := w.heap.size + 1) (cX := cX) (h.below (by repeat first | exact below_self _ | refine ba ?_ _ )) (by repeat first | exact v3_at _ _ _ _ _ (by first | rfl | (simp only [size_al]; first | done | omega)) | refine V3.below ?_ (bal _ _)) (hx.below (by repeat first | exact below_self _ | refine ba ?_ _ )) (by simp; try omega) (by repeat first | exact al_at _ _ _ _ 0 (by first | rfl | (simp only [size_al]; first | done | omega)) | (refine cell_al ?_ (by simp only [size_al]; omega))))).mono ?_); (rintro e w3 ⟨g, zs, rfl, hN, hb⟩); (have BB : Below w.heap.size w w3 := b_of (by repeat first | exact below_self _ | refine ba ?_ _ ) hb (by simp; try omega)); (have HN : New w.heap.size _ _ zs _ w3 := hN.base (by simp; try omega)); (have hg := hN.ge); (simp at hg); clear hN hb))
  go_ret2
  exact ⟨_, zs, rfl, by simpa using (HN.congr (fun k hk => FEQ k (by simpa using hk))), BB⟩
end one

end Go.Proofs.Ytjjpgmgnejhggaa
