/-
  What Norm1 of package matrix hands back.
-/
import Derived.Test.YtjjpgmgnejhggaaMh
namespace Go.Proofs.Ytjjpgmgnejhggaa
open Fl RowKit

/-- sizes summed -/
def nrF (f : Nat → Cn) : Nat → Option Nat
  | 0 => some 0
  | k + 1 => addA (nrF f k) (sizZ (f k))
theorem nrm_nrF {xs : List Cw} {f : Nat → Cn} {n : Nat} (h : repl f n xs) : ∀ k, k ≤ n → nrm xs k = nrF f k := by
  intro k
  induction k with
  | zero => intro _; rfl
  | succ k ih =>
    intro hk
    show addA (nrm xs k) (sizZ (anz (zat xs k))) = addA (nrF f k) (sizZ (f k))
    rw [ih (by omega), h.anz (by omega : k < n)]
theorem nrF_bd (f : Nat → Cn) (k : Nat) : bdA (nrF f k) := by
  cases k with
  | zero => intro r hr; cases hr; exact ⟨by decide, by decide⟩
  | succ k => exact bd_addA _ _
theorem nrF_congr {f g : Nat → Cn} {n : Nat} (h : ∀ j, j < n → f j = g j) : nrF f n = nrF g n := by
  induction n with
  | zero => rfl
  | succ n ih =>
    show addA (nrF f n) (sizZ (f n)) = addA (nrF g n) (sizZ (g n))
    rw [ih (fun j hj => h j (by omega)), h n (by omega)]
/-- the greatest of some answers, +0 ahead of them -/
def mxF (t : Nat → Option Nat) : Nat → Nat
  | 0 => 0
  | k + 1 => if ordA (t k) (some (mxF t k)) == some .gt then (t k).getD 0 else mxF t k
theorem mxF_ok {t : Nat → Option Nat} (ht : ∀ k, bdA (t k)) (k : Nat) : mxF t k < 18446744073709551616 ∧ nan (mxF t k) = false := by
  induction k with
  | zero => exact ⟨Nat.zero_lt_succ _, show nan 0 = false from by decide⟩
  | succ k ih =>
    unfold mxF
    split
    · cases h : t k with
      | none => exact ⟨by decide, by decide⟩
      | some r => exact ht k r h
    · exact ih
theorem mxF_step (t : Nat → Option Nat) (k : Nat) (hs : rep (some (mxF t k)) (mxF t k)) (r : Nat) (hr : rep (t k) r) : mxF t (k + 1) = if FloatKind.f64.format.order r (mxF t k) == some .gt then r else mxF t k := by
  rw [ordA_of hr hs]
  show (if ordA (t k) (some (mxF t k)) == some .gt then (t k).getD 0 else mxF t k) = _
  cases h : (ordA (t k) (some (mxF t k)) == some .gt)
  · rfl
  · simp only [if_true]
    cases h2 : t k with
    | none => rw [h2] at h; cases h
    | some c => rw [rep_is hr h2]; rfl
/-- the sums of the columns' sizes -/
def colT (F : Nat → Cn) (R C j : Nat) : Option Nat := nrF (fun i => F (i * C + j)) R
set_option maxHeartbeats 1000000 in
theorem mnorm {w : World} {R C c : Nat} {A : Option Addr} {F : Nat → Cn} {xs : List Cw} (h : Mx w R C A c F xs) : Calls Try.prog 40 #[.agg #[.int .i64 R, .int .i64 C, .slice A (R * C) c]] w fun e w' => e = .returned (.tuple #[.float .f64 (mxF (colT F R C) C), .int .i64 0]) ∧ Below w.heap.size w w' := by
  have hR := h.hR
  have hC := h.hC
  have hmb := h.mb
  have hn := small (le_4096 hR hC)
  have hT : ∀ k, bdA (colT F R C k) := fun k => nrF_bd _ _
  go_enter Try.func40, Try.ntmps40
  go_wp2_with (first
    | (go_at_call 63; (refine (mayBe_any _ _ _ _ _ _ hn).mono ?_); (rintro e w' ⟨rfl, rfl⟩); (rw [hmb]))
    | (go_at_call 64; (refine (mtransposed (h.below (by repeat first | exact below_self _ | refine ba ?_ _ ))).mono ?_); (rintro e w1 ⟨g1, zs1, rfl, hN1, hb1⟩); (have Va : V3 w.heap.size (.int .i64 R) (.int .i64 C) (.slice A (R * C) c) w1 := V3.below (by repeat first | exact v3_at _ _ _ _ _ (by first | rfl | (simp only [size_al]; first | done | omega)) | refine V3.below ?_ (bal _ _)) hb1); (have B1 : Below w.heap.size w w1 := b_of (by repeat first | exact below_self _ | refine ba ?_ _ ) hb1 (by simp only [size_al]; omega)); (have s1 := hb1.size); (simp only [size_al] at s1); (have M1 := new_mx hN1 hC hR); clear hb1 hN1; (have l0 : w.heap.size < w1.heap.size := by omega); (have a0 := Va.c0); (have a1 := Va.c1); (have a2 := Va.c2)))
  have Vm : V3 w1.heap.size (.int .i64 C) (.int .i64 R) (.slice (some ⟨g1, 0, none⟩) (C * R) (C * R)) (w1.alloc (.cells #[.int .i64 C, .int .i64 R, .slice (some ⟨g1, 0, none⟩) (C * R) (C * R)] 28)) := v3_new w1 _ _ _ _
  have M2 := M1.below (bal w1 (.cells #[.int .i64 C, .int .i64 R, .slice (some ⟨g1, 0, none⟩) (C * R) (C * R)] 28))
  have B2 : Below w.heap.size w (w1.alloc (.cells #[.int .i64 C, .int .i64 R, .slice (some ⟨g1, 0, none⟩) (C * R) (C * R)] 28)) := ba B1 _
  go_loopw [5, 15] (fun sv iv wr => ∃ (k s : Nat), k ≤ C ∧ iv = .int .i64 k ∧ sv = .float .f64 s ∧ s = mxF (colT F R C) k ∧ V3 w1.heap.size (.int .i64 C) (.int .i64 R) (.slice (some ⟨g1, 0, none⟩) (C * R) (C * R)) wr ∧ Mx wr C R (some ⟨g1, 0, none⟩) (C * R) (flat R (fun j i => F (i * C + j))) zs1 ∧ Below w.heap.size w wr) (fun _ iv _ => C - (intOf iv).toNat)
  case atStart => exact ⟨0, 0, Nat.zero_le _, rfl, rfl, rfl, Vm, M2, B2⟩
  case round =>
    clear Vm M2 B2 M1 B1 Va
    obtain ⟨k, s, hk, rfl, rfl, hs, Vm, M, hbel⟩ := hrel
    by_cases hlt : k < C
    · have HX := mxF_step (colT F R C) k
      have hsn := mxF_ok hT k
      rw [← hs] at HX hsn
      have rs : rep (some s) s := rep_num hsn.1 hsn.2
      have HH : Hid (∀ r, rep (colT F R C k) r → mxF (colT F R C) (k + 1) = if FloatKind.f64.format.order r s == some .gt then r else s) := HX rs
      have HT : Hid (nrF (fun j => flat R (fun j i => F (i * C + j)) (k * R + j)) R = colT F R C k) := nrF_congr (fun j hj => flat_at hj)
      have HM : Hid (Mx wr C R (some ⟨g1, 0, none⟩) (C * R) (flat R (fun j i => F (i * C + j))) zs1) := M
      have HV : Hid (V3 w1.heap.size (.int .i64 C) (.int .i64 R) (.slice (some ⟨g1, 0, none⟩) (C * R) (C * R)) wr) := Vm
      have HB : Hid (Below w.heap.size w wr) := hbel
      have m0 := Vm.c0
      have m1 := Vm.c1
      have m2 := Vm.c2
      clear hsn rs HX hs hT Vm M hbel
      go_wp2_with (first
        | (go_at_call 68; (refine (mrow HM.out hlt).mono ?_); (rintro e w2 ⟨A2, k2, rfl, L2, bb2⟩))
        | (go_at_call 94; (refine (lnorm_any L2 (by omega)).mono ?_); (rintro e w3 ⟨r, m, rfl, hr, hw3⟩); (subst w3); (have hr2 := hr); (rw [nrm_nrF L2.rep _ (Nat.le_refl _), HT.out] at hr2); (have E := HH.out r hr2); (have B3 : Below wr.heap.size wr (w2.drewN m) := below_drewN bb2 m); clear hr hr2 bb2 L2))
      all_goals
        refine ⟨⟨k + 1, _, by omega, by go_num, rfl, ?_, HV.out.below B3, HM.out.below B3, b_of HB.out B3 HB.out.size⟩, by simp [intOf]; omega⟩
        first
          | (rw [E, if_pos (by assumption)]; done)
          | (rw [E, if_neg (by simp [*])]; done)
    · have e : k = C := by omega
      rw [e] at hs
      have HS : Hid (s = mxF (colT F R C) C) := hs
      clear hs hT e
      go_wp2
      go_ret2
      exact ⟨by rw [← HS.out]; rfl, hbel⟩

end Go.Proofs.Ytjjpgmgnejhggaa
