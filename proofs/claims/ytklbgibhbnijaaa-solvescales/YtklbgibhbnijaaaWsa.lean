/-
  SolveScales' walk: what it carries.
-/
import Derived.Test.YtklbgibhbnijaaaBnf
import Derived.Test.YtklbgibhbnijaaaSlw
import Derived.Test.YtklbgibhbnijaaaSmy
import Derived.Test.YtklbgibhbnijaaaSls
namespace Go.Proofs.Ytklbgibhbnijaaa
open Fl RowKit

theorem rz_take {w : World} {A : Option Addr} {xs : List Cw} (h : Rz w A xs) (n : Nat) : Rz w A (xs.take n) := by
  intro k hk
  have hk' : k < xs.length := by rw [List.length_take] at hk; omega
  have hkn : k < n := by rw [List.length_take] at hk; omega
  have := h k hk'
  have e : zat (xs.take n) k = zat xs k := by simp [zat, List.getD_eq_getElem?_getD, hkn]
  rw [e]
  exact this
theorem fx_zero : FX 1074 1083 (0, 0) := FX_fw (p := 0) (q := 0) (by decide) (by decide)
/-- the matrix's numbers -/
def smF (n : Nat) (xs : List Cw) (k : Nat) : Cw := if k < n then whZ (zat xs k) else (0, 0)
theorem smF_fx (n : Nat) (xs : List Cw) (k : Nat) : FX 1074 1083 (smF n xs k) := by
  unfold smF
  split
  · exact whZ_fx _
  · exact fx_zero
theorem rw_some {w : World} {b n c : Nat} {A : Option Addr} {zs : List Cw} (h : Rw w b (.slice A n c) n zs) (hn : 0 < n) : ∃ g, A = some ⟨g, 0, none⟩ := by
  obtain ⟨ao, cap, e, _, h1, _⟩ := own_rc h.len.symm h.own
  injection e with e1 e2 e3
  subst e1
  rcases h1 with ⟨h0, _⟩ | ⟨g, h2, _⟩
  · have := h.len; omega
  · exact ⟨g, h2⟩
theorem FX.okz {h C : Nat} {z : Cw} (a : FX h C z) : okz z := ⟨a.a.l, a.b.l⟩
theorem FX.finZ {h C : Nat} {z : Cw} (a : FX h C z) : Go.Proofs.Ytklbgibhbnijaaa.finZ z = true := by
  unfold Go.Proofs.Ytklbgibhbnijaaa.finZ finB
  rw [Bool.and_eq_true]
  exact ⟨decide_eq_true a.a.f, decide_eq_true a.b.f⟩
theorem ldC {h C x k : Nat} (a : Fx h C x) (hh : 180 ≤ h) (hC : C ≤ 1800) (hk : 8 ≤ k) (hk2 : k ≤ 255) (p : Int) (hp : p = (k : Int) - 128) (W : World) :
    Calls Try.prog 26 #[.float .f64 x, .int .i64 p] W fun e w' => e = .returned (.float .f64 (ldx x p)) ∧ Below W.heap.size W w' := by
  subst hp
  refine (ldexp_gen x _ W a.l a.f (by omega) (by omega) (a.ld k hh hC hk hk2).2).mono ?_
  rintro e w' ⟨n, rfl, rfl⟩
  exact ⟨rfl, below_drewN (Below.refl _ _) n⟩
theorem fwS_cg {n : Nat} {m : Nat → Nat → Cn} {L : Cn → Cn → Cn} {f f' : Nat → Cn} (h : ∀ j, j < n → f j = f' j) : ∀ k, k ≤ n → ∀ j, j < n → fwS m L f k j = fwS m L f' k j := by
  intro k
  induction k with
  | zero => intro _; exact h
  | succ k ih =>
    intro hk j hj
    have ih' := ih (by omega)
    show upC (fwS m L f k) k _ j = upC (fwS m L f' k) k _ j
    by_cases e : j = k
    · rw [e, upC_self, upC_self, ih' k (by omega), redS_congr (fun _ _ => rfl) (fun i hi => ih' i (by omega))]
    · rw [upC_ne _ _ e, upC_ne _ _ e]; exact ih' j hj
theorem bwS_cg {n : Nat} {m : Nat → Nat → Cn} {L : Cn → Cn → Cn} {f f' : Nat → Cn} (h : ∀ j, j < n → f j = f' j) : ∀ t, t ≤ n → ∀ j, j < n → bwS n m L f t j = bwS n m L f' t j := by
  intro t
  induction t with
  | zero => intro _; exact h
  | succ t ih =>
    intro ht j hj
    have ih' := ih (by omega)
    show upC (bwS n m L f t) (n - 1 - t) _ j = upC (bwS n m L f' t) (n - 1 - t) _ j
    by_cases e : j = n - 1 - t
    · rw [e, upC_self, upC_self, ih' _ (by omega), redS_congr (fun _ _ => rfl) (fun i hi => ih' _ (by omega))]
    · rw [upC_ne _ _ e, upC_ne _ _ e]; exact ih' j hj
theorem slS_cg {n : Nat} {mL mU : Nat → Nat → Cn} {f f' : Nat → Cn} (h : ∀ j, j < n → f j = f' j) (j : Nat) (hj : j < n) : slS n mL mU f j = slS n mL mU f' j :=
  bwS_cg (fun i hi => fwS_cg h n (Nat.le_refl _) i hi) n (Nat.le_refl _) j hj
theorem finS_cg {f f' : Nat → Cn} {n : Nat} (h : ∀ j, j < n → f j = f' j) : finS f n = finS f' n := by
  rw [Bool.eq_iff_iff, finS_iff, finS_iff]
  exact ⟨fun k j hj => by rw [← h j hj]; exact k j hj, fun k j hj => by rw [h j hj]; exact k j hj⟩
theorem okS_cg {n : Nat} {mL mU : Nat → Nat → Cn} {f f' : Nat → Cn} (h : ∀ j, j < n → f j = f' j) : okS n mL mU f = okS n mL mU f' := by
  unfold okS
  rw [finS_cg (fun j hj => slS_cg h j hj), finS_cg (f := frw n mL f) (f' := frw n mL f') (fun j hj => fwS_cg h n (Nat.le_refl _) j hj)]
theorem rep_word {z y : Cw} (hz : Go.Proofs.Ytklbgibhbnijaaa.finZ z = true) (h : repz (anz z) y) : y = z := by
  have n1 := fin_nan (finZ_1 hz)
  have n2 := fin_nan (finZ_2 hz)
  have h' : repz (some z.1, some z.2) y := by
    unfold anz at h
    rw [ans_num n1, ans_num n2] at h
    exact h
  exact repz_lit h'
/-- all that SolveScales asks of the numbers: the unknowns, those of the shifted side, and both as columns -/
theorem scales_num {N k : Nat} {M : Nat → Nat → Cw} {b : Nat → Cw} {D : Nat → Cw} (hN : N ≤ 2) (hM : ∀ i j, i < N → j < N → FX 1074 1083 (M i j)) (h : (elm N M N).1.1 = 0) (hk : 8 ≤ k) (hk2 : k ≤ 255) (hb : ∀ i, FX 1074 1083 (b i))
    (hD0 : ∀ i, i < N → D (2 * i) = b i) (hD1 : ∀ i, i < N → D (2 * i + 1) = (ldx (b i).1 ((k : Int) - 128), ldx (b i).2 ((k : Int) - 128))) :
    ∃ x : Nat → Cw, (∀ i, i < N → FX 500 1263 (x i)) ∧
      (∀ y : Nat → Cw, (∀ i, i < N → repz (solX N (elm N M N).2.M (elm N M N).2.o (ro N b) i) (y i)) → ∀ i, i < N → y i = x i) ∧
      (∀ y : Nat → Cw, (∀ i, i < N → repz (solX N (elm N M N).2.M (elm N M N).2.o (ro N (fun i => (ldx (b i).1 ((k : Int) - 128), ldx (b i).2 ((k : Int) - 128)))) i) (y i)) → ∀ i, i < N → y i = (ldx (x i).1 ((k : Int) - 128), ldx (x i).2 ((k : Int) - 128))) ∧
      (∀ y : Nat → Cw, (∀ i j, i < N → j < 2 → repz (colX N 2 (elm N M N).2.M (elm N M N).2.o D j i) (y (i * 2 + j))) → ∀ i, i < N → y (i * 2) = x i ∧ y (i * 2 + 1) = (ldx (x i).1 ((k : Int) - 128), ldx (x i).2 ((k : Int) - 128))) ∧
      solK N (elm N M N).2.M (elm N M N).2.o (ro N b) = true ∧ solK N (elm N M N).2.M (elm N M N).2.o (ro N (fun i => (ldx (b i).1 ((k : Int) - 128), ldx (b i).2 ((k : Int) - 128)))) = true ∧ (∀ j, j < 2 → colK N 2 (elm N M N).2.M (elm N M N).2.o D j = true) := by
  have hin := elm_in N (Nat.le_refl _) h
  obtain ⟨x, h1, h2, h3⟩ := sol_sc (c := fun i => b ((elm N M N).2.o i)) (c' := fun i => (ldx (b ((elm N M N).2.o i)).1 ((k : Int) - 128), ldx (b ((elm N M N).2.o i)).2 ((k : Int) - 128))) hN hM h hk hk2 (fun i _ => (hb _).ld k (by decide) (by decide) hk hk2)
  have g1 : ∀ i, i < N → Go.Proofs.Ytklbgibhbnijaaa.finZ (ldx (x i).1 ((k : Int) - 128), ldx (x i).2 ((k : Int) - 128)) = true := fun i hi => by
    have g := (h1 i hi).2.1.ld k (by decide) (by decide) hk hk2
    unfold Go.Proofs.Ytklbgibhbnijaaa.finZ finB
    rw [Bool.and_eq_true]
    exact ⟨decide_eq_true g.a.s.2.1, decide_eq_true g.b.s.2.1⟩
  have e0 : ∀ i, i < N → anz (zat (ro N b) ((elm N M N).2.o i)) = anz (b ((elm N M N).2.o i)) := fun i hi => by rw [ro_at _ (hin.1 i hi)]
  have e1 : ∀ i, i < N → anz (zat (ro N (fun i => (ldx (b i).1 ((k : Int) - 128), ldx (b i).2 ((k : Int) - 128)))) ((elm N M N).2.o i)) = anz (ldx (b ((elm N M N).2.o i)).1 ((k : Int) - 128), ldx (b ((elm N M N).2.o i)).2 ((k : Int) - 128)) := fun i hi => by rw [ro_at _ (hin.1 i hi)]
  have e2 : ∀ i, i < N → anz (D ((elm N M N).2.o i * 2 + 0)) = anz (b ((elm N M N).2.o i)) := fun i hi => by rw [Nat.add_zero, ← hD0 _ (hin.1 i hi), Nat.mul_comm]
  have e3 : ∀ i, i < N → anz (D ((elm N M N).2.o i * 2 + 1)) = anz (ldx (b ((elm N M N).2.o i)).1 ((k : Int) - 128), ldx (b ((elm N M N).2.o i)).2 ((k : Int) - 128)) := fun i hi => by rw [← hD1 _ (hin.1 i hi), Nat.mul_comm]
  refine ⟨x, fun i hi => (h1 i hi).2.1, fun y hy i hi => ?_, fun y hy i hi => ?_, fun y hy i hi => ⟨?_, ?_⟩, ?_, ?_, fun j hj => ?_⟩
  · refine rep_word (h1 i hi).2.1.finZ ?_
    have := hy i hi
    unfold solX at this
    rw [slS_cg e0 i hi, (h1 i hi).1] at this
    exact this
  · refine rep_word (g1 i hi) ?_
    have := hy i hi
    unfold solX at this
    rw [slS_cg e1 i hi, (h1 i hi).2.2] at this
    exact this
  · refine rep_word (h1 i hi).2.1.finZ ?_
    have := hy i 0 hi (by omega)
    unfold colX at this
    rw [slS_cg e2 i hi, (h1 i hi).1] at this
    exact this
  · refine rep_word (g1 i hi) ?_
    have := hy i 1 hi (by omega)
    unfold colX at this
    rw [slS_cg e3 i hi, (h1 i hi).2.2] at this
    exact this
  · unfold solK; rw [okS_cg e0]; exact h2
  · unfold solK; rw [okS_cg e1]; exact h3
  · unfold colK
    rcases (show j = 0 ∨ j = 1 by omega) with rfl | rfl
    · rw [okS_cg e2]; exact h2
    · rw [okS_cg e3]; exact h3

end Go.Proofs.Ytklbgibhbnijaaa
