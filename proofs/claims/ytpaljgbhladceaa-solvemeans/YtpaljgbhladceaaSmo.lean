/-
  The unknowns as SolveMeans reckons them: place by place, with its flag.
-/
import Derived.Test.YtpaljgbhladceaaSmn
import Derived.Test.YtpaljgbhladceaaSlw
import Derived.Test.YtpaljgbhladceaaBnb
namespace Go.Proofs.Ytpaljgbhladceaa
open Fl RowKit

theorem fwS_ge {m : Nat → Nat → Cn} {L : Cn → Cn → Cn} {f : Nat → Cn} : ∀ i j, i ≤ j → fwS m L f i j = f j := by
  intro i
  induction i with
  | zero => intro j _; rfl
  | succ i ih =>
    intro j hj
    show upC (fwS m L f i) i _ j = f j
    rw [upC_ne _ _ (by omega)]
    exact ih j (by omega)
theorem fwS_suc {m : Nat → Nat → Cn} {L : Cn → Cn → Cn} {f : Nat → Cn} {i j : Nat} (h : j < i) : fwS m L f (i + 1) j = fwS m L f i j := by
  show upC (fwS m L f i) i _ j = _
  rw [upC_ne _ _ (by omega)]
theorem fwS_new {m : Nat → Nat → Cn} {f : Nat → Cn} {i : Nat} : fwS m fstZ f (i + 1) i = redS (f i) (m i) (fwS m fstZ f i) i := by
  show upC (fwS m fstZ f i) i _ i = _
  rw [upC_self, fwS_ge i i (Nat.le_refl _)]
  rfl
theorem finS_congr {f g : Nat → Cn} {n : Nat} (h : ∀ j, j < n → f j = g j) : finS f n = finS g n := by
  induction n with
  | zero => rfl
  | succ n ih => unfold finS; rw [ih (fun j hj => h j (by omega)), h n (by omega)]
theorem fl_next {m : Nat → Nat → Cn} {f : Nat → Cn} {i : Nat} (hf : finN (f i) = true) : redF (f i) (m i) (fwS m fstZ f i) (finS (fwS m fstZ f i) i) i = finS (fwS m fstZ f (i + 1)) (i + 1) := by
  rw [redF_ok (fun _ => hf)]
  show _ = (finS (fwS m fstZ f (i + 1)) i && finN (fwS m fstZ f (i + 1) i))
  rw [fwS_new, finS_congr (fun j hj => fwS_suc hj)]
/-- the flag behind t places from the end -/
def gT (f : Nat → Cn) (n : Nat) : Nat → Bool
  | 0 => true
  | t + 1 => gT f n t && finN (f (n - 1 - t))
theorem gT_congr {f g : Nat → Cn} {n : Nat} : ∀ t, t ≤ n → (∀ j, n - t ≤ j → j < n → f j = g j) → gT f n t = gT g n t := by
  intro t
  induction t with
  | zero => intro _ _; rfl
  | succ t ih =>
    intro ht h
    unfold gT
    rw [ih (by omega) (fun j h1 h2 => h j (by omega) h2), h (n - 1 - t) (by omega) (by omega)]
theorem gT_iff {f : Nat → Cn} {n : Nat} : ∀ t, t ≤ n → (gT f n t = true ↔ ∀ j, n - t ≤ j → j < n → finN (f j) = true) := by
  intro t
  induction t with
  | zero => intro _; exact ⟨fun _ j h1 h2 => absurd h1 (by omega), fun _ => rfl⟩
  | succ t ih =>
    intro ht
    show (gT f n t && finN (f (n - 1 - t))) = true ↔ _
    rw [Bool.and_eq_true, ih (by omega)]
    constructor
    · rintro ⟨h1, h2⟩ j a b
      by_cases e : j = n - 1 - t
      · rw [e]; exact h2
      · exact h1 j (by omega) b
    · intro h
      exact ⟨fun j a b => h j (by omega) b, h _ (by omega) (by omega)⟩
theorem gT_all {f : Nat → Cn} {n : Nat} : gT f n n = finS f n := by
  rw [Bool.eq_iff_iff, gT_iff n (Nat.le_refl _), finS_iff]
  exact ⟨fun h j hj => h j (by omega) hj, fun h j _ hj => h j hj⟩
theorem bwS_le {n : Nat} {m : Nat → Nat → Cn} {L : Cn → Cn → Cn} {f : Nat → Cn} : ∀ t, t ≤ n → ∀ j, j < n - t → bwS n m L f t j = f j := by
  intro t
  induction t with
  | zero => intro _ j _; rfl
  | succ t ih =>
    intro ht j hj
    show upC (bwS n m L f t) (n - 1 - t) _ j = f j
    rw [upC_ne _ _ (by omega)]
    exact ih (by omega) j (by omega)
theorem bwS_suc {n : Nat} {m : Nat → Nat → Cn} {L : Cn → Cn → Cn} {f : Nat → Cn} {t j : Nat} (h : j ≠ n - 1 - t) : bwS n m L f (t + 1) j = bwS n m L f t j := by
  show upC (bwS n m L f t) (n - 1 - t) _ j = _
  rw [upC_ne _ _ h]
theorem bwS_new {n : Nat} {m : Nat → Nat → Cn} {L : Cn → Cn → Cn} {f : Nat → Cn} {t i : Nat} (h : i + 1 + t = n) : bwS n m L f (t + 1) i = L (redS (f i) (fun k => m i (i + 1 + k)) (fun k => bwS n m L f t (i + 1 + k)) t) (m i i) := by
  have e : n - 1 - t = i := by omega
  show upC (bwS n m L f t) (n - 1 - t) (L (redS (bwS n m L f t (n - 1 - t)) (fun k => m (n - 1 - t) (n - 1 - t + 1 + k)) (fun k => bwS n m L f t (n - 1 - t + 1 + k)) (n - 1 - (n - 1 - t))) (m (n - 1 - t) (n - 1 - t))) i = _
  rw [e, upC_self, show n - 1 - i = t by omega, bwS_le t (by omega) i (by omega)]
theorem bl_next {n : Nat} {m : Nat → Nat → Cn} {f : Nat → Cn} {t i : Nat} (h : i + 1 + t = n) :
    (redF (f i) (fun k => m i (i + 1 + k)) (fun k => bwS n m divZ f t (i + 1 + k)) (finS f n && gT (bwS n m divZ f t) n t) t && finN (bwS n m divZ f (t + 1) i)) = (finS f n && gT (bwS n m divZ f (t + 1)) n (t + 1)) := by
  have h0 : (finS f n && gT (bwS n m divZ f t) n t) = true → finN (f i) = true := fun e => by
    rw [Bool.and_eq_true] at e
    exact finS_iff.1 e.1 i (by omega)
  rw [redF_ok h0]
  have e2 : gT (bwS n m divZ f (t + 1)) n (t + 1) = (gT (bwS n m divZ f t) n t && finN (bwS n m divZ f (t + 1) i)) := by
    show (gT (bwS n m divZ f (t + 1)) n t && finN (bwS n m divZ f (t + 1) (n - 1 - t))) = _
    rw [show n - 1 - t = i by omega, gT_congr t (by omega) (fun j a b => bwS_suc (by omega))]
  rw [e2, bwS_new h]
  have hD : finN (redS (f i) (fun k => m i (i + 1 + k)) (fun k => bwS n m divZ f t (i + 1 + k)) t) = false → finN (divZ (redS (f i) (fun k => m i (i + 1 + k)) (fun k => bwS n m divZ f t (i + 1 + k)) t) (m i i)) = false := nf_divZ
  generalize finN (divZ (redS (f i) (fun k => m i (i + 1 + k)) (fun k => bwS n m divZ f t (i + 1 + k)) t) (m i i)) = D at hD ⊢
  generalize finN (redS (f i) (fun k => m i (i + 1 + k)) (fun k => bwS n m divZ f t (i + 1 + k)) t) = R at hD ⊢
  generalize finS f n = A
  generalize gT (bwS n m divZ f t) n t = B
  cases R
  · rw [hD rfl]; simp
  · simp [Bool.and_assoc]
/-- an entry, as the statements' at hands it back -/
theorem at10_any {N T : Nat} {A : Option Addr} {E : Nat → Cw} {W : World} {i j : Nat} (hN : N ≤ 64) (hT : T = N * N) (h : Rc W A (ro T E)) (hi : i < N) (hj : j < N) : Calls Try.prog 22 #[.agg #[.int .i64 N, .int .i64 N, .slice A T T], .int .i64 i, .int .i64 j] W fun e w' => e = .returned (.complex .f64 (E (i * N + j)).1 (E (i * N + j)).2) ∧ w' = W.alloc (.cells #[.int .i64 N, .int .i64 N, .slice A T T] 39) := by
  have hk := place_lt hi hj
  rw [← hT] at hk
  have h4 := le_4096 hN hN
  rw [← hT] at h4
  have hm := wrap_mul (i := i) (C := N) (by omega) (by omega)
  obtain ⟨B, off, hA, hB, hc⟩ := h (i * N + j) (by rw [ro_len]; exact hk)
  rw [ro_at _ hk] at hc
  subst hA
  obtain ⟨x, hx⟩ : ∃ x, x = E (i * N + j) := ⟨_, rfl⟩
  rw [← hx] at hc ⊢
  obtain ⟨k, hke⟩ : ∃ k, k = i * N := ⟨_, rfl⟩
  rw [← hke] at hm hc hk
  unfold cx at hc
  clear hx hke hT h
  go_enter Try.func22, Try.ntmps22
  go_wp2
  go_ret
  exact ⟨rfl, rfl⟩
theorem nums_any (ao : Option Addr) (cap n : Nat) (xs : List Cw) (w : World) (hn : xs.length = n) (hsz : xs.length * 16 ≤ 140737488355328) (hc : Rz w ao xs) :
    Calls Try.prog 8 #[.slice ao n cap] w fun e w' => ∃ A c, e = .returned (.slice A n c) ∧ Rc w' A (ro n (zat xs)) ∧ Below w.heap.size w w' := by
  subst hn
  refine (numbers_any ao cap xs w hsz hc).mono ?_
  rintro e w' ⟨v, rfl, ho, hb⟩
  obtain ⟨A, c, rfl, _, _, hr⟩ := own_rc rfl ho
  rw [ro_of (xs := xs) rfl] at hr
  exact ⟨A, c, rfl, hr, hb⟩
theorem hlT {w : World} {v : Value} {N T : Nat} {M : Nat → Nat → Cw} {o : Nat → Nat} {s : Int} (h : Lhd w v N M o s) (hN : N ≤ 64) (hT : T = N * N) : Calls Try.prog 17 #[v] w fun e w' => ∃ g, e = .returned (.agg #[.int .i64 N, .int .i64 N, .slice (some ⟨g, 0, none⟩) T T]) ∧ Rc w' (some ⟨g, 0, none⟩) (ro T (flw N (lE M))) ∧ Below w.heap.size w w' := by
  subst hT
  refine (lh_l h hN).mono ?_
  rintro e w' ⟨g, rfl, hR, hb⟩
  exact ⟨g, rfl, hR.rc, hb⟩
theorem huT {w : World} {v : Value} {N T : Nat} {M : Nat → Nat → Cw} {o : Nat → Nat} {s : Int} (h : Lhd w v N M o s) (hN : N ≤ 64) (hT : T = N * N) : Calls Try.prog 18 #[v] w fun e w' => ∃ g, e = .returned (.agg #[.int .i64 N, .int .i64 N, .slice (some ⟨g, 0, none⟩) T T]) ∧ Rc w' (some ⟨g, 0, none⟩) (ro T (flw N (uE M))) ∧ Below w.heap.size w w' := by
  subst hT
  refine (lh_u h hN).mono ?_
  rintro e w' ⟨g, rfl, hR, hb⟩
  exact ⟨g, rfl, hR.rc, hb⟩

end Go.Proofs.Ytpaljgbhladceaa
