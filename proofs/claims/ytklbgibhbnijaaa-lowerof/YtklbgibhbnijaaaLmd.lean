/-
  A matrix and its conjugate: refused likewise, or eliminated side by side; what L and U then are.
-/
import Derived.Test.YtklbgibhbnijaaaLmc
namespace Go.Proofs.Ytklbgibhbnijaaa
open Fl RowKit

theorem cjw_ok {z : Cw} (h : okz z) : okz (cjw z) := ⟨h.1, ngW_lt h.2⟩
theorem cjw_fin {z : Cw} (h : okz z) : finZ (cjw z) = finZ z := by
  unfold finZ cjw finB
  rw [mg_ngW h.2]
theorem cjw_con {z : Cw} (h : okz z) : eqZ (anz (cjw z)) (conZ (anz z)) := ⟨Or.inl rfl, Or.inl (rep_ng (rep_ans h.2)).2⟩
theorem nff_congr {xs ys : List Cw} {n : Nat} (h : ∀ k, k < n → finZ (zat xs k) = finZ (zat ys k)) : nff xs n = nff ys n := by
  induction n with
  | zero => rfl
  | succ n ih =>
    unfold nff
    rw [ih (fun k hk => h k (by omega)), h n (by omega)]
theorem nff_con {n : Nat} {f : Nat → Cw} (h : ∀ k, k < n → okz (f k)) : nff (ro n (fun k => cjw (f k))) n = nff (ro n f) n :=
  nff_congr (fun k hk => by rw [ro_at _ hk, ro_at _ hk]; exact cjw_fin (h k hk))
theorem mat_ok {N : Nat} {f : Nat → Cw} (h : ∀ k, k < N * N → okz (f k)) : okM N (mat9 N f) := fun _ _ hi hj => h _ (place_lt hi hj)
theorem mat_fin {N : Nat} {f : Nat → Cw} (h : nff (ro (N * N) f) (N * N) = N * N) : finM N (mat9 N f) := fun i j hi hj => by
  have := finL_iff.1 (nff_fin h) (i * N + j) (place_lt hi hj)
  rw [ro_at _ (place_lt hi hj)] at this
  exact this
theorem mat_con {N : Nat} {f : Nat → Cw} (h : ∀ k, k < N * N → okz (f k)) : cjM N (mat9 N f) (mat9 N (fun k => cjw (f k))) := fun _ _ hi hj => cjw_con (h _ (place_lt hi hj))
theorem eq_con {z z' : Cw} (ho : okz z) (ho' : okz z') (_hf : finZ z = true) (hf' : finZ z' = true) (h : eqZ (anz z') (conZ (anz z))) : eqB (cjw z).1 z'.1 = true ∧ eqB (cjw z).2 z'.2 = true :=
  ⟨h.1.symm.order' (rep_ans ho.1) (rep_ans ho'.1) (fin_nan (finZ_1 hf')), h.2.symm.order' (rep_ng (rep_ans ho.2)) (rep_ans ho'.2) (fin_nan (finZ_2 hf'))⟩
theorem eq_c0 : eqB (cjw (0, 0)).1 0 = true ∧ eqB (cjw (0, 0)).2 0 = true := ⟨by kernel_rfl, by kernel_rfl⟩
theorem eq_c1 : eqB (cjw (4607182418800017408, 0)).1 4607182418800017408 = true ∧ eqB (cjw (4607182418800017408, 0)).2 0 = true := ⟨by kernel_rfl, by kernel_rfl⟩
theorem div_lt' {k n : Nat} (h : k < n * n) : k / n < n ∧ k % n < n := by
  have hn : 0 < n := by
    rcases Nat.eq_zero_or_pos n with h0 | h0
    · subst h0; omega
    · exact h0
  exact ⟨Nat.div_lt_of_lt_mul h, Nat.mod_lt _ hn⟩
theorem l_con {n : Nat} {S S' : Es} (e : Eok n S) (e' : Eok n S') (h : Cj n S S') : ∀ k, k < n * n → eqB (zat (ro (n * n) (fun k => cjw (flw n (lE S.M) k))) k).1 (zat (ro (n * n) (flw n (lE S'.M))) k).1 = true ∧ eqB (zat (ro (n * n) (fun k => cjw (flw n (lE S.M) k))) k).2 (zat (ro (n * n) (flw n (lE S'.M))) k).2 = true := by
  intro k hk
  rw [ro_at _ hk, ro_at _ hk]
  obtain ⟨h1, h2⟩ := div_lt' hk
  unfold flw lE lF
  by_cases a : k % n < k / n
  · simp only [a, if_true]
    exact eq_con (e.ok _ _ h1 h2) (e'.ok _ _ h1 h2) (e.fin _ _ h1 h2) (e'.fin _ _ h1 h2) (h.m _ _ h1 h2)
  · simp only [a, if_false]
    by_cases b : k % n = k / n
    · simp only [b, if_true]; exact eq_c1
    · simp only [b, if_false]; exact eq_c0
theorem u_con {n : Nat} {S S' : Es} (e : Eok n S) (e' : Eok n S') (h : Cj n S S') : ∀ k, k < n * n → eqB (zat (ro (n * n) (fun k => cjw (flw n (uE S.M) k))) k).1 (zat (ro (n * n) (flw n (uE S'.M))) k).1 = true ∧ eqB (zat (ro (n * n) (fun k => cjw (flw n (uE S.M) k))) k).2 (zat (ro (n * n) (flw n (uE S'.M))) k).2 = true := by
  intro k hk
  rw [ro_at _ hk, ro_at _ hk]
  obtain ⟨h1, h2⟩ := div_lt' hk
  unfold flw uE uF
  by_cases a : k % n < k / n
  · simp only [a, if_true]; exact eq_c0
  · simp only [a, if_false]
    exact eq_con (e.ok _ _ h1 h2) (e'.ok _ _ h1 h2) (e.fin _ _ h1 h2) (e'.fin _ _ h1 h2) (h.m _ _ h1 h2)
theorem lE_ok {n : Nat} {S : Es} (e : Eok n S) : ∀ k, k < n * n → okz (flw n (lE S.M) k) := by
  intro k hk
  obtain ⟨h1, h2⟩ := div_lt' hk
  unfold flw lE lF
  split
  · exact e.ok _ _ h1 h2
  · split <;> exact ⟨by decide, by decide⟩
theorem uE_ok {n : Nat} {S : Es} (e : Eok n S) : ∀ k, k < n * n → okz (flw n (uE S.M) k) := by
  intro k hk
  obtain ⟨h1, h2⟩ := div_lt' hk
  unfold flw uE uF
  split
  · exact ⟨by decide, by decide⟩
  · exact e.ok _ _ h1 h2
/-- what Of says of a square matrix and of its conjugate -/
def OfFails (N : Nat) (f : Nat → Cw) (E a : Int) : Prop := ∀ (W : World) (A : Option Addr) (c : Nat), N * N ≤ c → Rc W A (ro (N * N) f) → Calls Try.prog 14 #[.agg #[.int .i64 N, .int .i64 N, .slice A (N * N) c]] W fun e w' => e = .returned (.tuple #[.pointer none, .agg #[.int .i64 E, .int .i64 a]]) ∧ Below W.heap.size W w'
def OfMakes (N : Nat) (f : Nat → Cw) (S : Es) : Prop := ∀ (W : World) (A : Option Addr) (c : Nat), N * N ≤ c → Rc W A (ro (N * N) f) → Calls Try.prog 14 #[.agg #[.int .i64 N, .int .i64 N, .slice A (N * N) c]] W fun e w' => ∃ p gr go bl, e = .returned (.tuple #[.pointer (some ⟨p, 0, none⟩), .agg #[.int .i64 0, .int .i64 0]]) ∧ Lo w' W.heap.size p N gr go bl S.M S.o S.s ∧ Below W.heap.size W w'
theorem mir_cases (N : Nat) (f : Nat → Cw) (hN : N ≤ 64) (hf : ∀ k, k < N * N → okz (f k)) :
    (∃ E a, ¬ E = 0 ∧ OfFails N f E a ∧ OfFails N (fun k => cjw (f k)) E a) ∨
    (∃ S S', Eok N S ∧ Eok N S' ∧ Cj N S S' ∧ inO N S.o ∧ (0 < N → ∀ i, i < N → wt (f (i * N)) ≤ wt (f (S.o 0 * N)) ∧ finZ (f (i * N)) = true) ∧ OfMakes N f S ∧ OfMakes N (fun k => cjw (f k)) S') := by
  have hf' : ∀ k, k < N * N → okz ((fun k => cjw (f k)) k) := fun k hk => cjw_ok (hf k hk)
  have hnf := nff_con hf
  rcases of_cases N f hN hf with ⟨E, a, h0, hC, hw⟩ | ⟨h2, h3, hC⟩
  · refine .inl ⟨E, a, h0, hC, ?_⟩
    rcases of_cases N _ hN hf' with ⟨E', a', h0', hC', hw'⟩ | ⟨h2', h3', _⟩
    · have : E' = E ∧ a' = a := by
        rcases hw with ⟨w1, w2, w3⟩ | ⟨w1, w2, w3⟩
        · rcases hw' with ⟨v1, v2, v3⟩ | ⟨v1, v2, v3⟩
          · exact ⟨by rw [v2, w2], by rw [v3, w3, hnf]⟩
          · rw [hnf] at v1; omega
        · rcases hw' with ⟨v1, v2, v3⟩ | ⟨v1, v2, v3⟩
          · rw [hnf] at v1; omega
          · have := (elm_con (mat_ok hf) (mat_ok hf') (mat_fin w1) (mat_fin v1) (mat_con hf) N (Nat.le_refl _)).1
            exact ⟨by rw [v2, w2, this], by rw [v3, w3, this]⟩
      obtain ⟨rfl, rfl⟩ := this
      exact hC'
    · rcases hw with ⟨w1, _, _⟩ | ⟨w1, w2, _⟩
      · rw [hnf] at h2'; omega
      · have := (elm_con (mat_ok hf) (mat_ok hf') (mat_fin w1) (mat_fin h2') (mat_con hf) N (Nat.le_refl _)).1
        rw [this] at h3'
        exact absurd (w2.trans h3') h0
  · right
    have h2' : nff (ro (N * N) (fun k => cjw (f k))) (N * N) = N * N := hnf.trans h2
    have ec := elm_con (mat_ok hf) (mat_ok hf') (mat_fin h2) (mat_fin h2') (mat_con hf) N (Nat.le_refl _)
    have h3' : (elm N (mat9 N (fun k => cjw (f k))) N).1.1 = 0 := by rw [ec.1]; exact h3
    rcases of_cases N _ hN hf' with ⟨E', a', h0', _, hw'⟩ | ⟨_, _, hC'⟩
    · rcases hw' with ⟨v1, _, _⟩ | ⟨_, v2, _⟩
      · omega
      · exact absurd (v2.trans h3') h0'
    · refine ⟨_, _, elm_eok (mat_ok hf) (mat_fin h2) N (Nat.le_refl _) h3, elm_eok (mat_ok hf') (mat_fin h2') N (Nat.le_refl _) h3', ec.2 h3, elm_in N (Nat.le_refl _) h3, fun hN0 i hi => ?_, hC, hC'⟩
      obtain ⟨e1, e2⟩ := elm_first N hN0 (Nat.le_refl _) h3
      have h4 := first_most e2 i hi
      have h5 := mat_fin h2 i 0 hi hN0
      unfold mat9 at h4 h5
      rw [Nat.add_zero, Nat.add_zero] at h4
      rw [Nat.add_zero] at h5
      exact ⟨by rw [e1]; exact h4, h5⟩

end Go.Proofs.Ytklbgibhbnijaaa
