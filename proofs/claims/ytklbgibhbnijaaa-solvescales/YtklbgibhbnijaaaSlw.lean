/-
  Conjugates of long lists; what Solve, Transposed and Det tell of a matrix and its conjugate.
-/
import Derived.Test.YtklbgibhbnijaaaSlv
import Derived.Test.YtklbgibhbnijaaaWLMf
import Derived.Test.YtklbgibhbnijaaaSlu
import Derived.Test.YtklbgibhbnijaaaLkb
namespace Go.Proofs.Ytklbgibhbnijaaa
open Fl RowKit

/-- the error that is told, and how many unknowns -/
def sE (N : Nat) (s : Int) (l : Nat) (xs : List Cw) (ok : Bool) : Int := if rfS N s l xs = 0 then (if ok = true then 0 else 6) else rfS N s l xs
def nS10 (N : Nat) (E : Int) : Nat := if E = 0 then N else 0
theorem rfS_len {N l : Nat} {s : Int} {xs : List Cw} (h : rfS N s l xs = 0) : l = N := by
  unfold rfS at h
  by_cases h0 : s = 0
  · rw [if_pos h0] at h; exact absurd h (by decide)
  · rw [if_neg h0] at h
    by_cases h1 : l = N
    · exact h1
    · rw [if_pos h1] at h; exact absurd h (by decide)
section told
variable {w : World} {v : Value} {N : Nat} {M : Nat → Nat → Cw} {o : Nat → Nat} {s : Int} (h : Lhd w v N M o s) {ao : Option Addr} {l cap : Nat} {xs : List Cw} (hl : xs.length = l) (hsz : l ≤ 1000000000000000) (hn : N ≤ 64) (hc : Rc w ao xs) (hx : okl xs) (hM : okM N M) (ho : inO N o)
include h hl hsz hn hc hx hM ho
theorem solveC (E : Int) (hE : E = sE N s l xs (solK N M o xs)) : Calls Try.prog 27 #[v, .slice ao l cap] w fun e w' => ∃ A c y, e = .returned (.tuple #[.slice A (nS10 N E) c, .int .i64 E]) ∧ Rc w' A (ro (nS10 N E) y) ∧ (∀ k, k < nS10 N E → repz (solX N M o xs k) (y k)) ∧ Below w.heap.size w w' := by
  by_cases h0 : rfS N s l xs = 0
  · refine (solve_ok h hl hsz hn hc hx h0 hM ho.1).mono ?_
    rintro e w' ⟨u, E', rfl, hG, hb⟩
    rcases hG with ⟨k1, rfl, g, y, rfl, k2, k3⟩ | ⟨k1, rfl, rfl⟩
    · have e0 : E = 0 := by rw [hE]; unfold sE; rw [if_pos h0, if_pos k1]
      subst e0
      exact ⟨_, _, y, rfl, k3.rc, k2, hb⟩
    · have e0 : E = 6 := by rw [hE]; unfold sE; rw [if_pos h0, k1]; rfl
      subst e0
      exact ⟨none, 0, fun _ => (0, 0), rfl, Rc.nil _ _, fun k hk => absurd hk (by simp [nS10]), hb⟩
  · refine (solve_err h hl hsz hn hc hx h0).mono ?_
    rintro e w' ⟨rfl, hb⟩
    have e0 : E = rfS N s l xs := by rw [hE]; unfold sE; rw [if_neg h0]
    have e1 : nS10 N E = 0 := by unfold nS10; rw [if_neg (by rw [e0]; exact h0)]
    rw [e1, e0]
    exact ⟨none, 0, fun _ => (0, 0), rfl, Rc.nil _ _, fun k hk => absurd hk (by omega), hb⟩
theorem transC (E : Int) (hE : E = sE N s l xs (trK N M xs)) : Calls Try.prog 53 #[v, .slice ao l cap] w fun e w' => ∃ A c y, e = .returned (.tuple #[.slice A (nS10 N E) c, .int .i64 E]) ∧ Rc w' A (ro (nS10 N E) y) ∧ (∀ i, i < nS10 N E → repz (trZ N M xs i) (y (o i))) ∧ Below w.heap.size w w' := by
  by_cases h0 : rfS N s l xs = 0
  · have hlN := rfS_len h0
    subst hlN
    refine (trans_ok h hl hn hc hx h0 hM ho).mono ?_
    rintro e w' ⟨u, E', rfl, hG, hb⟩
    rcases hG with ⟨k1, rfl, g, y, rfl, k2, k3⟩ | ⟨k1, rfl, rfl⟩
    · have e0 : E = 0 := by rw [hE]; unfold sE; rw [if_pos h0, if_pos k1]
      subst e0
      exact ⟨_, _, y, rfl, k3.rc, k2, hb⟩
    · have e0 : E = 6 := by rw [hE]; unfold sE; rw [if_pos h0, k1]; rfl
      subst e0
      exact ⟨none, 0, fun _ => (0, 0), rfl, Rc.nil _ _, fun k hk => absurd hk (by simp [nS10]), hb⟩
  · refine (trans_err h hl hsz hn hc hx h0).mono ?_
    rintro e w' ⟨rfl, hb⟩
    have e0 : E = rfS N s l xs := by rw [hE]; unfold sE; rw [if_neg h0]
    have e1 : nS10 N E = 0 := by unfold nS10; rw [if_neg (by rw [e0]; exact h0)]
    rw [e1, e0]
    exact ⟨none, 0, fun _ => (0, 0), rfl, Rc.nil _ _, fun k hk => absurd hk (by omega), hb⟩
end told
theorem mir_eq {X X' : Cn} {y y' : Cw} (h : cjZ X X') (hy : repz X y) (hy' : repz X' y') (hf : finN X = true) : eqB y'.1 (cjw y).1 = true ∧ eqB y'.2 (cjw y).2 = true := by
  have f := fin_repz hy
  rw [hf] at f
  have e := h.1
  rw [← hy.anz, ← hy'.anz] at e
  refine ⟨e.1.order' (rep_ans hy'.ok.1) (rep_ans hy.ok.1) (show nan y.1 = false from fin_nan (finZ_1 f)), e.2.order' (rep_ans hy'.ok.2) (rep_ng (rep_ans hy.ok.2)) ?_⟩
  show nan (ngW y.2) = false
  rw [nan_ngW hy.ok.2]
  exact fin_nan (finZ_2 f)
theorem rfS_con {N l : Nat} {s : Int} {xs ys : List Cw} (hx : okl xs) (hy : ∀ k, k < l → zat ys k = cjw (zat xs k)) : rfS N s l ys = rfS N s l xs := by
  have : finL ys l = finL xs l := by
    rw [Bool.eq_iff_iff, finL_iff, finL_iff]
    constructor
    · intro h j hj
      have := h j hj
      rw [hy j hj, cjw_fin (hx j)] at this
      exact this
    · intro h j hj
      rw [hy j hj, cjw_fin (hx j)]
      exact h j hj
  unfold rfS
  rw [this]
theorem sE_ok {N l : Nat} {s : Int} {xs : List Cw} {ok : Bool} {k : Nat} (hk : k < nS10 N (sE N s l xs ok)) : ok = true ∧ l = N ∧ k < N := by
  unfold nS10 at hk
  by_cases h : sE N s l xs ok = 0
  · rw [if_pos h] at hk
    unfold sE at h
    by_cases h0 : rfS N s l xs = 0
    · rw [if_pos h0] at h
      cases ok
      · exact absurd h (by decide)
      · exact ⟨rfl, rfS_len h0, hk⟩
    · rw [if_neg h0] at h; exact absurd h h0
  · rw [if_neg h] at hk; omega
theorem mir10_cases (N : Nat) (f : Nat → Cw) (hN : N ≤ 64) (hf : ∀ k, k < N * N → okz (f k)) :
    (∃ E a, ¬ E = 0 ∧ OfFails N f E a ∧ OfFails N (fun k => cjw (f k)) E a) ∨
    (∃ S S', Eok N S ∧ Eok N S' ∧ Cj N S S' ∧ inO N S.o ∧ pvOk N (fun i => S.M i i) ∧ pvOk N (fun i => S'.M i i) ∧ OfMakes N f S ∧ OfMakes N (fun k => cjw (f k)) S') := by
  have hf' : ∀ k, k < N * N → okz ((fun k => cjw (f k)) k) := fun k hk => cjw_ok (hf k hk)
  have hnf := nff_con hf
  rcases of_cases N f hN hf with ⟨E, a, h0, hC, hw⟩ | ⟨h2, h3, hC⟩
  · refine .inl ⟨E, a, h0, hC, ?_⟩
    rcases of_cases N _ hN hf' with ⟨E', a', h0', hC', hw'⟩ | ⟨h2', h3', _⟩
    · have : E' = E ∧ a' = a := by
        rcases hw with ⟨w1, w2, w3⟩ | ⟨w1, w2, w3⟩
        · rcases hw' with ⟨v1, v2, v3⟩ | ⟨v1, v2, v3⟩
          · exact ⟨by rw [v2, w2], by rw [v3, w3, hnf]⟩
          · rw [hnf] at v1; omega
        · rcases hw' with ⟨v1, v2, v3⟩ | ⟨v1, v2, v3⟩
          · rw [hnf] at v1; omega
          · have := (elm_con (mat_ok hf) (mat_ok hf') (mat_fin w1) (mat_fin v1) (mat_con hf) N (Nat.le_refl _)).1
            exact ⟨by rw [v2, w2, this], by rw [v3, w3, this]⟩
      obtain ⟨rfl, rfl⟩ := this
      exact hC'
    · rcases hw with ⟨w1, _, _⟩ | ⟨w1, w2, _⟩
      · rw [hnf] at h2'; omega
      · have := (elm_con (mat_ok hf) (mat_ok hf') (mat_fin w1) (mat_fin h2') (mat_con hf) N (Nat.le_refl _)).1
        rw [this] at h3'
        exact absurd (w2.trans h3') h0
  · right
    have h2' : nff (ro (N * N) (fun k => cjw (f k))) (N * N) = N * N := hnf.trans h2
    have ec := elm_con (mat_ok hf) (mat_ok hf') (mat_fin h2) (mat_fin h2') (mat_con hf) N (Nat.le_refl _)
    have h3' : (elm N (mat9 N (fun k => cjw (f k))) N).1.1 = 0 := by rw [ec.1]; exact h3
    rcases of_cases N _ hN hf' with ⟨E', a', h0', _, hw'⟩ | ⟨_, _, hC'⟩
    · exfalso
      rcases hw' with ⟨v1, _, _⟩ | ⟨_, v2, _⟩
      · omega
      · exact absurd (v2.trans h3') h0'
    · have q1 := elm_eok (mat_ok hf) (mat_fin h2) N (Nat.le_refl _) h3
      have q2 := elm_eok (mat_ok hf') (mat_fin h2') N (Nat.le_refl _) h3'
      exact ⟨_, _, q1, q2, ec.2 h3, elm_in N (Nat.le_refl _) h3, pv_of q1 (elm_piv N (Nat.le_refl _) h3), pv_of q2 (elm_piv N (Nat.le_refl _) h3'), hC, hC'⟩

end Go.Proofs.Ytklbgibhbnijaaa
