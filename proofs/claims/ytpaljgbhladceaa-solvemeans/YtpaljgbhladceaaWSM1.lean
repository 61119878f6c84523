/-
  SolveMirrors' walk, where both are eliminated: what it needs of the numbers.
-/
import Derived.Test.YtpaljgbhladceaaWSM0
namespace Go.Proofs.Ytpaljgbhladceaa
open Fl RowKit

theorem sE_con {N l : Nat} {S S1 : Es} {xs : List Cw} {k1 k2 : Bool} (hx : okl xs) (hC : Cj N S S1) (hk : l = N → k2 = k1) : sE N S1.s l (ro l (fun k => cjw (zat xs k))) k2 = sE N S.s l xs k1 := by
  have hr := rfS_con (N := N) (s := S.s) (l := l) (xs := xs) (ys := ro l (fun k => cjw (zat xs k))) hx (fun k hk => ro_at _ hk)
  unfold sE
  rw [hC.s, hr]
  by_cases h0 : rfS N S.s l xs = 0
  · rw [if_pos h0, if_pos h0, hk (rfS_len h0)]
  · rw [if_neg h0, if_neg h0]
section mir
variable {N l : Nat} {S S1 : Es} {zs : List Cw} (hS : Eok N S) (hS1 : Eok N S1) (hC : Cj N S S1) (hin : inO N S.o) (hp1 : pvOk N (fun i => S1.M i i)) (hx : okl zs)
include hS hS1 hC hin hp1 hx
theorem smir_s (E : Int) (hE : E = sE N S.s l zs (solK N S.M S.o zs)) : E = sE N S1.s l (ro l (fun k => cjw (zat zs k))) (solK N S1.M S1.o (ro l (fun k => cjw (zat zs k)))) ∧
    ∀ y y' : Nat → Cw, (∀ k, k < nS10 N E → repz (solX N S.M S.o zs k) (y k)) → (∀ k, k < nS10 N E → repz (solX N S1.M S1.o (ro l (fun k => cjw (zat zs k))) k) (y' k)) → ∀ k, k < nS10 N E → eqB (zat (ro (nS10 N E) y') k).1 (zat (ro (nS10 N E) (fun k => cjw (y k))) k).1 = true ∧ eqB (zat (ro (nS10 N E) y') k).2 (zat (ro (nS10 N E) (fun k => cjw (y k))) k).2 = true := by
  have key : l = N → (∀ k, k < N → cjZ (solX N S.M S.o zs k) (solX N S1.M S1.o (ro l (fun k => cjw (zat zs k))) k)) ∧ solK N S1.M S1.o (ro l (fun k => cjw (zat zs k))) = solK N S.M S.o zs := fun e => by
    subst e
    exact sol_con hS hS1 hC hp1 hx (fun k hk => ro_at _ hk) hin.1
  refine ⟨?_, fun y y' h1 h2 k hk => ?_⟩
  · rw [hE]; exact (sE_con hx hC (fun e => (key e).2)).symm
  · rw [ro_at _ hk, ro_at _ hk]
    have hk' := hk
    rw [hE] at hk'
    obtain ⟨o1, o2, o3⟩ := sE_ok hk'
    refine mir_eq ((key o2).1 k o3) (h1 k hk) (h2 k hk) ?_
    unfold solK okS at o1
    rw [Bool.and_eq_true] at o1
    exact finS_iff.1 o1.2 k o3
theorem smir_t (E : Int) (hE : E = sE N S.s l zs (trK N S.M zs)) : E = sE N S1.s l (ro l (fun k => cjw (zat zs k))) (trK N S1.M (ro l (fun k => cjw (zat zs k)))) ∧
    ∀ y y' : Nat → Cw, (∀ i, i < nS10 N E → repz (trZ N S.M zs i) (y (S.o i))) → (∀ i, i < nS10 N E → repz (trZ N S1.M (ro l (fun k => cjw (zat zs k))) i) (y' (S1.o i))) → ∀ k, k < nS10 N E → eqB (zat (ro (nS10 N E) y') k).1 (zat (ro (nS10 N E) (fun k => cjw (y k))) k).1 = true ∧ eqB (zat (ro (nS10 N E) y') k).2 (zat (ro (nS10 N E) (fun k => cjw (y k))) k).2 = true := by
  have key : l = N → (∀ k, k < N → cjZ (trZ N S.M zs k) (trZ N S1.M (ro l (fun k => cjw (zat zs k))) k)) ∧ trK N S1.M (ro l (fun k => cjw (zat zs k))) = trK N S.M zs := fun e => by
    subst e
    exact tr_con hS hS1 hC hp1 hx (fun k hk => ro_at _ hk)
  refine ⟨?_, fun y y' h1 h2 k hk => ?_⟩
  · rw [hE]; exact (sE_con hx hC (fun e => (key e).2)).symm
  · rw [ro_at _ hk, ro_at _ hk]
    have hk' := hk
    rw [hE] at hk'
    obtain ⟨o1, o2, o3⟩ := sE_ok hk'
    have hm : nS10 N E = N := by
      have hk2 := hk
      unfold nS10 at hk2 ⊢
      by_cases h0 : E = 0
      · rw [if_pos h0]
      · rw [if_neg h0] at hk2; omega
    obtain ⟨i, i1, i2⟩ := inj_surj N S.o hin.1 hin.2 k o3
    have q1 := h1 i (by rw [hm]; exact i1)
    have q2 := h2 i (by rw [hm]; exact i1)
    rw [hC.o] at q2
    rw [i2] at q1 q2
    refine mir_eq ((key o2).1 i i1) q1 q2 ?_
    unfold trK at o1
    rw [Bool.and_eq_true] at o1
    exact finS_iff.1 o1.2 i i1
end mir
/-- the determinants -/
theorem smir_d {N : Nat} {S S1 : Es} (hS : Eok N S) (hS1 : Eok N S1) (hC : Cj N S S1) (hp : pvOk N (fun i => S.M i i)) (hp1 : pvOk N (fun i => S1.M i i)) :
    (detS (fun i => S1.M i i) N).2 = (detS (fun i => S.M i i) N).2 ∧ hom (detR S.s N (fun i => S.M i i)) ∧ eqB (detR S1.s N (fun i => S1.M i i)).1 (detR S.s N (fun i => S.M i i)).1 = true ∧ eqB (detR S1.s N (fun i => S1.M i i)).2 (ngW (detR S.s N (fun i => S.M i i)).2) = true := by
  obtain ⟨h1, h2⟩ := det_con hp hp1 (fun k hk => cj_m hS hS1 hC hk hk) N (Nat.le_refl _)
  have D := (det_inv hp N (Nat.le_refl _)).1
  have D' := (det_inv hp1 N (Nat.le_refl _)).1
  obtain ⟨f1, f2, _, _⟩ := D.fin1
  obtain ⟨f1', f2', _, _⟩ := D'.fin1
  have HD : hom (ngZ (detS (fun i => S.M i i) N).1) := by
    refine ⟨⟨ngW_lt D.1.1, ngW_lt D.1.2⟩, ?_, ?_⟩
    · have := D.2.1; unfold gz ngZ; simp only; rw [mg_ngW D.1.1, mg_ngW D.1.2]; exact this
    · have := D.2.2; unfold gz ngZ; simp only; rw [mg_ngW D.1.1, mg_ngW D.1.2]; exact this
  have HD' : hom (ngZ (detS (fun i => S1.M i i) N).1) := by
    refine ⟨⟨ngW_lt D'.1.1, ngW_lt D'.1.2⟩, ?_, ?_⟩
    · have := D'.2.1; unfold gz ngZ; simp only; rw [mg_ngW D'.1.1, mg_ngW D'.1.2]; exact this
    · have := D'.2.2; unfold gz ngZ; simp only; rw [mg_ngW D'.1.1, mg_ngW D'.1.2]; exact this
  have fin_of_hom : ∀ {z z' : Cw}, hom z → hom z' → cjZ (anz z) (anz z') → eqB z'.1 z.1 = true ∧ eqB z'.2 (ngW z.2) = true := fun {z z'} a b c => by
    refine mir_eq (y := z) (y' := z') c (repz_anz a.1) (repz_anz b.1) ?_
    obtain ⟨g1, g2, _, _⟩ := a.fin1
    unfold finN
    show (finO (ans z.1) && finO (ans z.2)) = true
    rw [ans_fin g1, ans_fin g2]
    show (finB z.1 && finB z.2) = true
    unfold finB
    unfold fin at g1 g2
    simp [g1, g2]
  unfold detR
  rw [hC.s]
  by_cases hs : S.s = -1
  · rw [if_pos hs, if_pos hs]
    have := fin_of_hom HD HD' (ng_con D.1 D'.1 h2 f1 f2 f1' f2')
    exact ⟨h1, HD, this.1, this.2⟩
  · rw [if_neg hs, if_neg hs]
    have := fin_of_hom D D' h2
    exact ⟨h1, D, this.1, this.2⟩

end Go.Proofs.Ytpaljgbhladceaa
