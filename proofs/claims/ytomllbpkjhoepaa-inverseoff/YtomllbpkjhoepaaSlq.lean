/-
  What solve's Det hands back.
-/
import Derived.Test.YtomllbpkjhoepaaSlp
namespace Go.Proofs.Ytomllbpkjhoepaa
open Fl RowKit

/-- the determinant behind k pivots -/
def detS (P : Nat → Cw) : Nat → Cw × Int
  | 0 => ((W1, 0), 0)
  | k + 1 => (hmW (toW (mulZ (anz (detS P k).1) (anz (hmW (P k))))), (detS P k).2 + hmP (P k) + hmP (toW (mulZ (anz (detS P k).1) (anz (hmW (P k))))))
def pvOk (n : Nat) (P : Nat → Cw) : Prop := ∀ k, k < n → okz (P k) ∧ fin (P k).1 ∧ fin (P k).2 ∧ 0 < gz (P k)
theorem hom_one : hom (W1, 0) := ⟨⟨by decide, by decide⟩, by decide, by decide⟩
theorem hmP_rng {z : Cw} (h1 : fin z.1) (h2 : fin z.2) (h0 : 0 < gz z) : -1074 ≤ hmP z ∧ hmP z ≤ 1023 := by
  have hg : gz z < 9218868437227405312 := Nat.max_lt.2 ⟨h1, h2⟩
  obtain ⟨r1, r2⟩ := nX_rng h0 hg
  unfold hmP
  omega
theorem mul_toW {z u : Cw} (hz : hom z) (hu : hom u) : repz (mulZ (anz z) (anz u)) (toW (mulZ (anz z) (anz u))) ∧ okz (toW (mulZ (anz z) (anz u))) ∧ fin (toW (mulZ (anz z) (anz u))).1 ∧ fin (toW (mulZ (anz z) (anz u))).2 ∧ 0 < gz (toW (mulZ (anz z) (anz u))) := by
  obtain ⟨r, h1, h2, h3, h4, h5⟩ := prod_ok hz hu
  have e : toW (mulZ (anz z) (anz u)) = r := by unfold toW; rw [h1]; rfl
  rw [e]
  refine ⟨?_, h2, h3, h4, h5⟩
  rw [h1]
  exact ⟨⟨h2.1, ans_fin h3⟩, ⟨h2.2, ans_fin h4⟩⟩
theorem repz_fin {Z : Cn} {x y : Cw} (hx : repz Z x) (hy : repz Z y) (h1 : fin x.1) (h2 : fin x.2) : y = x := by
  have a1 := hx.1.2
  have a2 := hx.2.2
  have b1 := hy.1.2
  have b2 := hy.2.2
  rw [ans_fin h1] at a1
  rw [ans_fin h2] at a2
  rw [← a1] at b1
  rw [← a2] at b2
  unfold ans at b1 b2
  split at b1
  · cases b1
  · split at b2
    · cases b2
    · exact Prod.ext (Option.some.inj b1) (Option.some.inj b2)
theorem det_inv {n : Nat} {P : Nat → Cw} (h : pvOk n P) : ∀ k, k ≤ n → hom (detS P k).1 ∧ -3000 * (k : Int) ≤ (detS P k).2 ∧ (detS P k).2 ≤ 3000 * (k : Int) := by
  intro k
  induction k with
  | zero => intro _; exact ⟨hom_one, by simp [detS], by simp [detS]⟩
  | succ k ih =>
    intro hk
    obtain ⟨i1, i2, i3⟩ := ih (by omega)
    obtain ⟨p1, p2, p3, p4⟩ := h k (by omega)
    obtain ⟨_, q2, q3, q4, q5⟩ := mul_toW i1 (hm_hom p4)
    have r1 := hmP_rng p2 p3 p4
    have r2 := hmP_rng q3 q4 q5
    refine ⟨hm_hom q5, ?_, ?_⟩
    · show _ ≤ (detS P k).2 + hmP (P k) + hmP _
      omega
    · show (detS P k).2 + hmP (P k) + hmP _ ≤ _
      omega
/-- the opposite -/
def ngZ (z : Cw) : Cw := (ngW z.1, ngW z.2)
def detR (s : Int) (n : Nat) (P : Nat → Cw) : Cw := if s = -1 then ngZ (detS P n).1 else (detS P n).1
section det
variable {w : World} {v : Value} {n : Nat} {M : Nat → Nat → Cw} {o : Nat → Nat} {s : Int} (h : Lhd w v n M o s)
include h
end det

end Go.Proofs.Ytomllbpkjhoepaa
