/-
  The program's Matrix of a net that is made: what an element stamps, by its kind; the loop.
-/
import Derived.Test.YtmhplaanpbpndaaStw
import Derived.Test.YtmhplaanpbpndaaSws
import Derived.Deep.RegionHeldLaw
namespace Go.Proofs.Ytmhplaanpbpndaa
open Fl Go.Maps RowKit Joins Deep
set_option linter.unusedVariables false
set_option maxRecDepth 20000

/-- what a kind's stamp does -/
def StP (w0 w : World) (s nb p : Nat) (N : Ns) (b : Nb) (o : Nat) (x : Elm) (S : Sh) (e : Ending) (w' : World) : Prop :=
  e = .returned (.tuple #[]) ∧ Kp s w w' ∧ (stR o x = 0 → Sn w0 w' s nb p N b o (stE N o x S)) ∧ (stR o x ≠ 0 → w'.cell? ⟨s, 4099, none⟩ = some (.int .i64 (stR o x)))
theorem Md.small {N : Ns} (h : Md N) {x : Elm} (hx : x ∈ N.es) : x.small := by
  obtain ⟨h1, h2, h3, h4, h5⟩ := h.sh hx
  exact ⟨by omega, by omega, by omega, by omega, by omega, (h.ok x hx).v⟩
theorem stamp_any {w0 w : World} {s nb p : Nat} {N : Ns} {b : Nb} {o : Nat} {S : Sh} (h : Sn w0 w s nb p N b o S) (ho : o < 18446744073709551616) {x : Elm} (hx : x.small) (hk : x.ok) : Calls Try.prog (stF x.k) #[.pointer (some ⟨s, 0, none⟩), elV x] w (StP w0 w s nb p N b o x S) := by
  unfold stF
  by_cases k4 : x.k = 4
  · rw [if_pos k4]
    refine (snothing_any w s x).mono ?_
    rintro e w' ⟨rfl, hb⟩
    have h0 : stR o x = 0 := by unfold stR; rw [if_pos (.inl k4)]
    refine ⟨rfl, Kp.of hb h.lt, fun _ => ?_, fun q => absurd h0 q⟩
    have : stE N o x S = S := by unfold stE; rw [if_pos k4]
    rw [this]; exact h.on hb
  rw [if_neg k4]
  by_cases k5 : x.k = 5
  · rw [if_pos k5]
    refine (sbranch_any h x hx.n hx.a hx.b).mono ?_
    rintro e w' ⟨rfl, h1, h2⟩
    have h0 : stR o x = 0 := by unfold stR; rw [if_pos (.inr (.inl k5))]
    refine ⟨rfl, h2, fun _ => ?_, fun q => absurd h0 q⟩
    have : stE N o x S = bra N x S := by unfold stE; rw [if_neg k4, if_pos k5]
    rw [this]; exact h1
  rw [if_neg k5]
  by_cases k6 : x.k = 6
  · rw [if_pos k6]
    refine (stransfer_any h x hx).mono ?_
    rintro e w' ⟨rfl, h1, h2⟩
    have h0 : stR o x = 0 := by unfold stR; rw [if_pos (.inr (.inr (.inl k6)))]
    refine ⟨rfl, h2, fun _ => ?_, fun q => absurd h0 q⟩
    have : stE N o x S = tra N x S := by unfold stE; rw [if_neg k4, if_neg k5, if_pos k6]
    rw [this]; exact h1
  rw [if_neg k6]
  by_cases k7 : x.k = 7
  · rw [if_pos k7]
    refine (samplifier_any h x hx).mono ?_
    rintro e w' ⟨rfl, h1, h2⟩
    have h0 : stR o x = 0 := by unfold stR; rw [if_pos (.inr (.inr (.inr k7)))]
    refine ⟨rfl, h2, fun _ => ?_, fun q => absurd h0 q⟩
    have : stE N o x S = amp N x S := by unfold stE; rw [if_neg k4, if_neg k5, if_neg k6, if_pos k7]
    rw [this]; exact h1
  rw [if_neg k7]
  have hR : stR o x = (ofT x o).2.2 := by unfold stR; rw [if_neg (by omega)]
  have hE : stE N o x S = adm N x (ans (ofT x o).1, ans (ofT x o).2.1) S := by unfold stE; rw [if_neg k4, if_neg k5, if_neg k6, if_neg k7]
  by_cases h0 : (ofT x o).2.2 = 0
  · refine (sadm_ok h x hx hk ho (y1 := (ofT x o).1) (y2 := (ofT x o).2.1) (by rw [← h0])).mono ?_
    rintro e w' ⟨rfl, h1, h2⟩
    exact ⟨rfl, h2, fun _ => by rw [hE]; exact h1, fun q => absurd (hR.trans h0) q⟩
  · refine (sadm_no h x hx hk ho (y1 := (ofT x o).1) (y2 := (ofT x o).2.1) rfl h0).mono ?_
    rintro e w' ⟨rfl, h1, h2⟩
    exact ⟨rfl, h2, fun q => absurd (hR ▸ q) h0, fun _ => by rw [hR]; exact h1⟩
theorem ent_stF (k : Nat) : Ent (stF k) := by
  unfold stF
  split
  · exact fun args w => by kernel_rfl
  split
  · exact fun args w => by kernel_rfl
  split
  · exact fun args w => by kernel_rfl
  split
  · exact fun args w => by kernel_rfl
  · exact fun args w => by kernel_rfl
/-- the stamps by kind, in memory -/
def stC : Array Value := #[.nilFunc, .func (.func 52) #[] #[], .func (.func 52) #[] #[], .func (.func 52) #[] #[], .func (.func 53) #[] #[], .func (.func 54) #[] #[], .func (.func 55) #[] #[], .func (.func 56) #[] #[], .func (.func 52) #[] #[]]
theorem ltr_k {k : Nat} (h : ltr k ≠ 0) : 1 ≤ k ∧ k ≤ 8 := by
  refine ⟨?_, ?_⟩
  · rcases Nat.eq_zero_or_pos k with e | e
    · rw [e] at h; exact absurd rfl h
    · exact e
  · rcases Nat.lt_or_ge 8 k with e | e
    · exact absurd (nat_none (.inr e)).1 h
    · exact e
theorem stC_at {k : Nat} (h : 1 ≤ k ∧ k ≤ 8) : stC[k]? = some (.func (.func (stF k)) #[] #[]) := by
  obtain ⟨h1, h2⟩ := h
  rcases (by omega : k = 1 ∨ k = 2 ∨ k = 3 ∨ k = 4 ∨ k = 5 ∨ k = 6 ∨ k = 7 ∨ k = 8) with rfl | rfl | rfl | rfl | rfl | rfl | rfl | rfl <;> rfl
theorem Md.kd {N : Ns} (h : Md N) {x : Elm} (hx : x ∈ N.es) : 1 ≤ x.k ∧ x.k ≤ 8 := ltr_k (h.nv.el x hx).2.2.lt
end Go.Proofs.Ytmhplaanpbpndaa
