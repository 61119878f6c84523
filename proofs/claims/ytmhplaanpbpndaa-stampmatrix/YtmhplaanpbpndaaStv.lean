/-
  What is refused ahead of the sheet; sources of amperes stamp nothing.
-/
import Derived.Test.YtmhplaanpbpndaaStu
import Derived.Test.YtmhplaanpbpndaaBse
namespace Go.Proofs.Ytmhplaanpbpndaa
open Fl Go.Maps RowKit Joins Deep
set_option linter.unusedVariables false

theorem snothing_any (w : World) (s : Nat) (x : Elm) : Calls Try.prog 53 #[.pointer (some ⟨s, 0, none⟩), elV x] w fun e w' => e = .returned (.tuple #[]) ∧ Below w.heap.size w w' := by
  unfold elV
  go_enter Try.func53, Try.ntmps53
  go_wp2
  refine bodyPost_end (by simp [results, Try.results53, go_sem]; try rfl) rfl ?_
  exact ⟨rfl, bal w _⟩
theorem srefused_any {w : World} {base p : Nat} {N : Ns} {b : Nb} (h : Nt w base p N b) (hn : bl ⟨#[]⟩ ∉ N.nm) {o : Nat} (ho : o < 18446744073709551616) : Calls Try.prog 25 #[.pointer (some ⟨p, 0, none⟩), .float .f64 o] w fun e w' => e = .returned (.int .i64 (frI o)) ∧ w' = w := by
  have HW := hidS (wto_made h hn)
  clear h hn
  cases hf : finB o
  · have hr : frI o = 5 := by unfold frI; rw [if_pos hf]
    rw [hr]
    have HF : Hid ((finB o && finB 0) = false) := by show _ = _; rw [hf]; rfl
    clear hr hf
    go_enter Try.func25, Try.ntmps25
    go_wp2_with (first
      | (go_at_call 49; (with_reducible refine (HW.out).mono ?_); rintro e w1 ⟨rfl, hw⟩; subst w1)
      | (go_at_call 50; refine (fin_any o 0 _ ho (by decide)).mono ?_; rintro e w' ⟨rfl, rfl⟩; rw [HF.out]))
    all_goals go_ret
    all_goals first | exact ⟨rfl, rfl⟩ | simp_all
  · have hn := fin_nan hf
    have HF : Hid ((finB o && finB 0) = true) := by show _ = _; rw [hf]; decide
    cases hp : posV o
    · have hr : frI o = 2 := by unfold frI; rw [hf, hp]; rfl
      rw [hr]
      have h1 := (leq_iff hn).1 hp
      clear hr hf hp hn
      go_enter Try.func25, Try.ntmps25
      go_wp2_with (first
        | (go_at_call 49; (with_reducible refine (HW.out).mono ?_); rintro e w1 ⟨rfl, hw⟩; subst w1)
        | (go_at_call 50; refine (fin_any o 0 _ ho (by decide)).mono ?_; rintro e w' ⟨rfl, rfl⟩; rw [HF.out]))
      all_goals go_ret
      all_goals first | exact ⟨rfl, rfl⟩ | simp_all
    · have hr : frI o = 0 := by unfold frI; rw [hf, hp]; rfl
      rw [hr]
      have h1 : ¬ (FloatKind.f64.format.order o 0 = some .lt ∨ FloatKind.f64.format.order o 0 = some .eq) := fun q => by rw [(leq_iff hn).2 q] at hp; cases hp
      clear hr hf hp hn
      go_enter Try.func25, Try.ntmps25
      go_wp2_with (first
        | (go_at_call 49; (with_reducible refine (HW.out).mono ?_); rintro e w1 ⟨rfl, hw⟩; subst w1)
        | (go_at_call 50; refine (fin_any o 0 _ ho (by decide)).mono ?_; rintro e w' ⟨rfl, rfl⟩; rw [HF.out]))
      all_goals go_ret
      all_goals first | exact ⟨rfl, rfl⟩ | simp_all
end Go.Proofs.Ytmhplaanpbpndaa
