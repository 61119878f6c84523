/-
  Words: the document's side: what blank, bare and words hand back, whatever they are called with.
-/
import Derived.Test.YtpfdgibgdehcdaaDoorTkb
import Derived.Deep.RegionWith
namespace Go.Proofs.YtpfdgibgdehcdaaDoor
open RowKit Joins
set_option linter.unusedVariables false

/-- a line ahead of its remark -/
def Bre (t : ByteArray) (r : Nat) : Prop := r ≤ t.size ∧ (∀ j, j < r → ¬ (bty t j = 42 ∨ bty t j = 59)) ∧ (r = t.size ∨ (bty t r = 42 ∨ bty t r = 59))
theorem sub_to (t : ByteArray) (b : Nat) (h2 : b ≤ t.size) : ∀ w : World, (Instr.slice 9 (.string t) none (some (.int .i64 b)) none).run Tryd.prog w = .ok (.string (t.extract 0 b)) w := by
  intro w
  rw [run_slice_string_to_if (P := Tryd.prog) w 9 t .i64 b Tryd.underlying9]
  rw [if_pos (by omega)]; simp
theorem scn_prev {t : ByteArray} {i : Nat} {L : List (Nat × Nat)} (h : scn t i = (0, L)) : (i = 0 ∨ blk (bty t (i - 1))) ↔ ∀ a b r, L = (a, b) :: r → b < i := by
  cases i with
  | zero =>
    have : L = [] := by have h2 : ((0, []) : Nat × List (Nat × Nat)) = (0, L) := h; exact (Prod.mk.inj h2).2.symm
    subst this
    exact ⟨fun _ a b r e => (by cases e), fun _ => .inl rfl⟩
  | succ i =>
    have h0 : (scn t i).1 = 0 := scn_zero (n := i + 1) (by rw [h]) (by omega)
    obtain ⟨M, hM⟩ : ∃ M, scn t i = (0, M) := ⟨(scn t i).2, by rw [← h0]⟩
    have hwf : Wfw i M := by have := scn_wf t i; rw [hM] at this; exact this
    rw [Nat.add_sub_cancel]
    by_cases q0 : bty t i = 42 ∨ bty t i = 59
    · rw [scn_rem hM q0] at h; cases h
    by_cases q1 : blk (bty t i)
    · rw [scn_blk hM q1] at h
      cases h
      refine ⟨fun _ a b r e => ?_, fun _ => .inr q1⟩
      subst e; have := hwf.2.1; omega
    by_cases q2 : bty t i < 33 ∨ 126 < bty t i
    · rw [scn_bad hM q0 q1 q2] at h; cases h
    refine ⟨fun q => ?_, fun q => ?_⟩
    · rcases q with q | q
      · omega
      · exact absurd q q1
    · exfalso
      by_cases q3 : ∀ a b r, M = (a, b) :: r → b < i
      · rw [scn_new hM q0 q1 q2 q3] at h
        cases h
        have := q i (i + 1) M rfl; omega
      · match M, q3 with
        | [], q3 => exact q3 (fun a b r h => by cases h)
        | (a, b) :: r, q3 =>
          have hb : ¬ b < i := fun hb => q3 fun a' b' r' e => by cases e; exact hb
          rw [scn_ext hM q0 q1 q2 hb] at h
          split at h
          · cases h; have := q a (i + 1) r rfl; omega
          · cases h

end Go.Proofs.YtpfdgibgdehcdaaDoor
