/-
  Kept of Srx.
-/
import Derived.Test.YtmpkcioeodlbcaaGreatDoorK40
import Derived.Test.YtmpkcioeodlbcaaGreatDoorK41
import Derived.Test.YtmpkcioeodlbcaaGreatDoorK27
import Derived.Test.YtmpkcioeodlbcaaGreatDoorK39
import Derived.Test.YtmpkcioeodlbcaaGreatDoorK29
import Derived.Test.YtmpkcioeodlbcaaGreatDoorK23
import Derived.Test.YtmpkcioeodlbcaaGreatDoorK36
import Derived.Test.YtmpkcioeodlbcaaGreatDoorK24
import Derived.BigQuiet
import Derived.Deep.QuietTactic
import Derived.Deep.RegionWith
import Derived.ProofKit
import Derived.OpenShut
import Derived.ShutString
import Derived.ChangeOld
import Derived.Below
import Derived.SizedLaws
import Derived.Lib.SmallJoins
namespace Go.Proofs.YtmpkcioeodlbcaaGreatDoor
open Fl Go.Maps RowKit Joins Deep
set_option linter.unusedVariables false
/-- a fault and numbers -/
def Res (f1 f2 : Int) (K : Nat) (R : Nat → Cn) (w : World) (e : Ending) (w' : World) : Prop := ∃ A c, e = .returned (.tuple #[.slice A K c, .agg #[.int .i64 f1, .int .i64 f2]]) ∧ Nr w' w.heap.size (.slice A K c) K R ∧ Below w.heap.size w w'
/-- no net's -/
theorem nr_nil (w : World) (b : Nat) (R : Nat → Cn) : Nr w b (.slice none 0 0) 0 R := ⟨[], rw_nil _ _, fun j hj => absurd hj (Nat.not_lt_zero j)⟩
theorem Nr.sh {w : World} {b K : Nat} {v : Value} {R : Nat → Cn} (h : Nr w b v K R) : ∃ A c, v = .slice A K c := by
  obtain ⟨xs, h1, _⟩ := h
  exact drow_slice h1.own
/-- the fault of a made net's right side; how many numbers; the numbers -/
def rgF (N : Ns) : Int × Int := (rgL N N.es noC 0).1
def rgK (N : Ns) : Nat := if rgF N = (0, 0) then N.nd.length + N.br.length else 0
def rgR (N : Ns) : Nat → Cn := (rgL N N.es noC 0).2
theorem rgp_res {w w' : World} {N : Ns} {e : Ending} (h : RgP w N e w') : Res (rgF N).1 (rgF N).2 (rgK N) (rgR N) w e w' := by
  obtain ⟨hb, ⟨h1, v, rfl, hN⟩ | ⟨i, h1, hi, rfl⟩⟩ := h
  · have hF : rgF N = (0, 0) := h1
    have hK : rgK N = N.nd.length + N.br.length := by unfold rgK; rw [if_pos hF]
    unfold Res
    rw [hF, hK]
    obtain ⟨A, c, rfl⟩ := hN.sh
    exact ⟨A, c, rfl, hN, hb⟩
  · have hF : rgF N = (6, (i : Int)) := h1
    have hK : rgK N = 0 := by unfold rgK; rw [if_neg (by rw [hF]; intro q; have h6 : (6 : Int) = 0 := congrArg Prod.fst q; exact absurd h6 (by decide))]
    unfold Res
    rw [hF, hK]
    exact ⟨none, 0, rfl, nr_nil _ _ _, hb⟩
theorem sright_res {w : World} {nb p : Nat} {N : Ns} {b : Nb} (h : Nt w nb p N b) (hm : Md N) : Calls Tryz.prog 94 #[.pointer (some ⟨p, 0, none⟩)] w (Res (rgF N).1 (rgF N).2 (rgK N) (rgR N) w) := (sright_any h hm).mono fun _ _ k => rgp_res k
theorem three {P : Nat → Prop} (h0 : P 0) (h1 : P 1) (h2 : P 2) : ∀ j, j < 3 → P j := by
  intro j hj
  rcases (by omega : j = 0 ∨ j = 1 ∨ j = 2) with rfl | rfl | rfl
  · exact h0
  · exact h1
  · exact h2
end Go.Proofs.YtmpkcioeodlbcaaGreatDoor
