/-
  SourceOpposite returns true and leaves what it was handed as it was (chapter 19, P19.4: all sources' Values times -1, or all Phases half a turn on: all numbers equal the opposites, refused alike; a port's numbers); no condition.
-/
import Derived.Test.YtpjpamdocfdibaaSwo
import Derived.Test.YtpjpamdocfdibaaRows
import Derived.WalkKit
import Derived.ProofKit
import Derived.OpenShut
import Derived.ShutString
import Derived.ChangeOld
import Derived.Below
import Derived.SizedLaws
import Derived.Lib.SmallJoins
namespace Go.Proofs.Ytpjpamdocfdibaa.sourceOpposite
open Go.ChangeShapes Go.WideShapes Go.ChangeAt Go.RowKit Go.Joins Go.ChangeMaps
set_option linter.unusedVariables false

theorem own : ownKnob Try.prog.godebug = none := by kernel_rfl
theorem laidOut : laidOutB Try.prog = true := by kernel_rfl
theorem bytesE : Try.prog.bytesOf 54 = 104 := by kernel_rfl

theorem walk (W : World) (A : Option Addr) (c n : Nat) (xs : List Elm) (hl : xs.length = n) (hsz : n * 104 ≤ 140737488351232) (hR : Re W A xs) (hok : ∀ x ∈ xs, x.ok) (hbd : ∀ x ∈ xs, x.bd) (s : ByteArray) (hs : s.size ≤ 140737488351232) :
    Calls Try.prog 8 #[.slice A n c, .string s] W fun e w' => e = .returned (.bool true) ∧ Below W.heap.size W w' := sopp_walk W A c n xs hl hsz hR hok hbd s hs

set_option maxRecDepth 100000 in
theorem lifted (os : Os) (started : os.Started) (H : Type) (enc : TypeId × Value → H) :
    ReturnsInHanded {} Try.checked os 8 .any (Rows.sourceOppositeSpec.pre6 enc Try.prog Try.f8 Rows.sourceOppositeRow.domain false) (Rows.sourceOppositeSpec.post enc Try.prog Try.f8 false true false false) := by
  refine returnsInHanded_of_change_sized (C := Try.checked) own started (by kernel_rfl) Try.func8
    (ChangeSpec.witness6 (enc := enc) (C := Try.checked) false ⟨#[], #[.slice none 0 0, .string ⟨#[]⟩], []⟩ 8 (by kernel_rfl) (by kernel_rfl) (by kernel_rfl) (by kernel_rfl)) ?_
  intro W base args ds gs before hval0 hW hcnd hsz0 hholds
  have hsz : (DataW.weightsEach Try.prog (Try.f8.params.toList ++ Rows.sourceOppositeSpec.plain.varTypes Try.prog) (ds ++ gs)).all (· ≤ reachBytes) = true := hsz0
  have hW' := hW
  obtain ⟨p, q, hA0, hV, rfl, hfz, hnd⟩ := hW
  have hA : DataW.TrodAll enc Try.prog W 0 (fun _ => true) true Try.f8.params.toList args.toList ds p := hA0
  rw [Try.params8] at hA hsz
  obtain ⟨v0, vs0, d0, ds0, p0, q0, hargs0, rfl, rfl, h0, r0⟩ := trodAll_cons hA
  obtain ⟨v1, vs1, d1, ds1, p1, q1, hargs1, rfl, rfl, h1, r1⟩ := trodAll_cons r0
  obtain ⟨rfl, rfl, rfl⟩ := trodAll_nil r1
  obtain rfl : args = #[v0, v1] := by cases args; simp_all
  obtain ⟨rfl, rfl⟩ := trodVars_none hV
  have hval : ∀ (j : Nat) t v, Try.f8.params[j]? = some t → #[v0, v1][j]? = some v → Value.okWide Try.prog W .any base t v := hval0
  rw [Try.params8] at hval
  have k0 := h0
  have lt0 : ∀ x ∈ p0, x.block < W.heap.size := by obtain ⟨m, hm⟩ := k0; exact DataW.trod_lt m _ _ _ hm
  have k1 := h1
  have lt1 : ∀ x ∈ p1, x.block < W.heap.size := by obtain ⟨m, hm⟩ := k1; exact DataW.trod_lt m _ _ _ hm
  obtain ⟨a0, len0, cap0, rfl⟩ := okWide_slice Try.underlying22 (hval 0 22 v0 rfl rfl)
  have key : Calls Try.prog 8 #[.slice a0 len0 cap0, v1] W fun e w' => e = .returned (.bool true) ∧ Below W.heap.size W w' := by
    obtain ⟨f0, hf0⟩ := h0
    obtain ⟨A0, n0, c0, xs0, hcs0, hl0, hbd0, hre0, hsl0⟩ := els_open hf0
    simp only [Value.cells, List.cons.injEq, and_true] at hcs0
    cases hcs0
    have zk0 : len0 * 104 ≤ 140737488351232 ∧ ∀ x ∈ xs0, x.ok := by
      rcases hsl0 with h | ⟨sp, hd⟩
      · refine ⟨by omega, fun x hx => ?_⟩
        have : xs0 = [] := List.length_eq_zero_iff.1 (by omega)
        rw [this] at hx; cases hx
      · have := sized_slice hsz (j := 0) (t := 22) (e := 54) rfl (congrArg some hd) Try.underlying22
        rw [bytesE, List.length_map, hl0] at this
        simp only [reachBytes] at this
        exact ⟨by omega, els_sizes hsz (j := 0) rfl (congrArg some hd) hbd0⟩
    obtain ⟨s1, ev1, ed1, _, _⟩ := open_string Try.underlying9 (hval 1 9 v1 rfl rfl) h1
    subst ev1
    have sz1 : s1.size ≤ 140737488351232 := sized_s hsz (j := 1) rfl (congrArg some ed1)
    exact walk W a0 cap0 len0 xs0 hl0 zk0.1 hre0 zk0.2 hbd0 s1 sz1
  clear hA0 hval0 hval
  refine key.mono fun e W' ⟨he, bel⟩ => ?_
  subst he
  exact ⟨_, rfl, _, _, _, [], _, [], hW', trodAll_mk1 (shut_bool Try.underlying4 _), (trodAll_cons_mk (Below.trod laidOut (by kernel_rfl) (of_decide_eq_true (by kernel_rfl)) k0 bel lt0) (trodAll_cons_mk (Below.trod laidOut (by kernel_rfl) (of_decide_eq_true (by kernel_rfl)) k1 bel lt1) trodAll_mk0)), rfl, bel.frame _, fun h => by cases h⟩

theorem over : Rows.sourceOppositeRow.holds Try.pinned (OpenSpec.ofChange Rows.sourceOppositeSpec) :=
  OpenClaim.holds_of_wide 8 Try.f8 rfl rfl rfl rfl rfl rfl rfl ⟨rfl, rfl, rfl, rfl, rfl⟩ rfl rfl rfl rfl rfl (by kernel_rfl) Try.func8 (by kernel_rfl)
    (of_decide_eq_true (by kernel_rfl)) (by unfold Func.isWrapper; first | (rw [if_pos (by decide +kernel)]; kernel_rfl) | (rw [if_neg (by decide +kernel)]; exact ⟨rfl, rfl⟩))
    (fun os started H enc _ => lifted os started H enc)

theorem proved : Rows.SourceOppositeSaid := over
#print axioms proved
end Go.Proofs.Ytpjpamdocfdibaa.sourceOpposite
