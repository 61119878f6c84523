/-
  StampMatrix returns true and leaves what it was handed as it was (chapter 18, P18.1, P18.3: of every list of elements and every omega the matrix to the bit, or the fault, and what its rows stand for, are the document's; asked twice; new memory); no condition.
-/
import Derived.Test.YtmhplaanpbpndaaSmw
import Derived.Test.YtmhplaanpbpndaaRows
import Derived.WalkKit
import Derived.ProofKit
import Derived.OpenShut
import Derived.ShutString
import Derived.ChangeOld
import Derived.Below
import Derived.SizedLaws
import Derived.Lib.SmallJoins
namespace Go.Proofs.Ytmhplaanpbpndaa.stampMatrix
open Go.ChangeShapes Go.WideShapes Go.ChangeAt Go.RowKit Go.Joins Go.ChangeMaps
set_option linter.unusedVariables false

theorem own : ownKnob Try.prog.godebug = none := by kernel_rfl
theorem laidOut : laidOutB Try.prog = true := by kernel_rfl
theorem bytesE : Try.prog.bytesOf 58 = 104 := by kernel_rfl

theorem walk (W : World) (A : Option Addr) (c n : Nat) (xs : List Elm) (hl : xs.length = n) (hsz : n * 104 ≤ 140737488351232) (hR : Re W A xs) (hok : ∀ x ∈ xs, x.ok) (hbd : ∀ x ∈ xs, x.bd) (o : Nat) (ho : o < 18446744073709551616) :
    Calls Try.prog 3 #[.slice A n c, .int .u64 (o : Int)] W fun e w' => e = .returned (.bool true) ∧ Below W.heap.size W w' := smx_walk W A c n xs hl hsz hR hok hbd o ho

set_option maxRecDepth 100000 in
theorem lifted (os : Os) (started : os.Started) (H : Type) (enc : TypeId × Value → H) :
    ReturnsInHanded {} Try.checked os 3 .any (Rows.stampMatrixSpec.pre6 enc Try.prog Try.f3 Rows.stampMatrixRow.domain false) (Rows.stampMatrixSpec.post enc Try.prog Try.f3 false true false false) := by
  refine returnsInHanded_of_change_sized (C := Try.checked) own started (by kernel_rfl) Try.func3
    (ChangeSpec.witness6 (enc := enc) (C := Try.checked) false ⟨#[], #[.slice none 0 0, .int .u64 0], []⟩ 8 (by kernel_rfl) (by kernel_rfl) (by kernel_rfl) (by kernel_rfl)) ?_
  intro W base args ds gs before hval0 hW hcnd hsz0 hholds
  have hsz : (DataW.weightsEach Try.prog (Try.f3.params.toList ++ Rows.stampMatrixSpec.plain.varTypes Try.prog) (ds ++ gs)).all (· ≤ reachBytes) = true := hsz0
  have hW' := hW
  obtain ⟨p, q, hA0, hV, rfl, hfz, hnd⟩ := hW
  have hA : DataW.TrodAll enc Try.prog W 0 (fun _ => true) true Try.f3.params.toList args.toList ds p := hA0
  rw [Try.params3] at hA hsz
  obtain ⟨v0, vs0, d0, ds0, p0, q0, hargs0, rfl, rfl, h0, r0⟩ := trodAll_cons hA
  obtain ⟨v1, vs1, d1, ds1, p1, q1, hargs1, rfl, rfl, h1, r1⟩ := trodAll_cons r0
  obtain ⟨rfl, rfl, rfl⟩ := trodAll_nil r1
  obtain rfl : args = #[v0, v1] := by cases args; simp_all
  obtain ⟨rfl, rfl⟩ := trodVars_none hV
  have hval : ∀ (j : Nat) t v, Try.f3.params[j]? = some t → #[v0, v1][j]? = some v → Value.okWide Try.prog W .any base t v := hval0
  rw [Try.params3] at hval
  have k0 := h0
  have lt0 : ∀ x ∈ p0, x.block < W.heap.size := by obtain ⟨m, hm⟩ := k0; exact DataW.trod_lt m _ _ _ hm
  have k1 := h1
  have lt1 : ∀ x ∈ p1, x.block < W.heap.size := by obtain ⟨m, hm⟩ := k1; exact DataW.trod_lt m _ _ _ hm
  obtain ⟨a0, len0, cap0, rfl⟩ := okWide_slice Try.underlying22 (hval 0 22 v0 rfl rfl)
  have key : Calls Try.prog 3 #[.slice a0 len0 cap0, v1] W fun e w' => e = .returned (.bool true) ∧ Below W.heap.size W w' := by
    obtain ⟨f0, hf0⟩ := h0
    obtain ⟨A0, n0, c0, xs0, hcs0, hl0, hbd0, hre0, hsl0⟩ := els_open hf0
    simp only [Value.cells, List.cons.injEq, and_true] at hcs0
    cases hcs0
    have zk0 : len0 * 104 ≤ 140737488351232 ∧ ∀ x ∈ xs0, x.ok := by
      rcases hsl0 with h | ⟨sp, hd⟩
      · refine ⟨by omega, fun x hx => ?_⟩
        have : xs0 = [] := List.length_eq_zero_iff.1 (by omega)
        rw [this] at hx; cases hx
      · have := sized_slice hsz (j := 0) (t := 22) (e := 58) rfl (congrArg some hd) Try.underlying22
        rw [bytesE, List.length_map, hl0] at this
        simp only [reachBytes] at this
        exact ⟨by omega, els_sizes hsz (j := 0) rfl (congrArg some hd) hbd0⟩
    obtain ⟨i1, ev1, _, _, w1⟩ := open_int Try.underlying23 (hval 1 23 v1 rfl rfl) h1
    subst ev1
    obtain ⟨la1, ha1⟩ := bounds_u64 w1
    obtain ⟨o1, rfl⟩ := Int.eq_ofNat_of_zero_le la1
    exact walk W a0 cap0 len0 xs0 hl0 zk0.1 hre0 zk0.2 hbd0 o1 (by omega)
  clear hA0 hval0 hval
  refine key.mono fun e W' ⟨he, bel⟩ => ?_
  subst he
  exact ⟨_, rfl, _, _, _, [], _, [], hW', trodAll_mk1 (shut_bool Try.underlying4 _), (trodAll_cons_mk (Below.trod laidOut (by kernel_rfl) (of_decide_eq_true (by kernel_rfl)) k0 bel lt0) (trodAll_cons_mk (Below.trod laidOut (by kernel_rfl) (of_decide_eq_true (by kernel_rfl)) k1 bel lt1) trodAll_mk0)), rfl, bel.frame _, fun h => by cases h⟩

theorem over : Rows.stampMatrixRow.holds Try.pinned (OpenSpec.ofChange Rows.stampMatrixSpec) :=
  OpenClaim.holds_of_wide 3 Try.f3 rfl rfl rfl rfl rfl rfl rfl ⟨rfl, rfl, rfl, rfl, rfl⟩ rfl rfl rfl rfl rfl (by kernel_rfl) Try.func3 (by kernel_rfl)
    (of_decide_eq_true (by kernel_rfl)) (by unfold Func.isWrapper; first | (rw [if_pos (by decide +kernel)]; kernel_rfl) | (rw [if_neg (by decide +kernel)]; exact ⟨rfl, rfl⟩))
    (fun os started H enc _ => lifted os started H enc)

theorem proved : Rows.StampMatrixSaid := over
#print axioms proved
end Go.Proofs.Ytmhplaanpbpndaa.stampMatrix
