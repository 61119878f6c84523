/-
  For every number and two lists of numbers, InversePermutes hands back true: the inverse of a matrix that has one of 1, i, -1, -i in each row and column, and noughts else, is its conjugated transpose, nothing is off, and Carried is 1. No conditions.
-/
import Derived.Test.YtomllbpkjhoepaaWIP
import Derived.Test.YtomllbpkjhoepaaVgq
import Derived.Test.YtomllbpkjhoepaaRows
import Derived.WalkKit
import Derived.ProofKit
import Derived.OpenShut
import Derived.ShutString
import Derived.ChangeOld
import Derived.Below
import Derived.SizedLaws
import Derived.Lib.SmallJoins
namespace Go.Proofs.Ytomllbpkjhoepaa.inversePermutes
open Go.ChangeShapes Go.WideShapes Go.ChangeAt Go.RowKit Go.Joins
set_option linter.unusedVariables false

theorem own : ownKnob Try.prog.godebug = none := by kernel_rfl
theorem laidOut : laidOutB Try.prog = true := by kernel_rfl
theorem bytesI : Try.prog.bytesOf 3 = 8 := by kernel_rfl

theorem walk (W : World) (a : Int) (_ha : -9223372036854775808 ≤ a ∧ a ≤ 9223372036854775807) (ao : Option Addr) (ca la : Nat) (xs : List Int) (hla : xs.length = la) (hza : la * 8 ≤ 140737488351232) (hA : Qi W ao xs) (bo : Option Addr) (cb lb : Nat) (ys : List Int) (hlb : ys.length = lb) (hzb : lb * 8 ≤ 140737488351232) (hB : Qi W bo ys) :
    Calls Try.prog 5 #[.int .i64 a, .slice ao la ca, .slice bo lb cb] W fun e w' => e = .returned (.bool true) ∧ Below W.heap.size W w' :=
  iper_walk a ao bo la ca lb cb xs ys W hla hlb (by omega) (by omega) hA hB

set_option maxRecDepth 100000 in
theorem lifted (os : Os) (started : os.Started) (H : Type) (enc : TypeId × Value → H) :
    ReturnsInHanded {} Try.checked os 5 .any (Rows.inversePermutesSpec.pre6 enc Try.prog Try.f5 Rows.inversePermutesRow.domain false) (Rows.inversePermutesSpec.post enc Try.prog Try.f5 false true false false) := by
  refine returnsInHanded_of_change_sized (C := Try.checked) own started (by kernel_rfl) Try.func5
    (ChangeSpec.witness6 (enc := enc) (C := Try.checked) false ⟨#[], #[.int .i64 0, .slice none 0 0, .slice none 0 0], []⟩ 8 (by kernel_rfl) (by kernel_rfl) (by kernel_rfl) (by kernel_rfl)) ?_
  intro W base args ds gs before hval0 hW hcnd hsz0 hholds
  have hsz : (DataW.weightsEach Try.prog (Try.f5.params.toList ++ Rows.inversePermutesSpec.plain.varTypes Try.prog) (ds ++ gs)).all (· ≤ reachBytes) = true := hsz0
  have hW' := hW
  obtain ⟨p, q, hA0, hV, rfl, hfz, hnd⟩ := hW
  have hA : DataW.TrodAll enc Try.prog W 0 (fun _ => true) true Try.f5.params.toList args.toList ds p := hA0
  rw [Try.params5] at hA hsz
  obtain ⟨v0, vs0, d0, ds0, p0, q0, hargs0, rfl, rfl, h0, r0⟩ := trodAll_cons hA
  obtain ⟨v1, vs1, d1, ds1, p1, q1, hargs1, rfl, rfl, h1, r1⟩ := trodAll_cons r0
  obtain ⟨v2, vs2, d2, ds2, p2, q2, hargs2, rfl, rfl, h2, r2⟩ := trodAll_cons r1
  obtain ⟨rfl, rfl, rfl⟩ := trodAll_nil r2
  obtain rfl : args = #[v0, v1, v2] := by cases args; simp_all
  obtain ⟨rfl, rfl⟩ := trodVars_none hV
  have hval : ∀ (j : Nat) t v, Try.f5.params[j]? = some t → #[v0, v1, v2][j]? = some v → Value.okWide Try.prog W .any base t v := hval0
  rw [Try.params5] at hval
  have k0 := h0
  have lt0 : ∀ x ∈ p0, x.block < W.heap.size := by obtain ⟨m, hm⟩ := k0; exact DataW.trod_lt m _ _ _ hm
  have k1 := h1
  have lt1 : ∀ x ∈ p1, x.block < W.heap.size := by obtain ⟨m, hm⟩ := k1; exact DataW.trod_lt m _ _ _ hm
  have k2 := h2
  have lt2 : ∀ x ∈ p2, x.block < W.heap.size := by obtain ⟨m, hm⟩ := k2; exact DataW.trod_lt m _ _ _ hm
  obtain ⟨a1, len1, cap1, rfl⟩ := okWide_slice Try.underlying50 (hval 1 50 v1 rfl rfl)
  obtain ⟨a2, len2, cap2, rfl⟩ := okWide_slice Try.underlying50 (hval 2 50 v2 rfl rfl)
  have key : Calls Try.prog 5 #[v0, .slice a1 len1 cap1, .slice a2 len2 cap2] W fun e w' => e = .returned (.bool true) ∧ Below W.heap.size W w' := by
    obtain ⟨i0, rfl, rfl, rfl, wi0⟩ := open_int Try.underlying3 (hval 0 3 v0 rfl rfl) h0
    have bi0 := bounds_i64 wi0
    obtain ⟨f1, hf1⟩ := h1
    obtain ⟨A1, n1, c1, zs1, hcs1, hl1, hrd1, hsl1⟩ := ints_open hf1
    simp only [Value.cells, List.cons.injEq, and_true] at hcs1
    cases hcs1
    have z1 : len1 * 8 ≤ 140737488351232 := by
      rcases hsl1 with h | ⟨el, sp, hd, hle⟩
      · omega
      · have := sized_slice hsz (j := 1) (t := 50) (e := 3) rfl (congrArg some hd) Try.underlying50
        rw [bytesI] at this
        simp only [reachBytes] at this
        omega
    obtain ⟨f2, hf2⟩ := h2
    obtain ⟨A2, n2, c2, zs2, hcs2, hl2, hrd2, hsl2⟩ := ints_open hf2
    simp only [Value.cells, List.cons.injEq, and_true] at hcs2
    cases hcs2
    have z2 : len2 * 8 ≤ 140737488351232 := by
      rcases hsl2 with h | ⟨el, sp, hd, hle⟩
      · omega
      · have := sized_slice hsz (j := 2) (t := 50) (e := 3) rfl (congrArg some hd) Try.underlying50
        rw [bytesI] at this
        simp only [reachBytes] at this
        omega
    exact walk W i0 bi0 a1 cap1 len1 zs1 hl1 z1 hrd1 a2 cap2 len2 zs2 hl2 z2 hrd2
  clear hA0 hval0 hval
  refine key.mono fun e W' ⟨he, bel⟩ => ?_
  subst he
  exact ⟨_, rfl, _, _, _, [], _, [], hW', trodAll_mk1 (shut_bool Try.underlying4 _), (trodAll_cons_mk (Below.trod laidOut (by kernel_rfl) (of_decide_eq_true (by kernel_rfl)) k0 bel lt0) (trodAll_cons_mk (Below.trod laidOut (by kernel_rfl) (of_decide_eq_true (by kernel_rfl)) k1 bel lt1) (trodAll_cons_mk (Below.trod laidOut (by kernel_rfl) (of_decide_eq_true (by kernel_rfl)) k2 bel lt2) trodAll_mk0))), rfl, bel.frame _, fun h => by cases h⟩

theorem over : Rows.inversePermutesRow.holds Try.pinned (OpenSpec.ofChange Rows.inversePermutesSpec) :=
  OpenClaim.holds_of_wide 5 Try.f5 rfl rfl rfl rfl rfl rfl rfl ⟨rfl, rfl, rfl, rfl, rfl⟩ rfl rfl rfl rfl rfl (by kernel_rfl) Try.func5 (by kernel_rfl)
    (of_decide_eq_true (by kernel_rfl)) (by unfold Func.isWrapper; first | (rw [if_pos (by decide +kernel)]; kernel_rfl) | (rw [if_neg (by decide +kernel)]; exact ⟨rfl, rfl⟩))
    (fun os started H enc _ => lifted os started H enc)

theorem proved : Rows.InversePermutesSaid := over
#print axioms proved
end Go.Proofs.Ytomllbpkjhoepaa.inversePermutes
