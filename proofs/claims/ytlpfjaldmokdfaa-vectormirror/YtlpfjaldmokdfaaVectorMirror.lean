/-
  VectorMirror returns true and leaves the lists that it was handed as they were, for every two lists of numbers (P6.5: Inner and Dot of conjugates, norms, sums and differences, the product by 1); no condition but the form's own reach.
-/
import Derived.Test.YtlpfjaldmokdfaaWVMirrorE
import Derived.Test.YtlpfjaldmokdfaaVfr
import Derived.Test.YtlpfjaldmokdfaaRows
import Derived.WalkKit
import Derived.ProofKit
import Derived.OpenShut
import Derived.ShutString
import Derived.ChangeOld
import Derived.Below
import Derived.SizedLaws
namespace Go.Proofs.Ytlpfjaldmokdfaa.vectorMirror
open Go.ChangeShapes Go.WideShapes Go.ChangeAt Go.RowKit
set_option linter.unusedVariables false

theorem own : ownKnob Try.prog.godebug = none := by kernel_rfl
theorem laidOut : laidOutB Try.prog = true := by kernel_rfl
theorem bytesZ : Try.prog.bytesOf 43 = 16 := by kernel_rfl

theorem walk (ao bo : Option Addr) (ca cb n n2 : Nat) (xs ys : List Cw) (w : World) (hn : xs.length = n) (hn2 : ys.length = n2) (hs1 : n * 16 ≤ 140737488351232) (hs2 : n2 * 16 ≤ 140737488351232) (hc : Rz w ao xs) (hd : Rz w bo ys) (hx : okl xs) (hy : okl ys) :
    Calls Try.prog 7 #[.slice ao n ca, .slice bo n2 cb] w fun e w' => e = .returned (.bool true) ∧ Below w.heap.size w w' := by
  by_cases he : errV n n2 = 0
  · obtain ⟨h1, h2⟩ := errV_ok he
    subst h1
    exact vmirror_ok ao bo ca cb n xs ys w hn hn2 h2 hc hd hx hy
  · exact vmirror_err ao bo ca cb n n2 xs ys w hn hn2 (by omega) (by omega) he hc hd hx hy

set_option maxRecDepth 100000 in
theorem lifted (os : Os) (started : os.Started) (H : Type) (enc : TypeId × Value → H) :
    ReturnsInHanded {} Try.checked os 7 .any (Rows.vectorMirrorSpec.pre6 enc Try.prog Try.f7 Rows.vectorMirrorRow.domain false) (Rows.vectorMirrorSpec.post enc Try.prog Try.f7 false true false false) := by
  refine returnsInHanded_of_change_sized (C := Try.checked) own started (by kernel_rfl) Try.func7
    (ChangeSpec.witness6 (enc := enc) (C := Try.checked) false ⟨#[], #[.slice none 0 0, .slice none 0 0], []⟩ 8 (by kernel_rfl) (by kernel_rfl) (by kernel_rfl) (by kernel_rfl)) ?_
  intro W base args ds gs before hval0 hW hcnd hsz0 hholds
  have hsz : (DataW.weightsEach Try.prog (Try.f7.params.toList ++ Rows.vectorMirrorSpec.plain.varTypes Try.prog) (ds ++ gs)).all (· ≤ reachBytes) = true := hsz0
  have hW' := hW
  obtain ⟨p, q, hA0, hV, rfl, hfz, hnd⟩ := hW
  have hA : DataW.TrodAll enc Try.prog W 0 (fun _ => true) true Try.f7.params.toList args.toList ds p := hA0
  rw [Try.params7] at hA hsz
  obtain ⟨v0, vs0, d0, ds0, p0, q0, hargs, rfl, rfl, h0, r0⟩ := trodAll_cons hA
  obtain ⟨v1, vs1, d1, ds1, p1, q1, hargs1, rfl, rfl, h1, r1⟩ := trodAll_cons r0
  obtain ⟨rfl, rfl, rfl⟩ := trodAll_nil r1
  obtain rfl : args = #[v0, v1] := by cases args; simp_all
  obtain ⟨rfl, rfl⟩ := trodVars_none hV
  have hval : ∀ (j : Nat) t v, Try.f7.params[j]? = some t → #[v0, v1][j]? = some v → Value.okWide Try.prog W .any base t v := hval0
  rw [Try.params7] at hval
  obtain ⟨a0, len0, cap0, rfl⟩ := okWide_slice Try.underlying22 (hval 0 22 v0 rfl rfl)
  obtain ⟨a1, len1, cap1, rfl⟩ := okWide_slice Try.underlying22 (hval 1 22 v1 rfl rfl)
  have k0 := h0
  have k1 := h1
  have lt0 : ∀ x ∈ p0, x.block < W.heap.size := by obtain ⟨m, hm⟩ := k0; exact DataW.trod_lt m _ _ _ hm
  have lt1 : ∀ x ∈ p1, x.block < W.heap.size := by obtain ⟨m, hm⟩ := k1; exact DataW.trod_lt m _ _ _ hm
  have key : Calls Try.prog 7 #[.slice a0 len0 cap0, .slice a1 len1 cap1] W fun e w' => e = .returned (.bool true) ∧ Below W.heap.size W w' := by
    obtain ⟨f0, hf0⟩ := h0
    obtain ⟨f1, hf1⟩ := h1
    obtain ⟨A, n, c, xs, hcs, hl, hok, hrz, hsl⟩ := rz_open hf0
    obtain ⟨B, n2, c2, ys, hcs2, hl2, hok2, hrz2, hsl2⟩ := rz_open hf1
    simp only [Value.cells, List.cons.injEq, and_true] at hcs hcs2
    cases hcs
    cases hcs2
    have z1 : len0 * 16 ≤ 140737488351232 := by
      rcases hsl with h | ⟨el, sp, hd, hle⟩
      · omega
      · have := sized_slice hsz (j := 0) (t := 22) (e := 43) rfl (congrArg some hd) Try.underlying22
        rw [bytesZ] at this
        simp only [reachBytes] at this
        omega
    have z2 : len1 * 16 ≤ 140737488351232 := by
      rcases hsl2 with h | ⟨el, sp, hd, hle⟩
      · omega
      · have := sized_slice hsz (j := 1) (t := 22) (e := 43) rfl (congrArg some hd) Try.underlying22
        rw [bytesZ] at this
        simp only [reachBytes] at this
        omega
    exact walk a0 a1 cap0 cap1 len0 len1 xs ys W hl hl2 z1 z2 hrz hrz2 hok hok2
  clear hA0 hval0 hval
  refine key.mono fun e W' ⟨he, bel⟩ => ?_
  subst he
  exact ⟨_, rfl, _, _, _, [], _, [], hW', trodAll_mk1 (shut_bool Try.underlying4 _), (trodAll_cons_mk (Below.trod laidOut (by kernel_rfl) (of_decide_eq_true (by kernel_rfl)) k0 bel lt0) (trodAll_cons_mk (Below.trod laidOut (by kernel_rfl) (of_decide_eq_true (by kernel_rfl)) k1 bel lt1) trodAll_mk0)), rfl, bel.frame _, fun h => by cases h⟩

theorem over : Rows.vectorMirrorRow.holds Try.pinned (OpenSpec.ofChange Rows.vectorMirrorSpec) :=
  OpenClaim.holds_of_wide 7 Try.f7 rfl rfl rfl rfl rfl rfl rfl ⟨rfl, rfl, rfl, rfl, rfl⟩ rfl rfl rfl rfl rfl (by kernel_rfl) Try.func7 (by kernel_rfl)
    (of_decide_eq_true (by kernel_rfl)) (by unfold Func.isWrapper; first | (rw [if_pos (by decide +kernel)]; kernel_rfl) | (rw [if_neg (by decide +kernel)]; exact ⟨rfl, rfl⟩))
    (fun os started H enc _ => lifted os started H enc)

theorem proved : Rows.VectorMirrorSaid := over
#print axioms proved
end Go.Proofs.Ytlpfjaldmokdfaa.vectorMirror
