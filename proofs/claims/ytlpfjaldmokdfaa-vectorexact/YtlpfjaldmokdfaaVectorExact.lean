/-
  VectorExact returns true and leaves the lists that it was handed as they were, for every four lists of integers (P6.5: of whole numbers Dot is exact, whatever the order of the places, and Dot of a sum is the sum of both); no condition but the form's own reach.
-/
import Derived.Test.YtlpfjaldmokdfaaWVExact
import Derived.Test.YtlpfjaldmokdfaaVgr
import Derived.Test.YtlpfjaldmokdfaaRows
import Derived.WalkKit
import Derived.ProofKit
import Derived.OpenShut
import Derived.ShutString
import Derived.ChangeOld
import Derived.Below
import Derived.SizedLaws
import Derived.Lib.SmallJoins
namespace Go.Proofs.Ytlpfjaldmokdfaa.vectorExact
open Go.ChangeShapes Go.WideShapes Go.ChangeAt Go.RowKit Go.Joins
set_option linter.unusedVariables false

theorem own : ownKnob Try.prog.godebug = none := by kernel_rfl
theorem laidOut : laidOutB Try.prog = true := by kernel_rfl
theorem bytesI : Try.prog.bytesOf 3 = 8 := by kernel_rfl

theorem walk (w : World) (ao : Option Addr) (c0 n0 : Nat) (ks : List Int) (h0 : ks.length = n0) (z0 : n0 * 8 ≤ 140737488351232) (r0 : Ri w ao ks) (bo : Option Addr) (c1 n1 : Nat) (ls : List Int) (h1 : ls.length = n1) (z1 : n1 * 8 ≤ 140737488351232) (r1 : Ri w bo ls) (co : Option Addr) (c2 n2 : Nat) (ms : List Int) (h2 : ms.length = n2) (z2 : n2 * 8 ≤ 140737488351232) (r2 : Ri w co ms) (oo : Option Addr) (c3 n3 : Nat) (os : List Int) (h3 : os.length = n3) (z3 : n3 * 8 ≤ 140737488351232) (r3 : Ri w oo os) :
    Calls Try.prog 8 #[.slice ao n0 c0, .slice bo n1 c1, .slice co n2 c2, .slice oo n3 c3] w fun e w' => e = .returned (.bool true) ∧ Below w.heap.size w w' := by
  subst h0 h1 h2 h3
  exact vexact_walk ao bo co oo c0 c1 c2 c3 ks ls ms os w (by omega) (by omega) (by omega) (by omega) r0 r1 r2 r3


set_option maxRecDepth 100000 in
theorem lifted (os : Os) (started : os.Started) (H : Type) (enc : TypeId × Value → H) :
    ReturnsInHanded {} Try.checked os 8 .any (Rows.vectorExactSpec.pre6 enc Try.prog Try.f8 Rows.vectorExactRow.domain false) (Rows.vectorExactSpec.post enc Try.prog Try.f8 false true false false) := by
  refine returnsInHanded_of_change_sized (C := Try.checked) own started (by kernel_rfl) Try.func8
    (ChangeSpec.witness6 (enc := enc) (C := Try.checked) false ⟨#[], #[.slice none 0 0, .slice none 0 0, .slice none 0 0, .slice none 0 0], []⟩ 8 (by kernel_rfl) (by kernel_rfl) (by kernel_rfl) (by kernel_rfl)) ?_
  intro W base args ds gs before hval0 hW hcnd hsz0 hholds
  have hsz : (DataW.weightsEach Try.prog (Try.f8.params.toList ++ Rows.vectorExactSpec.plain.varTypes Try.prog) (ds ++ gs)).all (· ≤ reachBytes) = true := hsz0
  have hW' := hW
  obtain ⟨p, q, hA0, hV, rfl, hfz, hnd⟩ := hW
  have hA : DataW.TrodAll enc Try.prog W 0 (fun _ => true) true Try.f8.params.toList args.toList ds p := hA0
  rw [Try.params8] at hA hsz
  obtain ⟨v0, vs0, d0, ds0, p0, q0, hargs0, rfl, rfl, h0, r0⟩ := trodAll_cons hA
  obtain ⟨v1, vs1, d1, ds1, p1, q1, hargs1, rfl, rfl, h1, r1⟩ := trodAll_cons r0
  obtain ⟨v2, vs2, d2, ds2, p2, q2, hargs2, rfl, rfl, h2, r2⟩ := trodAll_cons r1
  obtain ⟨v3, vs3, d3, ds3, p3, q3, hargs3, rfl, rfl, h3, r3⟩ := trodAll_cons r2
  obtain ⟨rfl, rfl, rfl⟩ := trodAll_nil r3
  obtain rfl : args = #[v0, v1, v2, v3] := by cases args; simp_all
  obtain ⟨rfl, rfl⟩ := trodVars_none hV
  have hval : ∀ (j : Nat) t v, Try.f8.params[j]? = some t → #[v0, v1, v2, v3][j]? = some v → Value.okWide Try.prog W .any base t v := hval0
  rw [Try.params8] at hval
  have k0 := h0
  have lt0 : ∀ x ∈ p0, x.block < W.heap.size := by obtain ⟨m, hm⟩ := k0; exact DataW.trod_lt m _ _ _ hm
  have k1 := h1
  have lt1 : ∀ x ∈ p1, x.block < W.heap.size := by obtain ⟨m, hm⟩ := k1; exact DataW.trod_lt m _ _ _ hm
  have k2 := h2
  have lt2 : ∀ x ∈ p2, x.block < W.heap.size := by obtain ⟨m, hm⟩ := k2; exact DataW.trod_lt m _ _ _ hm
  have k3 := h3
  have lt3 : ∀ x ∈ p3, x.block < W.heap.size := by obtain ⟨m, hm⟩ := k3; exact DataW.trod_lt m _ _ _ hm
  obtain ⟨a0, len0, cap0, rfl⟩ := okWide_slice Try.underlying55 (hval 0 55 v0 rfl rfl)
  obtain ⟨a1, len1, cap1, rfl⟩ := okWide_slice Try.underlying55 (hval 1 55 v1 rfl rfl)
  obtain ⟨a2, len2, cap2, rfl⟩ := okWide_slice Try.underlying55 (hval 2 55 v2 rfl rfl)
  obtain ⟨a3, len3, cap3, rfl⟩ := okWide_slice Try.underlying55 (hval 3 55 v3 rfl rfl)
  have key : Calls Try.prog 8 #[.slice a0 len0 cap0, .slice a1 len1 cap1, .slice a2 len2 cap2, .slice a3 len3 cap3] W fun e w' => e = .returned (.bool true) ∧ Below W.heap.size W w' := by
    obtain ⟨f0, hf0⟩ := h0
    obtain ⟨A0, n0, c0, zs0, hcs0, hl0, hrd0, hsl0⟩ := ints_open hf0
    simp only [Value.cells, List.cons.injEq, and_true] at hcs0
    cases hcs0
    have z0 : len0 * 8 ≤ 140737488351232 := by
      rcases hsl0 with h | ⟨el, sp, hd, hle⟩
      · omega
      · have := sized_slice hsz (j := 0) (t := 55) (e := 3) rfl (congrArg some hd) Try.underlying55
        rw [bytesI] at this
        simp only [reachBytes] at this
        omega
    obtain ⟨f1, hf1⟩ := h1
    obtain ⟨A1, n1, c1, zs1, hcs1, hl1, hrd1, hsl1⟩ := ints_open hf1
    simp only [Value.cells, List.cons.injEq, and_true] at hcs1
    cases hcs1
    have z1 : len1 * 8 ≤ 140737488351232 := by
      rcases hsl1 with h | ⟨el, sp, hd, hle⟩
      · omega
      · have := sized_slice hsz (j := 1) (t := 55) (e := 3) rfl (congrArg some hd) Try.underlying55
        rw [bytesI] at this
        simp only [reachBytes] at this
        omega
    obtain ⟨f2, hf2⟩ := h2
    obtain ⟨A2, n2, c2, zs2, hcs2, hl2, hrd2, hsl2⟩ := ints_open hf2
    simp only [Value.cells, List.cons.injEq, and_true] at hcs2
    cases hcs2
    have z2 : len2 * 8 ≤ 140737488351232 := by
      rcases hsl2 with h | ⟨el, sp, hd, hle⟩
      · omega
      · have := sized_slice hsz (j := 2) (t := 55) (e := 3) rfl (congrArg some hd) Try.underlying55
        rw [bytesI] at this
        simp only [reachBytes] at this
        omega
    obtain ⟨f3, hf3⟩ := h3
    obtain ⟨A3, n3, c3, zs3, hcs3, hl3, hrd3, hsl3⟩ := ints_open hf3
    simp only [Value.cells, List.cons.injEq, and_true] at hcs3
    cases hcs3
    have z3 : len3 * 8 ≤ 140737488351232 := by
      rcases hsl3 with h | ⟨el, sp, hd, hle⟩
      · omega
      · have := sized_slice hsz (j := 3) (t := 55) (e := 3) rfl (congrArg some hd) Try.underlying55
        rw [bytesI] at this
        simp only [reachBytes] at this
        omega
    exact walk W a0 cap0 len0 zs0 hl0 z0 hrd0 a1 cap1 len1 zs1 hl1 z1 hrd1 a2 cap2 len2 zs2 hl2 z2 hrd2 a3 cap3 len3 zs3 hl3 z3 hrd3
  clear hA0 hval0 hval
  refine key.mono fun e W' ⟨he, bel⟩ => ?_
  subst he
  exact ⟨_, rfl, _, _, _, [], _, [], hW', trodAll_mk1 (shut_bool Try.underlying4 _), (trodAll_cons_mk (Below.trod laidOut (by kernel_rfl) (of_decide_eq_true (by kernel_rfl)) k0 bel lt0) (trodAll_cons_mk (Below.trod laidOut (by kernel_rfl) (of_decide_eq_true (by kernel_rfl)) k1 bel lt1) (trodAll_cons_mk (Below.trod laidOut (by kernel_rfl) (of_decide_eq_true (by kernel_rfl)) k2 bel lt2) (trodAll_cons_mk (Below.trod laidOut (by kernel_rfl) (of_decide_eq_true (by kernel_rfl)) k3 bel lt3) trodAll_mk0)))), rfl, bel.frame _, fun h => by cases h⟩

theorem over : Rows.vectorExactRow.holds Try.pinned (OpenSpec.ofChange Rows.vectorExactSpec) :=
  OpenClaim.holds_of_wide 8 Try.f8 rfl rfl rfl rfl rfl rfl rfl ⟨rfl, rfl, rfl, rfl, rfl⟩ rfl rfl rfl rfl rfl (by kernel_rfl) Try.func8 (by kernel_rfl)
    (of_decide_eq_true (by kernel_rfl)) (by unfold Func.isWrapper; first | (rw [if_pos (by decide +kernel)]; kernel_rfl) | (rw [if_neg (by decide +kernel)]; exact ⟨rfl, rfl⟩))
    (fun os started H enc _ => lifted os started H enc)

theorem proved : Rows.VectorExactSaid := over
#print axioms proved
end Go.Proofs.Ytlpfjaldmokdfaa.vectorExact
