/-
  VectorScales returns true and leaves what it was handed as it was, for every number and every two lists of numbers (P6.1, P6.2, rule 3: Axpy and Scale to the bit; what was handed in stays; each answer is new memory); no condition but the form's own reach.
-/
import Derived.Test.YtlpfjaldmokdfaaWVScales
import Derived.Test.YtlpfjaldmokdfaaVfr
import Derived.Test.YtlpfjaldmokdfaaRows
import Derived.WalkKit
import Derived.ProofKit
import Derived.OpenShut
import Derived.ShutString
import Derived.ChangeOld
import Derived.Below
import Derived.SizedLaws
import Derived.Lib.SmallJoins
namespace Go.Proofs.Ytlpfjaldmokdfaa.vectorScales
open Go.ChangeShapes Go.WideShapes Go.ChangeAt Go.RowKit Go.Joins
set_option linter.unusedVariables false

theorem own : ownKnob Try.prog.godebug = none := by kernel_rfl
theorem laidOut : laidOutB Try.prog = true := by kernel_rfl
theorem bytesZ : Try.prog.bytesOf 43 = 16 := by kernel_rfl
theorem cellsZ : Try.prog.cellsOf 43 = 2 := by kernel_rfl

theorem walk (w : World) (t : Cw) (ht : okz t) (ao : Option Addr) (ca n : Nat) (xs : List Cw) (hn : xs.length = n) (hs1 : n * 16 ≤ 140737488351232) (hc : Rz w ao xs) (hx : okl xs) (bo : Option Addr) (cb n2 : Nat) (ys : List Cw) (hn2 : ys.length = n2) (hs2 : n2 * 16 ≤ 140737488351232) (hd : Rz w bo ys) (hy : okl ys) :
    Calls Try.prog 4 #[.agg #[.int .u64 (t.1 : Int), .int .u64 (t.2 : Int)], .slice ao n ca, .slice bo n2 cb] w fun e w' => e = .returned (.bool true) ∧ Below w.heap.size w w' := by
  by_cases he : errV n n2 = 0
  · obtain ⟨h1, h2⟩ := errV_ok he
    subst h1
    exact vscales_ok t ao bo ca cb n xs ys w ht hn hn2 (by omega) h2 hc hd hx hy
  · exact vscales_err t ao bo ca cb n n2 xs ys w ht hn hn2 (by omega) (by omega) (by omega) (by omega) _ he rfl hc hd hx hy


set_option maxRecDepth 100000 in
theorem lifted (os : Os) (started : os.Started) (H : Type) (enc : TypeId × Value → H) :
    ReturnsInHanded {} Try.checked os 4 .any (Rows.vectorScalesSpec.pre6 enc Try.prog Try.f4 Rows.vectorScalesRow.domain false) (Rows.vectorScalesSpec.post enc Try.prog Try.f4 false true false false) := by
  refine returnsInHanded_of_change_sized (C := Try.checked) own started (by kernel_rfl) Try.func4
    (ChangeSpec.witness6 (enc := enc) (C := Try.checked) false ⟨#[], #[.agg #[.int .u64 0, .int .u64 0], .slice none 0 0, .slice none 0 0], []⟩ 8 (by kernel_rfl) (by kernel_rfl) (by kernel_rfl) (by kernel_rfl)) ?_
  intro W base args ds gs before hval0 hW hcnd hsz0 hholds
  have hsz : (DataW.weightsEach Try.prog (Try.f4.params.toList ++ Rows.vectorScalesSpec.plain.varTypes Try.prog) (ds ++ gs)).all (· ≤ reachBytes) = true := hsz0
  have hW' := hW
  obtain ⟨p, q, hA0, hV, rfl, hfz, hnd⟩ := hW
  have hA : DataW.TrodAll enc Try.prog W 0 (fun _ => true) true Try.f4.params.toList args.toList ds p := hA0
  rw [Try.params4] at hA hsz
  obtain ⟨v0, vs0, d0, ds0, p0, q0, hargs0, rfl, rfl, h0, r0⟩ := trodAll_cons hA
  obtain ⟨v1, vs1, d1, ds1, p1, q1, hargs1, rfl, rfl, h1, r1⟩ := trodAll_cons r0
  obtain ⟨v2, vs2, d2, ds2, p2, q2, hargs2, rfl, rfl, h2, r2⟩ := trodAll_cons r1
  obtain ⟨rfl, rfl, rfl⟩ := trodAll_nil r2
  obtain rfl : args = #[v0, v1, v2] := by cases args; simp_all
  obtain ⟨rfl, rfl⟩ := trodVars_none hV
  have hval : ∀ (j : Nat) t v, Try.f4.params[j]? = some t → #[v0, v1, v2][j]? = some v → Value.okWide Try.prog W .any base t v := hval0
  rw [Try.params4] at hval
  have k0 := h0
  have lt0 : ∀ x ∈ p0, x.block < W.heap.size := by obtain ⟨m, hm⟩ := k0; exact DataW.trod_lt m _ _ _ hm
  have k1 := h1
  have lt1 : ∀ x ∈ p1, x.block < W.heap.size := by obtain ⟨m, hm⟩ := k1; exact DataW.trod_lt m _ _ _ hm
  have k2 := h2
  have lt2 : ∀ x ∈ p2, x.block < W.heap.size := by obtain ⟨m, hm⟩ := k2; exact DataW.trod_lt m _ _ _ hm
  obtain ⟨a1, len1, cap1, rfl⟩ := okWide_slice Try.underlying22 (hval 1 22 v1 rfl rfl)
  obtain ⟨a2, len2, cap2, rfl⟩ := okWide_slice Try.underlying22 (hval 2 22 v2 rfl rfl)
  have key : Calls Try.prog 4 #[v0, .slice a1 len1 cap1, .slice a2 len2 cap2] W fun e w' => e = .returned (.bool true) ∧ Below W.heap.size W w' := by
    obtain ⟨ca0, ca1, ya0, ya1, m0, rfl, rfl, rfl, hya0, hya1⟩ := open_agg2 Try.underlying43 (by kernel_rfl) cellsZ (hval 0 43 v0 rfl rfl) h0
    obtain ⟨z0, ea0, rfl, wa0⟩ := DataW.trod_int Try.underlying41 hya0
    obtain ⟨z1, ea1, rfl, wa1⟩ := DataW.trod_int Try.underlying41 hya1
    simp at ea0 ea1
    subst ea0 ea1
    obtain ⟨la0, ha0⟩ := bounds_u64 wa0
    obtain ⟨la1, ha1⟩ := bounds_u64 wa1
    obtain ⟨y0, rfl⟩ := Int.eq_ofNat_of_zero_le la0
    obtain ⟨y1, rfl⟩ := Int.eq_ofNat_of_zero_le la1
    obtain ⟨f1, hf1⟩ := h1
    obtain ⟨A1, n1, c1, xs1, hcs1, hl1, hok1, hrz1, hsl1⟩ := rz_open hf1
    simp only [Value.cells, List.cons.injEq, and_true] at hcs1
    cases hcs1
    have z1 : len1 * 16 ≤ 140737488351232 := by
      rcases hsl1 with h | ⟨el, sp, hd, hle⟩
      · omega
      · have := sized_slice hsz (j := 1) (t := 22) (e := 43) rfl (congrArg some hd) Try.underlying22
        rw [bytesZ] at this
        simp only [reachBytes] at this
        omega
    obtain ⟨f2, hf2⟩ := h2
    obtain ⟨A2, n2, c2, xs2, hcs2, hl2, hok2, hrz2, hsl2⟩ := rz_open hf2
    simp only [Value.cells, List.cons.injEq, and_true] at hcs2
    cases hcs2
    have z2 : len2 * 16 ≤ 140737488351232 := by
      rcases hsl2 with h | ⟨el, sp, hd, hle⟩
      · omega
      · have := sized_slice hsz (j := 2) (t := 22) (e := 43) rfl (congrArg some hd) Try.underlying22
        rw [bytesZ] at this
        simp only [reachBytes] at this
        omega
    exact walk W (y0, y1) ⟨by show y0 < _; omega, by show y1 < _; omega⟩ a1 cap1 len1 xs1 hl1 z1 hrz1 hok1 a2 cap2 len2 xs2 hl2 z2 hrz2 hok2
  clear hA0 hval0 hval
  refine key.mono fun e W' ⟨he, bel⟩ => ?_
  subst he
  exact ⟨_, rfl, _, _, _, [], _, [], hW', trodAll_mk1 (shut_bool Try.underlying4 _), (trodAll_cons_mk (Below.trod laidOut (by kernel_rfl) (of_decide_eq_true (by kernel_rfl)) k0 bel lt0) (trodAll_cons_mk (Below.trod laidOut (by kernel_rfl) (of_decide_eq_true (by kernel_rfl)) k1 bel lt1) (trodAll_cons_mk (Below.trod laidOut (by kernel_rfl) (of_decide_eq_true (by kernel_rfl)) k2 bel lt2) trodAll_mk0))), rfl, bel.frame _, fun h => by cases h⟩

theorem over : Rows.vectorScalesRow.holds Try.pinned (OpenSpec.ofChange Rows.vectorScalesSpec) :=
  OpenClaim.holds_of_wide 4 Try.f4 rfl rfl rfl rfl rfl rfl rfl ⟨rfl, rfl, rfl, rfl, rfl⟩ rfl rfl rfl rfl rfl (by kernel_rfl) Try.func4 (by kernel_rfl)
    (of_decide_eq_true (by kernel_rfl)) (by unfold Func.isWrapper; first | (rw [if_pos (by decide +kernel)]; kernel_rfl) | (rw [if_neg (by decide +kernel)]; exact ⟨rfl, rfl⟩))
    (fun os started H enc _ => lifted os started H enc)

theorem proved : Rows.VectorScalesSaid := over
#print axioms proved
end Go.Proofs.Ytlpfjaldmokdfaa.vectorScales
