/-
  For every number and two lists of numbers by their bits, SolveMeans hands back true: what Solve tells comes of L, U and Order number by number, to the bit, and is refused just where a number that is stored is not finite. No conditions.
-/
import Derived.Test.YtpaljgbhladceaaWSE0
import Derived.Test.YtpaljgbhladceaaWSE1
import Derived.Test.YtpaljgbhladceaaBnb
import Derived.Test.YtpaljgbhladceaaRows
import Derived.WalkKit
import Derived.ProofKit
import Derived.OpenShut
import Derived.ShutString
import Derived.ChangeOld
import Derived.Below
import Derived.SizedLaws
import Derived.Lib.SmallJoins
namespace Go.Proofs.Ytpaljgbhladceaa.solveMeans
open Go.ChangeShapes Go.WideShapes Go.ChangeAt Go.RowKit Go.Joins
set_option linter.unusedVariables false

theorem own : ownKnob Try.prog.godebug = none := by kernel_rfl
theorem laidOut : laidOutB Try.prog = true := by kernel_rfl
theorem bytesZ : Try.prog.bytesOf 71 = 16 := by kernel_rfl

theorem walk (W : World) (a : Int) (_ha : -9223372036854775808 ≤ a ∧ a ≤ 9223372036854775807) (ao : Option Addr) (cap n : Nat) (xs : List Cw) (hn : xs.length = n) (hz : n * 16 ≤ 140737488351232) (hc : Rz W ao xs) (hx : okl xs) (bo : Option Addr) (cb nb : Nat) (zs : List Cw) (hnb : zs.length = nb) (hzb : nb * 16 ≤ 140737488351232) (hd : Rz W bo zs) (hzs : okl zs) :
    Calls Try.prog 4 #[.int .i64 a, .slice ao n cap, .slice bo nb cb] W fun e w' => e = .returned (.bool true) ∧ Below W.heap.size W w' := by
  obtain ⟨j, _, hP⟩ := ppick_any a 17 (by decide) (by decide)
  obtain ⟨N, hN, hSq⟩ := square_any (j : Int)
  have SQ := sqT (T := N * N) rfl hSq
  rcases one10_cases N (zat xs) hN (fun k _ => hx k) with ⟨E, q, hE, h1⟩ | ⟨S, e1, hin, h1⟩
  · exact means_fail a j hP N (N * N) E q ao bo cap n cb nb xs W hn (by omega) hc hE SQ (failsT rfl h1)
  · by_cases hl : nb = N
    · cases hf : finL zs nb
      · exact means_ref a j hP N (N * N) S ao bo cap n cb nb xs zs W hn (by omega) hc hnb (by omega) hd hzs hN e1 SQ (mkT rfl h1) (.inr ⟨hl, hf⟩)
      · subst hl
        exact means_main a j hP nb (nb * nb) S ao bo cap n cb xs zs W hn (by omega) hc hnb hd hzs hf hN rfl e1 hin SQ (mkT rfl h1)
    · exact means_ref a j hP N (N * N) S ao bo cap n cb nb xs zs W hn (by omega) hc hnb (by omega) hd hzs hN e1 SQ (mkT rfl h1) (.inl hl)

set_option maxRecDepth 100000 in
theorem lifted (os : Os) (started : os.Started) (H : Type) (enc : TypeId × Value → H) :
    ReturnsInHanded {} Try.checked os 4 .any (Rows.solveMeansSpec.pre6 enc Try.prog Try.f4 Rows.solveMeansRow.domain false) (Rows.solveMeansSpec.post enc Try.prog Try.f4 false true false false) := by
  refine returnsInHanded_of_change_sized (C := Try.checked) own started (by kernel_rfl) Try.func4
    (ChangeSpec.witness6 (enc := enc) (C := Try.checked) false ⟨#[], #[.int .i64 0, .slice none 0 0, .slice none 0 0], []⟩ 8 (by kernel_rfl) (by kernel_rfl) (by kernel_rfl) (by kernel_rfl)) ?_
  intro W base args ds gs before hval0 hW hcnd hsz0 hholds
  have hsz : (DataW.weightsEach Try.prog (Try.f4.params.toList ++ Rows.solveMeansSpec.plain.varTypes Try.prog) (ds ++ gs)).all (· ≤ reachBytes) = true := hsz0
  have hW' := hW
  obtain ⟨p, q, hA0, hV, rfl, hfz, hnd⟩ := hW
  have hA : DataW.TrodAll enc Try.prog W 0 (fun _ => true) true Try.f4.params.toList args.toList ds p := hA0
  rw [Try.params4] at hA hsz
  obtain ⟨v0, vs0, d0, ds0, p0, q0, hargs0, rfl, rfl, h0, r0⟩ := trodAll_cons hA
  obtain ⟨v1, vs1, d1, ds1, p1, q1, hargs1, rfl, rfl, h1, r1⟩ := trodAll_cons r0
  obtain ⟨v2, vs2, d2, ds2, p2, q2, hargs2, rfl, rfl, h2, r2⟩ := trodAll_cons r1
  obtain ⟨rfl, rfl, rfl⟩ := trodAll_nil r2
  obtain rfl : args = #[v0, v1, v2] := by cases args; simp_all
  obtain ⟨rfl, rfl⟩ := trodVars_none hV
  have hval : ∀ (j : Nat) t v, Try.f4.params[j]? = some t → #[v0, v1, v2][j]? = some v → Value.okWide Try.prog W .any base t v := hval0
  rw [Try.params4] at hval
  have k0 := h0
  have lt0 : ∀ x ∈ p0, x.block < W.heap.size := by obtain ⟨m, hm⟩ := k0; exact DataW.trod_lt m _ _ _ hm
  have k1 := h1
  have lt1 : ∀ x ∈ p1, x.block < W.heap.size := by obtain ⟨m, hm⟩ := k1; exact DataW.trod_lt m _ _ _ hm
  have k2 := h2
  have lt2 : ∀ x ∈ p2, x.block < W.heap.size := by obtain ⟨m, hm⟩ := k2; exact DataW.trod_lt m _ _ _ hm
  obtain ⟨a1, len1, cap1, rfl⟩ := okWide_slice Try.underlying22 (hval 1 22 v1 rfl rfl)
  obtain ⟨a2, len2, cap2, rfl⟩ := okWide_slice Try.underlying22 (hval 2 22 v2 rfl rfl)
  have key : Calls Try.prog 4 #[v0, .slice a1 len1 cap1, .slice a2 len2 cap2] W fun e w' => e = .returned (.bool true) ∧ Below W.heap.size W w' := by
    obtain ⟨i0, rfl, rfl, rfl, wi0⟩ := open_int Try.underlying3 (hval 0 3 v0 rfl rfl) h0
    have bi0 := bounds_i64 wi0
    obtain ⟨f1, hf1⟩ := h1
    obtain ⟨A1, n1, c1, xs1, hcs1, hl1, hok1, hrz1, hsl1⟩ := rz_open hf1
    simp only [Value.cells, List.cons.injEq, and_true] at hcs1
    cases hcs1
    have z1 : len1 * 16 ≤ 140737488351232 := by
      rcases hsl1 with h | ⟨el, sp, hd, hle⟩
      · omega
      · have := sized_slice hsz (j := 1) (t := 22) (e := 71) rfl (congrArg some hd) Try.underlying22
        rw [bytesZ] at this
        simp only [reachBytes] at this
        omega
    obtain ⟨f2, hf2⟩ := h2
    obtain ⟨A2, n2, c2, xs2, hcs2, hl2, hok2, hrz2, hsl2⟩ := rz_open hf2
    simp only [Value.cells, List.cons.injEq, and_true] at hcs2
    cases hcs2
    have z2 : len2 * 16 ≤ 140737488351232 := by
      rcases hsl2 with h | ⟨el, sp, hd, hle⟩
      · omega
      · have := sized_slice hsz (j := 2) (t := 22) (e := 71) rfl (congrArg some hd) Try.underlying22
        rw [bytesZ] at this
        simp only [reachBytes] at this
        omega
    exact walk W i0 bi0 a1 cap1 len1 xs1 hl1 z1 hrz1 hok1 a2 cap2 len2 xs2 hl2 z2 hrz2 hok2
  clear hA0 hval0 hval
  refine key.mono fun e W' ⟨he, bel⟩ => ?_
  subst he
  exact ⟨_, rfl, _, _, _, [], _, [], hW', trodAll_mk1 (shut_bool Try.underlying4 _), (trodAll_cons_mk (Below.trod laidOut (by kernel_rfl) (of_decide_eq_true (by kernel_rfl)) k0 bel lt0) (trodAll_cons_mk (Below.trod laidOut (by kernel_rfl) (of_decide_eq_true (by kernel_rfl)) k1 bel lt1) (trodAll_cons_mk (Below.trod laidOut (by kernel_rfl) (of_decide_eq_true (by kernel_rfl)) k2 bel lt2) trodAll_mk0))), rfl, bel.frame _, fun h => by cases h⟩

theorem over : Rows.solveMeansRow.holds Try.pinned (OpenSpec.ofChange Rows.solveMeansSpec) :=
  OpenClaim.holds_of_wide 4 Try.f4 rfl rfl rfl rfl rfl rfl rfl ⟨rfl, rfl, rfl, rfl, rfl⟩ rfl rfl rfl rfl rfl (by kernel_rfl) Try.func4 (by kernel_rfl)
    (of_decide_eq_true (by kernel_rfl)) (by unfold Func.isWrapper; first | (rw [if_pos (by decide +kernel)]; kernel_rfl) | (rw [if_neg (by decide +kernel)]; exact ⟨rfl, rfl⟩))
    (fun os started H enc _ => lifted os started H enc)

theorem proved : Rows.SolveMeansSaid := over
#print axioms proved
end Go.Proofs.Ytpaljgbhladceaa.solveMeans
