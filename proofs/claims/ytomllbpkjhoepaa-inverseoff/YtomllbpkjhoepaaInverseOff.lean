/-
  For every two matrices by their shapes and numbers, square or not, InverseOff hands back true: Off is the document's, and what was handed in stays. No conditions.
-/
import Derived.Test.YtomllbpkjhoepaaWIO
import Derived.Test.YtomllbpkjhoepaaBnb
import Derived.Test.YtomllbpkjhoepaaVgm
import Derived.Test.YtomllbpkjhoepaaRows
import Derived.WalkKit
import Derived.ProofKit
import Derived.OpenShut
import Derived.ShutString
import Derived.ChangeOld
import Derived.Below
import Derived.SizedLaws
import Derived.Lib.SmallJoins
namespace Go.Proofs.Ytomllbpkjhoepaa.inverseOff
open Go.ChangeShapes Go.WideShapes Go.ChangeAt Go.RowKit Go.Joins
set_option linter.unusedVariables false

theorem own : ownKnob Try.prog.godebug = none := by kernel_rfl
theorem laidOut : laidOutB Try.prog = true := by kernel_rfl
theorem bytesZ : Try.prog.bytesOf 60 = 16 := by kernel_rfl
theorem cellsM : Try.prog.cellsOf 24 = 3 := by kernel_rfl

theorem walk (W : World) (R C : Int) (ao : Option Addr) (n cap : Nat) (xs : List Cw) (hn : xs.length = n) (hz : n * 16 ≤ 140737488351232) (hc : Rz W ao xs) (hx : okl xs) (R' C' : Int) (bo : Option Addr) (n' cap' : Nat) (ys : List Cw) (hn' : ys.length = n') (hz' : n' * 16 ≤ 140737488351232) (hc' : Rz W bo ys) (hy : okl ys) :
    Calls Try.prog 3 #[.agg #[.int .i64 R, .int .i64 C, .slice ao n cap], .agg #[.int .i64 R', .int .i64 C', .slice bo n' cap']] W fun e w' => e = .returned (.bool true) ∧ Below W.heap.size W w' :=
  ioff_walk R C R' C' ao bo n cap n' cap' xs ys W hn hn' hx hy hc hc' (by omega) (by omega)

set_option maxRecDepth 100000 in
theorem lifted (os : Os) (started : os.Started) (H : Type) (enc : TypeId × Value → H) :
    ReturnsInHanded {} Try.checked os 3 .any (Rows.inverseOffSpec.pre6 enc Try.prog Try.f3 Rows.inverseOffRow.domain false) (Rows.inverseOffSpec.post enc Try.prog Try.f3 false true false false) := by
  refine returnsInHanded_of_change_sized (C := Try.checked) own started (by kernel_rfl) Try.func3
    (ChangeSpec.witness6 (enc := enc) (C := Try.checked) false ⟨#[], #[.agg #[.int .i64 0, .int .i64 0, .slice none 0 0], .agg #[.int .i64 0, .int .i64 0, .slice none 0 0]], []⟩ 8 (by kernel_rfl) (by kernel_rfl) (by kernel_rfl) (by kernel_rfl)) ?_
  intro W base args ds gs before hval0 hW hcnd hsz0 hholds
  have hsz : (DataW.weightsEach Try.prog (Try.f3.params.toList ++ Rows.inverseOffSpec.plain.varTypes Try.prog) (ds ++ gs)).all (· ≤ reachBytes) = true := hsz0
  have hW' := hW
  obtain ⟨p, q, hA0, hV, rfl, hfz, hnd⟩ := hW
  have hA : DataW.TrodAll enc Try.prog W 0 (fun _ => true) true Try.f3.params.toList args.toList ds p := hA0
  rw [Try.params3] at hA hsz
  obtain ⟨v0, vs0, d0, ds0, p0, q0, hargs0, rfl, rfl, h0, r0⟩ := trodAll_cons hA
  obtain ⟨v1, vs1, d1, ds1, p1, q1, hargs1, rfl, rfl, h1, r1⟩ := trodAll_cons r0
  obtain ⟨rfl, rfl, rfl⟩ := trodAll_nil r1
  obtain rfl : args = #[v0, v1] := by cases args; simp_all
  obtain ⟨rfl, rfl⟩ := trodVars_none hV
  have hval : ∀ (j : Nat) t v, Try.f3.params[j]? = some t → #[v0, v1][j]? = some v → Value.okWide Try.prog W .any base t v := hval0
  rw [Try.params3] at hval
  have k0 := h0
  have lt0 : ∀ x ∈ p0, x.block < W.heap.size := by obtain ⟨m, hm⟩ := k0; exact DataW.trod_lt m _ _ _ hm
  have k1 := h1
  have lt1 : ∀ x ∈ p1, x.block < W.heap.size := by obtain ⟨m, hm⟩ := k1; exact DataW.trod_lt m _ _ _ hm
  have key : Calls Try.prog 3 #[v0, v1] W fun e w' => e = .returned (.bool true) ∧ Below W.heap.size W w' := by
    obtain ⟨m0_0, m1_0, m2_0, y0_0, y1_0, y2_0, kk_0, rfl, rfl, rfl, g0_0, g1_0, g2_0⟩ := open_agg3 Try.underlying24 (by kernel_rfl) cellsM (hval 0 24 v0 rfl rfl) h0
    obtain ⟨R_0, eR_0, _, wR_0⟩ := DataW.trod_int Try.underlying3 g0_0
    obtain ⟨C_0, eC_0, _, wC_0⟩ := DataW.trod_int Try.underlying3 g1_0
    obtain ⟨A_0, n_0, c_0, xs_0, hcs_0, hl_0, hok_0, hrz_0, hsl_0⟩ := rz_open g2_0
    simp only [List.cons.injEq, and_true] at eR_0 eC_0 hcs_0
    subst eR_0 eC_0 hcs_0
    have z_0 : n_0 * 16 ≤ 140737488351232 := by
      rcases hsl_0 with h | ⟨el, sp, hd, hle⟩
      · omega
      · have := sized_field hsz (j := 0) (k := 2) (t := 24) (tf := 22) (e := 60) (parts := [y0_0.1, y1_0.1, y2_0.1]) rfl rfl Try.underlying24 rfl (congrArg some hd) Try.underlying22
        rw [bytesZ] at this
        simp only [reachBytes] at this
        omega
    obtain ⟨m0_1, m1_1, m2_1, y0_1, y1_1, y2_1, kk_1, rfl, rfl, rfl, g0_1, g1_1, g2_1⟩ := open_agg3 Try.underlying24 (by kernel_rfl) cellsM (hval 1 24 v1 rfl rfl) h1
    obtain ⟨R_1, eR_1, _, wR_1⟩ := DataW.trod_int Try.underlying3 g0_1
    obtain ⟨C_1, eC_1, _, wC_1⟩ := DataW.trod_int Try.underlying3 g1_1
    obtain ⟨A_1, n_1, c_1, xs_1, hcs_1, hl_1, hok_1, hrz_1, hsl_1⟩ := rz_open g2_1
    simp only [List.cons.injEq, and_true] at eR_1 eC_1 hcs_1
    subst eR_1 eC_1 hcs_1
    have z_1 : n_1 * 16 ≤ 140737488351232 := by
      rcases hsl_1 with h | ⟨el, sp, hd, hle⟩
      · omega
      · have := sized_field hsz (j := 1) (k := 2) (t := 24) (tf := 22) (e := 60) (parts := [y0_1.1, y1_1.1, y2_1.1]) rfl rfl Try.underlying24 rfl (congrArg some hd) Try.underlying22
        rw [bytesZ] at this
        simp only [reachBytes] at this
        omega
    exact walk W R_0 C_0 A_0 n_0 c_0 xs_0 hl_0 z_0 hrz_0 hok_0 R_1 C_1 A_1 n_1 c_1 xs_1 hl_1 z_1 hrz_1 hok_1
  clear hA0 hval0 hval
  refine key.mono fun e W' ⟨he, bel⟩ => ?_
  subst he
  exact ⟨_, rfl, _, _, _, [], _, [], hW', trodAll_mk1 (shut_bool Try.underlying4 _), (trodAll_cons_mk (Below.trod laidOut (by kernel_rfl) (of_decide_eq_true (by kernel_rfl)) k0 bel lt0) (trodAll_cons_mk (Below.trod laidOut (by kernel_rfl) (of_decide_eq_true (by kernel_rfl)) k1 bel lt1) trodAll_mk0)), rfl, bel.frame _, fun h => by cases h⟩

theorem over : Rows.inverseOffRow.holds Try.pinned (OpenSpec.ofChange Rows.inverseOffSpec) :=
  OpenClaim.holds_of_wide 3 Try.f3 rfl rfl rfl rfl rfl rfl rfl ⟨rfl, rfl, rfl, rfl, rfl⟩ rfl rfl rfl rfl rfl (by kernel_rfl) Try.func3 (by kernel_rfl)
    (of_decide_eq_true (by kernel_rfl)) (by unfold Func.isWrapper; first | (rw [if_pos (by decide +kernel)]; kernel_rfl) | (rw [if_neg (by decide +kernel)]; exact ⟨rfl, rfl⟩))
    (fun os started H enc _ => lifted os started H enc)

theorem proved : Rows.InverseOffSaid := over
#print axioms proved
end Go.Proofs.Ytomllbpkjhoepaa.inverseOff
