/-
  PivotSelf returns true (a matrix against itself grows by 1, unless it is refused); no condition.
-/
import Derived.Test.YtgpjlobclcbniaaWPSelf
import Derived.Test.YtgpjlobclcbniaaVgm
import Derived.Test.YtgpjlobclcbniaaRows
import Derived.WalkKit
import Derived.ProofKit
import Derived.OpenShut
import Derived.ShutString
import Derived.ChangeOld
import Derived.Below
import Derived.SizedLaws
import Derived.Lib.SmallJoins
namespace Go.Proofs.Ytgpjlobclcbniaa.pivotSelf
open Go.ChangeShapes Go.WideShapes Go.ChangeAt Go.RowKit Go.Joins
set_option linter.unusedVariables false

theorem own : ownKnob Try.prog.godebug = none := by kernel_rfl
theorem laidOut : laidOutB Try.prog = true := by kernel_rfl
theorem bytesZ : Try.prog.bytesOf 70 = 16 := by kernel_rfl
theorem cellsM : Try.prog.cellsOf 33 = 3 := by kernel_rfl

theorem walk (W : World) (R C : Int) (ao : Option Addr) (n cap : Nat) (xs : List Cw) (hn : xs.length = n) (hz : n * 16 ≤ 140737488351232) (hc : Rz W ao xs) (hx : okl xs) :
    Calls Try.prog 8 #[.agg #[.int .i64 R, .int .i64 C, .slice ao n cap]] W fun e w' => e = .returned (.bool true) ∧ Below W.heap.size W w' :=
  self_any R C ao n cap xs W hn (by omega) hc hx


set_option maxRecDepth 100000 in
theorem lifted (os : Os) (started : os.Started) (H : Type) (enc : TypeId × Value → H) :
    ReturnsInHanded {} Try.checked os 8 .any (Rows.pivotSelfSpec.pre6 enc Try.prog Try.f8 Rows.pivotSelfRow.domain false) (Rows.pivotSelfSpec.post enc Try.prog Try.f8 false true false false) := by
  refine returnsInHanded_of_change_sized (C := Try.checked) own started (by kernel_rfl) Try.func8
    (ChangeSpec.witness6 (enc := enc) (C := Try.checked) false ⟨#[], #[.agg #[.int .i64 0, .int .i64 0, .slice none 0 0]], []⟩ 8 (by kernel_rfl) (by kernel_rfl) (by kernel_rfl) (by kernel_rfl)) ?_
  intro W base args ds gs before hval0 hW hcnd hsz0 hholds
  have hsz : (DataW.weightsEach Try.prog (Try.f8.params.toList ++ Rows.pivotSelfSpec.plain.varTypes Try.prog) (ds ++ gs)).all (· ≤ reachBytes) = true := hsz0
  have hW' := hW
  obtain ⟨p, q, hA0, hV, rfl, hfz, hnd⟩ := hW
  have hA : DataW.TrodAll enc Try.prog W 0 (fun _ => true) true Try.f8.params.toList args.toList ds p := hA0
  rw [Try.params8] at hA hsz
  obtain ⟨v0, vs0, d0, ds0, p0, q0, hargs0, rfl, rfl, h0, r0⟩ := trodAll_cons hA
  obtain ⟨rfl, rfl, rfl⟩ := trodAll_nil r0
  obtain rfl : args = #[v0] := by cases args; simp_all
  obtain ⟨rfl, rfl⟩ := trodVars_none hV
  have hval : ∀ (j : Nat) t v, Try.f8.params[j]? = some t → #[v0][j]? = some v → Value.okWide Try.prog W .any base t v := hval0
  rw [Try.params8] at hval
  have k0 := h0
  have lt0 : ∀ x ∈ p0, x.block < W.heap.size := by obtain ⟨m, hm⟩ := k0; exact DataW.trod_lt m _ _ _ hm
  have key : Calls Try.prog 8 #[v0] W fun e w' => e = .returned (.bool true) ∧ Below W.heap.size W w' := by
    obtain ⟨m0_0, m1_0, m2_0, y0_0, y1_0, y2_0, kk_0, rfl, rfl, rfl, g0_0, g1_0, g2_0⟩ := open_agg3 Try.underlying33 (by kernel_rfl) cellsM (hval 0 33 v0 rfl rfl) h0
    obtain ⟨R_0, eR_0, _, wR_0⟩ := DataW.trod_int Try.underlying3 g0_0
    obtain ⟨C_0, eC_0, _, wC_0⟩ := DataW.trod_int Try.underlying3 g1_0
    obtain ⟨A_0, n_0, c_0, xs_0, hcs_0, hl_0, hok_0, hrz_0, hsl_0⟩ := rz_open g2_0
    simp only [List.cons.injEq, and_true] at eR_0 eC_0 hcs_0
    subst eR_0 eC_0 hcs_0
    have z_0 : n_0 * 16 ≤ 140737488351232 := by
      rcases hsl_0 with h | ⟨el, sp, hd, hle⟩
      · omega
      · have := sized_field hsz (j := 0) (k := 2) (t := 33) (tf := 22) (e := 70) (parts := [y0_0.1, y1_0.1, y2_0.1]) rfl rfl Try.underlying33 rfl (congrArg some hd) Try.underlying22
        rw [bytesZ] at this
        simp only [reachBytes] at this
        omega
    exact walk W R_0 C_0 A_0 n_0 c_0 xs_0 hl_0 z_0 hrz_0 hok_0
  clear hA0 hval0 hval
  refine key.mono fun e W' ⟨he, bel⟩ => ?_
  subst he
  exact ⟨_, rfl, _, _, _, [], _, [], hW', trodAll_mk1 (shut_bool Try.underlying4 _), (trodAll_cons_mk (Below.trod laidOut (by kernel_rfl) (of_decide_eq_true (by kernel_rfl)) k0 bel lt0) trodAll_mk0), rfl, bel.frame _, fun h => by cases h⟩

theorem over : Rows.pivotSelfRow.holds Try.pinned (OpenSpec.ofChange Rows.pivotSelfSpec) :=
  OpenClaim.holds_of_wide 8 Try.f8 rfl rfl rfl rfl rfl rfl rfl ⟨rfl, rfl, rfl, rfl, rfl⟩ rfl rfl rfl rfl rfl (by kernel_rfl) Try.func8 (by kernel_rfl)
    (of_decide_eq_true (by kernel_rfl)) (by unfold Func.isWrapper; first | (rw [if_pos (by decide +kernel)]; kernel_rfl) | (rw [if_neg (by decide +kernel)]; exact ⟨rfl, rfl⟩))
    (fun os started H enc _ => lifted os started H enc)

theorem proved : Rows.PivotSelfSaid := over
#print axioms proved
end Go.Proofs.Ytgpjlobclcbniaa.pivotSelf
