/-
  ValueOwn: of an element that may be, another value of its kind's, another name of its kind, other unlike nodes make one that may be, and nothing else does; the letter tells the kind; of every element, text, real and phase; no condition.
-/
import Derived.Test.YtbmoilgiifondaaWVo
import Derived.Test.YtbmoilgiifondaaElo
import Derived.Test.YtbmoilgiifondaaRows
import Derived.WalkKit
import Derived.ProofKit
import Derived.OpenShut
import Derived.ShutString
import Derived.ChangeOld
import Derived.Below
import Derived.SizedLaws
import Derived.Lib.SmallJoins
namespace Go.Proofs.Ytbmoilgiifondaa.valueOwn
open Go.ChangeShapes Go.WideShapes Go.ChangeAt Go.RowKit Go.Joins Go.ChangeMaps
set_option linter.unusedVariables false

theorem own : ownKnob Try.prog.godebug = none := by kernel_rfl
theorem laidOut : laidOutB Try.prog = true := by kernel_rfl

theorem walk (W : World) (x : Elm) (hx : x.ok) (bx : -9223372036854775808 ≤ x.ph ∧ x.ph ≤ 9223372036854775807) (s : ByteArray) (hs : s.size ≤ 140737488351232) (P : ByteArray) (hP : P.size ≤ 140737488351232) (Q : ByteArray) (hQ : Q.size ≤ 140737488351232) (v : Nat) (hv : v < 18446744073709551616) (ph : Int) (hph : -9223372036854775808 ≤ ph ∧ ph ≤ 9223372036854775807) :
    Calls Try.prog 5 #[inV x, .string s, .string P, .string Q, .int .u64 (v : Int), .int .i64 ph] W fun e w' => e = .returned (.bool true) ∧ Below W.heap.size W w' := own_walk W x hx s hs P hP Q hQ v hv ph hph

set_option maxRecDepth 100000 in
theorem lifted (os : Os) (started : os.Started) (H : Type) (enc : TypeId × Value → H) :
    ReturnsInHanded {} Try.checked os 5 .any (Rows.valueOwnSpec.pre6 enc Try.prog Try.f5 Rows.valueOwnRow.domain false) (Rows.valueOwnSpec.post enc Try.prog Try.f5 false true false false) := by
  refine returnsInHanded_of_change_sized (C := Try.checked) own started (by kernel_rfl) Try.func5
    (ChangeSpec.witness6 (enc := enc) (C := Try.checked) false ⟨#[], #[.agg #[.int .u8 0, .string ⟨#[]⟩, .string ⟨#[]⟩, .string ⟨#[]⟩, .string ⟨#[]⟩, .string ⟨#[]⟩, .int .u64 0, .int .i64 0], .string ⟨#[]⟩, .string ⟨#[]⟩, .string ⟨#[]⟩, .int .u64 0, .int .i64 0], []⟩ 8 (by kernel_rfl) (by kernel_rfl) (by kernel_rfl) (by kernel_rfl)) ?_
  intro W base args ds gs before hval0 hW hcnd hsz0 hholds
  have hsz : (DataW.weightsEach Try.prog (Try.f5.params.toList ++ Rows.valueOwnSpec.plain.varTypes Try.prog) (ds ++ gs)).all (· ≤ reachBytes) = true := hsz0
  have hW' := hW
  obtain ⟨p, q, hA0, hV, rfl, hfz, hnd⟩ := hW
  have hA : DataW.TrodAll enc Try.prog W 0 (fun _ => true) true Try.f5.params.toList args.toList ds p := hA0
  rw [Try.params5] at hA hsz
  obtain ⟨v0, vs0, d0, ds0, p0, q0, hargs0, rfl, rfl, h0, r0⟩ := trodAll_cons hA
  obtain ⟨v1, vs1, d1, ds1, p1, q1, hargs1, rfl, rfl, h1, r1⟩ := trodAll_cons r0
  obtain ⟨v2, vs2, d2, ds2, p2, q2, hargs2, rfl, rfl, h2, r2⟩ := trodAll_cons r1
  obtain ⟨v3, vs3, d3, ds3, p3, q3, hargs3, rfl, rfl, h3, r3⟩ := trodAll_cons r2
  obtain ⟨v4, vs4, d4, ds4, p4, q4, hargs4, rfl, rfl, h4, r4⟩ := trodAll_cons r3
  obtain ⟨v5, vs5, d5, ds5, p5, q5, hargs5, rfl, rfl, h5, r5⟩ := trodAll_cons r4
  obtain ⟨rfl, rfl, rfl⟩ := trodAll_nil r5
  obtain rfl : args = #[v0, v1, v2, v3, v4, v5] := by cases args; simp_all
  obtain ⟨rfl, rfl⟩ := trodVars_none hV
  have hval : ∀ (j : Nat) t v, Try.f5.params[j]? = some t → #[v0, v1, v2, v3, v4, v5][j]? = some v → Value.okWide Try.prog W .any base t v := hval0
  rw [Try.params5] at hval
  have k0 := h0
  have lt0 : ∀ x ∈ p0, x.block < W.heap.size := by obtain ⟨m, hm⟩ := k0; exact DataW.trod_lt m _ _ _ hm
  have k1 := h1
  have lt1 : ∀ x ∈ p1, x.block < W.heap.size := by obtain ⟨m, hm⟩ := k1; exact DataW.trod_lt m _ _ _ hm
  have k2 := h2
  have lt2 : ∀ x ∈ p2, x.block < W.heap.size := by obtain ⟨m, hm⟩ := k2; exact DataW.trod_lt m _ _ _ hm
  have k3 := h3
  have lt3 : ∀ x ∈ p3, x.block < W.heap.size := by obtain ⟨m, hm⟩ := k3; exact DataW.trod_lt m _ _ _ hm
  have k4 := h4
  have lt4 : ∀ x ∈ p4, x.block < W.heap.size := by obtain ⟨m, hm⟩ := k4; exact DataW.trod_lt m _ _ _ hm
  have k5 := h5
  have lt5 : ∀ x ∈ p5, x.block < W.heap.size := by obtain ⟨m, hm⟩ := k5; exact DataW.trod_lt m _ _ _ hm
  have key : Calls Try.prog 5 #[v0, v1, v2, v3, v4, v5] W fun e w' => e = .returned (.bool true) ∧ Below W.heap.size W w' := by
    obtain ⟨x0, ev0, ed0, bk0, bv0, bl0, bu0⟩ := el_open (hval 0 32 v0 rfl rfl) h0
    subst ev0
    have ok0 : x0.ok := el_sizes hsz (j := 0) rfl (congrArg some ed0) bk0 bv0
    obtain ⟨s1, ev1, ed1, _, _⟩ := open_string Try.underlying9 (hval 1 9 v1 rfl rfl) h1
    subst ev1
    have sz1 : s1.size ≤ 140737488351232 := sized_s hsz (j := 1) rfl (congrArg some ed1)
    obtain ⟨s2, ev2, ed2, _, _⟩ := open_string Try.underlying9 (hval 2 9 v2 rfl rfl) h2
    subst ev2
    have sz2 : s2.size ≤ 140737488351232 := sized_s hsz (j := 2) rfl (congrArg some ed2)
    obtain ⟨s3, ev3, ed3, _, _⟩ := open_string Try.underlying9 (hval 3 9 v3 rfl rfl) h3
    subst ev3
    have sz3 : s3.size ≤ 140737488351232 := sized_s hsz (j := 3) rfl (congrArg some ed3)
    obtain ⟨n4, ev4, _, _, w4⟩ := open_int Try.underlying30 (hval 4 30 v4 rfl rfl) h4
    subst ev4
    obtain ⟨l4, u4⟩ := bounds_u64 w4
    obtain ⟨i4, rfl⟩ := Int.eq_ofNat_of_zero_le l4
    obtain ⟨i5, ev5, _, _, w5⟩ := open_int Try.underlying3 (hval 5 3 v5 rfl rfl) h5
    subst ev5
    exact walk W x0 ok0 ⟨bl0, bu0⟩ s1 sz1 s2 sz2 s3 sz3 i4 (by omega) i5 (bounds_i64 w5)
  clear hA0 hval0 hval
  refine key.mono fun e W' ⟨he, bel⟩ => ?_
  subst he
  exact ⟨_, rfl, _, _, _, [], _, [], hW', trodAll_mk1 (shut_bool Try.underlying4 _), (trodAll_cons_mk (Below.trod laidOut (by kernel_rfl) (of_decide_eq_true (by kernel_rfl)) k0 bel lt0) (trodAll_cons_mk (Below.trod laidOut (by kernel_rfl) (of_decide_eq_true (by kernel_rfl)) k1 bel lt1) (trodAll_cons_mk (Below.trod laidOut (by kernel_rfl) (of_decide_eq_true (by kernel_rfl)) k2 bel lt2) (trodAll_cons_mk (Below.trod laidOut (by kernel_rfl) (of_decide_eq_true (by kernel_rfl)) k3 bel lt3) (trodAll_cons_mk (Below.trod laidOut (by kernel_rfl) (of_decide_eq_true (by kernel_rfl)) k4 bel lt4) (trodAll_cons_mk (Below.trod laidOut (by kernel_rfl) (of_decide_eq_true (by kernel_rfl)) k5 bel lt5) trodAll_mk0)))))), rfl, bel.frame _, fun h => by cases h⟩

theorem over : Rows.valueOwnRow.holds Try.pinned (OpenSpec.ofChange Rows.valueOwnSpec) :=
  OpenClaim.holds_of_wide 5 Try.f5 rfl rfl rfl rfl rfl rfl rfl ⟨rfl, rfl, rfl, rfl, rfl⟩ rfl rfl rfl rfl rfl (by kernel_rfl) Try.func5 (by kernel_rfl)
    (of_decide_eq_true (by kernel_rfl)) (by unfold Func.isWrapper; first | (rw [if_pos (by decide +kernel)]; kernel_rfl) | (rw [if_neg (by decide +kernel)]; exact ⟨rfl, rfl⟩))
    (fun os started H enc _ => lifted os started H enc)

theorem proved : Rows.ValueOwnSaid := over
#print axioms proved
end Go.Proofs.Ytbmoilgiifondaa.valueOwn
