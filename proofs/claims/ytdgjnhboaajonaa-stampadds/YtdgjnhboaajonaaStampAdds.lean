/-
  StampAdds returns true and leaves what it was handed as it was, for every numbers of rows and columns, every list of numbers, every place and every number (P18.2, rule 3: the matrix with a number added at a place, to the bit, or the error; what was handed in stays; the answer is new memory); no condition but the form's own reach.
-/
import Derived.Test.YtdgjnhboaajonaaWSB
import Derived.Test.YtdgjnhboaajonaaBsc
import Derived.Test.YtdgjnhboaajonaaRows
import Derived.WalkKit
import Derived.ProofKit
import Derived.OpenShut
import Derived.ShutString
import Derived.ChangeOld
import Derived.Below
import Derived.SizedLaws
import Derived.Lib.SmallJoins
namespace Go.Proofs.Ytdgjnhboaajonaa.stampAdds
open Go.ChangeShapes Go.WideShapes Go.ChangeAt Go.RowKit Go.Joins
set_option linter.unusedVariables false

theorem own : ownKnob Try.prog.godebug = none := by kernel_rfl
theorem laidOut : laidOutB Try.prog = true := by kernel_rfl
theorem bytesZ : Try.prog.bytesOf 55 = 16 := by kernel_rfl
theorem cellsZ : Try.prog.cellsOf 55 = 2 := by kernel_rfl

theorem walk (W : World) (R : Int) (_hR : -9223372036854775808 ≤ R ∧ R ≤ 9223372036854775807) (C : Int) (_hC : -9223372036854775808 ≤ C ∧ C ≤ 9223372036854775807) (ao : Option Addr) (cap n : Nat) (xs : List Cw) (hn : xs.length = n) (hz : n * 16 ≤ 140737488351232) (hc : Rz W ao xs) (hx : okl xs) (i : Int) (_hi : -9223372036854775808 ≤ i ∧ i ≤ 9223372036854775807) (j : Int) (_hj : -9223372036854775808 ≤ j ∧ j ≤ 9223372036854775807) (z : Cw) (hzz : okz z) :
    Calls Try.prog 4 #[.int .i64 R, .int .i64 C, .slice ao n cap, .int .i64 i, .int .i64 j, .agg #[.int .u64 (z.1 : Int), .int .u64 (z.2 : Int)]] W fun e w' => e = .returned (.bool true) ∧ Below W.heap.size W w' := by
  rcases sad_cases R C n i j z xs (by omega) hn hzz with ⟨E, hE, O1, O2⟩ | ⟨k, O1, O2⟩
  · exact sadds_no R C i j ao n cap xs z W E hE O1 O2 hn hzz hx hc (by omega)
  · exact sadds_yes R C i j ao n cap xs z W k O1 O2 hn hzz hx hc (by omega)

set_option maxRecDepth 100000 in
theorem lifted (os : Os) (started : os.Started) (H : Type) (enc : TypeId × Value → H) :
    ReturnsInHanded {} Try.checked os 4 .any (Rows.stampAddsSpec.pre6 enc Try.prog Try.f4 Rows.stampAddsRow.domain false) (Rows.stampAddsSpec.post enc Try.prog Try.f4 false true false false) := by
  refine returnsInHanded_of_change_sized (C := Try.checked) own started (by kernel_rfl) Try.func4
    (ChangeSpec.witness6 (enc := enc) (C := Try.checked) false ⟨#[], #[.int .i64 0, .int .i64 0, .slice none 0 0, .int .i64 0, .int .i64 0, .agg #[.int .u64 0, .int .u64 0]], []⟩ 8 (by kernel_rfl) (by kernel_rfl) (by kernel_rfl) (by kernel_rfl)) ?_
  intro W base args ds gs before hval0 hW hcnd hsz0 hholds
  have hsz : (DataW.weightsEach Try.prog (Try.f4.params.toList ++ Rows.stampAddsSpec.plain.varTypes Try.prog) (ds ++ gs)).all (· ≤ reachBytes) = true := hsz0
  have hW' := hW
  obtain ⟨p, q, hA0, hV, rfl, hfz, hnd⟩ := hW
  have hA : DataW.TrodAll enc Try.prog W 0 (fun _ => true) true Try.f4.params.toList args.toList ds p := hA0
  rw [Try.params4] at hA hsz
  obtain ⟨v0, vs0, d0, ds0, p0, q0, hargs0, rfl, rfl, h0, r0⟩ := trodAll_cons hA
  obtain ⟨v1, vs1, d1, ds1, p1, q1, hargs1, rfl, rfl, h1, r1⟩ := trodAll_cons r0
  obtain ⟨v2, vs2, d2, ds2, p2, q2, hargs2, rfl, rfl, h2, r2⟩ := trodAll_cons r1
  obtain ⟨v3, vs3, d3, ds3, p3, q3, hargs3, rfl, rfl, h3, r3⟩ := trodAll_cons r2
  obtain ⟨v4, vs4, d4, ds4, p4, q4, hargs4, rfl, rfl, h4, r4⟩ := trodAll_cons r3
  obtain ⟨v5, vs5, d5, ds5, p5, q5, hargs5, rfl, rfl, h5, r5⟩ := trodAll_cons r4
  obtain ⟨rfl, rfl, rfl⟩ := trodAll_nil r5
  obtain rfl : args = #[v0, v1, v2, v3, v4, v5] := by cases args; simp_all
  obtain ⟨rfl, rfl⟩ := trodVars_none hV
  have hval : ∀ (j : Nat) t v, Try.f4.params[j]? = some t → #[v0, v1, v2, v3, v4, v5][j]? = some v → Value.okWide Try.prog W .any base t v := hval0
  rw [Try.params4] at hval
  have k0 := h0
  have lt0 : ∀ x ∈ p0, x.block < W.heap.size := by obtain ⟨m, hm⟩ := k0; exact DataW.trod_lt m _ _ _ hm
  have k1 := h1
  have lt1 : ∀ x ∈ p1, x.block < W.heap.size := by obtain ⟨m, hm⟩ := k1; exact DataW.trod_lt m _ _ _ hm
  have k2 := h2
  have lt2 : ∀ x ∈ p2, x.block < W.heap.size := by obtain ⟨m, hm⟩ := k2; exact DataW.trod_lt m _ _ _ hm
  have k3 := h3
  have lt3 : ∀ x ∈ p3, x.block < W.heap.size := by obtain ⟨m, hm⟩ := k3; exact DataW.trod_lt m _ _ _ hm
  have k4 := h4
  have lt4 : ∀ x ∈ p4, x.block < W.heap.size := by obtain ⟨m, hm⟩ := k4; exact DataW.trod_lt m _ _ _ hm
  have k5 := h5
  have lt5 : ∀ x ∈ p5, x.block < W.heap.size := by obtain ⟨m, hm⟩ := k5; exact DataW.trod_lt m _ _ _ hm
  obtain ⟨a2, len2, cap2, rfl⟩ := okWide_slice Try.underlying53 (hval 2 53 v2 rfl rfl)
  have key : Calls Try.prog 4 #[v0, v1, .slice a2 len2 cap2, v3, v4, v5] W fun e w' => e = .returned (.bool true) ∧ Below W.heap.size W w' := by
    obtain ⟨i0, rfl, rfl, rfl, wi0⟩ := open_int Try.underlying3 (hval 0 3 v0 rfl rfl) h0
    have bi0 := bounds_i64 wi0
    obtain ⟨i1, rfl, rfl, rfl, wi1⟩ := open_int Try.underlying3 (hval 1 3 v1 rfl rfl) h1
    have bi1 := bounds_i64 wi1
    obtain ⟨f2, hf2⟩ := h2
    obtain ⟨A2, n2, c2, xs2, hcs2, hl2, hok2, hrz2, hsl2⟩ := rz_open hf2
    simp only [Value.cells, List.cons.injEq, and_true] at hcs2
    cases hcs2
    have z2 : len2 * 16 ≤ 140737488351232 := by
      rcases hsl2 with h | ⟨el, sp, hd, hle⟩
      · omega
      · have := sized_slice hsz (j := 2) (t := 53) (e := 55) rfl (congrArg some hd) Try.underlying53
        rw [bytesZ] at this
        simp only [reachBytes] at this
        omega
    obtain ⟨i3, rfl, rfl, rfl, wi3⟩ := open_int Try.underlying3 (hval 3 3 v3 rfl rfl) h3
    have bi3 := bounds_i64 wi3
    obtain ⟨i4, rfl, rfl, rfl, wi4⟩ := open_int Try.underlying3 (hval 4 3 v4 rfl rfl) h4
    have bi4 := bounds_i64 wi4
    obtain ⟨ca0, ca1, ya0, ya1, m0, rfl, rfl, rfl, hya0, hya1⟩ := open_agg2 Try.underlying55 (by kernel_rfl) cellsZ (hval 5 55 v5 rfl rfl) h5
    obtain ⟨z0, ea0, rfl, wa0⟩ := DataW.trod_int Try.underlying23 hya0
    obtain ⟨z1, ea1, rfl, wa1⟩ := DataW.trod_int Try.underlying23 hya1
    simp at ea0 ea1
    subst ea0 ea1
    obtain ⟨la0, ha0⟩ := bounds_u64 wa0
    obtain ⟨la1, ha1⟩ := bounds_u64 wa1
    obtain ⟨y0, rfl⟩ := Int.eq_ofNat_of_zero_le la0
    obtain ⟨y1, rfl⟩ := Int.eq_ofNat_of_zero_le la1
    exact walk W i0 bi0 i1 bi1 a2 cap2 len2 xs2 hl2 z2 hrz2 hok2 i3 bi3 i4 bi4 (y0, y1) ⟨by show y0 < _; omega, by show y1 < _; omega⟩
  clear hA0 hval0 hval
  refine key.mono fun e W' ⟨he, bel⟩ => ?_
  subst he
  exact ⟨_, rfl, _, _, _, [], _, [], hW', trodAll_mk1 (shut_bool Try.underlying4 _), (trodAll_cons_mk (Below.trod laidOut (by kernel_rfl) (of_decide_eq_true (by kernel_rfl)) k0 bel lt0) (trodAll_cons_mk (Below.trod laidOut (by kernel_rfl) (of_decide_eq_true (by kernel_rfl)) k1 bel lt1) (trodAll_cons_mk (Below.trod laidOut (by kernel_rfl) (of_decide_eq_true (by kernel_rfl)) k2 bel lt2) (trodAll_cons_mk (Below.trod laidOut (by kernel_rfl) (of_decide_eq_true (by kernel_rfl)) k3 bel lt3) (trodAll_cons_mk (Below.trod laidOut (by kernel_rfl) (of_decide_eq_true (by kernel_rfl)) k4 bel lt4) (trodAll_cons_mk (Below.trod laidOut (by kernel_rfl) (of_decide_eq_true (by kernel_rfl)) k5 bel lt5) trodAll_mk0)))))), rfl, bel.frame _, fun h => by cases h⟩

theorem over : Rows.stampAddsRow.holds Try.pinned (OpenSpec.ofChange Rows.stampAddsSpec) :=
  OpenClaim.holds_of_wide 4 Try.f4 rfl rfl rfl rfl rfl rfl rfl ⟨rfl, rfl, rfl, rfl, rfl⟩ rfl rfl rfl rfl rfl (by kernel_rfl) Try.func4 (by kernel_rfl)
    (of_decide_eq_true (by kernel_rfl)) (by unfold Func.isWrapper; first | (rw [if_pos (by decide +kernel)]; kernel_rfl) | (rw [if_neg (by decide +kernel)]; exact ⟨rfl, rfl⟩))
    (fun os started H enc _ => lifted os started H enc)

theorem proved : Rows.StampAddsSaid := over
#print axioms proved
end Go.Proofs.Ytdgjnhboaajonaa.stampAdds
