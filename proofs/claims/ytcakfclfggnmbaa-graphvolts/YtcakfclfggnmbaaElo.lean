/-
  Elements handed in by value: opened.
-/
import Derived.Test.YtcakfclfggnmbaaElf
import Derived.ProofKit
import Derived.OpenShut
import Derived.ShutString
import Derived.ChangeOld
import Derived.Below
import Derived.SizedLaws
import Derived.Lib.SmallJoins
namespace Go.Proofs.Ytcakfclfggnmbaa
open Go.ChangeShapes Go.WideShapes Go.ChangeAt Go.RowKit Go.Joins Go.Deep
set_option linter.unusedVariables false
set_option maxRecDepth 100000

theorem array8 {α : Type} {cs : Array α} (h : cs.size = 8) : ∃ c0 c1 c2 c3 c4 c5 c6 c7, cs = #[c0, c1, c2, c3, c4, c5, c6, c7] := by
  obtain ⟨l⟩ := cs
  match l, h with
  | [c0, c1, c2, c3, c4, c5, c6, c7], _ => exact ⟨c0, c1, c2, c3, c4, c5, c6, c7, rfl⟩
theorem list8 {α : Type} {cs : List α} (h : cs.length = 8) : ∃ c0 c1 c2 c3 c4 c5 c6 c7, cs = [c0, c1, c2, c3, c4, c5, c6, c7] := by
  match cs, h with
  | [c0, c1, c2, c3, c4, c5, c6, c7], _ => exact ⟨c0, c1, c2, c3, c4, c5, c6, c7, rfl⟩
theorem fields8 : ∃ fs, Try.prog.underlying 97 = some (.struct fs) ∧ fs.size = 8 ∧ oneCellFields Try.prog fs = true ∧ (fs.toList.map (·.type)) = [5, 9, 9, 9, 9, 9, 95, 3] :=
  ⟨_, Try.underlying97, rfl, by kernel_rfl, rfl⟩
theorem cells8 : Try.prog.cellsOf 97 = 8 := by kernel_rfl
/-- an element as it is handed in -/
def inV (x : Elm) : Value := .agg #[.int .u8 (x.k : Int), .string x.n, .string x.a, .string x.b, .string x.c, .string x.d, .int .u64 (x.v : Int), .int .i64 x.ph]
def inD {H : Type} (x : Elm) : DataW H := .agg [.lit (.int .u8 (x.k : Int)), .lit (.string x.n.data.toList), .lit (.string x.a.data.toList), .lit (.string x.b.data.toList), .lit (.string x.c.data.toList), .lit (.string x.d.data.toList), .lit (.int .u64 (x.v : Int)), .lit (.int .i64 x.ph)]
set_option maxHeartbeats 1000000 in
theorem el_open {H : Type} {enc : TypeId × Value → H} {w : World} {base b0 : Nat} {sp : Nat → Bool} {held : Bool} {r : Reach} {v : Value} {d : DataW H} {p : List MemPlace}
    (hv : Value.okWide Try.prog w r b0 97 v) (h : DataW.Trod enc Try.prog w base sp held 97 v d p) :
    ∃ x : Elm, v = inV x ∧ d = inD x ∧ x.k < 256 ∧ x.v < 18446744073709551616 ∧ -9223372036854775808 ≤ x.ph ∧ x.ph ≤ 9223372036854775807 := by
  obtain ⟨fs, hs, hsz8, hone, hty⟩ := fields8
  obtain ⟨cs, rfl, hsz⟩ := okWide_struct hs hv
  obtain ⟨c0, c1, c2, c3, c4, c5, c6, c7, rfl⟩ := array8 (hsz.trans cells8)
  obtain ⟨fuel, hf⟩ := h
  obtain ⟨xs, n, -, hx, -, hlen, hall⟩ := DataW.trod_struct hs hf
  obtain ⟨y0, y1, y2, y3, y4, y5, y6, y7, rfl⟩ := list8 (hlen.trans hsz8)
  have key : ∀ (i : Nat) (t : TypeId) (c : Value) (y : DataW H × List MemPlace), (fs.toList.map (·.type))[i]? = some t → [c0, c1, c2, c3, c4, c5, c6, c7][i]? = some c → [y0, y1, y2, y3, y4, y5, y6, y7][i]? = some y → DataW.trod enc Try.prog w base sp held n t [c] = some y := by
    intro i t c y ht hc hy
    rw [List.getElem?_map, Option.map_eq_some_iff] at ht
    obtain ⟨f, hf1, rfl⟩ := ht
    have hf2 : fs[i]? = some f := by rw [← Array.getElem?_toList]; exact hf1
    obtain ⟨o, k⟩ := hone_of hone i f hf2
    have h1 := hall i f hf2
    rw [o, k, hy] at h1
    rw [← h1]
    congr 1
    have hd : ([c0, c1, c2, c3, c4, c5, c6, c7].drop i).take 1 = [c] := by
      rw [List.take_one, List.head?_drop, hc]; rfl
    simpa [Value.cells] using hd.symm
  rw [hty] at key
  have h0 := key 0 _ _ _ rfl rfl rfl
  have h1 := key 1 _ _ _ rfl rfl rfl
  have h2 := key 2 _ _ _ rfl rfl rfl
  have h3 := key 3 _ _ _ rfl rfl rfl
  have h4 := key 4 _ _ _ rfl rfl rfl
  have h5 := key 5 _ _ _ rfl rfl rfl
  have h6 := key 6 _ _ _ rfl rfl rfl
  have h7 := key 7 _ _ _ rfl rfl rfl
  clear key hall
  obtain ⟨z0, e0, q0, w0⟩ := DataW.trod_int Try.underlying5 h0
  obtain ⟨s1, e1, q1, w1⟩ := DataW.trod_string Try.underlying9 h1
  obtain ⟨s2, e2, q2, w2⟩ := DataW.trod_string Try.underlying9 h2
  obtain ⟨s3, e3, q3, w3⟩ := DataW.trod_string Try.underlying9 h3
  obtain ⟨s4, e4, q4, w4⟩ := DataW.trod_string Try.underlying9 h4
  obtain ⟨s5, e5, q5, w5⟩ := DataW.trod_string Try.underlying9 h5
  obtain ⟨z6, e6, q6, w6⟩ := DataW.trod_int Try.underlying95 h6
  obtain ⟨z7, e7, q7, w7⟩ := DataW.trod_int Try.underlying3 h7
  simp only [List.cons.injEq, and_true] at e0 e1 e2 e3 e4 e5 e6 e7
  subst e0 e1 e2 e3 e4 e5 e6 e7
  obtain ⟨l0, u0⟩ := bounds_u8 w0
  obtain ⟨l6, u6⟩ := bounds_u64 w6
  obtain ⟨l7, u7⟩ := bounds_i64 w7
  obtain ⟨k, rfl⟩ := Int.eq_ofNat_of_zero_le l0
  obtain ⟨v, rfl⟩ := Int.eq_ofNat_of_zero_le l6
  refine ⟨⟨k, s1, s2, s3, s4, s5, v, z7⟩, rfl, ?_, by show k < _; omega, by show v < _; omega, l7, u7⟩
  simp only [Prod.mk.injEq] at hx
  rw [hx.1, q0, q1, q2, q3, q4, q5, q6, q7]
  rfl
theorem sized_str {H : Type} {P : Program} {ts : List TypeId} {ds : List (DataW H)} (h : (DataW.weightsEach P ts ds).all (· ≤ reachBytes) = true) {j k : Nat} {t tf : TypeId} {fs : Array Field} {parts : List (DataW H)} {s : ByteArray} (ht : ts[j]? = some t) (hd : ds[j]? = some (.agg parts)) (hs : P.underlying t = some (.struct fs)) (hf : (fs.toList.map (·.type))[k]? = some tf) (hk : parts[k]? = some (.lit (.string s.data.toList))) : s.size ≤ 140737488351232 := by
  have := List.all_eq_true.1 h _ (DataW.weights_mem_each ht hd s.data.toList.length (by simp only [DataW.weights, hs]; exact DataW.weights_mem_each hf hk _ (by simp [DataW.weights])))
  have h2 : s.data.toList.length ≤ reachBytes := by simpa using this
  have h3 : s.data.toList.length = s.size := by simp
  simp only [reachBytes] at h2
  omega
theorem el_sizes {H : Type} {ts : List TypeId} {ds : List (DataW H)} (h : (DataW.weightsEach Try.prog ts ds).all (· ≤ reachBytes) = true) {j : Nat} {x : Elm} (ht : ts[j]? = some 97) (hd : ds[j]? = some (inD x)) (hk : x.k < 256) (hv : x.v < 18446744073709551616) : x.ok := by
  obtain ⟨fs, hs, hsz8, hone, hty⟩ := fields8
  exact ⟨hk, sized_str h (k := 1) ht hd hs (by rw [hty]; rfl) rfl, sized_str h (k := 2) ht hd hs (by rw [hty]; rfl) rfl, sized_str h (k := 3) ht hd hs (by rw [hty]; rfl) rfl, sized_str h (k := 4) ht hd hs (by rw [hty]; rfl) rfl, sized_str h (k := 5) ht hd hs (by rw [hty]; rfl) rfl, hv⟩
theorem sized_s {H : Type} {P : Program} {ts : List TypeId} {ds : List (DataW H)} (h : (DataW.weightsEach P ts ds).all (· ≤ reachBytes) = true) {j : Nat} {t : TypeId} {s : ByteArray} (ht : ts[j]? = some t) (hd : ds[j]? = some (.lit (.string s.data.toList))) : s.size ≤ 140737488351232 := by
  have h2 := sized_string h ht hd
  have h3 : s.data.toList.length = s.size := by simp
  simp only [reachBytes] at h2
  omega
end Go.Proofs.Ytcakfclfggnmbaa
