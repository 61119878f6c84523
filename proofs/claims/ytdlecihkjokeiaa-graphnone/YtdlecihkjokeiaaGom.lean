/-
  Does all hang on the ground: Grounded of package graph, of a net that is made.
-/
import Derived.Test.YtdlecihkjokeiaaGol
namespace Go.Proofs.Ytdlecihkjokeiaa
open Go.Maps Go.RowKit
set_option linter.unusedVariables false
set_option maxRecDepth 100000

/-- the first node that is in another part than the ground -/
def grF : Nat → List Int → Int × Int
  | _, [] => (0, 0)
  | a, v :: t => if v ≠ 0 then (11, (a : Int) - 1) else grF (a + 1) t
theorem take_nd {F F' : Fr} {f : Nat} {nm : Nm} {a b : Nat} (h : F.take f nm a b = some F') : F'.nd = F.nd := by
  unfold Fr.take at h
  split at h
  · cases h
  · cases h; rfl
  · cases h; rfl
theorem growF_nd {f : Nat} {want : Nat → Bool} {nodes : List Nm} : ∀ {es : List Elm} {F F' : Fr}, growF f want nodes es F = some F' → F'.nd = F.nd := by
  intro es
  induction es with
  | nil => intro F F' hg; cases hg; rfl
  | cons x t ih =>
    intro F F' hg
    rw [growF] at hg
    split at hg
    · cases q : F.take f (bl x.n) (pos nodes (bl x.a)) (pos nodes (bl x.b)) with
      | none => rw [q] at hg; cases hg
      | some F2 => rw [q] at hg; rw [ih hg, take_nd q]
    · exact ih hg
theorem Gn.ndF {w : World} {p f : Nat} {N : Ns} {want : Nat → Bool} {F : Fr} (h : Gn w p f N want F) : F.nd = [48] :: N.nd := growF_nd h.g
/-- the parts of a net's forest -/
theorem parts_gn {w w1 : World} {p f fp : Nat} {N : Ns} {F : Fr} {B : Fb} {st : List Int} (h : Gn w p f N wJ F) (hF : Fo w1 w.heap.size fp F B) (hp : paF f F.tw (N.nd.length + 1) 0 0 (List.replicate (N.nd.length + 1) (-1)) = some st) :
    Calls Try.prog 38 #[.pointer (some ⟨fp, 0, none⟩)] w1 fun e w' => ∃ G, e = .returned (.slice (some ⟨G, 0, none⟩) (N.nd.length + 1) (N.nd.length + 1)) ∧ Ib w' G st ∧ st.length = N.nd.length + 1 ∧ w1.heap.size ≤ G ∧ Below w1.heap.size w1 w' := by
  have h1 := h.n1
  have h2 := h.ne
  exact parts_any w1 w.heap.size fp f (N.nd.length + 1) F B st hF (h.fit.ok (by omega) (by omega)) (by rw [h.ndF]; rfl) (by omega) (by omega) hp
set_option maxHeartbeats 4000000 in
theorem grounded_any {w : World} {p f : Nat} {N : Ns} {F : Fr} {st : List Int} (h : Gn w p f N wJ F) (hp : paF f F.tw (N.nd.length + 1) 0 0 (List.replicate (N.nd.length + 1) (-1)) = some st) : Calls Try.prog 18 #[.pointer (some ⟨p, 0, none⟩)] w fun e w' => e = .returned (.agg #[.int .i64 (grF 0 st).1, .int .i64 (grF 0 st).2]) ∧ Below w.heap.size w w' := by
  obtain ⟨L, hL⟩ : ∃ L, w.heap.size = L := ⟨_, rfl⟩
  obtain ⟨wA, hwA⟩ : ∃ wA, w.alloc (.cells #[.int .i64 0, .int .i64 0] 37) = wA := ⟨_, rfl⟩
  have bA : Below w.heap.size w wA := by rw [← hwA]; exact (Below.refl _ _).alloc (Nat.le_refl _) _
  have kA : wA.heap[L]? = some (.cells #[.int .i64 0, .int .i64 0] 37 (0, 0)) := by rw [← hwA, ← hL]; exact heap_alloc_new _ _
  have hA := h.below bA
  have hg := grow_j hA
  have hn1 := h.n1
  obtain ⟨n, hn⟩ : ∃ n, N.nd.length + 1 = n := ⟨_, rfl⟩
  have HA : Hid (Gn wA p f N wJ F ∧ Below w.heap.size w wA ∧ wA.heap[L]? = some (.cells #[.int .i64 0, .int .i64 0] 37 (0, 0)) ∧ L < wA.heap.size) := ⟨hA, bA, kA, (Array.getElem?_eq_some_iff.1 kA).1⟩
  have HP : Hid _ := hp
  clear hA bA kA h hp
  go_enter Try.func18, Try.ntmps18
  go_wp2_with fail
  refine hg.mono ?_
  rintro e1 w1 ⟨fp, B, rfl, hF, hb⟩
  have hpc := parts_gn HA.out.1 hF HP.out
  rw [hn] at hpc
  have HB1 : Hid (Below wA.heap.size wA w1) := hb
  clear hg hF hb hwA
  go_wp2_with fail
  refine hpc.mono ?_
  rintro e2 w2 ⟨G, rfl, ib, hlen, hGe, hb2⟩
  have k2 : w2.heap[L]? = some (.cells #[.int .i64 0, .int .i64 0] 37 (0, 0)) := by
    rw [hb2.block L (Nat.lt_of_lt_of_le HA.out.2.2.2 HB1.out.size), HB1.out.block L HA.out.2.2.2]; exact HA.out.2.2.1
  have HB2 : Hid (Below L w w2) := by
    rw [← hL]
    exact HA.out.2.1.trans ((HB1.out.mono HA.out.2.1.size).trans (hb2.mono (Nat.le_trans HA.out.2.1.size HB1.out.size)))
  have HIB : Hid (Ib w2 G st ∧ st.length = n) := ⟨ib, hlen⟩
  have HK2 : Hid _ := k2
  clear hpc ib hlen hb2 hGe k2
  go_wp2_with fail
  go_loopw [18] (fun iv wr => ∃ (k : Nat), k ≤ n ∧ iv = .int .i64 k ∧ wr = w2 ∧ Hid (grF k (st.drop k) = grF 0 st)) (fun iv _ => n - (intOf iv).toNat)
  case atStart => exact ⟨0, Nat.zero_le _, rfl, rfl, rfl⟩
  case round =>
    obtain ⟨k, hle, rfl, hwr, HW⟩ := hrel
    subst hwr
    obtain ⟨z0, z1, z2, z3⟩ := tw_c HK2.out
    by_cases hp4 : k < n
    · have hpk : (k : Int) < (n : Int) := by omega
      obtain ⟨v, hv⟩ : ∃ v, st[k]? = some v := ⟨_, List.getElem?_eq_getElem (by have := HIB.out.2; omega)⟩
      have cv := HIB.out.1.cell hv
      have hdr : st.drop k = v :: st.drop (k + 1) := (List.drop_eq_getElem_cons (by have := HIB.out.2; omega)).trans (by rw [(List.getElem?_eq_some_iff.1 hv).2])
      have hW := HW.out
      rw [hdr, grF] at hW
      clear hv hdr
      by_cases hv0 : v = 0
      · rw [if_neg (by simp [hv0])] at hW
        have HW2 : Hid (grF (k + 1) (st.drop (k + 1)) = grF 0 st) := hW
        have hvb : (v != 0) = false := by simp [hv0]
        clear hW
        go_wp2_with fail
        go_roundw
        case rel => exact ⟨k + 1, by omega, by go_num, by first | trivial | rfl, HW2.out⟩
        case measure => simp [intOf]; omega
      · rw [if_pos hv0] at hW
        have hvb : (v != 0) = true := by simp [hv0]
        have hwk : IntKind.i64.wrap ((k : Int) - 1) = (k : Int) - 1 := by rw [IntKind.wrap_i64]; omega
        obtain ⟨y0, y1⟩ := tw_set HK2.out (.int .i64 11) (.int .i64 ((k : Int) - 1))
        have HW2 : Hid (((11 : Int), (k : Int) - 1) = grF 0 st) := hW
        clear hW
        go_wp2_with fail
        (try simp only [Exit.inBlock, Exit.then])
        refine bodyPost_ret (by simp [results, Try.results18, go_sem, y0, y1]; try rfl) rfl ?_
        refine ⟨by rw [← HW2.out], ?_⟩
        first | exact tw_bel HB2.out (Nat.le_refl _) _ _ | (rw [hL]; exact tw_bel HB2.out (Nat.le_refl _) _ _)
    · have hkn : k = n := by omega
      subst hkn
      have hkk : ¬ ((k : Int) < (k : Int)) := by omega
      have HW2 : Hid (((0 : Int), (0 : Int)) = grF 0 st) := by
        have := HW.out
        rw [List.drop_eq_nil_of_le (by have := HIB.out.2; omega)] at this
        exact this
      obtain ⟨y0, y1⟩ := tw_set HK2.out (.int .i64 0) (.int .i64 0)
      clear HW
      go_wp2_with fail
      (try simp only [Exit.inBlock, Exit.then])
      refine bodyPost_ret (by simp [results, Try.results18, go_sem, y0, y1]; try rfl) rfl ?_
      refine ⟨by rw [← HW2.out], ?_⟩
      first | exact tw_bel HB2.out (Nat.le_refl _) _ _ | (rw [hL]; exact tw_bel HB2.out (Nat.le_refl _) _ _)

end Go.Proofs.Ytdlecihkjokeiaa
