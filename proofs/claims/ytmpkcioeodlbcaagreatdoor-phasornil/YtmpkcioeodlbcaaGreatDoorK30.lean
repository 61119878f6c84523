/-
  Several texts in one: Gol Gom Vz Va Vh.
-/
import Derived.Test.YtmpkcioeodlbcaaGreatDoorK29
import Derived.Test.YtmpkcioeodlbcaaGreatDoorK14
import Derived.Laws.AppendOwnNone
import Derived.Deep.RegionHeldLaw
import Derived.Deep.AppendLies
import Derived.BigQuiet
namespace Go.Proofs.YtmpkcioeodlbcaaGreatDoor
open Go.Maps Go.RowKit
set_option linter.unusedVariables false
set_option maxRecDepth 100000
/-- what parts lays, from node a on; r nodes are left, c parts are counted -/
def paF (f : Nat) (tw : List (List Tw)) : Nat → Nat → Nat → List Int → Option (List Int)
  | 0, _, _, st => some st
  | r + 1, a, c, st => match st[a]? with
    | none => none
    | some v => if v = -1 then match mkF tw (c : Int) f a st with
      | none => none
      | some st' => paF f tw r (a + 1) (c + 1) st'
      else paF f tw r (a + 1) c st
theorem Mk.count {w : World} {L Q G fp n : Nat} {c c' : Int} {tw : List (List Tw)} {st : List Int} (h : Mk w L Q G fp n c tw st) : Mk (w.setCell ⟨Q + 1, 0, none⟩ (.int .i64 c')) L Q G fp n c' tw st := by
  have h1 := h.lG
  have h2 := h.GQ
  have hc : ∀ (a : Addr) (v : Value), a.block ≠ Q + 1 → w.cell? a = some v → (w.setCell ⟨Q + 1, 0, none⟩ (.int .i64 c')).cell? a = some v := fun a v q1 q2 => (World.cell?_of_block (heap_setCell_other w ⟨Q + 1, 0, none⟩ a.block _ (by simpa using q1))).trans q2
  refine ⟨hc _ _ (by simp only; omega) h.cf, hc _ _ (by simp only; omega) h.ci, World.cell?_setCell_same w _ _ h.cc, hc _ _ (by simp only; omega) h.cm, ?_, h.len, h.tw.kept ⟨rfl, rfl, rfl, by simp [World.setCell], fun k hk => heap_setCell_other w ⟨Q + 1, 0, none⟩ k _ (by simp; omega)⟩, h1, h2, by rw [show (w.setCell ⟨Q + 1, 0, none⟩ (.int .i64 c')).frozen? ⟨Q + 1, 0, none⟩ = w.frozen? ⟨Q + 1, 0, none⟩ by simp]; exact h.zc⟩
  unfold Ib
  rw [heap_setCell_other w ⟨Q + 1, 0, none⟩ G _ (by simp; omega)]; exact h.ib
theorem mk_start (w1 : World) (L Q G fp n : Nat) (tw : List (List Tw)) (hQ : w1.heap.size = Q) (hLG : L < G) (hGQ : G < Q) (kL : w1.cell? ⟨L, 0, none⟩ = some (.pointer (some ⟨fp, 0, none⟩))) (ib : Ib w1 G (List.replicate n (-1))) (ht : TwR w1 fp L tw) :
    Mk (((w1.alloc (.cells #[.slice (some ⟨G, 0, none⟩) n n] 160)).alloc (.cells #[.int .i64 0] 3)).alloc (.cells #[.func (.func 173) #[] #[.pointer (some ⟨Q + 1, 0, none⟩), .pointer (some ⟨Q, 0, none⟩), .pointer (some ⟨L, 0, none⟩), .pointer (some ⟨Q + 2, 0, none⟩)]] 244)) L Q G fp n 0 tw (List.replicate n (-1)) ∧ Below Q w1 (((w1.alloc (.cells #[.slice (some ⟨G, 0, none⟩) n n] 160)).alloc (.cells #[.int .i64 0] 3)).alloc (.cells #[.func (.func 173) #[] #[.pointer (some ⟨Q + 1, 0, none⟩), .pointer (some ⟨Q, 0, none⟩), .pointer (some ⟨L, 0, none⟩), .pointer (some ⟨Q + 2, 0, none⟩)]] 244)) := by
  obtain ⟨w2, h2⟩ : ∃ w2, w2 = w1.alloc (.cells #[.slice (some ⟨G, 0, none⟩) n n] 160) := ⟨_, rfl⟩
  rw [← h2]
  obtain ⟨w3, h3⟩ : ∃ w3, w3 = w2.alloc (.cells #[.int .i64 0] 3) := ⟨_, rfl⟩
  rw [← h3]
  obtain ⟨w4, h4⟩ : ∃ w4, w4 = w3.alloc (.cells #[.func (.func 173) #[] #[.pointer (some ⟨Q + 1, 0, none⟩), .pointer (some ⟨Q, 0, none⟩), .pointer (some ⟨L, 0, none⟩), .pointer (some ⟨Q + 2, 0, none⟩)]] 244) := ⟨_, rfl⟩
  rw [← h4]
  have s2 : w2.heap.size = Q + 1 := by rw [h2, ← hQ]; simp
  have s3 : w3.heap.size = Q + 2 := by rw [h3]; simp [s2]
  have s4 : w4.heap.size = Q + 3 := by rw [h4]; simp [s3]
  have b2 : Below Q w1 w2 := by rw [h2]; exact (Below.refl _ _).alloc (by omega) _
  have b3 : Below (Q + 1) w2 w3 := by rw [h3]; exact (Below.refl _ _).alloc (by omega) _
  have b4 : Below (Q + 2) w3 w4 := by rw [h4]; exact (Below.refl _ _).alloc (by omega) _
  have k2 : w2.heap[Q]? = some (.cells #[.slice (some ⟨G, 0, none⟩) n n] 160 (0, 0)) := by rw [h2, ← hQ]; exact heap_alloc_new _ _
  have k3 : w3.heap[Q + 1]? = some (.cells #[.int .i64 0] 3 (0, 0)) := by rw [h3, ← s2]; exact heap_alloc_new _ _
  have k4 : w4.heap[Q + 2]? = some (.cells #[.func (.func 173) #[] #[.pointer (some ⟨Q + 1, 0, none⟩), .pointer (some ⟨Q, 0, none⟩), .pointer (some ⟨L, 0, none⟩), .pointer (some ⟨Q + 2, 0, none⟩)]] 244 (0, 0)) := by rw [h4]; have := heap_alloc_new w3 (.cells #[.func (.func 173) #[] #[.pointer (some ⟨Q + 1, 0, none⟩), .pointer (some ⟨Q, 0, none⟩), .pointer (some ⟨L, 0, none⟩), .pointer (some ⟨Q + 2, 0, none⟩)]] 244); rw [s3] at this; exact this
  have q2 : w4.heap[Q]? = some (.cells #[.slice (some ⟨G, 0, none⟩) n n] 160 (0, 0)) := by rw [b4.block _ (by omega), b3.block _ (by omega)]; exact k2
  have q3 : w4.heap[Q + 1]? = some (.cells #[.int .i64 0] 3 (0, 0)) := by rw [b4.block _ (by omega)]; exact k3
  have hB : Below Q w1 w4 := b2.trans ((b3.mono (by omega)).trans (b4.mono (by omega)))
  refine ⟨⟨(hB.cell (p := ⟨L, 0, none⟩) (by simp only; omega)).trans kL, by rw [cell_of_row w4 Q 0 _ _ (0, 0) q2]; rfl, by rw [cell_of_row w4 (Q + 1) 0 _ _ (0, 0) q3]; rfl, by rw [cell_of_row w4 (Q + 2) 0 _ _ (0, 0) k4]; rfl, ?_, by simp, ht.kept (hB.mono (by omega)), hLG, hGQ, frozen_of_row w4 (Q + 1) 0 _ _ q3⟩, hB⟩
  unfold Ib
  rw [hB.block G hGQ]; exact ib
set_option maxHeartbeats 4000000 in
theorem parts_any (w : World) (base fp f n : Nat) (F : Fr_God) (B : Fb) (st : List Int) (h : Fo w base fp F B) (hok : F.ok) (hnd : F.nd.length = n) (hn0 : 0 < n) (hn : n ≤ 10000) (hp : paF f F.tw n 0 0 (List.replicate n (-1)) = some st) :
    Calls Tryz.prog 133 #[.pointer (some ⟨fp, 0, none⟩)] w fun e w' => ∃ G, e = .returned (.slice (some ⟨G, 0, none⟩) n n) ∧ Ib w' G st ∧ st.length = n ∧ w.heap.size ≤ G ∧ Below w.heap.size w w' := by
  obtain ⟨L, hL⟩ : ∃ L, w.heap.size = L := ⟨_, rfl⟩
  obtain ⟨c0, c1, c2, c3⟩ := h.c
  obtain ⟨An, cn, hvn⟩ := row_slice h.nd
  rw [hvn, hnd] at c0
  have HT : Hid (TwR w fp L F.tw) := by rw [← hL]; exact h.twR hok
  have hfp : fp < w.heap.size := h.lt
  have HP : Hid _ := hp
  have HF : Hid _ := h
  clear h hp hok c1 c2 c3 hvn
  obtain ⟨wA, hwA⟩ : ∃ wA, (w.alloc (.cells #[.pointer (some ⟨fp, 0, none⟩)] 194)).alloc (.cells #[.int .i64 (-1)] 3) = wA := ⟨_, rfl⟩
  have hsA : wA.heap.size = L + 2 := by rw [← hwA, ← hL]; simp
  have bA : Below L w wA := by rw [← hwA]; exact ((Below.refl _ w).alloc (by omega) _).alloc (by simp; omega) _
  have kL : wA.cell? ⟨L, 0, none⟩ = some (.pointer (some ⟨fp, 0, none⟩)) := by
    rw [← hwA, World.cell?_alloc_lt _ _ _ (by simp; omega), ← hL]; exact World.cell?_alloc_new _ _ _ _
  have kL1 : wA.cell? ⟨L + 1, 0, none⟩ = some (.int .i64 (-1)) := by
    rw [← hwA]
    have := World.cell?_alloc_new (w.alloc (.cells #[.pointer (some ⟨fp, 0, none⟩)] 194)) #[.int .i64 (-1)] 3 0
    simpa [hL] using this
  have c0A : wA.cell? ⟨fp, 0, none⟩ = some (.slice An n cn) := (bA.cell (p := ⟨fp, 0, none⟩) (by simp only; omega)).trans c0
  have hrep := repeat_any wA (L + 1) n hn0 (by omega) kL1
  have HA : Hid (wA.heap.size = L + 2 ∧ Below L w wA) := ⟨hsA, bA⟩
  clear hsA bA kL1 c0
  go_enter Tryz.func133, Tryz.ntmps133
  go_wp2_with fail
  refine hrep.mono ?_
  rintro e1 w1 ⟨G, rfl, ib1, hG1, b1⟩
  obtain ⟨Q, hQ⟩ : ∃ Q, w1.heap.size = Q := ⟨_, rfl⟩
  have hA2 := HA.out.1
  have hst := mk_start w1 L Q G fp n F.tw hQ (by omega) (by have := ib1.lt; omega) ((b1.cell (World.block_lt_of_cell? wA _ kL)).trans kL) ib1 ((HT.out.kept HA.out.2).kept (b1.mono (by omega)))
  have B1 : Below L w w1 := HA.out.2.trans (b1.mono (by omega))
  have c0B : w1.cell? ⟨fp, 0, none⟩ = some (.slice An n cn) := (b1.cell (World.block_lt_of_cell? wA _ c0A)).trans c0A
  obtain ⟨W, hW⟩ : ∃ W, (((w1.alloc (.cells #[.slice (some ⟨G, 0, none⟩) n n] 160)).alloc (.cells #[.int .i64 0] 3)).alloc (.cells #[.func (.func 173) #[] #[.pointer (some ⟨Q + 1, 0, none⟩), .pointer (some ⟨Q, 0, none⟩), .pointer (some ⟨L, 0, none⟩), .pointer (some ⟨Q + 1 + 1, 0, none⟩)]] 244)) = W := ⟨_, rfl⟩
  have hSW : Mk W L Q G fp n 0 F.tw (List.replicate n (-1)) ∧ Below Q w1 W := by rw [← hW]; exact hst
  have cfW := hSW.1.cf
  have HS : Hid (Mk W L Q G fp n 0 F.tw (List.replicate n (-1)) ∧ Below Q w1 W) := hSW
  have hLQ : L + 2 ≤ Q := by have := b1.size; omega
  have HC0 : Hid (∀ W, Below L w W → W.cell? ⟨fp, 0, none⟩ = some (.slice An n cn) ∧ W.cell? ⟨fp, 0, none⟩ = w.cell? ⟨fp, 0, none⟩) := fun W hW => by
    have h1 := hW.cell (p := ⟨fp, 0, none⟩) (by simp only; omega)
    have h2 := B1.cell (p := ⟨fp, 0, none⟩) (by simp only; omega)
    exact ⟨by rw [h1, ← h2]; exact c0B, h1⟩
  have HB1 : Hid (Below L w w1) := B1
  have HGL : Hid (L ≤ G) := by show L ≤ G; omega
  have fpQ : fp < w1.heap.size := World.block_lt_of_cell? w1 _ c0B
  have kLQ : w1.cell? ⟨L, 0, none⟩ = some (.pointer (some ⟨fp, 0, none⟩)) := (b1.cell (World.block_lt_of_cell? wA _ kL)).trans kL
  have LQ1 : L < w1.heap.size := by omega
  have c0W : W.cell? ⟨fp, 0, none⟩ = some (.slice An n cn) := (hSW.2.cell (p := ⟨fp, 0, none⟩) (by simp only; omega)).trans c0B
  clear hrep hst b1 B1 hG1 ib1 hwA kL c0A hSW
  go_wp2_with fail
  clear hW
  go_loopw [20] (fun iv wr => ∃ (k c : Nat) (s2 : List Int), k ≤ n ∧ iv = .int .i64 k ∧ c ≤ k ∧ Hid (Mk wr L Q G fp n (c : Int) F.tw s2 ∧ Below L w wr) ∧ Hid (paF f F.tw (n - k) k c s2 = some st)) (fun iv _ => n - (intOf iv).toNat)
  case atStart => exact ⟨0, 0, _, Nat.zero_le _, rfl, Nat.le_refl _, ⟨HS.out.1, HB1.out.trans (HS.out.2.mono (by omega))⟩, HP.out⟩
  case round =>
    obtain ⟨k, c, s2, hle, rfl, hck, HM, HW⟩ := hrel
    clear HS kLQ c0B fpQ LQ1 c0W cfW
    by_cases hp4 : k < n
    · have hpk : (k : Int) < (n : Int) := by omega
      have ci := HM.out.1.ci
      have cm := HM.out.1.cm
      have cc := HM.out.1.cc
      have hW := HW.out
      rw [show n - k = (n - (k + 1)) + 1 by omega, paF] at hW
      cases hv : s2[k]? with
      | none => simp only [hv] at hW; cases hW
      | some v =>
        simp only [hv] at hW
        have cv := HM.out.1.ib.cell hv
        have hwc : IntKind.i64.wrap ((c : Int) + 1) = ((c + 1 : Nat) : Int) := by rw [IntKind.wrap_i64]; omega
        by_cases hm1 : v = -1
        · rw [if_pos hm1] at hW
          subst hm1
          cases hq : mkF F.tw (c : Int) f k s2 with
          | none => rw [hq] at hW; cases hW
          | some s3 =>
            rw [hq] at hW
            have hcall := mark_any_Gok L Q G fp n (c : Int) F.tw f k s2 s3 wr HM.out.1 hq
            have HW3 : Hid (paF f F.tw (n - (k + 1)) (k + 1) (c + 1) s3 = some st) := hW
            clear hW hq hv
            go_wp2_with fail
            refine hcall.mono ?_
            rintro e5 w5 ⟨rfl, S5, G5⟩
            have cc5 := S5.cc
            have HS5 : Hid (Mk w5 L Q G fp n (c : Int) F.tw s3 ∧ Below L w w5) := ⟨S5, HM.out.2.trans ⟨G5.os, G5.tape, G5.output, G5.size, fun j hj => G5.block j (by have := HM.out.2.size; omega) (by simp; have := HGL.out; omega)⟩⟩
            have z5 := S5.zc
            clear S5 G5 hcall
            go_wp2_with fail
            go_roundw
            case rel => exact ⟨k + 1, c + 1, s3, by omega, by go_num, by omega, ⟨HS5.out.1.count, HS5.out.2.trans ⟨rfl, rfl, rfl, by simp [World.setCell], fun j hj => heap_setCell_other w5 ⟨Q + 1, 0, none⟩ j _ (by simp; omega)⟩⟩, HW3.out⟩
            case measure => simp [intOf]; omega
        · rw [if_neg hm1] at hW
          have HW3 : Hid (paF f F.tw (n - (k + 1)) (k + 1) c s2 = some st) := hW
          have hmb : (v == -1) = false := by rw [beq_eq_false_iff_ne]; exact hm1
          clear hW hv
          go_wp2_with fail
          go_roundw
          case rel => exact ⟨k + 1, c, s2, by omega, by go_num, by omega, HM.out, HW3.out⟩
          case measure => simp [intOf]; omega
    · have hkn : k = n := by omega
      subst hkn
      have hkk : ¬ ((k : Int) < (k : Int)) := by omega
      have ci := HM.out.1.ci
      have hss : s2 = st := by
        have := HW.out
        rw [Nat.sub_self] at this
        exact Option.some.inj this
      subst hss
      clear HW
      go_wp2_with fail
      go_ret
      exact ⟨G, rfl, HM.out.1.ib, HM.out.1.len, HGL.out, HM.out.2⟩

end Go.Proofs.YtmpkcioeodlbcaaGreatDoor
namespace Go.Proofs.YtmpkcioeodlbcaaGreatDoor
open Go.Maps Go.RowKit
set_option linter.unusedVariables false
set_option maxRecDepth 100000
/-- the first node that is in another part than the ground -/
def grF : Nat → List Int → Int × Int
  | _, [] => (0, 0)
  | a, v :: t => if v ≠ 0 then (11, (a : Int) - 1) else grF (a + 1) t
theorem take_nd {F F' : Fr_God} {f : Nat} {nm : Nm} {a b : Nat} (h : F.take f nm a b = some F') : F'.nd = F.nd := by
  unfold Fr_God.take at h
  split at h
  · cases h
  · cases h; rfl
  · cases h; rfl
theorem growF_nd {f : Nat} {want : Nat → Bool} {nodes : List Nm} : ∀ {es : List Elm} {F F' : Fr_God}, growF f want nodes es F = some F' → F'.nd = F.nd := by
  intro es
  induction es with
  | nil => intro F F' hg; cases hg; rfl
  | cons x t ih =>
    intro F F' hg
    rw [growF] at hg
    split at hg
    · cases q : F.take f (bl x.n) (posL nodes (bl x.a)) (posL nodes (bl x.b)) with
      | none => rw [q] at hg; cases hg
      | some F2 => rw [q] at hg; rw [ih hg, take_nd q]
    · exact ih hg
theorem Gn.ndF {w : World} {p f : Nat} {N : Ns} {want : Nat → Bool} {F : Fr_God} (h : Gn w p f N want F) : F.nd = [48] :: N.nd := growF_nd h.g
/-- the parts of a net's forest -/
theorem parts_gn {w w1 : World} {p f fp : Nat} {N : Ns} {F : Fr_God} {B : Fb} {st : List Int} (h : Gn w p f N wJ F) (hF : Fo w1 w.heap.size fp F B) (hp : paF f F.tw (N.nd.length + 1) 0 0 (List.replicate (N.nd.length + 1) (-1)) = some st) :
    Calls Tryz.prog 133 #[.pointer (some ⟨fp, 0, none⟩)] w1 fun e w' => ∃ G, e = .returned (.slice (some ⟨G, 0, none⟩) (N.nd.length + 1) (N.nd.length + 1)) ∧ Ib w' G st ∧ st.length = N.nd.length + 1 ∧ w1.heap.size ≤ G ∧ Below w1.heap.size w1 w' := by
  have h1 := h.n1
  have h2 := h.ne
  exact parts_any w1 w.heap.size fp f (N.nd.length + 1) F B st hF (h.fit.ok (by omega) (by omega)) (by rw [h.ndF]; rfl) (by omega) (by omega) hp
set_option maxHeartbeats 4000000 in
theorem grounded_any {w : World} {p f : Nat} {N : Ns} {F : Fr_God} {st : List Int} (h : Gn w p f N wJ F) (hp : paF f F.tw (N.nd.length + 1) 0 0 (List.replicate (N.nd.length + 1) (-1)) = some st) : Calls Tryz.prog 100 #[.pointer (some ⟨p, 0, none⟩)] w fun e w' => e = .returned (.agg #[.int .i64 (grF 0 st).1, .int .i64 (grF 0 st).2]) ∧ Below w.heap.size w w' := by
  obtain ⟨L, hL⟩ : ∃ L, w.heap.size = L := ⟨_, rfl⟩
  obtain ⟨wA, hwA⟩ : ∃ wA, w.alloc (.cells #[.int .i64 0, .int .i64 0] 69) = wA := ⟨_, rfl⟩
  have bA : Below w.heap.size w wA := by rw [← hwA]; exact (Below.refl _ _).alloc (Nat.le_refl _) _
  have kA : wA.heap[L]? = some (.cells #[.int .i64 0, .int .i64 0] 69 (0, 0)) := by rw [← hwA, ← hL]; exact heap_alloc_new _ _
  have hA := h.below bA
  have hg := grow_j hA
  have hn1 := h.n1
  obtain ⟨n, hn⟩ : ∃ n, N.nd.length + 1 = n := ⟨_, rfl⟩
  have HA : Hid (Gn wA p f N wJ F ∧ Below w.heap.size w wA ∧ wA.heap[L]? = some (.cells #[.int .i64 0, .int .i64 0] 69 (0, 0)) ∧ L < wA.heap.size) := ⟨hA, bA, kA, (Array.getElem?_eq_some_iff.1 kA).1⟩
  have HP : Hid _ := hp
  clear hA bA kA h hp
  go_enter Tryz.func100, Tryz.ntmps100
  go_wp2_with fail
  refine hg.mono ?_
  rintro e1 w1 ⟨fp, B, rfl, hF, hb⟩
  have hpc := parts_gn HA.out.1 hF HP.out
  rw [hn] at hpc
  have HB1 : Hid (Below wA.heap.size wA w1) := hb
  clear hg hF hb hwA
  go_wp2_with fail
  refine hpc.mono ?_
  rintro e2 w2 ⟨G, rfl, ib, hlen, hGe, hb2⟩
  have k2 : w2.heap[L]? = some (.cells #[.int .i64 0, .int .i64 0] 69 (0, 0)) := by
    rw [hb2.block L (Nat.lt_of_lt_of_le HA.out.2.2.2 HB1.out.size), HB1.out.block L HA.out.2.2.2]; exact HA.out.2.2.1
  have HB2 : Hid (Below L w w2) := by
    rw [← hL]
    exact HA.out.2.1.trans ((HB1.out.mono HA.out.2.1.size).trans (hb2.mono (Nat.le_trans HA.out.2.1.size HB1.out.size)))
  have HIB : Hid (Ib w2 G st ∧ st.length = n) := ⟨ib, hlen⟩
  have HK2 : Hid _ := k2
  clear hpc ib hlen hb2 hGe k2
  go_wp2_with fail
  go_loopw [18] (fun iv wr => ∃ (k : Nat), k ≤ n ∧ iv = .int .i64 k ∧ wr = w2 ∧ Hid (grF k (st.drop k) = grF 0 st)) (fun iv _ => n - (intOf iv).toNat)
  case atStart => exact ⟨0, Nat.zero_le _, rfl, rfl, rfl⟩
  case round =>
    obtain ⟨k, hle, rfl, hwr, HW⟩ := hrel
    subst hwr
    obtain ⟨z0, z1, z2, z3⟩ := tw_c HK2.out
    by_cases hp4 : k < n
    · have hpk : (k : Int) < (n : Int) := by omega
      obtain ⟨v, hv⟩ : ∃ v, st[k]? = some v := ⟨_, List.getElem?_eq_getElem (by have := HIB.out.2; omega)⟩
      have cv := HIB.out.1.cell hv
      have hdr : st.drop k = v :: st.drop (k + 1) := (List.drop_eq_getElem_cons (by have := HIB.out.2; omega)).trans (by rw [(List.getElem?_eq_some_iff.1 hv).2])
      have hW := HW.out
      rw [hdr, grF] at hW
      clear hv hdr
      by_cases hv0 : v = 0
      · rw [if_neg (by simp [hv0])] at hW
        have HW2 : Hid (grF (k + 1) (st.drop (k + 1)) = grF 0 st) := hW
        have hvb : (v != 0) = false := by simp [hv0]
        clear hW
        go_wp2_with fail
        go_roundw
        case rel => exact ⟨k + 1, by omega, by go_num, by first | trivial | rfl, HW2.out⟩
        case measure => simp [intOf]; omega
      · rw [if_pos hv0] at hW
        have hvb : (v != 0) = true := by simp [hv0]
        have hwk : IntKind.i64.wrap ((k : Int) - 1) = (k : Int) - 1 := by rw [IntKind.wrap_i64]; omega
        obtain ⟨y0, y1⟩ := tw_set HK2.out (.int .i64 11) (.int .i64 ((k : Int) - 1))
        have HW2 : Hid (((11 : Int), (k : Int) - 1) = grF 0 st) := hW
        clear hW
        go_wp2_with fail
        (try simp only [Exit.inBlock, Exit.then])
        refine bodyPost_ret (by simp [results, Tryz.results100, go_sem, y0, y1]; try rfl) rfl ?_
        refine ⟨by rw [← HW2.out], ?_⟩
        first | exact tw_bel HB2.out (Nat.le_refl _) _ _ | (rw [hL]; exact tw_bel HB2.out (Nat.le_refl _) _ _)
    · have hkn : k = n := by omega
      subst hkn
      have hkk : ¬ ((k : Int) < (k : Int)) := by omega
      have HW2 : Hid (((0 : Int), (0 : Int)) = grF 0 st) := by
        have := HW.out
        rw [List.drop_eq_nil_of_le (by have := HIB.out.2; omega)] at this
        exact this
      obtain ⟨y0, y1⟩ := tw_set HK2.out (.int .i64 0) (.int .i64 0)
      clear HW
      go_wp2_with fail
      (try simp only [Exit.inBlock, Exit.then])
      refine bodyPost_ret (by simp [results, Tryz.results100, go_sem, y0, y1]; try rfl) rfl ?_
      refine ⟨by rw [← HW2.out], ?_⟩
      first | exact tw_bel HB2.out (Nat.le_refl _) _ _ | (rw [hL]; exact tw_bel HB2.out (Nat.le_refl _) _ _)

end Go.Proofs.YtmpkcioeodlbcaaGreatDoor
namespace Go.Proofs.YtmpkcioeodlbcaaGreatDoor
open Fl RowKit
@[go_sem] theorem run_store_complex {P : Program} (w : World) (a : Addr) (m : Mode) (k : FloatKind) (x y : Nat) : (store a (.complex k x y) m).run P w = stored P w a (.complex k x y) m := run_store P w a _ m rfl
abbrev Cn := Option Nat × Option Nat
abbrev Cw := Nat × Nat
def cx (z : Cw) : Value := .complex .f64 z.1 z.2
def anz (z : Cw) : Cn := (ans z.1, ans z.2)
def okz (z : Cw) : Prop := z.1 < 18446744073709551616 ∧ z.2 < 18446744073709551616
def repz (Z : Cn) (z : Cw) : Prop := rep Z.1 z.1 ∧ rep Z.2 z.2
theorem repz_anz {z : Cw} (h : okz z) : repz (anz z) z := ⟨rep_ans h.1, rep_ans h.2⟩
theorem repz.anz {Z : Cn} {z : Cw} (h : repz Z z) : anz z = Z := by
  cases Z
  exact Prod.ext h.1.2 h.2.2
theorem repz.ok {Z : Cn} {z : Cw} (h : repz Z z) : okz z := ⟨h.1.1, h.2.1⟩
def addZ (X Y : Cn) : Cn := (addA X.1 Y.1, addA X.2 Y.2)
def subZ (X Y : Cn) : Cn := (subA X.1 Y.1, subA X.2 Y.2)
def mulZ (X Y : Cn) : Cn := (mulRe X.1 X.2 Y.1 Y.2, mulIm X.1 X.2 Y.1 Y.2)
def sizZ (X : Cn) : Option Nat := addA (sizA X.1) (sizA X.2)
def zat (xs : List Cw) (k : Nat) : Cw := xs.getD k (0, 0)
def okl (xs : List Cw) : Prop := ∀ k, okz (zat xs k)
/-- the code of what is wrong with two lists -/
def errV (a b : Nat) : Int := if 65536 < a ∨ 65536 < b then 3 else if a ≠ b then 4 else 0
theorem zat_lt {xs : List Cw} {k : Nat} (h : k < xs.length) : xs[k]? = some (zat xs k) := by simp [zat, List.getD_eq_getElem?_getD, h]
theorem zat_ge {xs : List Cw} {k : Nat} (h : xs.length ≤ k) : zat xs k = (0, 0) := by simp [zat, List.getD_eq_getElem?_getD, h]
/-- a list that is written place by place: those below k, then what was there -/
def repl (f : Nat → Cn) (k : Nat) (zs : List Cw) : Prop := ∀ j, j < k → repz (f j) (zat zs j)
theorem repl.okl {f : Nat → Cn} {zs : List Cw} (h : repl f zs.length zs) : okl zs := by
  intro k
  rcases Nat.lt_or_ge k zs.length with hk | hk
  · exact (h k hk).ok
  · rw [zat_ge hk]; exact ⟨by decide, by decide⟩
theorem repl.anz {f : Nat → Cn} {zs : List Cw} {n k : Nat} (h : repl f n zs) (hk : k < n) : anz (zat zs k) = f k := (h k hk).anz
theorem repl.set {f : Nat → Cn} {zs : List Cw} {k : Nat} (h : repl f k zs) (hk : k < zs.length) {r : Cw} (hr : repz (f k) r) : repl f (k + 1) (zs.set k r) := by
  intro j hj
  by_cases e : j = k
  · subst e
    have : zat (zs.set j r) j = r := by unfold zat; rw [List.getD_eq_getElem?_getD, List.getElem?_set_self hk]; rfl
    rw [this]; exact hr
  · have : zat (zs.set k r) j = zat zs j := by simp [zat, List.getD_eq_getElem?_getD, Ne.symm e]
    rw [this]; exact h j (by omega)
theorem repl.push {f : Nat → Cn} {zs : List Cw} (h : repl f zs.length zs) {r : Cw} (hr : repz (f zs.length) r) : repl f (zs.length + 1) (zs ++ [r]) := by
  intro j hj
  by_cases e : j = zs.length
  · subst e
    have : zat (zs ++ [r]) zs.length = r := by unfold zat; rw [List.getD_eq_getElem?_getD, List.getElem?_append_right (Nat.le_refl _)]; simp
    rw [this]; exact hr
  · have : zat (zs ++ [r]) j = zat zs j := by unfold zat; rw [List.getD_eq_getElem?_getD, List.getD_eq_getElem?_getD, List.getElem?_append_left (by omega)]
    rw [this]; exact h j (by omega)

/-- what a list of complex numbers in memory reads as -/
def Rc (w : World) (ao : Option Addr) (xs : List Cw) : Prop :=
  ∀ k, k < xs.length → ∃ b off, ao = some ⟨b, off, none⟩ ∧ b < w.heap.size ∧ w.cell? ⟨b, off + k, none⟩ = some (cx (zat xs k))
theorem Rc.below {w w' : World} {ao : Option Addr} {xs : List Cw} (h : Rc w ao xs) (hb : Below w.heap.size w w') : Rc w' ao xs := by
  intro k hk
  obtain ⟨b, off, h1, h2, h3⟩ := h k hk
  exact ⟨b, off, h1, Nat.lt_of_lt_of_le h2 hb.size, (hb.cell (by exact h2)).trans h3⟩
theorem Rc.drewN {w : World} {ao : Option Addr} {xs : List Cw} (h : Rc w ao xs) (n : Nat) : Rc (w.drewN n) ao xs := h
theorem Rc.nil (w : World) (ao : Option Addr) : Rc w ao [] := fun _ hk => absurd hk (Nat.not_lt_zero _)
theorem Tryz.infoC : (Tryz.prog.info? 39).map (fun i => (i.zero, i.size, i.bytes)) = some (some (.complex .f64 0 0), 1, 16) := by kernel_rfl
theorem made_zeroC (n : Nat) : (madeCells (Value.complex .f64 0 0).cells (n * 1)).toList = (List.replicate n ((0, 0) : Cw)).map cx := by
  apply List.ext_getElem?
  intro i
  simp only [madeCells, Array.toList_map, List.getElem?_map, Array.toList_range, Nat.mul_one, List.getElem?_replicate]
  by_cases h : i < n
  · simp [h, Value.cells, Nat.mod_one, cx]
  · simp [h]
theorem own_rc {w : World} {base n : Nat} {v : Value} {xs : List Cw} (hn : n = xs.length) (h : w.ownsRow base 39 1 v n (xs.map cx)) :
    ∃ ao cap, v = .slice ao xs.length cap ∧ xs.length ≤ cap ∧ (xs.length = 0 ∧ ao = none ∧ cap = 0 ∨ ∃ g, ao = some ⟨g, 0, none⟩ ∧ base ≤ g) ∧ Rc w ao xs := by
  subst hn
  rcases h.2 with ⟨hv, h0⟩ | ⟨g, cap, cur, hv, hb, hg, hnc, _, _, htake⟩
  · refine ⟨none, 0, by rw [hv, h0], by omega, .inl ⟨h0, rfl, rfl⟩, fun k hk => by omega⟩
  · refine ⟨some ⟨g, 0, none⟩, cap, hv, hnc, .inr ⟨g, rfl, hb⟩, fun k hk => ⟨g, 0, rfl, (Array.getElem?_eq_some_iff.1 hg).1, ?_⟩⟩
    subst hv
    rw [Nat.zero_add, h.cellAt k (by omega), List.getElem?_map, zat_lt hk]; rfl
theorem own_at {w w' : World} {base e size n : Nat} {v : Value} {xs : List Value} (h : w.ownsRow base e size v n xs) (hk : ∀ g, v.ownBlock = some g → w'.heap[g]? = w.heap[g]?) : w'.ownsRow base e size v n xs := by
  refine ⟨h.1, ?_⟩
  rcases h.2 with h1 | ⟨g, cap, cur, hv, hb, hg, rest⟩
  · exact .inl h1
  · exact .inr ⟨g, cap, cur, hv, hb, by rw [hk g (by subst hv; rfl)]; exact hg, rest⟩
theorem own_base {w : World} {base base' e size n : Nat} {v : Value} {xs : List Value} (h : w.ownsRow base e size v n xs) (hb : base' ≤ base) : w.ownsRow base' e size v n xs := by
  refine ⟨h.1, ?_⟩
  rcases h.2 with h1 | ⟨g, cap, cur, hv, hg, rest⟩
  · exact .inl h1
  · exact .inr ⟨g, cap, cur, hv, Nat.le_trans hb hg, rest⟩
theorem own_below {w w' : World} {base e size n : Nat} {v : Value} {xs : List Value} (h : w.ownsRow base e size v n xs) (hb : Below w.heap.size w w') : w'.ownsRow base e size v n xs :=
  own_at h (fun g hg => hb.block g (h.lt g hg).2)
theorem own_shape {w : World} {base e n : Nat} {v : Value} {xs : List Value} (h : w.ownsRow base e 1 v n xs) (hn : 0 < n) : ∃ g c, v = .slice (some ⟨g, 0, none⟩) n c ∧ base ≤ g ∧ n ≤ c ∧ c ≤ maxLen := by
  rcases h.2 with ⟨_, h1⟩ | ⟨g, cap, cur, hv, hg, _, h2, h3, _⟩
  · omega
  · exact ⟨g, cap, hv, hg, h2, h3⟩
end Go.Proofs.YtmpkcioeodlbcaaGreatDoor
namespace Go.Proofs.YtmpkcioeodlbcaaGreatDoor
open Fl RowKit
/-- a function with a body is entered -/
def Ent (F : FuncId) : Prop := ∀ (args : Array Value) (w : World), (callFunc F args).run Tryz.prog w = .ok (.enter F args) w
end Go.Proofs.YtmpkcioeodlbcaaGreatDoor
namespace Go.Proofs.YtmpkcioeodlbcaaGreatDoor
open Fl RowKit
theorem size_al (w : World) (o : Obj) : (w.alloc o).heap.size = w.heap.size + 1 := by simp
section two
variable (ao bo : Option Addr) (ca cb : Nat) (xs ys : List Cw) (w : World) (hl : ys.length = xs.length) (hm : xs.length ≤ 65536) (hc : Rc w ao xs) (hd : Rc w bo ys) (hx : okl xs) (hy : okl ys)
include hl hm hc hd hx hy
end two
section err
variable (ao bo : Option Addr) (na nb ca cb : Nat) (w : World) (ha : na ≤ 1000000000000000) (hb : nb ≤ 1000000000000000) (he : ¬ errV na nb = 0)
include ha hb he
end err
section one
variable (ao : Option Addr) (cap : Nat) (xs : List Cw) (w : World) (hsz : xs.length * 16 ≤ 140737488355328) (hc : Rc w ao xs) (hx : okl xs)
include hsz hc hx
end one
end Go.Proofs.YtmpkcioeodlbcaaGreatDoor
