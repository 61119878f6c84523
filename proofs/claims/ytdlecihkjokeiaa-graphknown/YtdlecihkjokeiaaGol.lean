/-
  The parts of a forest: parts of package graph, whole.
-/
import Derived.Test.YtdlecihkjokeiaaGok
namespace Go.Proofs.Ytdlecihkjokeiaa
open Go.Maps Go.RowKit
set_option linter.unusedVariables false
set_option maxRecDepth 100000

/-- what parts lays, from node a on; r nodes are left, c parts are counted -/
def paF (f : Nat) (tw : List (List Tw)) : Nat → Nat → Nat → List Int → Option (List Int)
  | 0, _, _, st => some st
  | r + 1, a, c, st => match st[a]? with
    | none => none
    | some v => if v = -1 then match mkF tw (c : Int) f a st with
      | none => none
      | some st' => paF f tw r (a + 1) (c + 1) st'
      else paF f tw r (a + 1) c st
theorem Mk.count {w : World} {L Q G fp n : Nat} {c c' : Int} {tw : List (List Tw)} {st : List Int} (h : Mk w L Q G fp n c tw st) : Mk (w.setCell ⟨Q + 1, 0, none⟩ (.int .i64 c')) L Q G fp n c' tw st := by
  have h1 := h.lG
  have h2 := h.GQ
  have hc : ∀ (a : Addr) (v : Value), a.block ≠ Q + 1 → w.cell? a = some v → (w.setCell ⟨Q + 1, 0, none⟩ (.int .i64 c')).cell? a = some v := fun a v q1 q2 => (World.cell?_of_block (heap_setCell_other w ⟨Q + 1, 0, none⟩ a.block _ (by simpa using q1))).trans q2
  refine ⟨hc _ _ (by simp only; omega) h.cf, hc _ _ (by simp only; omega) h.ci, World.cell?_setCell_same w _ _ h.cc, hc _ _ (by simp only; omega) h.cm, ?_, h.len, h.tw.kept ⟨rfl, rfl, rfl, by simp [World.setCell], fun k hk => heap_setCell_other w ⟨Q + 1, 0, none⟩ k _ (by simp; omega)⟩, h1, h2, by rw [show (w.setCell ⟨Q + 1, 0, none⟩ (.int .i64 c')).frozen? ⟨Q + 1, 0, none⟩ = w.frozen? ⟨Q + 1, 0, none⟩ by simp]; exact h.zc⟩
  unfold Ib
  rw [heap_setCell_other w ⟨Q + 1, 0, none⟩ G _ (by simp; omega)]; exact h.ib
theorem mk_start (w1 : World) (L Q G fp n : Nat) (tw : List (List Tw)) (hQ : w1.heap.size = Q) (hLG : L < G) (hGQ : G < Q) (kL : w1.cell? ⟨L, 0, none⟩ = some (.pointer (some ⟨fp, 0, none⟩))) (ib : Ib w1 G (List.replicate n (-1))) (ht : TwR w1 fp L tw) :
    Mk (((w1.alloc (.cells #[.slice (some ⟨G, 0, none⟩) n n] 73)).alloc (.cells #[.int .i64 0] 3)).alloc (.cells #[.func (.func 65) #[] #[.pointer (some ⟨Q + 1, 0, none⟩), .pointer (some ⟨Q, 0, none⟩), .pointer (some ⟨L, 0, none⟩), .pointer (some ⟨Q + 2, 0, none⟩)]] 106)) L Q G fp n 0 tw (List.replicate n (-1)) ∧ Below Q w1 (((w1.alloc (.cells #[.slice (some ⟨G, 0, none⟩) n n] 73)).alloc (.cells #[.int .i64 0] 3)).alloc (.cells #[.func (.func 65) #[] #[.pointer (some ⟨Q + 1, 0, none⟩), .pointer (some ⟨Q, 0, none⟩), .pointer (some ⟨L, 0, none⟩), .pointer (some ⟨Q + 2, 0, none⟩)]] 106)) := by
  obtain ⟨w2, h2⟩ : ∃ w2, w2 = w1.alloc (.cells #[.slice (some ⟨G, 0, none⟩) n n] 73) := ⟨_, rfl⟩
  rw [← h2]
  obtain ⟨w3, h3⟩ : ∃ w3, w3 = w2.alloc (.cells #[.int .i64 0] 3) := ⟨_, rfl⟩
  rw [← h3]
  obtain ⟨w4, h4⟩ : ∃ w4, w4 = w3.alloc (.cells #[.func (.func 65) #[] #[.pointer (some ⟨Q + 1, 0, none⟩), .pointer (some ⟨Q, 0, none⟩), .pointer (some ⟨L, 0, none⟩), .pointer (some ⟨Q + 2, 0, none⟩)]] 106) := ⟨_, rfl⟩
  rw [← h4]
  have s2 : w2.heap.size = Q + 1 := by rw [h2, ← hQ]; simp
  have s3 : w3.heap.size = Q + 2 := by rw [h3]; simp [s2]
  have s4 : w4.heap.size = Q + 3 := by rw [h4]; simp [s3]
  have b2 : Below Q w1 w2 := by rw [h2]; exact (Below.refl _ _).alloc (by omega) _
  have b3 : Below (Q + 1) w2 w3 := by rw [h3]; exact (Below.refl _ _).alloc (by omega) _
  have b4 : Below (Q + 2) w3 w4 := by rw [h4]; exact (Below.refl _ _).alloc (by omega) _
  have k2 : w2.heap[Q]? = some (.cells #[.slice (some ⟨G, 0, none⟩) n n] 73 (0, 0)) := by rw [h2, ← hQ]; exact heap_alloc_new _ _
  have k3 : w3.heap[Q + 1]? = some (.cells #[.int .i64 0] 3 (0, 0)) := by rw [h3, ← s2]; exact heap_alloc_new _ _
  have k4 : w4.heap[Q + 2]? = some (.cells #[.func (.func 65) #[] #[.pointer (some ⟨Q + 1, 0, none⟩), .pointer (some ⟨Q, 0, none⟩), .pointer (some ⟨L, 0, none⟩), .pointer (some ⟨Q + 2, 0, none⟩)]] 106 (0, 0)) := by rw [h4]; have := heap_alloc_new w3 (.cells #[.func (.func 65) #[] #[.pointer (some ⟨Q + 1, 0, none⟩), .pointer (some ⟨Q, 0, none⟩), .pointer (some ⟨L, 0, none⟩), .pointer (some ⟨Q + 2, 0, none⟩)]] 106); rw [s3] at this; exact this
  have q2 : w4.heap[Q]? = some (.cells #[.slice (some ⟨G, 0, none⟩) n n] 73 (0, 0)) := by rw [b4.block _ (by omega), b3.block _ (by omega)]; exact k2
  have q3 : w4.heap[Q + 1]? = some (.cells #[.int .i64 0] 3 (0, 0)) := by rw [b4.block _ (by omega)]; exact k3
  have hB : Below Q w1 w4 := b2.trans ((b3.mono (by omega)).trans (b4.mono (by omega)))
  refine ⟨⟨(hB.cell (p := ⟨L, 0, none⟩) (by simp only; omega)).trans kL, by rw [cell_of_row w4 Q 0 _ _ (0, 0) q2]; rfl, by rw [cell_of_row w4 (Q + 1) 0 _ _ (0, 0) q3]; rfl, by rw [cell_of_row w4 (Q + 2) 0 _ _ (0, 0) k4]; rfl, ?_, by simp, ht.kept (hB.mono (by omega)), hLG, hGQ, frozen_of_row w4 (Q + 1) 0 _ _ q3⟩, hB⟩
  unfold Ib
  rw [hB.block G hGQ]; exact ib
set_option maxHeartbeats 4000000 in
theorem parts_any (w : World) (base fp f n : Nat) (F : Fr) (B : Fb) (st : List Int) (h : Fo w base fp F B) (hok : F.ok) (hnd : F.nd.length = n) (hn0 : 0 < n) (hn : n ≤ 10000) (hp : paF f F.tw n 0 0 (List.replicate n (-1)) = some st) :
    Calls Try.prog 38 #[.pointer (some ⟨fp, 0, none⟩)] w fun e w' => ∃ G, e = .returned (.slice (some ⟨G, 0, none⟩) n n) ∧ Ib w' G st ∧ st.length = n ∧ w.heap.size ≤ G ∧ Below w.heap.size w w' := by
  obtain ⟨L, hL⟩ : ∃ L, w.heap.size = L := ⟨_, rfl⟩
  obtain ⟨c0, c1, c2, c3⟩ := h.c
  obtain ⟨An, cn, hvn⟩ := row_slice h.nd
  rw [hvn, hnd] at c0
  have HT : Hid (TwR w fp L F.tw) := by rw [← hL]; exact h.twR hok
  have hfp : fp < w.heap.size := h.lt
  have HP : Hid _ := hp
  have HF : Hid _ := h
  clear h hp hok c1 c2 c3 hvn
  obtain ⟨wA, hwA⟩ : ∃ wA, (w.alloc (.cells #[.pointer (some ⟨fp, 0, none⟩)] 69)).alloc (.cells #[.int .i64 (-1)] 3) = wA := ⟨_, rfl⟩
  have hsA : wA.heap.size = L + 2 := by rw [← hwA, ← hL]; simp
  have bA : Below L w wA := by rw [← hwA]; exact ((Below.refl _ w).alloc (by omega) _).alloc (by simp; omega) _
  have kL : wA.cell? ⟨L, 0, none⟩ = some (.pointer (some ⟨fp, 0, none⟩)) := by
    rw [← hwA, World.cell?_alloc_lt _ _ _ (by simp; omega), ← hL]; exact World.cell?_alloc_new _ _ _ _
  have kL1 : wA.cell? ⟨L + 1, 0, none⟩ = some (.int .i64 (-1)) := by
    rw [← hwA]
    have := World.cell?_alloc_new (w.alloc (.cells #[.pointer (some ⟨fp, 0, none⟩)] 69)) #[.int .i64 (-1)] 3 0
    simpa [hL] using this
  have c0A : wA.cell? ⟨fp, 0, none⟩ = some (.slice An n cn) := (bA.cell (p := ⟨fp, 0, none⟩) (by simp only; omega)).trans c0
  have hrep := repeat_any wA (L + 1) n hn0 (by omega) kL1
  have HA : Hid (wA.heap.size = L + 2 ∧ Below L w wA) := ⟨hsA, bA⟩
  clear hsA bA kL1 c0
  go_enter Try.func38, Try.ntmps38
  go_wp2_with fail
  refine hrep.mono ?_
  rintro e1 w1 ⟨G, rfl, ib1, hG1, b1⟩
  obtain ⟨Q, hQ⟩ : ∃ Q, w1.heap.size = Q := ⟨_, rfl⟩
  have hA2 := HA.out.1
  have hst := mk_start w1 L Q G fp n F.tw hQ (by omega) (by have := ib1.lt; omega) ((b1.cell (World.block_lt_of_cell? wA _ kL)).trans kL) ib1 ((HT.out.kept HA.out.2).kept (b1.mono (by omega)))
  have B1 : Below L w w1 := HA.out.2.trans (b1.mono (by omega))
  have c0B : w1.cell? ⟨fp, 0, none⟩ = some (.slice An n cn) := (b1.cell (World.block_lt_of_cell? wA _ c0A)).trans c0A
  obtain ⟨W, hW⟩ : ∃ W, (((w1.alloc (.cells #[.slice (some ⟨G, 0, none⟩) n n] 73)).alloc (.cells #[.int .i64 0] 3)).alloc (.cells #[.func (.func 65) #[] #[.pointer (some ⟨Q + 1, 0, none⟩), .pointer (some ⟨Q, 0, none⟩), .pointer (some ⟨L, 0, none⟩), .pointer (some ⟨Q + 1 + 1, 0, none⟩)]] 106)) = W := ⟨_, rfl⟩
  have hSW : Mk W L Q G fp n 0 F.tw (List.replicate n (-1)) ∧ Below Q w1 W := by rw [← hW]; exact hst
  have cfW := hSW.1.cf
  have HS : Hid (Mk W L Q G fp n 0 F.tw (List.replicate n (-1)) ∧ Below Q w1 W) := hSW
  have hLQ : L + 2 ≤ Q := by have := b1.size; omega
  have HC0 : Hid (∀ W, Below L w W → W.cell? ⟨fp, 0, none⟩ = some (.slice An n cn) ∧ W.cell? ⟨fp, 0, none⟩ = w.cell? ⟨fp, 0, none⟩) := fun W hW => by
    have h1 := hW.cell (p := ⟨fp, 0, none⟩) (by simp only; omega)
    have h2 := B1.cell (p := ⟨fp, 0, none⟩) (by simp only; omega)
    exact ⟨by rw [h1, ← h2]; exact c0B, h1⟩
  have HB1 : Hid (Below L w w1) := B1
  have HGL : Hid (L ≤ G) := by show L ≤ G; omega
  have fpQ : fp < w1.heap.size := World.block_lt_of_cell? w1 _ c0B
  have kLQ : w1.cell? ⟨L, 0, none⟩ = some (.pointer (some ⟨fp, 0, none⟩)) := (b1.cell (World.block_lt_of_cell? wA _ kL)).trans kL
  have LQ1 : L < w1.heap.size := by omega
  have c0W : W.cell? ⟨fp, 0, none⟩ = some (.slice An n cn) := (hSW.2.cell (p := ⟨fp, 0, none⟩) (by simp only; omega)).trans c0B
  clear hrep hst b1 B1 hG1 ib1 hwA kL c0A hSW
  go_wp2_with fail
  clear hW
  go_loopw [20] (fun iv wr => ∃ (k c : Nat) (s2 : List Int), k ≤ n ∧ iv = .int .i64 k ∧ c ≤ k ∧ Hid (Mk wr L Q G fp n (c : Int) F.tw s2 ∧ Below L w wr) ∧ Hid (paF f F.tw (n - k) k c s2 = some st)) (fun iv _ => n - (intOf iv).toNat)
  case atStart => exact ⟨0, 0, _, Nat.zero_le _, rfl, Nat.le_refl _, ⟨HS.out.1, HB1.out.trans (HS.out.2.mono (by omega))⟩, HP.out⟩
  case round =>
    obtain ⟨k, c, s2, hle, rfl, hck, HM, HW⟩ := hrel
    clear HS kLQ c0B fpQ LQ1 c0W cfW
    by_cases hp4 : k < n
    · have hpk : (k : Int) < (n : Int) := by omega
      have ci := HM.out.1.ci
      have cm := HM.out.1.cm
      have cc := HM.out.1.cc
      have hW := HW.out
      rw [show n - k = (n - (k + 1)) + 1 by omega, paF] at hW
      cases hv : s2[k]? with
      | none => simp only [hv] at hW; cases hW
      | some v =>
        simp only [hv] at hW
        have cv := HM.out.1.ib.cell hv
        have hwc : IntKind.i64.wrap ((c : Int) + 1) = ((c + 1 : Nat) : Int) := by rw [IntKind.wrap_i64]; omega
        by_cases hm1 : v = -1
        · rw [if_pos hm1] at hW
          subst hm1
          cases hq : mkF F.tw (c : Int) f k s2 with
          | none => rw [hq] at hW; cases hW
          | some s3 =>
            rw [hq] at hW
            have hcall := mark_any L Q G fp n (c : Int) F.tw f k s2 s3 wr HM.out.1 hq
            have HW3 : Hid (paF f F.tw (n - (k + 1)) (k + 1) (c + 1) s3 = some st) := hW
            clear hW hq hv
            go_wp2_with fail
            refine hcall.mono ?_
            rintro e5 w5 ⟨rfl, S5, G5⟩
            have cc5 := S5.cc
            have HS5 : Hid (Mk w5 L Q G fp n (c : Int) F.tw s3 ∧ Below L w w5) := ⟨S5, HM.out.2.trans ⟨G5.os, G5.tape, G5.output, G5.size, fun j hj => G5.block j (by have := HM.out.2.size; omega) (by simp; have := HGL.out; omega)⟩⟩
            have z5 := S5.zc
            clear S5 G5 hcall
            go_wp2_with fail
            go_roundw
            case rel => exact ⟨k + 1, c + 1, s3, by omega, by go_num, by omega, ⟨HS5.out.1.count, HS5.out.2.trans ⟨rfl, rfl, rfl, by simp [World.setCell], fun j hj => heap_setCell_other w5 ⟨Q + 1, 0, none⟩ j _ (by simp; omega)⟩⟩, HW3.out⟩
            case measure => simp [intOf]; omega
        · rw [if_neg hm1] at hW
          have HW3 : Hid (paF f F.tw (n - (k + 1)) (k + 1) c s2 = some st) := hW
          have hmb : (v == -1) = false := by rw [beq_eq_false_iff_ne]; exact hm1
          clear hW hv
          go_wp2_with fail
          go_roundw
          case rel => exact ⟨k + 1, c, s2, by omega, by go_num, by omega, HM.out, HW3.out⟩
          case measure => simp [intOf]; omega
    · have hkn : k = n := by omega
      subst hkn
      have hkk : ¬ ((k : Int) < (k : Int)) := by omega
      have ci := HM.out.1.ci
      have hss : s2 = st := by
        have := HW.out
        rw [Nat.sub_self] at this
        exact Option.some.inj this
      subst hss
      clear HW
      go_wp2_with fail
      go_ret
      exact ⟨G, rfl, HM.out.1.ib, HM.out.1.len, HGL.out, HM.out.2⟩

end Go.Proofs.Ytdlecihkjokeiaa
