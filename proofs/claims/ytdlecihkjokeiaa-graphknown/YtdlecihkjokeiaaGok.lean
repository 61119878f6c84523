/-
  The parts of a forest: parts of package graph.
-/
import Derived.Test.YtdlecihkjokeiaaGoj
namespace Go.Proofs.Ytdlecihkjokeiaa
open Go.Maps Go.RowKit
set_option linter.unusedVariables false
set_option maxRecDepth 100000

/-- what mark lays, node by node; none: it did not come to an end -/
def mkL (go : Nat → List Int → Option (List Int)) : List Tw → List Int → Option (List Int)
  | [], st => some st
  | t :: r, st => match st[t.2]? with
    | none => none
    | some v => if v = -1 then match go t.2 st with
      | none => none
      | some st' => mkL go r st'
      else mkL go r st
def mkF (tw : List (List Tw)) (c : Int) : Nat → Nat → List Int → Option (List Int)
  | 0, _, _ => none
  | f + 1, a, st => if a < st.length then match tw[a]? with
    | none => none
    | some ts => mkL (mkF tw c f) ts (st.set a c)
    else none
theorem mkL_len {go : Nat → List Int → Option (List Int)} (hg : ∀ x s s', go x s = some s' → s'.length = s.length) {ts : List Tw} : ∀ {st st' : List Int}, mkL go ts st = some st' → st'.length = st.length := by
  induction ts with
  | nil => intro st st' h; cases h; rfl
  | cons t r ih =>
    intro st st' h
    unfold mkL at h
    cases q : st[t.2]? with
    | none => rw [q] at h; cases h
    | some v =>
      rw [q] at h
      simp only at h
      split at h
      · cases q2 : go t.2 st with
        | none => rw [q2] at h; cases h
        | some s2 => rw [q2] at h; rw [ih h, hg _ _ _ q2]
      · exact ih h
theorem mkF_len {tw : List (List Tw)} {c : Int} {f : Nat} : ∀ {a : Nat} {st st' : List Int}, mkF tw c f a st = some st' → st'.length = st.length := by
  induction f with
  | zero => intro a st st' h; cases h
  | succ f ih =>
    intro a st st' h
    unfold mkF at h
    split at h
    · cases q : tw[a]? with
      | none => rw [q] at h; cases h
      | some ts => rw [q] at h; rw [mkL_len (fun x s s' => ih) h]; simp
    · cases h
/-- while mark goes on -/
structure Mk (w : World) (L Q G fp n : Nat) (c : Int) (tw : List (List Tw)) (st : List Int) : Prop where
  cf : w.cell? ⟨L, 0, none⟩ = some (.pointer (some ⟨fp, 0, none⟩))
  ci : w.cell? ⟨Q, 0, none⟩ = some (.slice (some ⟨G, 0, none⟩) n n)
  cc : w.cell? ⟨Q + 1, 0, none⟩ = some (.int .i64 c)
  cm : w.cell? ⟨Q + 2, 0, none⟩ = some (.func (.func 65) #[] #[.pointer (some ⟨Q + 1, 0, none⟩), .pointer (some ⟨Q, 0, none⟩), .pointer (some ⟨L, 0, none⟩), .pointer (some ⟨Q + 2, 0, none⟩)])
  ib : Ib w G st
  len : st.length = n
  tw : TwR w fp L tw
  lG : L < G
  GQ : G < Q
  zc : w.frozen? ⟨Q + 1, 0, none⟩ = false
theorem Ib.lt {w : World} {G : Nat} {st : List Int} (h : Ib w G st) : G < w.heap.size := (Array.getElem?_eq_some_iff.1 h).1
/-- only the block G has turned -/
theorem Mk.turn {w w' : World} {L Q G fp n : Nat} {c : Int} {tw : List (List Tw)} {st st' : List Int} (h : Mk w L Q G fp n c tw st) (hg : w.grownBy w' (some G)) (hi : Ib w' G st') (hl : st'.length = n) : Mk w' L Q G fp n c tw st' := by
  have h1 := h.lG
  have h2 := h.GQ
  have hc : ∀ (a : Addr) (v : Value), a.block ≠ G → w.cell? a = some v → w'.cell? a = some v := fun a v q1 q2 => (World.cell?_of_block (hg.block a.block (World.block_lt_of_cell? w a q2) (by simpa using q1))).trans q2
  exact ⟨hc _ _ (by simp only; omega) h.cf, hc _ _ (by simp only; omega) h.ci, hc _ _ (by simp only; omega) h.cc, hc _ _ (by simp only; omega) h.cm, hi, hl, h.tw.kept ⟨hg.os, hg.tape, hg.output, hg.size, fun k hk => hg.block k (by have := World.block_lt_of_cell? w _ h.cf; simp at this; omega) (by simp; omega)⟩, h1, h2, (World.frozen?_of_block (a := ⟨Q + 1, 0, none⟩) (hg.block (Q + 1) (World.block_lt_of_cell? w _ h.cc) (by simp; omega))).trans h.zc⟩
theorem Ib.cell {w : World} {G : Nat} {st : List Int} (h : Ib w G st) {i : Nat} {v : Int} (hi : st[i]? = some v) : w.cell? ⟨G, i, none⟩ = some (.int .i64 v) := by
  rw [cell_of_row w G _ _ _ (0, 0) h, List.getElem?_toArray, List.getElem?_map, hi]; rfl
theorem Ib.set {w : World} {G : Nat} {st : List Int} (h : Ib w G st) (i : Nat) (v : Int) : Ib (w.setCell ⟨G, i, none⟩ (.int .i64 v)) G (st.set i v) := by
  have := heap_setCell_same w G i _ _ (.int .i64 v) h
  unfold Ib
  rw [this]
  simp
theorem gb_set {w : World} {G i : Nat} {u : Value} : w.grownBy (w.setCell ⟨G, i, none⟩ u) (some G) := grown_setN
theorem gb_trans {w w1 w2 : World} {G : Nat} (h : w.grownBy w1 (some G)) (h2 : w1.grownBy w2 (some G)) : w.grownBy w2 (some G) :=
  ⟨h2.os.trans h.os, h2.tape.trans h.tape, h2.output.trans h.output, Nat.le_trans h.size h2.size, fun k hk hne => (h2.block k (Nat.lt_of_lt_of_le hk h.size) hne).trans (h.block k hk hne)⟩
theorem gb_bel {w w1 : World} {G : Nat} (h : Below w.heap.size w w1) : w.grownBy w1 (some G) := ⟨h.os, h.tape, h.output, h.size, fun k hk _ => h.block k hk⟩
theorem gb_refl (w : World) (G : Nat) : w.grownBy w (some G) := ⟨rfl, rfl, rfl, Nat.le_refl _, fun _ _ _ => rfl⟩
set_option maxHeartbeats 4000000 in
theorem mark_any (L Q G fp n : Nat) (c : Int) (tw : List (List Tw)) (f : Nat) : ∀ (a : Nat) (st st' : List Int) (w : World), Mk w L Q G fp n c tw st → mkF tw c f a st = some st' →
    Calls Try.prog 65 #[.int .i64 (a : Int), .pointer (some ⟨Q + 1, 0, none⟩), .pointer (some ⟨Q, 0, none⟩), .pointer (some ⟨L, 0, none⟩), .pointer (some ⟨Q + 2, 0, none⟩)] w fun e w' => e = .returned (.tuple #[]) ∧ Mk w' L Q G fp n c tw st' ∧ w.grownBy w' (some G) := by
  induction f with
  | zero => intro a st st' w _ h; cases h
  | succ f ih =>
    intro a st st' w hS hr
    have HI : Hid (∀ (a : Nat) (st st' : List Int) (w : World), Mk w L Q G fp n c tw st → mkF tw c f a st = some st' →
      Calls Try.prog 65 #[.int .i64 (a : Int), .pointer (some ⟨Q + 1, 0, none⟩), .pointer (some ⟨Q, 0, none⟩), .pointer (some ⟨L, 0, none⟩), .pointer (some ⟨Q + 2, 0, none⟩)] w fun e w' => e = .returned (.tuple #[]) ∧ Mk w' L Q G fp n c tw st' ∧ w.grownBy w' (some G)) := ih
    clear ih
    unfold mkF at hr
    split at hr
    · rename_i hal
      cases hq : tw[a]? with
      | none => rw [hq] at hr; cases hr
      | some ts =>
        rw [hq] at hr
        have han : a < n := by have := hS.len; omega
        have hai : (a : Int) < (n : Int) := by omega
        have cc := hS.cc
        have ci := hS.ci
        have hzG : w.frozen? ⟨G, a, none⟩ = false := frozen_of_row w G a _ _ hS.ib
        obtain ⟨v0, hv0⟩ : ∃ v, st[a]? = some v := ⟨_, List.getElem?_eq_getElem hal⟩
        have cG := hS.ib.cell hv0
        have S1 := hS.turn (w' := w.setCell ⟨G, a, none⟩ (.int .i64 c)) gb_set (hS.ib.set a c) (by simp [hS.len])
        obtain ⟨w1, hw1⟩ : ∃ w1, w.setCell ⟨G, a, none⟩ (.int .i64 c) = w1 := ⟨_, rfl⟩
        rw [hw1] at S1
        have G1 : w.grownBy w1 (some G) := by rw [← hw1]; exact gb_set
        obtain ⟨BL, cap, c1, hBL, hts⟩ := S1.tw.r
        obtain ⟨u, cu, A, cA, rfl, hA⟩ := hts a ts hq
        have cf := S1.cf
        have hlt : a < tw.length := (List.getElem?_eq_some_iff.1 hq).1
        have hni := S1.tw.n
        have hti := S1.tw.t ts (List.mem_of_getElem? hq)
        obtain ⟨m, hm⟩ : ∃ m, ts.length = m := ⟨_, rfl⟩
        obtain ⟨nt, hnt⟩ : ∃ nt, tw.length = nt := ⟨_, rfl⟩
        rw [hnt] at c1 hlt hni
        rw [hm] at cu hti
        have hati : (a : Int) < (nt : Int) := by omega
        have HM : Hid (ts.length = m) := hm
        have HA : Hid _ := hA
        have HS1 : Hid (Mk w1 L Q G fp n c tw (st.set a c) ∧ w.grownBy w1 (some G)) := ⟨S1, G1⟩
        have HR : Hid (mkL (mkF tw c f) ts (st.set a c) = some st') := hr
        have HLG : Hid (L < G) := S1.lG
        clear hm hnt hA hts hr hS hq S1 G1
        go_enter Try.func65, Try.ntmps65
        go_wp2_with fail
        clear hw1 cG hzG hv0 cf
        go_loopw [20] (fun iv wr => ∃ (k : Nat) (s2 : List Int), k ≤ m ∧ iv = .int .i64 k ∧ Hid (Mk wr L Q G fp n c tw s2 ∧ w.grownBy wr (some G) ∧ w1.grownBy wr (some G)) ∧ Hid (mkL (mkF tw c f) (ts.drop k) s2 = some st')) (fun iv _ => m - (intOf iv).toNat)
        case atStart => exact ⟨0, _, Nat.zero_le _, rfl, ⟨HS1.out.1, HS1.out.2, gb_refl _ _⟩, HR.out⟩
        case round =>
          obtain ⟨k, s2, hle, rfl, HS2, HR2⟩ := hrel
          clear HR cc ci c1 cu
          by_cases hp4 : k < m
          · have hpk : (k : Int) < (m : Int) := by omega
            obtain ⟨⟨nm, far⟩, hx⟩ : ∃ t, ts[k]? = some t := ⟨_, List.getElem?_eq_getElem (by have := HM.out; omega)⟩
            obtain ⟨g, rfl, hg, hcs⟩ := HA.out.resolve_left (by intro e; rw [e] at hx; cases hx)
            obtain ⟨d0, d1⟩ := hcs k _ hx
            have hgG : g ≠ G := by have := HLG.out; omega
            have e0 := (HS2.out.2.2.cell_far ⟨g, k * 2, none⟩ (World.block_lt_of_cell? w1 _ d0) (by simpa using hgG)).trans d0
            have e1 := (HS2.out.2.2.cell_far ⟨g, k * 2 + 1, none⟩ (World.block_lt_of_cell? w1 _ d1) (by simpa using hgG)).trans d1
            have hdr : ts.drop k = (nm, far) :: ts.drop (k + 1) := (List.drop_eq_getElem_cons (by have := HM.out; omega)).trans (by rw [(List.getElem?_eq_some_iff.1 hx).2])
            have hr2 := HR2.out
            rw [hdr] at hr2
            unfold mkL at hr2
            cases hfv : s2[far]? with
            | none => simp only [hfv] at hr2; cases hr2
            | some vf =>
              simp only [hfv] at hr2
              have hfl : far < n := by have := (List.getElem?_eq_some_iff.1 hfv).1; have := HS2.out.1.len; omega
              have hfli : (far : Int) < (n : Int) := by omega
              obtain ⟨wa, hwa⟩ : ∃ wa, wr.alloc (.cells #[.string ⟨nm.toArray⟩, .int .i64 (far : Int)] 109) = wa := ⟨_, rfl⟩
              obtain ⟨q, hq⟩ : ∃ q, wr.heap.size = q := ⟨_, rfl⟩
              have BA : Below wr.heap.size wr wa := by rw [← hwa]; exact (Below.refl _ _).alloc (Nat.le_refl _) _
              have SA := HS2.out.1.turn (gb_bel BA) (by unfold Ib; rw [BA.block G HS2.out.1.ib.lt]; exact HS2.out.1.ib) HS2.out.1.len
              have ciA := SA.ci
              have cmA := SA.cm
              have cGf := SA.ib.cell hfv
              have t1 : wa.cell? ⟨q, 1, none⟩ = some (.int .i64 (far : Int)) := by rw [← hwa, ← hq]; exact World.cell?_alloc_new _ _ _ _
              have HSA : Hid (Mk wa L Q G fp n c tw s2 ∧ w.grownBy wa (some G) ∧ w1.grownBy wa (some G)) := ⟨SA, gb_trans HS2.out.2.1 (gb_bel BA), gb_trans HS2.out.2.2 (gb_bel BA)⟩
              clear SA BA HS2 d0 d1 hcs hdr hx hfv
              simp only [sv] at e0 e1
              by_cases hm1 : vf = -1
              · rw [if_pos hm1] at hr2
                subst hm1
                cases hq2 : mkF tw c f far s2 with
                | none => rw [hq2] at hr2; cases hr2
                | some s3 =>
                  rw [hq2] at hr2
                  have hcall := HI.out far s2 s3 wa HSA.out.1 hq2
                  have HR3 : Hid (mkL (mkF tw c f) (ts.drop (k + 1)) s3 = some st') := hr2
                  clear hr2 hq2
                  go_wp2_with fail
                  refine hcall.mono ?_
                  rintro e5 w5 ⟨rfl, S5, G5⟩
                  have HS5 : Hid (Mk w5 L Q G fp n c tw s3 ∧ w.grownBy w5 (some G) ∧ w1.grownBy w5 (some G)) := ⟨S5, gb_trans HSA.out.2.1 G5, gb_trans HSA.out.2.2 G5⟩
                  clear S5 G5 hcall
                  go_wp2_with fail
                  go_roundw
                  case rel => exact ⟨k + 1, s3, by omega, by go_num, HS5.out, HR3.out⟩
                  case measure => simp [intOf]; omega
              · rw [if_neg hm1] at hr2
                have HR3 : Hid (mkL (mkF tw c f) (ts.drop (k + 1)) s2 = some st') := hr2
                have hmb : (vf == -1) = false := by rw [beq_eq_false_iff_ne]; exact hm1
                clear hr2
                go_wp2_with fail
                go_roundw
                case rel => exact ⟨k + 1, s2, by omega, by go_num, HSA.out, HR3.out⟩
                case measure => simp [intOf]; omega
          · have hkm : k = m := by omega
            subst hkm
            have hss : s2 = st' := by
              have := HR2.out
              rw [List.drop_eq_nil_of_le (by have := HM.out; omega)] at this
              exact Option.some.inj this
            subst hss
            have hkk : ¬ ((k : Int) < (k : Int)) := by omega
            clear HR2
            go_wp2_with fail
            go_end0
            exact ⟨rfl, HS2.out.1, HS2.out.2.1⟩
    · cases hr

end Go.Proofs.Ytdlecihkjokeiaa
