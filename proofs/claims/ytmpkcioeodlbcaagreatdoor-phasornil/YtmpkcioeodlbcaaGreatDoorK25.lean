/-
  Several texts in one: Goa Gob.
-/
import Derived.Test.YtmpkcioeodlbcaaGreatDoorK23
namespace Go.Proofs.YtmpkcioeodlbcaaGreatDoor
open Go.Maps Go.RowKit
set_option linter.unusedVariables false
set_option maxRecDepth 100000
/-- a name -/
abbrev Nm := List UInt8
/-- a twig: its name, its other node -/
abbrev Tw := Nm × Nat
/-- what seek finds among the twigs of a node: nothing said, no way, a way -/
def skL (go : Nat → Int → Option (Option (List Nm))) (a : Nat) (bef : Int) : List Tw → Option (Option (List Nm))
  | [] => some none
  | t :: r => if (t.2 : Int) = bef then skL go a bef r else match go t.2 a with
    | none => none
    | some none => skL go a bef r
    | some (some l) => some (some (l ++ [t.1]))
def skF (tw : List (List Tw)) (b : Nat) : Nat → Nat → Int → Option (Option (List Nm))
  | 0, _, _ => none
  | f + 1, a, bef => if a = b then some (some []) else match tw[a]? with
    | none => none
    | some ts => skL (skF tw b f) a bef ts
theorem skL_len {go : Nat → Int → Option (Option (List Nm))} {a : Nat} {bef : Int} {n : Nat} (hg : ∀ x y l, go x y = some (some l) → l.length ≤ n) {ts : List Tw} {l : List Nm} (h : skL go a bef ts = some (some l)) : l.length ≤ n + 1 := by
  induction ts with
  | nil => cases h
  | cons t r ih =>
    unfold skL at h
    split at h
    · exact ih h
    · cases q : go t.2 a with
      | none => rw [q] at h; cases h
      | some o =>
        cases o with
        | none => rw [q] at h; exact ih h
        | some m => rw [q] at h; cases h; have := hg _ _ _ q; simp; omega
theorem skF_len {tw : List (List Tw)} {b : Nat} {f : Nat} : ∀ {a : Nat} {bef : Int} {l : List Nm}, skF tw b f a bef = some (some l) → l.length ≤ f := by
  induction f with
  | zero => intro a bef l h; cases h
  | succ f ih =>
    intro a bef l h
    unfold skF at h
    split at h
    · cases h; exact Nat.zero_le _
    · cases q : tw[a]? with
      | none => rw [q] at h; cases h
      | some ts => rw [q] at h; exact skL_len (fun x y l => ih) h
/-- the value v reads as the twigs ts, below lim -/
def RdW (w : World) (lim : Nat) (v : Value) (ts : List Tw) : Prop :=
  ∃ A c, v = .slice A ts.length c ∧ (ts = [] ∨ ∃ g, A = some ⟨g, 0, none⟩ ∧ g < lim ∧ ∀ (k : Nat) (t : Tw), ts[k]? = some t → w.cell? ⟨g, k * 2, none⟩ = some (sv t.1) ∧ w.cell? ⟨g, k * 2 + 1, none⟩ = some (.int .i64 (t.2 : Int)))
/-- a forest's twigs, read; what they lie in lies below lim -/
structure TwR (w : World) (fp lim : Nat) (tw : List (List Tw)) : Prop where
  f : fp < lim
  n : tw.length ≤ 1000000
  t : ∀ ts ∈ tw, ts.length ≤ 1000000
  r : ∃ BL cap, w.cell? ⟨fp, 1, none⟩ = some (.slice (some ⟨BL, 0, none⟩) tw.length cap) ∧ BL < lim ∧ ∀ (j : Nat) (ts : List Tw), tw[j]? = some ts → ∃ u, w.cell? ⟨BL, j, none⟩ = some u ∧ RdW w lim u ts
theorem TwR.kept {w w' : World} {fp lim : Nat} {tw : List (List Tw)} (h : TwR w fp lim tw) (hb : Below lim w w') : TwR w' fp lim tw := by
  obtain ⟨BL, cap, h1, h2, h3⟩ := h.r
  refine ⟨h.f, h.n, h.t, BL, cap, (hb.cell (p := ⟨fp, 1, none⟩) h.f).trans h1, h2, fun j ts hj => ?_⟩
  obtain ⟨u, h4, A, c, h5, h6⟩ := h3 j ts hj
  refine ⟨u, (hb.cell (p := ⟨BL, j, none⟩) h2).trans h4, A, c, h5, h6.imp id ?_⟩
  rintro ⟨g, q1, q2, q3⟩
  exact ⟨g, q1, q2, fun k t hk => ⟨(hb.cell (p := ⟨g, k * 2, none⟩) q2).trans (q3 k t hk).1, (hb.cell (p := ⟨g, k * 2 + 1, none⟩) q2).trans (q3 k t hk).2⟩⟩
/-- while seek goes on: the boxes of back, the way so far -/
structure Sk (w : World) (L fp b : Nat) (tw : List (List Tw)) (way : List Nm) : Prop where
  cf : w.cell? ⟨L, 0, none⟩ = some (.pointer (some ⟨fp, 0, none⟩))
  cb : w.cell? ⟨L + 1, 0, none⟩ = some (.int .i64 (b : Int))
  cw : ∃ v, w.cell? ⟨L + 2, 0, none⟩ = some v ∧ w.frozen? ⟨L + 2, 0, none⟩ = false ∧ w.ownsRow (L + 4) 9 1 v way.length (way.map sv)
  cs : w.cell? ⟨L + 3, 0, none⟩ = some (.func (.func 228) #[] #[.pointer (some ⟨L + 1, 0, none⟩), .pointer (some ⟨L, 0, none⟩), .pointer (some ⟨L + 3, 0, none⟩), .pointer (some ⟨L + 2, 0, none⟩)])
  tw : TwR w fp L tw
  hi : L + 4 ≤ w.heap.size
theorem Sk.kept {w w' : World} {L fp b : Nat} {tw : List (List Tw)} {way : List Nm} (h : Sk w L fp b tw way) (hb : Below w.heap.size w w') : Sk w' L fp b tw way := by
  have hi := h.hi
  obtain ⟨v, h1, h2, h3⟩ := h.cw
  exact ⟨(hb.cell (p := ⟨L, 0, none⟩) (by simp only; omega)).trans h.cf, (hb.cell (p := ⟨L + 1, 0, none⟩) (by simp only; omega)).trans h.cb, ⟨v, (hb.cell (p := ⟨L + 2, 0, none⟩) (by simp only; omega)).trans h1, (World.frozen?_of_block (hb.block (L + 2) (by omega))).trans h2, row_block h3 fun g hg => hb.block g (row_ge h3 hg).2⟩, (hb.cell (p := ⟨L + 3, 0, none⟩) (by simp only; omega)).trans h.cs, h.tw.kept (hb.mono (by omega)), Nat.le_trans hi hb.size⟩
/-- twigs in memory stay -/
def Kt (L : Nat) (w w' : World) : Prop := ∀ k c fz, k ≠ L + 2 → w.heap[k]? = some (.cells c 247 fz) → w'.heap[k]? = some (.cells c 247 fz)
theorem Kt.refl (L : Nat) (w : World) : Kt L w w := fun _ _ _ _ h => h
theorem Kt.trans {L : Nat} {w w1 w2 : World} (h : Kt L w w1) (h2 : Kt L w1 w2) : Kt L w w2 := fun k c fz hk hc => h2 k c fz hk (h k c fz hk hc)
theorem Kt.bel {L : Nat} {w w' : World} (h : Below w.heap.size w w') : Kt L w w' := fun k c fz _ hc => by rw [h.block k (Array.getElem?_eq_some_iff.1 hc).1]; exact hc
theorem ne_tw : (247 : TypeId) ≠ 9 := by decide
/-- the way has grown -/
theorem Sk.push {w w1 : World} {L fp b : Nat} {tw : List (List Tw)} {way way' : List Nm} {v v' : Value} (h : Sk w L fp b tw way) (hc : w.cell? ⟨L + 2, 0, none⟩ = some v) (ho : w.ownsRow (L + 4) 9 1 v way.length (way.map sv)) (hg : w.grownBy w1 v.ownBlock) (hr : w1.ownsRow (L + 4) 9 1 v' way'.length (way'.map sv)) :
    Sk (w1.setCell ⟨L + 2, 0, none⟩ v') L fp b tw way' ∧ Below L w (w1.setCell ⟨L + 2, 0, none⟩ v') ∧ Kt L w (w1.setCell ⟨L + 2, 0, none⟩ v') := by
  have hi := h.hi
  have hk : ∀ k, k < L + 4 → k ≠ L + 2 → (w1.setCell ⟨L + 2, 0, none⟩ v').heap[k]? = w.heap[k]? := fun k h1 h2 => by
    rw [heap_setCell_other w1 ⟨L + 2, 0, none⟩ k v' (by simpa using h2), hg.block k (by omega) (fun e => by have := (row_ge ho e.symm).1; omega)]
  have hb : Below L w (w1.setCell ⟨L + 2, 0, none⟩ v') := ⟨hg.os, hg.tape, hg.output, by have := hg.size; simpa [World.setCell] using this, fun k hk2 => hk k (by omega) (by omega)⟩
  have hp : w1.heap[L + 2]? = w.heap[L + 2]? := hg.block (L + 2) (by omega) (fun e => by have := (row_ge ho e.symm).1; omega)
  obtain ⟨v0, _, hf, _⟩ := h.cw
  refine ⟨⟨(World.cell?_of_block (a := ⟨L, 0, none⟩) (hk L (by omega) (by omega))).trans h.cf, (World.cell?_of_block (a := ⟨L + 1, 0, none⟩) (hk (L + 1) (by omega) (by omega))).trans h.cb, ⟨v', World.cell?_setCell_same w1 _ _ ((World.cell?_of_block hp).trans hc), ?_, ?_⟩, (World.cell?_of_block (a := ⟨L + 3, 0, none⟩) (hk (L + 3) (by omega) (by omega))).trans h.cs, h.tw.kept hb, ?_⟩, hb, fun k c fz h1 h2 => ?_⟩
  · rw [show (w1.setCell ⟨L + 2, 0, none⟩ v').frozen? ⟨L + 2, 0, none⟩ = w1.frozen? ⟨L + 2, 0, none⟩ by simp]; exact (World.frozen?_of_block hp).trans hf
  · exact row_block hr fun g hg2 => heap_setCell_other w1 ⟨L + 2, 0, none⟩ g v' (by have := (row_ge hr hg2).1; simp; omega)
  · have := hb.size; omega
  · rw [heap_setCell_other w1 ⟨L + 2, 0, none⟩ k v' (by simpa using h1), hg.block k (Array.getElem?_eq_some_iff.1 h2).1 ?_]
    · exact h2
    · intro e
      obtain ⟨_, ⟨rfl, _⟩ | ⟨g, cap, cur, rfl, _, h4, _⟩⟩ := ho
      · cases e
      · cases e
        rw [h4] at h2
        injection h2 with h2; injection h2 with _ h2
        exact ne_tw h2.symm
set_option maxHeartbeats 4000000 in
theorem seek_any (L fp b : Nat) (tw : List (List Tw)) (f : Nat) : ∀ (a : Nat) (bef : Int) (way : List Nm) (r : Option (List Nm)) (w : World), Sk w L fp b tw way → way.length + f ≤ 100000 → skF tw b f a bef = some r →
    Calls Tryz.prog 228 #[.int .i64 (a : Int), .int .i64 bef, .pointer (some ⟨L + 1, 0, none⟩), .pointer (some ⟨L, 0, none⟩), .pointer (some ⟨L + 3, 0, none⟩), .pointer (some ⟨L + 2, 0, none⟩)] w fun e w' => e = .returned (.bool r.isSome) ∧ Sk w' L fp b tw (way ++ r.getD []) ∧ Below L w w' ∧ Kt L w w' := by
  induction f with
  | zero => intro a bef way r w _ _ h; cases h
  | succ f ih =>
    intro a bef way r w hS hl hr
    have HI : Hid (∀ (a : Nat) (bef : Int) (way : List Nm) (r : Option (List Nm)) (w : World), Sk w L fp b tw way → way.length + f ≤ 100000 → skF tw b f a bef = some r →
      Calls Tryz.prog 228 #[.int .i64 (a : Int), .int .i64 bef, .pointer (some ⟨L + 1, 0, none⟩), .pointer (some ⟨L, 0, none⟩), .pointer (some ⟨L + 3, 0, none⟩), .pointer (some ⟨L + 2, 0, none⟩)] w fun e w' => e = .returned (.bool r.isSome) ∧ Sk w' L fp b tw (way ++ r.getD []) ∧ Below L w w' ∧ Kt L w w') := ih
    clear ih
    have cb := hS.cb
    have cf := hS.cf
    have HS : Hid _ := hS
    unfold skF at hr
    by_cases hab : a = b
    · rw [if_pos hab] at hr
      cases hr
      subst hab
      clear hS
      go_enter Tryz.func228, Tryz.ntmps228
      go_wp2_with fail
      go_ret
      exact ⟨rfl, by simpa using HS.out, Below.refl _ _, Kt.refl _ _⟩
    · rw [if_neg hab] at hr
      have habi : ((a : Int) == (b : Int)) = false := by rw [beq_eq_false_iff_ne]; omega
      cases hq : tw[a]? with
      | none => rw [hq] at hr; cases hr
      | some ts =>
        rw [hq] at hr
        obtain ⟨BL, cap, c1, hBL, hts⟩ := hS.tw.r
        obtain ⟨u, cu, A, cA, rfl, hA⟩ := hts a ts hq
        have hlt : a < tw.length := (List.getElem?_eq_some_iff.1 hq).1
        have hti := hS.tw.t ts (List.mem_of_getElem? hq)
        have hni := hS.tw.n
        obtain ⟨n, hn⟩ : ∃ n, tw.length = n := ⟨_, rfl⟩
        obtain ⟨m, hm⟩ : ∃ m, ts.length = m := ⟨_, rfl⟩
        rw [hn] at c1 hlt hni
        rw [hm] at cu hti
        have hai : (a : Int) < (n : Int) := by omega
        have HM : Hid (ts.length = m) := hm
        have HA : Hid _ := hA
        have HR : Hid (skL (skF tw b f) a bef ts = some r) := hr
        clear hm hn hA hts hr hS hq
        go_enter Tryz.func228, Tryz.ntmps228
        go_wp2_with fail
        go_loopw [22] (fun iv wr => ∃ (k : Nat), k ≤ m ∧ iv = .int .i64 k ∧ Hid (Sk wr L fp b tw way ∧ Below L w wr ∧ Kt L w wr) ∧ Hid (skL (skF tw b f) a bef (ts.drop k) = some r)) (fun iv _ => m - (intOf iv).toNat)
        case atStart => exact ⟨0, Nat.zero_le _, rfl, ⟨HS.out, Below.refl _ _, Kt.refl _ _⟩, HR.out⟩
        case round =>
          obtain ⟨k, hle, rfl, HS2, HR2⟩ := hrel
          clear HR c1 cu cb cf
          by_cases hp4 : k < m
          · have hpk : (k : Int) < (m : Int) := by omega
            obtain ⟨⟨nm, far⟩, hx⟩ : ∃ t, ts[k]? = some t := ⟨_, List.getElem?_eq_getElem (by have := HM.out; omega)⟩
            obtain ⟨g, rfl, hg, hcs⟩ := HA.out.resolve_left (by intro e; rw [e] at hx; cases hx)
            obtain ⟨d0, d1⟩ := hcs k _ hx
            have e0 := (HS2.out.2.1.cell (p := ⟨g, k * 2, none⟩) hg).trans d0
            have e1 := (HS2.out.2.1.cell (p := ⟨g, k * 2 + 1, none⟩) hg).trans d1
            have hdr : ts.drop k = (nm, far) :: ts.drop (k + 1) := (List.drop_eq_getElem_cons (by have := HM.out; omega)).trans (by rw [(List.getElem?_eq_some_iff.1 hx).2])
            have hr2 := HR2.out
            rw [hdr] at hr2
            clear d0 d1 hcs hdr hx
            obtain ⟨wa, hwa⟩ : ∃ wa, wr.alloc (.cells #[.string ⟨nm.toArray⟩, .int .i64 (far : Int)] 247) = wa := ⟨_, rfl⟩
            obtain ⟨q, hq⟩ : ∃ q, wr.heap.size = q := ⟨_, rfl⟩
            have BA : Below wr.heap.size wr wa := by rw [← hwa]; exact (Below.refl _ _).alloc (Nat.le_refl _) _
            have SA := HS2.out.1.kept BA
            have cs := SA.cs
            have hLr : L ≤ wr.heap.size := by have := HS2.out.1.hi; omega
            have HSA : Hid (Sk wa L fp b tw way ∧ Below L w wa ∧ Kt L w wa) := ⟨SA, HS2.out.2.1.trans (BA.mono hLr), HS2.out.2.2.trans (Kt.bel BA)⟩
            have t0 : wa.cell? ⟨q, 0, none⟩ = some (.string ⟨nm.toArray⟩) := by rw [← hwa, ← hq]; exact World.cell?_alloc_new _ _ _ _
            have t1 : wa.cell? ⟨q, 1, none⟩ = some (.int .i64 (far : Int)) := by rw [← hwa, ← hq]; exact World.cell?_alloc_new _ _ _ _
            have hqa : q < wa.heap.size := by rw [← hwa, ← hq]; simp
            have HT : Hid (wa.heap[q]? = some (.cells #[.string ⟨nm.toArray⟩, .int .i64 (far : Int)] 247 (0, 0)) ∧ L + 4 ≤ q) := ⟨by rw [← hwa, ← hq]; exact heap_alloc_new _ _, by have := HS2.out.1.hi; omega⟩
            clear SA BA HS2
            simp only [sv] at e0 e1
            by_cases hfb : (far : Int) = bef
            · have hr3 : skL (skF tw b f) a bef (ts.drop (k + 1)) = some r := by rw [← hr2, skL, if_pos hfb]
              have HR3 : Hid (skL (skF tw b f) a bef (ts.drop (k + 1)) = some r) := hr3
              have hne : ((far : Int) != bef) = false := by simp [hfb]
              have HFB : Hid ((far : Int) = bef) := hfb
              clear hr3 hr2 hfb
              go_wp2_with fail
              go_roundw
              case rel => exact ⟨k + 1, by omega, by go_num, HSA.out, HR3.out⟩
              case measure => simp [intOf]; omega
            · have hne : ((far : Int) != bef) = true := by simp [hfb]
              have HFB : Hid (¬ (far : Int) = bef) := hfb
              rw [skL, if_neg hfb] at hr2
              clear hfb
              cases hq2 : skF tw b f far a with
              | none => rw [hq2] at hr2; cases hr2
              | some o =>
                rw [hq2] at hr2
                have hcall := HI.out far a way o wa HSA.out.1 (by omega) hq2
                have HO : Hid (skF tw b f far a = some o) := hq2
                clear hq2
                cases o with
                | none =>
                  have HR3 : Hid (skL (skF tw b f) a bef (ts.drop (k + 1)) = some r) := hr2
                  clear hr2
                  go_wp2_with fail
                  refine hcall.mono ?_
                  rintro e5 w5 ⟨rfl, S5, B5, K5⟩
                  have HS5 : Hid (Sk w5 L fp b tw way ∧ Below L w w5 ∧ Kt L w w5) := ⟨by simpa using S5, HSA.out.2.1.trans B5, HSA.out.2.2.trans K5⟩
                  clear S5 B5 K5 hcall
                  go_wp2_with fail
                  go_roundw
                  case rel => exact ⟨k + 1, by omega, by go_num, HS5.out, HR3.out⟩
                  case measure => simp [intOf]; omega
                | some l =>
                  have hr3 : r = some (l ++ [nm]) := (Option.some.inj hr2).symm
                  subst hr3
                  have hll := skF_len HO.out
                  clear hr2
                  go_wp2_with fail
                  refine hcall.mono ?_
                  rintro e5 w5 ⟨rfl, S5, B5, K5⟩
                  have hq5 := K5 q _ _ (by have := HT.out.2; omega) HT.out.1
                  have n0 : w5.cell? ⟨q, 0, none⟩ = some (.string ⟨nm.toArray⟩) := by rw [cell_of_row w5 q 0 _ _ (0, 0) hq5]; rfl
                  have S5' : Sk w5 L fp b tw (way ++ l) := S5
                  obtain ⟨v, cw, fw, ow⟩ := S5'.cw
                  have HS5 : Hid (Sk w5 L fp b tw (way ++ l) ∧ Below L w w5 ∧ Kt L w w5) := ⟨S5', HSA.out.2.1.trans B5, HSA.out.2.2.trans K5⟩
                  obtain ⟨i0, hi0, hz0, hz1, hz2⟩ := info_parts Tryz.infoS
                  obtain ⟨A5, cap5, rfl⟩ : ∃ A cap, v = .slice A (way ++ l).length cap := by
                    obtain ⟨_, ⟨h1, h2⟩ | ⟨g, cap, cur, h1, _⟩⟩ := ow
                    · exact ⟨none, 0, by rw [h1, h2]⟩
                    · exact ⟨_, _, h1⟩
                  have hwl : (way ++ l).length ≤ 100000 := by simp; omega
                  obtain ⟨z, hz⟩ : ∃ z, (way ++ l).length = z := ⟨_, rfl⟩
                  have HZ : Hid ((way ++ l).length = z) := hz
                  rw [hz] at ow cw hwl
                  have hL4 : L + 4 ≤ w5.heap.size := S5'.hi
                  have hvL : some (L + 2) ≠ (Value.slice A5 z cap5).ownBlock := fun e => by have := (row_ge ow e.symm).1; omega
                  clear S5 S5' B5 K5 hcall t0 t1 hqa cs e0 e1 hwa hq hz hLr
                  go_wp2_with (at_builtin; refine wpList_append_lies _ (by rfl) _ _ 61 (by rfl) (L + 4) 9 i0 (.string ByteArray.empty) 1 16 Tryz.underlying61 hi0 hz0 hz1 hz2 (by rfl) (by decide) _ _ _ (by rfl) (ow.alloc _) ⟨w5.heap.size, 0, none⟩ 1 1 [.string ⟨nm.toArray⟩] (by rfl) (by rfl) (World.news_of_block (fr := (0, 0)) (t := 9) (cs := #[.string ⟨nm.toArray⟩]) (heap_alloc_new _ _)) (fun u hu => by simp at hu; subst hu; rfl) (by decide) (by unfold maxLen; omega) (by omega) (by simp; omega) _ rfl ?_; intro g2 cap2 w6 hown6 hgrow hat6 hlt6; (have k6 : w6.cell? ⟨L + 2, 0, none⟩ = some (.slice A5 z cap5) := hgrow.cell (by rw [World.cell?_alloc_lt _ _ _ (World.block_lt_of_cell? w5 _ cw)]; exact cw) hvL); (have f6 : w6.frozen? ⟨L + 2, 0, none⟩ = false := (hgrow.frozen_far ⟨L + 2, 0, none⟩ (by simp; omega) hvL).trans ((World.frozen?_alloc_old w5 _ ⟨L + 2, 0, none⟩ (Nat.ne_of_lt (World.block_lt_of_cell? w5 _ cw))).trans fw)))
                  go_ret
                  have B6 : Below w5.heap.size w5 (w5.alloc (.cells #[.string ⟨nm.toArray⟩] 9)) := (Below.refl _ _).alloc (Nat.le_refl _) _
                  have P6 := (HS5.out.1.kept B6).push (way' := way ++ l ++ [nm]) (v' := .slice (some ⟨g2, 0, none⟩) (z + 1) cap2) (by rw [World.cell?_alloc_lt _ _ _ (World.block_lt_of_cell? w5 _ cw)]; exact cw) (by rw [HZ.out]; exact ow.alloc _) hgrow (by rw [List.length_append, HZ.out, List.map_append]; exact hown6)
                  refine ⟨rfl, ?_, HS5.out.2.1.trans ((B6.mono (by omega)).trans P6.2.1), HS5.out.2.2.trans ((Kt.bel B6).trans P6.2.2)⟩
                  have := P6.1
                  rw [List.append_assoc] at this
                  exact this
          · have hkm : k = m := by omega
            subst hkm
            have hrn : r = none := by
              have := HR2.out
              rw [List.drop_eq_nil_of_le (by have := HM.out; omega)] at this
              exact (Option.some.inj this).symm
            subst hrn
            have hkk : ¬ ((k : Int) < (k : Int)) := by omega
            clear HR2
            go_wp2_with fail
            go_ret
            exact ⟨rfl, by simpa using HS2.out.1, HS2.out.2.1, HS2.out.2.2⟩

end Go.Proofs.YtmpkcioeodlbcaaGreatDoor
namespace Go.Proofs.YtmpkcioeodlbcaaGreatDoor
open Go.Maps Go.RowKit
set_option linter.unusedVariables false
set_option maxRecDepth 100000
@[go_sem] theorem run_store_funcN {P : Program} (w : World) (a : Addr) (m : Mode) (f : Fn) (x y : Array Value) : (store a (.func f x y) m).run P w = stored P w a (.func f x y) m := run_store P w a _ m rfl
theorem row_le {w : World} {base b2 : Nat} {e : TypeId} {sz : Nat} {v : Value} {n : Nat} {xs : List Value} (h : w.ownsRow base e sz v n xs) (hb : b2 ≤ base) : w.ownsRow b2 e sz v n xs := by
  obtain ⟨h0, h1 | ⟨g, cap, cur, h1, h2, h3⟩⟩ := h
  · exact ⟨h0, .inl h1⟩
  · exact ⟨h0, .inr ⟨g, cap, cur, h1, by omega, h3⟩⟩
theorem sk_start (w : World) (fp b L : Nat) (tw : List (List Tw)) (hL : w.heap.size = L) (ht : TwR w fp L tw) :
    Sk ((((w.alloc (.cells #[.pointer (some ⟨fp, 0, none⟩)] 194)).alloc (.cells #[.int .i64 (b : Int)] 3)).alloc (.cells #[.slice none 0 0] 61)).alloc (.cells #[.func (.func 228) #[] #[.pointer (some ⟨L + 1, 0, none⟩), .pointer (some ⟨L, 0, none⟩), .pointer (some ⟨L + 3, 0, none⟩), .pointer (some ⟨L + 2, 0, none⟩)]] 279)) L fp b tw [] ∧
    Below L w ((((w.alloc (.cells #[.pointer (some ⟨fp, 0, none⟩)] 194)).alloc (.cells #[.int .i64 (b : Int)] 3)).alloc (.cells #[.slice none 0 0] 61)).alloc (.cells #[.func (.func 228) #[] #[.pointer (some ⟨L + 1, 0, none⟩), .pointer (some ⟨L, 0, none⟩), .pointer (some ⟨L + 3, 0, none⟩), .pointer (some ⟨L + 2, 0, none⟩)]] 279)) := by
  obtain ⟨w1, h1⟩ : ∃ w1, w1 = w.alloc (.cells #[.pointer (some ⟨fp, 0, none⟩)] 194) := ⟨_, rfl⟩
  rw [← h1]
  obtain ⟨w2, h2⟩ : ∃ w2, w2 = w1.alloc (.cells #[.int .i64 (b : Int)] 3) := ⟨_, rfl⟩
  rw [← h2]
  obtain ⟨w3, h3⟩ : ∃ w3, w3 = w2.alloc (.cells #[.slice none 0 0] 61) := ⟨_, rfl⟩
  rw [← h3]
  obtain ⟨w4, h4⟩ : ∃ w4, w4 = w3.alloc (.cells #[.func (.func 228) #[] #[.pointer (some ⟨L + 1, 0, none⟩), .pointer (some ⟨L, 0, none⟩), .pointer (some ⟨L + 3, 0, none⟩), .pointer (some ⟨L + 2, 0, none⟩)]] 279) := ⟨_, rfl⟩
  rw [← h4]
  have s1 : w1.heap.size = L + 1 := by rw [h1, ← hL]; simp
  have s2 : w2.heap.size = L + 2 := by rw [h2]; simp [s1]
  have s3 : w3.heap.size = L + 3 := by rw [h3]; simp [s2]
  have s4 : w4.heap.size = L + 4 := by rw [h4]; simp [s3]
  have b1 : Below L w w1 := by rw [h1]; exact (Below.refl _ _).alloc (by omega) _
  have b2 : Below (L + 1) w1 w2 := by rw [h2]; exact (Below.refl _ _).alloc (by omega) _
  have b3 : Below (L + 2) w2 w3 := by rw [h3]; exact (Below.refl _ _).alloc (by omega) _
  have b4 : Below (L + 3) w3 w4 := by rw [h4]; exact (Below.refl _ _).alloc (by omega) _
  have k1 : w1.heap[L]? = some (.cells #[.pointer (some ⟨fp, 0, none⟩)] 194 (0, 0)) := by rw [h1, ← hL]; exact heap_alloc_new _ _
  have k2 : w2.heap[L + 1]? = some (.cells #[.int .i64 (b : Int)] 3 (0, 0)) := by rw [h2, ← s1]; exact heap_alloc_new _ _
  have k3 : w3.heap[L + 2]? = some (.cells #[.slice none 0 0] 61 (0, 0)) := by rw [h3, ← s2]; exact heap_alloc_new _ _
  have k4 : w4.heap[L + 3]? = some (.cells #[.func (.func 228) #[] #[.pointer (some ⟨L + 1, 0, none⟩), .pointer (some ⟨L, 0, none⟩), .pointer (some ⟨L + 3, 0, none⟩), .pointer (some ⟨L + 2, 0, none⟩)]] 279 (0, 0)) := by rw [h4]; have := heap_alloc_new w3 (.cells #[.func (.func 228) #[] #[.pointer (some ⟨L + 1, 0, none⟩), .pointer (some ⟨L, 0, none⟩), .pointer (some ⟨L + 3, 0, none⟩), .pointer (some ⟨L + 2, 0, none⟩)]] 279); rw [s3] at this; exact this
  have q1 : w4.heap[L]? = some (.cells #[.pointer (some ⟨fp, 0, none⟩)] 194 (0, 0)) := by rw [b4.block _ (by omega), b3.block _ (by omega), b2.block _ (by omega)]; exact k1
  have q2 : w4.heap[L + 1]? = some (.cells #[.int .i64 (b : Int)] 3 (0, 0)) := by rw [b4.block _ (by omega), b3.block _ (by omega)]; exact k2
  have q3 : w4.heap[L + 2]? = some (.cells #[.slice none 0 0] 61 (0, 0)) := by rw [b4.block _ (by omega)]; exact k3
  have hB : Below L w w4 := b1.trans ((b2.mono (by omega)).trans ((b3.mono (by omega)).trans (b4.mono (by omega))))
  refine ⟨⟨by rw [cell_of_row w4 L 0 _ _ (0, 0) q1]; rfl, by rw [cell_of_row w4 (L + 1) 0 _ _ (0, 0) q2]; rfl, ⟨.slice none 0 0, by rw [cell_of_row w4 (L + 2) 0 _ _ (0, 0) q3]; rfl, frozen_of_row w4 (L + 2) 0 _ _ q3, World.ownsRow_nil _ _ _ _⟩, by rw [cell_of_row w4 (L + 3) 0 _ _ (0, 0) k4]; rfl, ht.kept hB, by omega⟩, hB⟩
/-- back: the way from b back to a -/
theorem back_any (w : World) (fp a b f : Nat) (tw : List (List Tw)) (r : Option (List Nm)) (ht : TwR w fp w.heap.size tw) (hf : f ≤ 100000) (hr : skF tw b f a (-1) = some r) :
    Calls Tryz.prog 205 #[.pointer (some ⟨fp, 0, none⟩), .int .i64 (a : Int), .int .i64 (b : Int)] w fun e w' => ∃ v, e = .returned (.tuple #[v, .bool r.isSome]) ∧ w'.ownsRow w.heap.size 9 1 v (r.getD []).length ((r.getD []).map sv) ∧ Below w.heap.size w w' := by
  obtain ⟨L, hL⟩ : ∃ L, w.heap.size = L := ⟨_, rfl⟩
  rw [hL] at ht
  have hs := sk_start w fp b L tw hL ht
  have hcall := seek_any L fp b tw f a (-1) [] r _ hs.1 (by simpa using hf) hr
  have HB : Hid _ := hs.2
  clear hs
  go_enter Tryz.func205, Tryz.ntmps205
  go_wp2_with fail
  refine hcall.mono ?_
  rintro e5 w5 ⟨rfl, S5, B5, K5⟩
  obtain ⟨v, cw, fw, ow⟩ := S5.cw
  have HO : Hid (w5.ownsRow (L + 4) 9 1 v (r.getD []).length ((r.getD []).map sv) ∧ Below L w w5) := ⟨by simpa using ow, HB.out.trans B5⟩
  clear S5 B5 K5 ow hcall
  go_wp2_with fail
  go_ret2
  refine ⟨v, rfl, row_le HO.out.1 (by omega), ?_⟩
  rw [hL]; exact HO.out.2

end Go.Proofs.YtmpkcioeodlbcaaGreatDoor
