/-
  The parts of a net: Parts of package graph, of a net that is made.
-/
import Derived.Test.YtdlecihkjokeiaaGom
import Derived.Test.YtdlecihkjokeiaaGop
namespace Go.Proofs.Ytdlecihkjokeiaa
open Go.Maps Go.RowKit
set_option linter.unusedVariables false
set_option maxRecDepth 100000

/-- the lists of nodes, by the numbers of their parts -/
def psF : List Nm → List Int → List (List Nm) → Option (List (List Nm))
  | [], _, ls => some ls
  | _ :: _, [], _ => none
  | x :: xs, v :: vs, ls => if v = (ls.length : Int) then psF xs vs ((ls ++ [[]]).set v.toNat ((ls ++ [[]]).getD v.toNat [] ++ [x]))
    else if 0 ≤ v ∧ v.toNat < ls.length then psF xs vs (ls.set v.toNat (ls.getD v.toNat [] ++ [x])) else none
theorem gd_mem {ls : List (List Nm)} {a : Nat} (h : a < ls.length) : ls.getD a [] ∈ ls := by
  rw [List.getD_eq_getElem?_getD, List.getElem?_eq_getElem h]; exact List.getElem_mem h
theorem ll_at {w : World} {base g nl cap : Nat} {vals : List Value} {ls : List (List Nm)} (h : LL w base 29 9 1 nmE (.slice (some ⟨g, 0, none⟩) nl cap) vals ls) {a : Nat} (ha : a < ls.length) : ∃ u, vals[a]? = some u ∧ w.ownsRow base 9 1 u (ls.getD a []).length ((ls.getD a []).map sv) ∧ w.cell? ⟨g, a, none⟩ = some u ∧ w.frozen? ⟨g, a, none⟩ = false := by
  have hn := h.len
  obtain ⟨u, hu⟩ : ∃ u, vals[a]? = some u := ⟨_, List.getElem?_eq_getElem (by omega)⟩
  have hl : ls[a]? = some (ls.getD a []) := by rw [List.getD_eq_getElem?_getD, List.getElem?_eq_getElem ha]; rfl
  have hnl : vals.length = nl := by
    obtain ⟨_, ⟨q, _⟩ | ⟨g2, c2, cur, q, _⟩⟩ := h.out
    · cases q
    · cases q; rfl
  have o := h.out
  rw [hnl] at o
  have hr := h.inn a u _ hu hl
  rw [nmE_map] at hr
  exact ⟨u, hu, hr, by rw [o.cellAt a (by omega)]; exact hu, o.frozenAt a⟩
theorem pt_end {w2 wz w4 : World} {b0 g nl cap m a g4 cp4 : Nat} {vals : List Value} {ls : List (List Nm)} {x : Nm} {u : Value} {o : Obj} (h : LL wz b0 29 9 1 nmE (.slice (some ⟨g, 0, none⟩) nl cap) vals ls) (hb : Below b0 w2 wz) (hu : vals[a]? = some u) (hm : (ls.getD a []).length = m) (hbz : b0 ≤ wz.heap.size)
    (hown : w4.ownsRow b0 9 1 (.slice (some ⟨g4, 0, none⟩) (m + 1) cp4) (m + 1) ((ls.getD a []).map sv ++ [.string ⟨x.toArray⟩])) (hgrow : (wz.alloc o).drew.grownBy w4 u.ownBlock) (hat : u.ownBlock = some g4 ∨ g4 = wz.heap.size + 1) :
    ∃ vals', LL (w4.setCell ⟨g, a, none⟩ (.slice (some ⟨g4, 0, none⟩) (m + 1) cp4)) b0 29 9 1 nmE (.slice (some ⟨g, 0, none⟩) nl cap) vals' (ls.set a (ls.getD a [] ++ [x])) ∧ Below b0 w2 (w4.setCell ⟨g, a, none⟩ (.slice (some ⟨g4, 0, none⟩) (m + 1) cp4)) := by
  have bA : Below wz.heap.size wz (wz.alloc o).drew := ((Below.refl _ wz).alloc (Nat.le_refl _) o).drew
  have hL := h.below bA
  have hS := hL.store (l' := ls.getD a [] ++ [x]) (u' := .slice (some ⟨g4, 0, none⟩) (m + 1) cp4) hu hgrow (by rw [nmE_map, List.length_append, List.map_append, hm]; exact hown) (fun gg q => by
    have e : g4 = gg := Option.some.inj q
    rcases hat with q2 | q2
    · exact .inl (by rw [q2, e])
    · exact .inr (by show (wz.alloc o).heap.size ≤ gg; simp; omega))
  obtain ⟨l, hl, hru⟩ := hL.inn' hu
  have hgb := row_ge hL.out (g := g) rfl
  refine ⟨_, hS, hb.trans ((bA.mono hbz).trans ⟨hgrow.os, hgrow.tape, hgrow.output, by have := hgrow.size; simpa [World.setCell] using this, fun k hk => ?_⟩)⟩
  rw [heap_setCell_other w4 ⟨g, a, none⟩ k _ (by simp; omega), hgrow.block k (by have := bA.size; omega) (fun e => by have := (row_ge hru e.symm).1; omega)]
theorem ps_fit {ls : List (List Nm)} {a k : Nat} {x : Nm} (ha : a < ls.length) (h1 : ls.length ≤ k) (h2 : ∀ l ∈ ls, l.length ≤ k) : (ls.set a (ls.getD a [] ++ [x])).length ≤ k + 1 ∧ ∀ l ∈ ls.set a (ls.getD a [] ++ [x]), l.length ≤ k + 1 := by
  refine ⟨by simp; omega, fun l hl => ?_⟩
  rcases List.mem_or_eq_of_mem_set hl with q | q
  · have := h2 l q; omega
  · rw [q, List.length_append]
    have := h2 _ (gd_mem ha)
    simp only [List.length_singleton]; omega
set_option maxHeartbeats 4000000 in
theorem gparts_any {w : World} {p f : Nat} {N : Ns} {F : Fr} {st : List Int} {ls0 : List (List Nm)} (h : Gn w p f N wJ F) (hp : paF f F.tw (N.nd.length + 1) 0 0 (List.replicate (N.nd.length + 1) (-1)) = some st) (hps : psF ([48] :: N.nd) st [] = some ls0) : Calls Try.prog 10 #[.pointer (some ⟨p, 0, none⟩)] w fun e w' => ∃ v vals, e = .returned v ∧ LL w' w.heap.size 29 9 1 nmE v vals ls0 ∧ Below w.heap.size w w' := by
  have hg := grow_j h
  have hn1 := h.n1
  obtain ⟨n, hn⟩ : ∃ n, N.nd.length + 1 = n := ⟨_, rfl⟩
  have HH : Hid _ := h
  have HP : Hid _ := hp
  have HPS : Hid _ := hps
  obtain ⟨i0, hi0, hy0, hy1, hy2⟩ := info_parts Try.infoS
  obtain ⟨j0, hj0, hx0, hx1, hx2⟩ := info_parts Try.infoSS
  clear h hp hps
  go_enter Try.func10, Try.ntmps10
  go_wp2_with fail
  refine hg.mono ?_
  rintro e1 w1 ⟨fp, B, rfl, hF, hb⟩
  have hpc := parts_gn HH.out hF HP.out
  rw [hn] at hpc
  have HF1 : Hid (Fo w1 w.heap.size fp F B ∧ Below w.heap.size w w1) := ⟨hF, hb⟩
  clear hg hF hb
  go_wp2_with fail
  refine hpc.mono ?_
  rintro e2 w2 ⟨G, rfl, ib, hlen, hGe, hb2⟩
  have hF2 := HF1.out.1.below hb2
  obtain ⟨b0, hb0⟩ : ∃ b0, w2.heap.size = b0 := ⟨_, rfl⟩
  obtain ⟨nodes, hnodes⟩ : ∃ nodes, [48] :: N.nd = nodes := ⟨_, rfl⟩
  have hndl : nodes.length = n := by rw [← hnodes]; exact hn
  have hfnd : F.nd = nodes := by rw [HH.out.ndF]; exact hnodes
  have rN := hF2.nd
  rw [hfnd, hndl] at rN
  obtain ⟨gn, cn, hvn⟩ := row_some rN (by omega)
  have cN := hF2.c.1
  rw [hvn] at cN
  rw [hvn] at rN
  have HIB : Hid (Ib w2 G st ∧ st.length = n ∧ G < b0) := ⟨ib, hlen, by rw [← hb0]; exact ib.lt⟩
  have HCN : Hid (w2.cell? ⟨fp, 0, none⟩ = some (.slice (some ⟨gn, 0, none⟩) n cn) ∧ fp < b0 ∧ gn < b0 ∧ ∀ k x, nodes[k]? = some x → w2.cell? ⟨gn, k, none⟩ = some (.string ⟨x.toArray⟩)) := ⟨cN, by rw [← hb0]; exact hF2.lt, by rw [← hb0]; exact (row_ge rN (g := gn) rfl).2, fun k x hk => by
    have hlt := (List.getElem?_eq_some_iff.1 hk).1
    rw [rN.cellAt k (by omega), List.getElem?_map, hk]; rfl⟩
  have HB0 : Hid (b0 ≤ w2.heap.size) := by show b0 ≤ _; omega
  have HFPB : Hid (fp < b0) := HCN.out.2.1
  have HW2 : Hid (Below w.heap.size w w2 ∧ w.heap.size ≤ b0) := ⟨HF1.out.2.trans (hb2.mono HF1.out.2.size), by have := HF1.out.2.size; have := hb2.size; omega⟩
  have HNL : Hid (nodes.length = n) := hndl
  rw [hnodes] at HPS
  clear hpc ib hlen hb2 hGe hF2 hfnd rN hvn cN hndl hnodes hb0
  go_wp2_with fail
  go_loopw [18, 5] (fun iv lv wr => ∃ (k : Nat) (vals : List Value) (ls : List (List Nm)), k ≤ n ∧ iv = .int .i64 k ∧ Hid (LL wr b0 29 9 1 nmE lv vals ls ∧ Below b0 w2 wr) ∧ Hid (psF (nodes.drop k) (st.drop k) ls = some ls0) ∧ Hid (ls.length ≤ k ∧ ∀ l ∈ ls, l.length ≤ k)) (fun iv _ _ => n - (intOf iv).toNat)
  case atStart => exact ⟨0, [], [], Nat.zero_le _, rfl, ⟨LL.nil _ _ (by decide) _ _, Below.refl _ _⟩, HPS.out, ⟨Nat.le_refl _, fun l hl => by cases hl⟩⟩
  case round =>
    obtain ⟨k, vals, ls, hle, rfl, HL0, HW, HLB0⟩ := hrel
    obtain ⟨Al, cl, hvl⟩ := row_slice HL0.out.1.out
    rw [← HL0.out.1.len] at hvl
    subst hvl
    by_cases hp4 : k < n
    · have hpk : (k : Int) < (n : Int) := by omega
      obtain ⟨v, hv⟩ : ∃ v, st[k]? = some v := ⟨_, List.getElem?_eq_getElem (by have := HIB.out.2.1; omega)⟩
      obtain ⟨x, hx⟩ : ∃ x, nodes[k]? = some x := ⟨_, List.getElem?_eq_getElem (by have := HNL.out; omega)⟩
      have cv : wr.cell? ⟨G, k, none⟩ = some (.int .i64 v) := (HL0.out.2.cell (p := ⟨G, k, none⟩) HIB.out.2.2).trans (HIB.out.1.cell hv)
      have cxw : wr.cell? ⟨gn, k, none⟩ = some (.string ⟨x.toArray⟩) := (HL0.out.2.cell (p := ⟨gn, k, none⟩) HCN.out.2.2.1).trans (HCN.out.2.2.2 k x hx)
      have hdr : st.drop k = v :: st.drop (k + 1) := (List.drop_eq_getElem_cons (by have := HIB.out.2.1; omega)).trans (by rw [(List.getElem?_eq_some_iff.1 hv).2])
      have hdn : nodes.drop k = x :: nodes.drop (k + 1) := (List.drop_eq_getElem_cons (by have := HNL.out; omega)).trans (by rw [(List.getElem?_eq_some_iff.1 hx).2])
      have hW := HW.out
      rw [hdr, hdn, psF] at hW
      obtain ⟨cln, hcln⟩ : ∃ cln, ls.length = cln := ⟨_, rfl⟩
      have hlsb := HLB0.out.1
      clear hdr hdn hv hx HW
      by_cases hvl : v = (ls.length : Int)
      · rw [if_pos hvl] at hW
        have hve : (v == (ls.length : Int)) = true := by simp [hvl]
        have hpn : ls.length < (ls ++ [[]]).length := by simp
        subst hvl
        rw [Int.toNat_natCast] at hW
        have rO := HL0.out.1.out
        rw [← HL0.out.1.len] at rO
        obtain ⟨pn, hpe⟩ : ∃ pn, ls.length = pn := ⟨_, rfl⟩
        have HPE : Hid (ls.length = pn) := hpe
        rw [hpe] at hW hve rO hpn hlsb cv ⊢
        have cfw : wr.cell? ⟨fp, 0, none⟩ = some (.slice (some ⟨gn, 0, none⟩) n cn) := (HL0.out.2.cell (p := ⟨fp, 0, none⟩) HCN.out.2.1).trans HCN.out.1
        have hwb : b0 ≤ wr.heap.size := by have := HL0.out.2.size; have := HB0.out; omega
        have HKEEP : Hid (∀ (w3 : World) (o : Obj), (wr.alloc o).grownBy w3 (Value.slice Al pn cl).ownBlock → Below b0 wr w3) := fun w3 o hg => ((Below.refl _ wr).alloc hwb o).trans ⟨hg.os, hg.tape, hg.output, hg.size, fun q hq => hg.block q (by simp; omega) (fun e => by have := (row_ge rO e.symm).1; omega)⟩
        have HLNA : Hid (((ls ++ [[]]).set pn ((ls ++ [[]]).getD pn [] ++ [x])).length ≤ k + 1 ∧ ∀ l ∈ (ls ++ [[]]).set pn ((ls ++ [[]]).getD pn [] ++ [x]), l.length ≤ k + 1) := by
          have hg0 : (ls ++ [[]]).getD pn [] = [] := by rw [← HPE.out]; simp
          refine ⟨by simp; have := HLB0.out.1; omega, fun l hl => ?_⟩
          rcases List.mem_or_eq_of_mem_set hl with q | q
          · rcases List.mem_append.1 q with q2 | q2
            · have := HLB0.out.2 l q2; omega
            · simp at q2; rw [q2]; simp
          · rw [q, hg0]; simp
        have HWB : Hid (psF (nodes.drop (k + 1)) (st.drop (k + 1)) ((ls ++ [[]]).set pn ((ls ++ [[]]).getD pn [] ++ [x])) = some ls0) := hW
        have HLB : Hid ((ls ++ [[]]).length ≤ k + 1 ∧ ∀ l ∈ ls ++ [[]], l.length ≤ 100000) := ⟨by simp; have := HLB0.out.1; omega, fun l hl => by
          rcases List.mem_append.1 hl with q | q
          · have := HLB0.out.2 l q; omega
          · simp at q; rw [q]; simp⟩
        have hpb : pn ≤ 1001 := by omega
        clear hW hpe
        go_wp2_with (at_builtin; refine wpList_append_lies _ (by rfl) _ _ 27 (by rfl) b0 29 j0 (.slice none 0 0) 1 24 Try.underlying27 hj0 hx0 hx1 hx2 (by rfl) (by decide) _ _ _ (by rfl) (rO.alloc _) ⟨wr.heap.size, 0, none⟩ 1 1 [.slice none 0 0] (by rfl) (by rfl) (World.news_of_block (fr := (0, 0)) (t := 29) (cs := #[.slice none 0 0]) (heap_alloc_new _ _)) (fun u hu => by simp at hu; subst hu; rfl) (by decide) (by unfold maxLen; omega) (by omega) (by simp; omega) _ rfl ?_; intro g cap w3 hown3 hgrow3 hat3 hlt3)
        have B3 : Below b0 wr w3 := HKEEP.out w3 _ hgrow3
        have hLA := (HL0.out.1.below ((Below.refl _ wr).alloc (Nat.le_refl _) (.cells #[.slice none 0 0] 29))).push (u := .slice none 0 0) (l := []) (v' := .slice (some ⟨g, 0, none⟩) (pn + 1) cap) (World.ownsRow_nil _ _ _ _) (fun x hx gg q1 q2 => by cases q2) (by rw [HPE.out]; exact hgrow3) (by rw [← HL0.out.1.len, HPE.out]; exact hown3)
        obtain ⟨nl, hnl⟩ : ∃ nl, pn + 1 = nl := ⟨_, rfl⟩
        rw [hnl] at hLA ⊢
        have HL : Hid (LL w3 b0 29 9 1 nmE (.slice (some ⟨g, 0, none⟩) nl cap) (vals ++ [.slice none 0 0]) (ls ++ [[]]) ∧ Below b0 w2 w3) := ⟨hLA, HL0.out.2.trans B3⟩
        have hpi : (pn : Int) < (nl : Int) := by omega
        have cfz : w3.cell? ⟨fp, 0, none⟩ = some (.slice (some ⟨gn, 0, none⟩) n cn) := (B3.cell (p := ⟨fp, 0, none⟩) HCN.out.2.1).trans cfw
        have cxw3 : w3.cell? ⟨gn, k, none⟩ = some (.string ⟨x.toArray⟩) := (B3.cell (p := ⟨gn, k, none⟩) HCN.out.2.2.1).trans cxw
        clear hown3 hgrow3 hat3 hlt3 hLA B3 cfw cxw cv rO HKEEP HL0 hnl
        obtain ⟨u, hu, ru, cu, zu⟩ := ll_at HL.out.1 hpn
        obtain ⟨Au, cq, hue⟩ := row_slice ru
        subst hue
        obtain ⟨m, hm⟩ : ∃ m, ((ls ++ [[]]).getD pn []).length = m := ⟨_, rfl⟩
        have hmb : m ≤ 100000 := by rw [← hm]; exact HLB.out.2 _ (gd_mem hpn)
        rw [hm] at ru cu hu
        have HMU : Hid (((ls ++ [[]]).getD pn []).length = m) := hm
        have hgz : g < w3.heap.size := World.block_lt_of_cell? w3 _ cu
        have hfz : fp < w3.heap.size := World.block_lt_of_cell? w3 _ cfz
        have hbz : b0 ≤ w3.heap.size := by have := HL.out.2.size; have := HB0.out; omega
        have hlB : some g ≠ (Value.slice Au m cq).ownBlock := fun e => row_type HL.out.1.out ru (by decide) (g := g) rfl e.symm
        have hlf : some fp ≠ (Value.slice Au m cq).ownBlock := fun e => by have := (row_ge ru e.symm).1; have := HFPB.out; omega
        clear hm
        go_wp2_with fail
        go_region_law
          (first
            | (refine step_append_lies _ (by rfl) _ _ 29 (by rfl) b0 9 i0 (.string ByteArray.empty) 1 16 Try.underlying29 hi0 hy0 hy1 hy2 (by rfl) (by decide) _ _ _ (by rfl) (ru.alloc _) ⟨w3.heap.size, 0, none⟩ 1 1 [.string ⟨x.toArray⟩] (by rfl) (by rfl) (World.news_of_block (fr := (0, 0)) (t := 9) (cs := #[.string ⟨x.toArray⟩]) (heap_alloc_new _ _)) (fun u hu => by simp at hu; subst hu; rfl) (by decide) (by unfold maxLen; omega) (by omega) (by simp; omega) (w3.heap.size + 1) (by simp) ?_; intro g4 cp4 w4 hown4 hgrow4 hat4 hlt4; (have k4 : w4.cell? ⟨g, pn, none⟩ = some (.slice Au m cq) := hgrow4.cell ((World.cell?_alloc_lt w3 _ ⟨g, pn, none⟩ hgz).trans cu) hlB); (have j4 : w4.cell? ⟨fp, 0, none⟩ = some (.slice (some ⟨gn, 0, none⟩) n cn) := hgrow4.cell ((World.cell?_alloc_lt w3 _ ⟨fp, 0, none⟩ hfz).trans cfz) hlf); (have f4 : w4.frozen? ⟨g, pn, none⟩ = false := (hgrow4.frozen_far ⟨g, pn, none⟩ (by simp; omega) hlB).trans ((World.frozen?_alloc_old w3 _ ⟨g, pn, none⟩ (Nat.ne_of_lt hgz)).trans zu)))
            | (trace_state; fail))
        all_goals obtain ⟨vals', hLc, hbc⟩ := pt_end (x := x) HL.out.1 HL.out.2 hu HMU.out hbz hown4 hgrow4 hat4
        all_goals go_wp2_with fail
        all_goals go_roundw
        all_goals first | exact ⟨k + 1, vals', _, by omega, by go_num, ⟨hLc, hbc⟩, HWB.out, HLNA.out⟩ | (simp [intOf]; omega)
      · rw [if_neg hvl] at hW
        have hve : (v == (ls.length : Int)) = false := by simpa using hvl
        by_cases hpv : 0 ≤ v ∧ v.toNat < ls.length
        · rw [if_pos hpv] at hW
          obtain ⟨pn, hpe⟩ : ∃ pn : Nat, v = (pn : Int) := ⟨v.toNat, by omega⟩
          subst hpe
          have hpn : pn < ls.length := by have := hpv.2; simpa using this
          rw [Int.toNat_natCast] at hW
          obtain ⟨g, cap, hge⟩ := row_some HL0.out.1.out (by have := HL0.out.1.len; omega)
          rw [← HL0.out.1.len] at hge
          cases hge
          obtain ⟨nl, hnl⟩ : ∃ nl, ls.length = nl := ⟨_, rfl⟩
          obtain ⟨wz, hwz⟩ : ∃ wz, wr = wz := ⟨_, rfl⟩
          rw [hnl] at HL0 hve hpn ⊢
          subst hwz
          have HL : Hid (LL wr b0 29 9 1 nmE (.slice (some ⟨g, 0, none⟩) nl cl) vals ls ∧ Below b0 w2 wr) := HL0.out
          have hpi : (pn : Int) < (nl : Int) := by omega
          have hpn : pn < ls.length := by omega
          have cfz : wr.cell? ⟨fp, 0, none⟩ = some (.slice (some ⟨gn, 0, none⟩) n cn) := (HL0.out.2.cell (p := ⟨fp, 0, none⟩) HCN.out.2.1).trans HCN.out.1
          have HLB : Hid (ls.length ≤ k ∧ ∀ l ∈ ls, l.length ≤ 100000) := ⟨HLB0.out.1, fun l hl => by have := HLB0.out.2 l hl; omega⟩
          obtain ⟨u, hu, ru, cu, zu⟩ := ll_at HL.out.1 hpn
          obtain ⟨Au, cq, hue⟩ := row_slice ru
          subst hue
          obtain ⟨m, hm⟩ : ∃ m, (ls.getD pn []).length = m := ⟨_, rfl⟩
          have hmb : m ≤ 100000 := by rw [← hm]; exact HLB.out.2 _ (gd_mem hpn)
          rw [hm] at ru cu hu
          have HMU : Hid ((ls.getD pn []).length = m) := hm
          have hgz : g < wr.heap.size := World.block_lt_of_cell? wr _ cu
          have hfz : fp < wr.heap.size := World.block_lt_of_cell? wr _ cfz
          have hbz : b0 ≤ wr.heap.size := by have := HL.out.2.size; have := HB0.out; omega
          have hlB : some g ≠ (Value.slice Au m cq).ownBlock := fun e => row_type HL.out.1.out ru (by decide) (g := g) rfl e.symm
          have hlf : some fp ≠ (Value.slice Au m cq).ownBlock := fun e => by have := (row_ge ru e.symm).1; have := HFPB.out; omega
          clear hm
          have HWB : Hid (psF (nodes.drop (k + 1)) (st.drop (k + 1)) (ls.set pn (ls.getD pn [] ++ [x])) = some ls0) := hW
          have HLN : Hid ((ls.set pn (ls.getD pn [] ++ [x])).length ≤ k + 1 ∧ ∀ l ∈ ls.set pn (ls.getD pn [] ++ [x]), l.length ≤ k + 1) := ps_fit hpn HLB0.out.1 HLB0.out.2
          clear hW HL0 hpv hvl hnl
          go_wp2_with fail
          go_region_law
            (first
              | (refine step_append_lies _ (by rfl) _ _ 29 (by rfl) b0 9 i0 (.string ByteArray.empty) 1 16 Try.underlying29 hi0 hy0 hy1 hy2 (by rfl) (by decide) _ _ _ (by rfl) (ru.alloc _) ⟨wr.heap.size, 0, none⟩ 1 1 [.string ⟨x.toArray⟩] (by rfl) (by rfl) (World.news_of_block (fr := (0, 0)) (t := 9) (cs := #[.string ⟨x.toArray⟩]) (heap_alloc_new _ _)) (fun u hu => by simp at hu; subst hu; rfl) (by decide) (by unfold maxLen; omega) (by omega) (by simp; omega) (wr.heap.size + 1) (by simp) ?_; intro g4 cp4 w4 hown4 hgrow4 hat4 hlt4; (have k4 : w4.cell? ⟨g, pn, none⟩ = some (.slice Au m cq) := hgrow4.cell ((World.cell?_alloc_lt wr _ ⟨g, pn, none⟩ hgz).trans cu) hlB); (have j4 : w4.cell? ⟨fp, 0, none⟩ = some (.slice (some ⟨gn, 0, none⟩) n cn) := hgrow4.cell ((World.cell?_alloc_lt wr _ ⟨fp, 0, none⟩ hfz).trans cfz) hlf); (have f4 : w4.frozen? ⟨g, pn, none⟩ = false := (hgrow4.frozen_far ⟨g, pn, none⟩ (by simp; omega) hlB).trans ((World.frozen?_alloc_old wr _ ⟨g, pn, none⟩ (Nat.ne_of_lt hgz)).trans zu)))
              | (trace_state; fail))
          all_goals obtain ⟨vals', hLc, hbc⟩ := pt_end (x := x) HL.out.1 HL.out.2 hu HMU.out hbz hown4 hgrow4 hat4
          all_goals go_wp2_with fail
          all_goals go_roundw
          all_goals first | exact ⟨k + 1, vals', _, by omega, by go_num, ⟨hLc, hbc⟩, HWB.out, HLN.out⟩ | (simp [intOf]; omega)
        · rw [if_neg hpv] at hW; cases hW
    · have hkn : k = n := by omega
      subst hkn
      have hkk : ¬ ((k : Int) < (k : Int)) := by omega
      have hls : ls = ls0 := by
        have := HW.out
        rw [List.drop_eq_nil_of_le (by have := HNL.out; omega)] at this
        rw [psF] at this
        exact Option.some.inj this
      subst hls
      clear HW
      go_wp2_with fail
      go_ret
      refine ⟨_, rfl, ⟨vals, ?_⟩, HW2.out.1.trans (HL0.out.2.mono HW2.out.2)⟩
      have hLL := HL0.out.1
      exact ⟨hLL.ty, row_le hLL.out HW2.out.2, hLL.len, fun j u l h1 h2 => row_le (hLL.inn j u l h1 h2) HW2.out.2, hLL.apart⟩

end Go.Proofs.Ytdlecihkjokeiaa
