/-
  Several texts in one: Goh Goi.
-/
import Derived.Test.YtmpkcioeodlbcaaGreatDoorK29
import Derived.Maps.OwnOps
namespace Go.Proofs.YtmpkcioeodlbcaaGreatDoor
open Go.Maps Go.RowKit
set_option linter.unusedVariables false
set_option maxRecDepth 100000
/-- elements taken one by one -/
def growF (f : Nat) (want : Nat → Bool) (nodes : List Nm) : List Elm → Fr_God → Option Fr_God
  | [], F => some F
  | x :: t, F => if want x.k = true then match F.take f (bl x.n) (posL nodes (bl x.a)) (posL nodes (bl x.b)) with
    | none => none
    | some F' => growF f want nodes t F'
    else growF f want nodes t F
/-- a forest of nodes without elements -/
def Fr_God.new (nodes : List Nm) : Fr_God := ⟨nodes, List.replicate nodes.length [], [], []⟩
/-- how great a forest is behind i elements -/
structure Fr_God.fit (F : Fr_God) (n i : Nat) : Prop where
  n : F.tw.length = n
  t : ∀ ts ∈ F.tw, ts.length ≤ 2 * i
  r : F.tr.length ≤ i
  l : F.lp.length ≤ i
theorem Fr_God.fit.new (nodes : List Nm) : (Fr_God.new nodes).fit nodes.length 0 :=
  ⟨by simp [Fr_God.new], fun ts h => by simp [Fr_God.new] at h; rw [h.2]; simp, Nat.le_refl _, Nat.le_refl _⟩
theorem Fr_God.fit.ok {F : Fr_God} {n i : Nat} (h : F.fit n i) (hn : n ≤ 10000) (hi : i ≤ 10000) : F.ok := ⟨by have := h.n; omega, fun ts q => by have := h.t ts q; omega, by have := h.r; omega, by have := h.l; omega⟩
theorem push_fit {tw : List (List Tw)} {a : Nat} {t : Tw} {m : Nat} (h : ∀ ts ∈ tw, ts.length ≤ m) : ∀ ts ∈ pushT tw a t, ts.length ≤ m + 1 := by
  intro ts hts
  unfold pushT at hts
  rcases List.mem_or_eq_of_mem_set hts with q | q
  · have := h ts q; omega
  · rw [q, List.length_append]
    by_cases ha : a < tw.length
    · rw [List.getD_eq_getElem?_getD, List.getElem?_eq_getElem ha]
      have := h _ (List.getElem_mem ha)
      simp; omega
    · rw [List.getD_eq_getElem?_getD, List.getElem?_eq_none (by omega)]; simp
theorem Fr_God.fit.take {F F' : Fr_God} {n i f : Nat} {nm : Nm} {a b : Nat} (h : F.fit n i) (ht : F.take f nm a b = some F') : F'.fit n (i + 1) := by
  unfold Fr_God.take at ht
  have hr := h.r
  have hl := h.l
  split at ht
  · cases ht
  · cases ht
    exact ⟨h.n, fun ts q => by have := h.t ts q; omega, by show F.tr.length ≤ _; omega, by show (F.lp ++ _).length ≤ _; simp; omega⟩
  · cases ht
    refine ⟨by show (pushT (pushT F.tw a _) b _).length = n; unfold pushT; simp [h.n], fun ts q => ?_, by show (F.tr ++ _).length ≤ _; simp; omega, by show F.lp.length ≤ _; omega⟩
    have := push_fit (push_fit h.t) ts q
    omega
theorem Fr_God.fit.mono {F : Fr_God} {n i j : Nat} (h : F.fit n i) (hij : i ≤ j) : F.fit n j := ⟨h.n, fun ts q => by have := h.t ts q; omega, by have := h.r; omega, by have := h.l; omega⟩
def EntG (F : FuncId) : Prop := ∀ (args : Array Value) (w : World), (callFunc F args).run Tryz.prog w = .ok (.enter F args) w
theorem pos_lt {xs : List Nm} {s : Nm} (h : s ∈ xs) : posL xs s < xs.length := by unfold posL; rw [if_pos h]; exact List.idxOf_lt_length_of_mem h
theorem pos_ne {xs : List Nm} {s t : Nm} (h : s ∈ xs) (h2 : t ∈ xs) (hne : s ≠ t) : posL xs s ≠ posL xs t := by
  unfold posL
  rw [if_pos h, if_pos h2]
  intro e
  have h3 := List.getElem_idxOf (List.idxOf_lt_length_of_mem h)
  have h4 := List.getElem_idxOf (List.idxOf_lt_length_of_mem h2)
  apply hne
  rw [← h3, ← h4]
  simp only [e]
/-- what is asked of the elements that are taken -/
structure ElN (nodes : List Nm) (x : Elm) : Prop where
  a : bl x.a ∈ nodes
  b : bl x.b ∈ nodes
  ne : bl x.a ≠ bl x.b
  sn : x.n.size ≤ 100000
  sa : x.a.size ≤ 100000
  sb : x.b.size ≤ 100000
theorem mkmap (h : Int) (w : World) : (Instr.makeMap 62 (some (.int .i64 h))).run Tryz.prog w = .ok (.map (some w.heap.size)) (w.alloc (.map #[] 0)) := by
  have hu := run_underlying Tryz.underlying62
  unfold Instr.makeMap
  simp [hu, go_sem]
/-- while the places are laid: nodes in a row, k of them in the map -/
structure Gp (w wr : World) (qA MB k : Nat) (v : Value) (nodes : List Nm) : Prop where
  row : wr.ownsRow qA 9 1 v nodes.length (nodes.map sv)
  mp : Mp wr MB (nodes.take k)
  lo : qA ≤ MB
  bel : Below qA w wr
theorem Gp.step {w wr w' : World} {qA MB k : Nat} {v : Value} {nodes : List Nm} (h : Gp w wr qA MB k v nodes) (hm : Mp w' MB (nodes.take (k + 1))) (hg : wr.grownBy w' (some MB)) (hq : qA ≤ wr.heap.size) : Gp w w' qA MB (k + 1) v nodes :=
  ⟨row_block h.row fun g hg2 => hg.block g (row_ge h.row hg2).2 (fun e => h.mp.row h.row (by rw [hg2, e])), hm, h.lo, h.bel.trans ⟨hg.os, hg.tape, hg.output, hg.size, fun j hj => hg.block j (by omega) (fun e => by have := h.lo; cases e; omega)⟩⟩
theorem made_rep_Goh (z : Value) (n : Nat) : (madeCells #[z] n).toList = List.replicate n z := by
  apply List.ext_getElem?
  intro i
  simp only [madeCells]
  by_cases h : i < n
  · simp [h, Nat.mod_one]
  · simp [h]
theorem Tryz.infoTS : (Tryz.prog.info? 245).map (fun i => (i.zero, i.size, i.bytes)) = some (some (.slice none 0 0), 1, 24) := by kernel_rfl
/-- a forest begins -/
theorem Fo.start {w w5 : World} {base BL m : Nat} {v : Value} {nodes : List Nm} (hn : nodes.length = m) (hr : w.ownsRow base 9 1 v nodes.length (nodes.map sv)) (ho : w5.ownsRow base 245 1 (.slice (some ⟨BL, 0, none⟩) m m) m (List.replicate m (.slice none 0 0))) (hg : w.grownBy w5 none) (hb : base ≤ w.heap.size) :
    Fo (w5.alloc (.cells #[v, .slice (some ⟨BL, 0, none⟩) m m, .slice none 0 0, .slice none 0 0] 241)) base w5.heap.size (Fr_God.new nodes) ⟨v, BL, .slice none 0 0, .slice none 0 0, List.replicate m (.slice none 0 0), []⟩ := by
  have hl : (Fr_God.new nodes).tw.length = m := by simp [Fr_God.new, hn]
  have hs := hg.size
  refine ⟨?_, by omega, ?_, ?_, World.ownsRow_nil _ _ _ _, LL.nil _ _ (by decide) _ _, (fun g q => by cases q), (fun u q => by cases q)⟩
  · rw [hl]; exact heap_alloc_new _ _
  · exact (hr.kept hg (by cases q : v.ownBlock with | none => exact .inl rfl | some g => exact .inr (by simp))).alloc _
  · rw [hl]
    have hrep : ∀ (j : Nat) (u : Value), (List.replicate m (Value.slice none 0 0))[j]? = some u → u = .slice none 0 0 := fun j u h => (List.getElem?_replicate.symm.trans h |> fun q => by split at q; exact (Option.some.inj q).symm; cases q)
    refine ⟨by decide, by rw [List.length_replicate]; exact ho.alloc _, by rw [hl, List.length_replicate], fun j u l h1 h2 => ?_, fun i j u u' h1 h2 _ g q => ?_⟩
    · rw [hrep j u h1]
      have : l = [] := by
        have h3 : (List.replicate nodes.length ([] : List Tw))[j]? = some l := h2
        rw [List.getElem?_replicate] at h3
        split at h3
        · exact (Option.some.inj h3).symm
        · cases h3
      rw [this]; exact World.ownsRow_nil _ _ _ _
    · rw [hrep i u h1] at q; cases q
theorem take_any_Goh (w : World) (base fp a b f : Nat) (F F2 : Fr_God) (B : Fb) (s : ByteArray) (h : Fo w base fp F B) (hok : F.ok) (hf : f ≤ 10000) (ha : a < F.tw.length) (hb : b < F.tw.length) (hab : a ≠ b) (hr : F.take f (bl s) a b = some F2) (hs : s.size ≤ 100000) :
    Calls Tryz.prog 171 #[.pointer (some ⟨fp, 0, none⟩), .string s, .int .i64 (a : Int), .int .i64 (b : Int)] w fun e w' => e = .returned (.tuple #[]) ∧ (∃ B', Fo w' base fp F2 B') ∧ Below base w w' ∧ Kq w w' := by
  unfold Fr_God.take at hr
  cases q : skF F.tw b f a (-1) with
  | none => rw [q] at hr; cases hr
  | some o =>
    rw [q] at hr
    cases o with
    | none => cases hr; exact take_tree w base fp a b f F B s h hok hf ha hb q hs
    | some way => cases hr; exact take_loop w base fp a b f F B s way h hok hf hab q hs
theorem row_kq {w w' : World} {base : Nat} {v : Value} {n : Nat} {xs : List Value} (h : w.ownsRow base 96 8 v n xs) (hk : Kq w w') : w'.ownsRow base 96 8 v n xs := by
  obtain ⟨h0, h1 | ⟨g, cap, cur, h1, h2, h3, h4⟩⟩ := h
  · exact ⟨h0, .inl h1⟩
  · exact ⟨h0, .inr ⟨g, cap, cur, h1, h2, hk g _ h3 (.inr ⟨_, _, rfl⟩), h4⟩⟩
theorem Mp.kq {w w' : World} {B : Nat} {xs : List (List UInt8)} (h : Mp w B xs) (hk : Kq w w') : Mp w' B xs := by
  obtain ⟨D, ⟨es, clock, h1, h2⟩, h3⟩ := h
  exact ⟨D, ⟨es, clock, hk B _ h1 (.inl ⟨_, _, rfl⟩), h2⟩, h3⟩
/-- while elements are taken -/
structure Gi (w wr : World) (qA MB fp n i : Nat) (nodes : List Nm) (F : Fr_God) (B : Fb) : Prop where
  fo : Fo wr qA fp F B
  mp : Mp wr MB nodes
  bel : Below qA w wr
  fit : F.fit n i
theorem Gi.below {w wr w' : World} {qA MB fp n i : Nat} {nodes : List Nm} {F : Fr_God} {B : Fb} (h : Gi w wr qA MB fp n i nodes F B) (hb : Below wr.heap.size wr w') : Gi w w' qA MB fp n i nodes F B :=
  ⟨h.fo.below hb, h.mp.blk (hb.block MB h.mp.lt), h.bel.trans (hb.mono (by have := h.fo.lo; have := h.fo.lt; omega)), h.fit⟩
theorem e8_row {w : World} {base g cap n : Nat} {l : List Elm} (h : w.ownsRow base 96 8 (.slice (some ⟨g, 0, none⟩) n cap) n (elCs l)) {i : Nat} {x : Elm} (hx : l[i]? = some x) (hi : i < n) : E8 w g (i * 8) x := by
  have hc : ∀ c v, c < 8 → (elC x)[c]? = some v → w.cell? ⟨g, i * 8 + c, none⟩ = some v := fun c v h1 h2 => by rw [h.cellAt (i * 8 + c) (by omega), elCs_get hx h1]; exact h2
  exact ⟨hc 0 _ (by omega) rfl, hc 1 _ (by omega) rfl, hc 2 _ (by omega) rfl, hc 3 _ (by omega) rfl, hc 4 _ (by omega) rfl, hc 5 _ (by omega) rfl, hc 6 _ (by omega) rfl, hc 7 _ (by omega) rfl⟩
set_option maxHeartbeats 4000000 in
theorem grow_any (K : FuncId) (want : Nat → Bool) (hE : EntG K) (hK : ∀ (k : Nat) (W : World), Calls Tryz.prog K #[.int .u8 (k : Int)] W fun e w' => e = .returned (.bool (want k)) ∧ w' = W)
    (w : World) (b0 p f : Nat) (N : Ns) (b : Nb) (F' : Fr_God) (h : Nt w b0 p N b) (hnm : [] ∉ N.nm) (hnd : ([48] :: N.nd).Nodup) (hn1 : N.nd.length ≤ 1000) (hne : N.es.length ≤ 1000) (hel : ∀ x ∈ N.es, ElN ([48] :: N.nd) x) (hf : f ≤ 10000) (hg : growF f want ([48] :: N.nd) N.es (Fr_God.new ([48] :: N.nd)) = some F') (hs8 : ∀ s ∈ N.nd, s.length ≤ 100000) :
    Calls Tryz.prog 131 #[.pointer (some ⟨p, 0, none⟩), .func (.func K) #[] #[]] w fun e w' => ∃ fp B', e = .returned (.tuple #[.pointer (some ⟨fp, 0, none⟩), .bool true]) ∧ Fo w' w.heap.size fp F' B' ∧ Below w.heap.size w w' := by
  have hwo := without_no h hnm
  have HNT : Hid _ := h
  have HK : Hid (∀ (k : Nat) (W : World), Calls Tryz.prog K #[.int .u8 (k : Int)] W fun e w' => e = .returned (.bool (want k)) ∧ w' = W) := hK
  have HEL : Hid _ := hel
  have HG : Hid _ := hg
  have HND : Hid _ := hnd
  have HS8 : Hid (∀ s ∈ N.nd, s.length ≤ 100000) := hs8
  clear h hK hel hg hnd hs8
  unfold EntG at hE
  obtain ⟨i0, hi0, hy0, hy1, hy2⟩ := info_parts Tryz.infoS
  have hbp : b0 ≤ w.heap.size := HNT.out.hi
  obtain ⟨wA, hwA⟩ : ∃ wA, w.alloc (.cells #[.string ⟨#[48]⟩] 9) = wA := ⟨_, rfl⟩
  obtain ⟨qA, hqA⟩ : ∃ qA, w.heap.size = qA := ⟨_, rfl⟩
  have bA : Below qA w wA := by rw [← hwA]; exact (Below.refl _ _).alloc (by omega) _
  have sA : wA.heap.size = qA + 1 := by rw [← hwA, ← hqA]; simp
  have hnod := nodes_made (HNT.out.below (by rw [hqA]; exact bA)) (by omega)
  have HSA : Hid (wA.heap.size = qA + 1 ∧ Below qA w wA ∧ wA.heap[qA]? = some (.cells #[.string ⟨#[48]⟩] 9 (0, 0))) := ⟨sA, bA, by rw [← hwA, ← hqA]; exact heap_alloc_new _ _⟩
  clear bA sA
  have hmk := mkmap
  obtain ⟨n, hn⟩ : ∃ n, N.nd.length = n := ⟨_, rfl⟩
  rw [hn] at hnod
  have HN : Hid (N.nd.length = n) := hn
  have hn1' : n ≤ 1000 := by omega
  clear hn
  go_enter Tryz.func131, Tryz.ntmps131
  go_upto_region 4 with (first | (go_at_call 92; (with_reducible refine hwo.mono ?_); rintro e1 w1 ⟨rfl, hw1⟩; (have hw2 := hw1.symm); clear hw1; subst hw2))
  clear hmk
  go_cut [8] (fun v wc => ∃ g3 cp3, v = .slice (some ⟨g3, 0, none⟩) (1 + n) cp3 ∧ wc.ownsRow qA 9 1 (.slice (some ⟨g3, 0, none⟩) (1 + n) cp3) (1 + n) ([.string ⟨#[48]⟩] ++ N.nd.map sv) ∧ Below qA w wc ∧ qA + 1 ≤ wc.heap.size)
  case first =>
    go_wp2_with fail
    refine hnod.mono ?_
    rintro e2 w2 ⟨v2, rfl, ho2, hb2⟩
    have rowA : w2.ownsRow qA 9 1 (.slice (some ⟨qA, 0, none⟩) 1 1) 1 [.string ⟨#[48]⟩] := ⟨rfl, .inr ⟨qA, 1, #[.string ⟨#[48]⟩], rfl, Nat.le_refl _, by rw [hb2.block qA (by have := HSA.out.1; omega)]; exact HSA.out.2.2, by decide, by decide, rfl, rfl⟩⟩
    have hs2 : qA + 1 ≤ w2.heap.size := by have := hb2.size; have := HSA.out.1; omega
    have HB2 : Hid (Below qA w w2) := HSA.out.2.1.trans (hb2.mono (by have := HSA.out.1; omega))
    by_cases hn0 : n = 0
    · subst hn0
      have hnil : N.nd = [] := List.length_eq_zero_iff.1 HN.out
      obtain ⟨A2, c2, hv2⟩ : ∃ A cap, v2 = .slice A 0 cap := row_slice ho2
      subst hv2
      clear ho2 hb2 hwA
      cases A2 with
      | none =>
        go_wp2_with fail
        go_meet
        exact ⟨qA, 1, rfl, by rw [hnil]; exact rowA, HB2.out, hs2⟩
      | some A2 =>
        go_wp2_with fail
        go_meet
        exact ⟨qA, 1, rfl, by rw [hnil]; exact rowA, HB2.out, hs2⟩
    · have hn0 : 0 < n := by omega
      obtain ⟨gn, cn, rfl⟩ := row_some ho2 hn0
      have HcW : Hid (∀ j u, (N.nd.map sv)[j]? = some u → w2.cell? ((⟨gn, 0, none⟩ : Addr).add j) = some u) := fun j u hj => ho2.cells (g := gn) rfl j u hj
      have HML : Hid ((N.nd.map sv).length = n * 1 ∧ ∀ u ∈ N.nd.map sv, u.oneCell' = true) := ⟨by simp [HN.out], fun u hu => by obtain ⟨x, _, rfl⟩ := List.mem_map.1 hu; rfl⟩
      clear ho2 hb2 hwA
      go_wp2_with (at_builtin; refine wpList_append_lies _ (by rfl) _ _ 61 (by rfl) qA 9 i0 (.string ByteArray.empty) 1 16 Tryz.underlying61 hi0 hy0 hy1 hy2 (by rfl) (by decide) _ _ _ (by rfl) rowA ⟨gn, 0, none⟩ n cn (N.nd.map sv) (by rfl) HML.out.1 HcW.out HML.out.2 hn0 (by unfold maxLen; omega) (by omega) (by omega) w2.heap.size rfl ?_; intro g3 cp3 w3 hown3 hgrow3 hat3 hlt3)
      go_meet
      exact ⟨g3, cp3, rfl, hown3, HB2.out.trans ⟨hgrow3.os, hgrow3.tape, hgrow3.output, hgrow3.size, fun k hk => hgrow3.block k (by omega) (fun e => by have e2 : k = qA := Option.some.inj e; omega)⟩, by have := hgrow3.size; omega⟩
  obtain ⟨g3, cp3, hv3, hown3, HB3a, hs3⟩ := hcut
  obtain ⟨w3, hw3⟩ : ∃ w3, wc = w3 := ⟨_, rfl⟩
  subst hw3
  have HB3 : Hid (Below qA w wc) := HB3a
  subst hv3
  have hmk := mkmap
  clear hwo hnod hwA HB3a
  obtain ⟨m, hm⟩ : ∃ m, 1 + n = m := ⟨_, rfl⟩
  have hmi : (1 : Int) + (n : Int) = (m : Int) := by omega
  have hm1 : m ≤ 1001 := by omega
  go_wp2_with fail
  have HNN : Hid (([48] :: N.nd).length = n + 1) := by show N.nd.length + 1 = n + 1; rw [HN.out]
  obtain ⟨nodes, hnodes⟩ : ∃ nodes, [48] :: N.nd = nodes := ⟨_, rfl⟩
  have hown4 : wc.ownsRow qA 9 1 (.slice (some ⟨g3, 0, none⟩) (1 + n) cp3) (1 + n) (nodes.map sv) := by rw [← hnodes]; exact hown3
  rw [hnodes] at HNN HND HEL HG
  have HS9 : Hid (∀ s ∈ nodes, s.length ≤ 100000) := by
    rw [← hnodes]
    intro s hs
    rcases List.mem_cons.1 hs with rfl | q
    · decide
    · exact HS8.out s q
  rw [hm] at hown4
  have HM : Hid (nodes.length = m ∧ m ≤ 1001 ∧ 0 < m) := ⟨by rw [HNN.out]; omega, by omega, by omega⟩
  obtain ⟨w4, hw4⟩ : ∃ w4, wc.alloc (.map #[] 0) = w4 := ⟨_, rfl⟩
  obtain ⟨MB, hMB⟩ : ∃ MB, wc.heap.size = MB := ⟨_, rfl⟩
  have G0 : Hid (Gp w w4 qA MB 0 (.slice (some ⟨g3, 0, none⟩) m cp3) nodes ∧ qA ≤ w4.heap.size) := by
    rw [← hw4, ← hMB]
    refine ⟨⟨by rw [HM.out.1]; exact hown4.alloc _, ⟨_, World.ownsMap_made wc Tryz.prog 9 (plainElem Tryz.prog 3), MdOk.empty⟩, by omega, HB3.out.alloc (by omega) _⟩, by simp; omega⟩
  clear hown3 hown4 hnodes hi0 hy0 hy1 hy2 HNN hs3
  rw [hw4, hMB]
  try rw [hm]
  clear hmk hw4 hMB hmi hm
  go_loopw [31] (fun iv wr => ∃ (k : Nat), k ≤ m ∧ iv = .int .i64 k ∧ Hid (Gp w wr qA MB k (.slice (some ⟨g3, 0, none⟩) m cp3) nodes ∧ qA ≤ wr.heap.size)) (fun iv _ => m - (intOf iv).toNat)
  case atStart => exact ⟨0, Nat.zero_le _, rfl, G0⟩
  case round =>
    obtain ⟨k, hle, rfl, HGp⟩ := hrel
    clear G0
    by_cases hp4 : k < m
    · have hpk : (k : Int) < (m : Int) := by omega
      obtain ⟨x, hx⟩ : ∃ x, nodes[k]? = some x := ⟨_, List.getElem?_eq_getElem (by have := HM.out.1; omega)⟩
      have hxc : wr.cell? ⟨g3, k, none⟩ = some (.string ⟨x.toArray⟩) := by
        have h1 := HGp.out.1.row
        rw [HM.out.1] at h1
        rw [h1.cellAt k (by omega), List.getElem?_map, hx]; rfl
      obtain ⟨D, hown, hD⟩ := HGp.out.1.mp
      have hkey := key_s x (HS9.out x (List.mem_of_getElem? hx))
      have htl : (nodes.take k).length = k := by rw [List.length_take, HM.out.1]; omega
      rw [htl] at hown
      have hnx : x ∉ nodes.take k := by
        intro hmem
        obtain ⟨j, hj⟩ := List.mem_iff_getElem?.1 hmem
        have hjk : j < k := by have := (List.getElem?_eq_some_iff.1 hj).1; rw [htl] at this; exact this
        rw [List.getElem?_take, if_pos hjk] at hj
        have h1 := (List.getElem?_eq_some_iff.1 hj)
        have h2 := (List.getElem?_eq_some_iff.1 hx)
        have h3 := (List.pairwise_iff_getElem.1 HND.out) j k h1.1 h2.1 hjk
        exact h3 (by rw [h1.2, h2.2])
      have HD : Hid (MdOk (D.put (kyS x) (.lit (.int .i64 k))) (nodes.take (k + 1))) := by
        have h1 := hD.push hnx
        rw [htl] at h1
        rw [List.take_add_one, hx]; exact h1
      clear hnx hx
      go_wp2_with (at_mapUpdate; refine wpList_mapUpdate_own _ rfl _ _ _ 62 rfl 9 3 lawS Tryz.underlying62 (plainElem Tryz.prog 3) MB k D rfl hown (by unfold maxLen; omega) _ _ _ rfl rfl hkey _ _ (plainElem_int (H := Unit) Tryz.underlying3 (a := (k : Int)) (WalkArith.wf_i64 (by omega))) ?_; intro w5 ho5 hg5)
      go_roundw
      case rel => exact ⟨k + 1, by omega, by go_num, HGp.out.1.step ⟨_, by rw [List.length_take, HM.out.1, Nat.min_eq_left (by omega)]; exact ho5, HD.out⟩ hg5 HGp.out.2, by have := hg5.size; have := HGp.out.2; omega⟩
      case measure => simp [intOf]; omega
    · have hkm : k = m := by omega
      subst hkm
      have hkk : ¬ ((k : Int) < (k : Int)) := by omega
      have HGQ : Hid (Gp w wr qA MB k (.slice (some ⟨g3, 0, none⟩) k cp3) nodes ∧ qA ≤ wr.heap.size) := HGp.out
      clear HGp
      obtain ⟨j0, hj0, hx0, hx1, hx2⟩ := info_parts Tryz.infoTS
      go_wp2_with (at_make; (refine wpList_make_full _ rfl _ _ 238 rfl qA 245 j0 (.slice none 0 0) 1 Tryz.underlying238 hj0 hx0 hx1 _ _ _ _ k rfl rfl rfl rfl (by rw [hx2]; omega) (by unfold maxLen; omega) HGQ.out.2 ?_); intro w5 hown5 hgrow5)
      rw [show (madeCells (Value.slice none 0 0).cells (k * 1)).toList = List.replicate k (.slice none 0 0) from by rw [Nat.mul_one]; exact made_rep_Goh _ _] at hown5
      have hF6 := Fo.start HM.out.1 HGQ.out.1.row hown5 hgrow5 HGQ.out.2
      have hM5 : Mp w5 MB nodes := by
        have h1 := HGQ.out.1.mp
        rw [← HM.out.1, List.take_length] at h1
        exact h1.blk (hgrow5.block MB h1.lt (by simp))
      obtain ⟨w6, hw6⟩ : ∃ w6, w5.alloc (.cells #[.slice (some ⟨g3, 0, none⟩) k cp3, .slice (some ⟨wr.heap.size, 0, none⟩) k k, .slice none 0 0, .slice none 0 0] 241) = w6 := ⟨_, rfl⟩
      obtain ⟨fp, hfp⟩ : ∃ fp, w5.heap.size = fp := ⟨_, rfl⟩
      rw [hw6, hfp] at hF6
      have hb5 : Below qA w w5 := HGQ.out.1.bel.trans ⟨hgrow5.os, hgrow5.tape, hgrow5.output, hgrow5.size, fun j hj => hgrow5.block j (by have := HGQ.out.2; omega) (by simp)⟩
      have hb6 : Below qA w w6 := by rw [← hw6]; exact hb5.alloc (by have := HGQ.out.2; have := hgrow5.size; omega) _
      have hM6 : Mp w6 MB nodes := hM5.blk (by rw [← hw6, Below.heap_alloc _ _ _ hM5.lt])
      have hels := elements_made (HNT.out.below (by rw [hqA]; exact hb6)) (by omega)
      have HI : Hid (Gi w w6 qA MB fp k 0 nodes (Fr_God.new nodes) _) := ⟨hF6, hM6, hb6, by have := Fr_God.fit.new nodes; rw [HM.out.1] at this; exact this⟩
      clear hown5 hgrow5 hF6 hM5 hb5 hb6 hM6 HGQ hj0 hx0 hx1 hx2 hle hp4
      go_wp2_with fail
      rw [hw6, hfp]
      refine hels.mono ?_
      rintro e7 w7 ⟨ve, rfl, ho7, hb7⟩
      have HI7 : Hid _ := HI.out.below hb7
      obtain ⟨Ae, ce, rfl⟩ := row_slice ho7
      obtain ⟨ne, hne2⟩ : ∃ ne, N.es.length = ne := ⟨_, rfl⟩
      obtain ⟨es, hes⟩ : ∃ es, N.es = es := ⟨_, rfl⟩
      obtain ⟨b6, hb6⟩ : ∃ b6, w6.heap.size = b6 := ⟨_, rfl⟩
      rw [hes, hb6] at ho7
      rw [hes] at HG HEL
      have hne3 : es.length = ne := by rw [← hes]; exact hne2
      rw [hne3] at ho7
      rw [hne2] at hne ⊢
      have HR7 : Hid (w7.ownsRow b6 96 8 (.slice Ae ne ce) ne (elCs es)) := ho7
      have HNE : Hid (es.length = ne) := hne3
      clear ho7 hb7 hels HI hes hne2 hne3 hw6 hfp hb6 hkk
      go_wp2_with fail
      go_loopw [49] (fun iv wr => ∃ (i : Nat) (F : Fr_God) (B : Fb), i ≤ ne ∧ iv = .int .i64 i ∧ Hid (Gi w wr qA MB fp k i nodes F B) ∧ Hid (wr.ownsRow b6 96 8 (.slice Ae ne ce) ne (elCs es)) ∧ Hid (growF f want nodes (es.drop i) F = some F')) (fun iv _ => ne - (intOf iv).toNat)
      case atStart => exact ⟨0, _, _, Nat.zero_le _, rfl, HI7, HR7, HG.out⟩
      case round =>
        obtain ⟨i, F, B, hle, rfl, HI, HR, HW⟩ := hrel
        clear HI7 HR7 HG
        by_cases hp4 : i < ne
        · have hpi : (i : Int) < (ne : Int) := by omega
          obtain ⟨x, hx⟩ : ∃ x, es[i]? = some x := ⟨_, List.getElem?_eq_getElem (by have := HNE.out; omega)⟩
          obtain ⟨ge, ce2, hve⟩ := row_some HR.out (by omega)
          rw [hve] at HR ⊢
          obtain ⟨c0, c1, c2, c3, c4, c5, c6, c7⟩ := e8_row HR.out hx hp4
          have HX : Hid (ElN nodes x) := HEL.out x (List.mem_of_getElem? hx)
          have hdr : es.drop i = x :: es.drop (i + 1) := (List.drop_eq_getElem_cons (by have := HNE.out; omega)).trans (by rw [(List.getElem?_eq_some_iff.1 hx).2])
          have hW := HW.out
          rw [hdr] at hW
          obtain ⟨we, hwe⟩ : ∃ we, wr.alloc (.cells #[.int .u8 (x.k : Int), .string x.n, .string x.a, .string x.b, .string x.c, .string x.d, .float .f64 x.v, .int .i64 x.ph] 96) = we := ⟨_, rfl⟩
          obtain ⟨q, hq⟩ : ∃ q, wr.heap.size = q := ⟨_, rfl⟩
          have BE : Below wr.heap.size wr we := by rw [← hwe]; exact (Below.refl _ _).alloc (Nat.le_refl _) _
          have HIE : Hid (Gi w we qA MB fp k i nodes F B ∧ we.ownsRow b6 96 8 (.slice Ae ne ce) ne (elCs es)) := ⟨HI.out.below BE, by rw [hve]; exact row_block HR.out fun g hg => BE.block g (row_ge HR.out hg).2⟩
          have hqe : we.heap[q]? = some (.cells (elA x) 96 (0, 0)) := by rw [← hwe, ← hq]; exact heap_alloc_new _ _
          obtain ⟨⟨d0, d1, d2, d3, d4, d5, d6, d7⟩, _⟩ := eight hqe
          have HVE : Hid (.slice Ae ne ce = (.slice (some ⟨ge, 0, none⟩) ne ce2 : Value)) := hve
          clear BE HI HR HW hdr hve hqe hx
          go_wp2_with fail
          refine (HK.out x.k we).mono ?_
          rintro e8 w8 ⟨rfl, hw8⟩
          have hw9 := hw8.symm
          clear hw8
          subst hw9
          clear hwe hq c0 c1 c2 c3 c4 c5 c6 c7
          cases hwt : want x.k with
          | false =>
            rw [growF, if_neg (by rw [hwt]; decide)] at hW
            have HW2 : Hid (growF f want nodes (es.drop (i + 1)) F = some F') := hW
            clear hW
            go_wp2_with fail
            go_roundw
            case rel => exact ⟨i + 1, F, B, by omega, by go_num, ⟨HIE.out.1.fo, HIE.out.1.mp, HIE.out.1.bel, HIE.out.1.fit.mono (by omega)⟩, by have := HIE.out.2; rw [HVE.out] at this; exact this, HW2.out⟩
            case measure => simp [intOf]; omega
          | true =>
            rw [growF, if_pos hwt] at hW
            cases htk : F.take f (bl x.n) (posL nodes (bl x.a)) (posL nodes (bl x.b)) with
            | none => rw [htk] at hW; cases hW
            | some F2 =>
              rw [htk] at hW
              have HW2 : Hid (growF f want nodes (es.drop (i + 1)) F2 = some F') := hW
              have hla := pos_lt HX.out.a
              have hlb := pos_lt HX.out.b
              have hab := pos_ne HX.out.a HX.out.b HX.out.ne
              have hnk := HIE.out.1.fit.n
              rw [HM.out.1] at hla hlb
              have htake := take_any_Goh we qA fp (posL nodes (bl x.a)) (posL nodes (bl x.b)) f F F2 B x.n HIE.out.1.fo (HIE.out.1.fit.ok (by omega) (by omega)) hf (by omega) (by omega) hab htk HX.out.sn
              have HFT : Hid (F2.fit k (i + 1)) := HIE.out.1.fit.take htk
              obtain ⟨D, hown, hD⟩ := HIE.out.1.mp
              have hkA : keyOf Tryz.prog 9 (.string x.a) = some (kyS (bl x.a)) := key_s (bl x.a) HX.out.sa
              have hkB : keyOf Tryz.prog 9 (.string x.b) = some (kyS (bl x.b)) := key_s (bl x.b) HX.out.sb
              have HDA : Hid (∀ c, D.atKey (kyS (bl x.a)) (.lit (.int .i64 0)) = .lit (.int .i64 c) → c = ((posL nodes (bl x.a) : Nat) : Int)) := fun c hc => by rw [hD.ak] at hc; exact (Lit.int.inj (DataW.lit.inj hc)).2.symm
              have HDB : Hid (∀ c, D.atKey (kyS (bl x.b)) (.lit (.int .i64 0)) = .lit (.int .i64 c) → c = ((posL nodes (bl x.b) : Nat) : Int)) := fun c hc => by rw [hD.ak] at hc; exact (Lit.int.inj (DataW.lit.inj hc)).2.symm
              clear hW htk hla hlb hab hnk hD
              go_wp2_with (first
                | (at_lookup; refine wpList_lookup_own_int _ rfl _ _ 62 rfl 9 3 .i64 lawS Tryz.underlying62 Tryz.underlying3 (zeroI _) MB nodes.length D rfl hown (.string x.a) _ rfl hkA ?_; intro cA hatA hwA; (have eA := HDA.out cA hatA); clear hatA hwA; subst eA)
                | (at_lookup; refine wpList_lookup_own_int _ rfl _ _ 62 rfl 9 3 .i64 lawS Tryz.underlying62 Tryz.underlying3 (zeroI _) MB nodes.length D rfl hown (.string x.b) _ rfl hkB ?_; intro cB hatB hwB; (have eB := HDB.out cB hatB); clear hatB hwB; subst eB)
                | (go_at_call 171; (with_reducible refine htake.mono ?_); rintro e9 w9 ⟨rfl, ⟨B9, hF9⟩, hb9, hk9⟩))
              go_roundw
              case rel => exact ⟨i + 1, F2, B9, by omega, by go_num, ⟨hF9, HIE.out.1.mp.kq hk9, HIE.out.1.bel.trans hb9, HFT.out⟩, row_kq (by have := HIE.out.2; rw [HVE.out] at this; exact this) hk9, HW2.out⟩
              case measure => simp [intOf]; omega
        · have hin : i = ne := by omega
          subst hin
          have hii : ¬ ((i : Int) < (i : Int)) := by omega
          have hFF : F = F' := by
            have := HW.out
            rw [List.drop_eq_nil_of_le (by have := HNE.out; omega)] at this
            exact Option.some.inj this
          subst hFF
          clear HW HR
          go_wp2_with fail
          go_ret2
          exact ⟨fp, rfl, ⟨B, HI.out.fo⟩, HI.out.bel⟩

end Go.Proofs.YtmpkcioeodlbcaaGreatDoor
namespace Go.Proofs.YtmpkcioeodlbcaaGreatDoor
open Go.Maps Go.RowKit
set_option linter.unusedVariables false
set_option maxRecDepth 100000
def wJ (k : Nat) : Bool := k == 1 || k == 2 || k == 3 || k == 5 || k == 7 || k == 8
theorem retB {a b : Bool} (h : a = b) : Ending.returned (.bool a) = .returned (.bool b) := by rw [h]
theorem joins_any (k : Nat) (W : World) : Calls Tryz.prog 132 #[.int .u8 (k : Int)] W fun e w' => e = .returned (.bool (wJ k)) ∧ w' = W := by
  go_enter Tryz.func132, Tryz.ntmps132
  go_wp2_with fail
  all_goals go_ret
  all_goals refine ⟨retB ?_, rfl⟩
  all_goals (unfold wJ; simp_all; try omega)
theorem ent_joins : EntG 132 := fun _ _ => by go_simp
/-- what is asked of a net that graph looks at; F: the forest of the elements that are wanted -/
structure Gn (w : World) (p f : Nat) (N : Ns) (want : Nat → Bool) (F : Fr_God) : Prop where
  nt : ∃ b0 b, Nt w b0 p N b
  nm : [] ∉ N.nm
  nd : ([48] :: N.nd).Nodup
  n1 : N.nd.length ≤ 1000
  ne : N.es.length ≤ 1000
  el : ∀ x ∈ N.es, ElN ([48] :: N.nd) x
  fu : f ≤ 10000
  g : growF f want ([48] :: N.nd) N.es (Fr_God.new ([48] :: N.nd)) = some F
  s : ∀ s ∈ N.nd, s.length ≤ 100000
theorem growF_fit {f : Nat} {want : Nat → Bool} {nodes : List Nm} {n : Nat} : ∀ {es : List Elm} {F F' : Fr_God} {i : Nat}, F.fit n i → growF f want nodes es F = some F' → F'.fit n (i + es.length) := by
  intro es
  induction es with
  | nil => intro F F' i h hg; cases hg; exact h
  | cons x t ih =>
    intro F F' i h hg
    rw [growF] at hg
    split at hg
    · cases q : F.take f (bl x.n) (posL nodes (bl x.a)) (posL nodes (bl x.b)) with
      | none => rw [q] at hg; cases hg
      | some F2 =>
        rw [q] at hg
        have := ih (h.take q) hg
        rw [List.length_cons, show i + (t.length + 1) = i + 1 + t.length by omega]; exact this
    · have := ih (h.mono (show i ≤ i + 1 by omega)) hg
      rw [List.length_cons, show i + (t.length + 1) = i + 1 + t.length by omega]; exact this
theorem Gn.fit {w : World} {p f : Nat} {N : Ns} {want : Nat → Bool} {F : Fr_God} (h : Gn w p f N want F) : F.fit (N.nd.length + 1) N.es.length := by
  have := growF_fit (Fr_God.fit.new ([48] :: N.nd)) h.g
  rw [Nat.zero_add] at this; exact this
theorem Gn.below {w w' : World} {p f : Nat} {N : Ns} {want : Nat → Bool} {F : Fr_God} (h : Gn w p f N want F) (hb : Below w.heap.size w w') : Gn w' p f N want F := by
  obtain ⟨b0, b, h1⟩ := h.nt
  exact ⟨⟨b0, b, h1.below hb⟩, h.nm, h.nd, h.n1, h.ne, h.el, h.fu, h.g, h.s⟩
theorem grow_j {w : World} {p f : Nat} {N : Ns} {F : Fr_God} (h : Gn w p f N wJ F) : Calls Tryz.prog 131 #[.pointer (some ⟨p, 0, none⟩), .func (.func 132) #[] #[]] w fun e w' => ∃ fp B', e = .returned (.tuple #[.pointer (some ⟨fp, 0, none⟩), .bool true]) ∧ Fo w' w.heap.size fp F B' ∧ Below w.heap.size w w' := by
  obtain ⟨b0, b, hN⟩ := h.nt
  exact grow_any _ _ ent_joins joins_any w b0 p f N b F hN h.nm h.nd h.n1 h.ne h.el h.fu h.g h.s
end Go.Proofs.YtmpkcioeodlbcaaGreatDoor
