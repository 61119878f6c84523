/-
  Words: the texts of lists of words, as the statements' texts hands them back.
-/
import Derived.Test.YtpfdgibgdehcdaaDoorTba
import Derived.Test.YtpfdgibgdehcdaaDoorTbb
import Derived.Test.YtpfdgibgdehcdaaDoorTkg
namespace Go.Proofs.YtpfdgibgdehcdaaDoor
open RowKit Joins Deep
set_option linter.unusedVariables false

theorem Tryd.infoStrs : (Tryd.prog.info? 51).map (fun i => (i.zero, i.size, i.bytes)) = some (some (.slice none 0 0), 1, 24) := by kernel_rfl
theorem RdS.of {w : World} {base : Nat} {v : Value} {ts : List ByteArray} (h : w.ownsRow base 9 1 v ts.length (ts.map Value.string)) (hl : ts.length ≤ 4611686018427387904) : RdS w v ts := by
  refine ⟨hl, ?_⟩
  rcases ownsRow_forms h with ⟨rfl, h0⟩ | ⟨g, cap, rfl⟩
  · rw [h0]; exact ⟨none, 0, rfl, .inl (List.length_eq_zero_iff.1 h0)⟩
  · refine ⟨_, cap, rfl, .inr ⟨g, rfl, fun k p hk => ?_⟩⟩
    have hlt := (List.getElem?_eq_some_iff.1 hk).1
    rw [h.cellAt _ (by omega), List.getElem?_map, hk]; rfl
/-- what is known while texts goes on -/
structure Txv (w wr : World) (v0 : Value) (n : Nat) (ls : List (List Tok)) : Prop where
  bel : Below w.heap.size w wr
  out : ∃ us : List Value, us.length = n ∧ wr.ownsRow w.heap.size 51 1 v0 n us ∧ ∀ (k : Nat) (u : Value), us[k]? = some u → ∃ ts : List Tok, ls[k]? = some ts ∧ wr.ownsRow w.heap.size 9 1 u (ts.map (·.1)).length ((ts.map (·.1)).map Value.string)
theorem Txv.below {w wr w' : World} {v0 : Value} {n : Nat} {ls : List (List Tok)} (h : Txv w wr v0 n ls) (hb : Below wr.heap.size wr w') : Txv w w' v0 n ls := by
  obtain ⟨us, h1, h2, h3⟩ := h.out
  exact ⟨h.bel.trans (hb.mono h.bel.size), us, h1, own_below h2 hb, fun k u hu => (h3 k u hu).imp fun t q => ⟨q.1, own_below q.2 hb⟩⟩
theorem Txv.push {w wr w2 : World} {v0 v' u : Value} {n : Nat} {ls : List (List Tok)} {ts : List Tok} (h : Txv w wr v0 n ls) (ht : ls[n]? = some ts) {us : List Value} (h1 : us.length = n) (h2 : wr.ownsRow w.heap.size 51 1 v0 n us)
    (h3 : ∀ (k : Nat) (u : Value), us[k]? = some u → ∃ ts : List Tok, ls[k]? = some ts ∧ wr.ownsRow w.heap.size 9 1 u (ts.map (·.1)).length ((ts.map (·.1)).map Value.string))
    (hu : wr.ownsRow w.heap.size 9 1 u (ts.map (·.1)).length ((ts.map (·.1)).map Value.string)) (hg : wr.grownBy w2 v0.ownBlock) (ho : w2.ownsRow w.heap.size 51 1 v' (n + 1) (us ++ [u])) : Txv w w2 v' (n + 1) ls := by
  have hb0 : ∀ g, v0.ownBlock = some g → w.heap.size ≤ g := fun g e => (h2.lt g e).1
  refine ⟨h.bel.trans ⟨hg.os, hg.tape, hg.output, by have := hg.size; have := h.bel.size; omega, fun k hk => hg.block k (by have := h.bel.size; omega) (fun e => by have := hb0 k e.symm; omega)⟩, us ++ [u], by simp [h1], ho, ?_⟩
  intro k x hx
  rcases Nat.lt_or_ge k n with q | q
  · rw [List.getElem?_append_left (by omega)] at hx
    obtain ⟨t', q1, q2⟩ := h3 k x hx
    exact ⟨t', q1, q2.kept hg (own_ne q2 h2 (by decide))⟩
  · rw [List.getElem?_append_right (by omega)] at hx
    have hk : k = n := by
      have := (List.getElem?_eq_some_iff.1 hx).1
      simp at this; omega
    subst hk
    rw [h1, Nat.sub_self] at hx
    cases hx
    exact ⟨ts, ht, hu.kept hg (own_ne hu h2 (by decide))⟩
theorem Txv.reads {w wr : World} {v0 : Value} {ls : List (List Tok)} (h : Txv w wr v0 ls.length ls) (hl : ls.length ≤ 70000) (hl2 : ∀ l ∈ ls, l.length ≤ 70000) : RdSL wr v0 (txs ls) := by
  obtain ⟨us, h1, h2, h3⟩ := h.out
  have e : (txs ls).length = ls.length := by unfold txs; simp
  refine ⟨by omega, ?_⟩
  rw [e]
  rcases ownsRow_forms h2 with ⟨rfl, h0⟩ | ⟨g, cap, rfl⟩
  · rw [h0]; exact ⟨none, 0, rfl, .inl (List.length_eq_zero_iff.1 (by rw [e]; exact h0))⟩
  · refine ⟨_, cap, rfl, .inr ⟨g, rfl, fun k l hk => ?_⟩⟩
    have hlt := (List.getElem?_eq_some_iff.1 hk).1
    rw [e] at hlt
    obtain ⟨u, hu⟩ : ∃ u, us[k]? = some u := ⟨_, List.getElem?_eq_getElem (by omega)⟩
    obtain ⟨ts, q1, q2⟩ := h3 k u hu
    unfold txs at hk
    rw [List.getElem?_map, q1] at hk
    cases hk
    exact ⟨u, by rw [h2.cellAt _ (by omega)]; exact hu, RdS.of q2 (by have := hl2 ts (List.mem_of_getElem? q1); simp; omega)⟩

/-- the first k texts, as cells -/
def txk (ts : List Tok) (k : Nat) : List Value := ((ts.take k).map (·.1)).map Value.string

/-- a slice has room for all that it holds -/
def CapOk : Value → Prop
  | .slice _ n c => n ≤ c
  | _ => False
theorem own_cap {w : World} {base n : Nat} {e : TypeId} {v : Value} {xs : List Value} (h : w.ownsRow base e 1 v n xs) : CapOk v := by
  obtain ⟨_, ⟨rfl, _⟩ | ⟨g, cap, cur, rfl, _, _, h4, _⟩⟩ := h
  · exact Nat.le_refl _
  · exact h4
set_option maxHeartbeats 4000000 in
set_option maxRecDepth 100000 in
theorem texts_cap (w : World) (v : Value) (ls : List (List Tok)) (hv : RdL w v ls) (hl : ls.length ≤ 70000) (hl2 : ∀ l ∈ ls, l.length ≤ 70000) :
    Calls Tryd.prog 20 #[v] w fun e w' => ∃ u, e = .returned u ∧ RdSL w' u (txs ls) ∧ Below w.heap.size w w' ∧ CapOk u := by
  obtain ⟨i0, hi0, hz0, hz1, hz2⟩ := info_parts Tryd.infoStrs
  obtain ⟨j0, hj0, hy0, hy1, hy2⟩ := info_parts shI
  obtain ⟨hla, A, ca, rfl, hA⟩ := hv
  have HA : Hid (ls = [] ∨ ∃ b, A = some ⟨b, 0, none⟩ ∧ ∀ (k : Nat) (ts : List Tok), ls[k]? = some ts → ∃ u, w.cell? ⟨b, k, none⟩ = some u ∧ RdT w u ts) := hA
  clear hA
  obtain ⟨N, hN⟩ : ∃ N, ls.length = N := ⟨_, rfl⟩
  rw [hN] at hla hl ⊢
  have HN : Hid (ls.length = N) := hN
  have HL2 : Hid (∀ l ∈ ls, l.length ≤ 70000) := hl2
  clear hN hl2
  go_enter Tryd.func20, Tryd.ntmps20
  go_wp2_with fail
  go_loopw [3, 4] (fun v iv wr => ∃ (i : Nat) (v0 : Value), i ≤ N ∧ iv = .int .i64 i ∧ v0 = v ∧ Hid (Txv w wr v0 i ls)) (fun _ iv _ => N - (intOf iv).toNat)
  case atStart => exact ⟨0, _, Nat.zero_le _, rfl, rfl, Below.refl _ _, [], rfl, World.ownsRow_nil _ _ _ _, fun k u hu => by simp at hu⟩
  case round =>
    obtain ⟨i, v0, hle, rfl, hv, HV⟩ := hrel
    subst hv
    obtain ⟨B, capB, rfl⟩ : ∃ B cap, v0 = .slice B i cap := by
      obtain ⟨us, _, h2, _⟩ := HV.out.out
      exact own_sl h2
    by_cases hp : i < N
    · have hpi : (i : Int) < (N : Int) := by omega
      obtain ⟨ts, hts⟩ : ∃ ts, ls[i]? = some ts := ⟨_, List.getElem?_eq_getElem (by have := HN.out; omega)⟩
      have hlt := HL2.out ts (List.mem_of_getElem? hts)
      obtain ⟨ba, rfl, hca⟩ := HA.out.resolve_left (by intro e; rw [e] at hts; cases hts)
      obtain ⟨u, qa, hx0, Au, cu, rfl, hxc⟩ := hca i ts hts
      have HXC : Hid _ := hxc
      have HQA : Hid (w.cell? ⟨ba, i, none⟩ = some (.slice Au ts.length cu) ∧ ls[i]? = some ts) := ⟨qa, hts⟩
      clear hxc hts hca qa
      obtain ⟨n, hn⟩ : ∃ n, ts.length = n := ⟨_, rfl⟩
      rw [hn] at HQA hx0 hlt
      have HL : Hid (ts.length = n) := hn
      clear hn
      revert HV
      generalize wr = wS
      intro HV
      go_wp2_with fail
      go_loopw [5, 6] (fun v iv wr2 => ∃ (k : Nat) (v5 : Value), k ≤ n ∧ iv = .int .i64 k ∧ v5 = v ∧ Hid (wr2.ownsRow wS.heap.size 9 1 v5 k (txk ts k) ∧ Below wS.heap.size wS wr2)) (fun _ iv _ => n - (intOf iv).toNat)
      case atStart => exact ⟨0, _, Nat.zero_le _, rfl, rfl, World.ownsRow_nil _ _ _ _, Below.refl _ _⟩
      case round =>
        obtain ⟨k, v5, hkl, rfl, hv5, HO⟩ := hrel
        subst hv5
        obtain ⟨C, capC, rfl⟩ := own_sl HO.out.1
        have hBw : Below w.heap.size w wr := HV.out.bel.trans (HO.out.2.mono HV.out.bel.size)
        have qa2 := (hBw.cell (World.block_lt_of_cell? w _ HQA.out.1)).trans HQA.out.1
        have HBw : Hid (Below w.heap.size w wr) := hBw
        clear hBw
        by_cases hp2 : k < n
        · have hpk : (k : Int) < (n : Int) := by omega
          obtain ⟨⟨p0, p1, p2⟩, hpp⟩ : ∃ p, ts[k]? = some p := ⟨_, List.getElem?_eq_getElem (by have := HL.out; omega)⟩
          obtain ⟨bx, rfl, hxc⟩ := HXC.out.resolve_left (by intro e; rw [e] at hpp; cases hpp)
          obtain ⟨x0, _, _⟩ := hxc k _ hpp
          have z0 := (HBw.out.cell (World.block_lt_of_cell? w _ x0)).trans x0
          have HP : Hid (txk ts (k + 1) = txk ts k ++ [.string p0]) := by
            have : ts.take (k + 1) = ts.take k ++ [(p0, p1, p2)] := by rw [List.take_add_one, hpp]; rfl
            show txk ts (k + 1) = _
            unfold txk
            rw [this]; simp
          clear hxc hpp x0
          go_wp2_with (at_builtin; refine wpList_append_lies _ (by rfl) _ _ 51 (by rfl) wS.heap.size 9 j0 (.string ByteArray.empty) 1 16 Tryd.underlying51 hj0 hy0 hy1 hy2 (by rfl) (by decide) _ _ _ (by rfl) (HO.out.1.alloc _) ⟨_, 0, none⟩ 1 1 [.string p0] (by rfl) (by rfl) ?c1 ?c2 (by decide) ?c3 ?c4 ?c5 _ rfl ?next)
          try (case c1 => exact World.news_of_block (fr := (0, 0)) (t := 9) (cs := #[.string p0]) (heap_alloc_new _ _))
          case c2 => first | rfl | (intro u hu; simp at hu; subst hu; rfl)
          case c3 => unfold maxLen; omega
          case c4 => omega
          case c5 => have := HO.out.2.size; simp; omega
          case next =>
            intro g2 cap2 w2 hown2 hgrow hat hlt2
            have HO2 : Hid (w2.ownsRow wS.heap.size 9 1 (.slice (some ⟨g2, 0, none⟩) (k + 1) cap2) (k + 1) (txk ts (k + 1)) ∧ Below wS.heap.size wS w2) := by
              refine ⟨by rw [HP.out]; exact hown2, (HO.out.2.alloc HO.out.2.size _).grown hgrow (by have := HO.out.2.size; simp; omega) (fun q hq => (HO.out.1.lt q hq).1)⟩
            clear hown2 hgrow hat hlt2
            go_wp2_with fail
            go_roundw
            case rel => exact ⟨k + 1, _, by omega, by go_num, rfl, HO2.out⟩
            case measure => simp [intOf]; omega
        · have e : k = n := by omega
          subst e
          have hpk : ¬ (k : Int) < (k : Int) := by omega
          have HV2 : Hid (Txv w wr (.slice B i capB) i ls) := HV.out.below HO.out.2
          obtain ⟨us, e1, e2, e3⟩ := HV2.out.out
          have HE : Hid (wr.ownsRow w.heap.size 51 1 (.slice B i capB) i us ∧ us.length = i ∧ ∀ (k : Nat) (u : Value), us[k]? = some u → ∃ ts : List Tok, ls[k]? = some ts ∧ wr.ownsRow w.heap.size 9 1 u (ts.map (·.1)).length ((ts.map (·.1)).map Value.string)) := ⟨e2, e1, e3⟩
          have HU : Hid (wr.ownsRow w.heap.size 9 1 (.slice C k capC) (ts.map (·.1)).length ((ts.map (·.1)).map Value.string)) := by
            have h := HO.out.1
            unfold txk at h
            rw [List.take_of_length_le (by rw [HL.out]; exact Nat.le_refl _)] at h
            rw [List.length_map, HL.out]
            exact ownsRow_le h HV.out.bel.size
          have HEA : Hid (wr.ownsRow w.heap.size 51 1 (.slice B i capB) i us) := e2
          clear e1 e2 e3
          have hsz0 : w.heap.size ≤ wr.heap.size := HV2.out.bel.size
          have HC1 : Hid (∀ (j : Nat) (u : Value), [Value.slice C k capC][j]? = some u → (wr.alloc (.cells #[.slice C k capC] 51)).cell? ((⟨wr.heap.size, 0, none⟩ : Addr).add j) = some u) := World.news_of_block (fr := (0, 0)) (t := 51) (cs := #[.slice C k capC]) (heap_alloc_new _ _)
          have HC2 : Hid (∀ u ∈ [Value.slice C k capC], u.oneCell' = true) := by intro u hu; simp at hu; subst hu; rfl
          have HC5 : Hid (w.heap.size ≤ (wr.alloc (.cells #[.slice C k capC] 51)).heap.size) := by show _ ≤ _; simp; omega
          go_wp2_with (at_builtin; refine wpList_append_lies _ (by rfl) _ _ 53 (by rfl) w.heap.size 51 i0 (.slice none 0 0) 1 24 Tryd.underlying53 hi0 hz0 hz1 hz2 (by rfl) (by decide) (.slice B i capB) i us (by rfl) (HEA.out.alloc _) ⟨wr.heap.size, 0, none⟩ 1 1 [.slice C k capC] (by rfl) (by rfl) HC1.out HC2.out (by decide) (by unfold maxLen; omega) (by omega) HC5.out _ rfl ?_)
          intro g2 cap2 w3 hown2 hgrow hat hlt2
          have HR2 : Hid (Txv w w3 (.slice (some ⟨g2, 0, none⟩) (i + 1) cap2) (i + 1) ls) :=
            HV2.out.push HQA.out.2 HE.out.2.1 HE.out.1 HE.out.2.2 HU.out (grown_al2 hgrow) hown2
          clear hown2 hgrow hat hlt2
          go_wp2_with fail
          go_roundw
          case rel => exact ⟨i + 1, _, by omega, by go_num, rfl, HR2.out⟩
          case measure => simp [intOf]; omega
    · have e : i = N := by omega
      subst e
      have hpi : ¬ (i : Int) < (i : Int) := by omega
      go_wp2_with fail
      go_ret
      have h : Txv w wr (.slice B i capB) ls.length ls := by rw [HN.out]; exact HV.out
      refine ⟨_, rfl, h.reads (by rw [HN.out]; exact hl) HL2.out, HV.out.bel, ?_⟩
      obtain ⟨us, _, h2, _⟩ := h.out
      exact own_cap h2
theorem texts_any (w : World) (v : Value) (ls : List (List Tok)) (hv : RdL w v ls) (hl : ls.length ≤ 70000) (hl2 : ∀ l ∈ ls, l.length ≤ 70000) :
    Calls Tryd.prog 20 #[v] w fun e w' => ∃ u, e = .returned u ∧ RdSL w' u (txs ls) ∧ Below w.heap.size w w' :=
  (texts_cap w v ls hv hl hl2).mono fun e w' ⟨u, h1, h2, h3, _⟩ => ⟨u, h1, h2, h3⟩
end Go.Proofs.YtpfdgibgdehcdaaDoor
