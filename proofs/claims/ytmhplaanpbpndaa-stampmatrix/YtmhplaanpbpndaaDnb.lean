/-
  The document's net in memory: Elements, Branches, place.
-/
import Derived.Test.YtmhplaanpbpndaaDna
import Derived.Test.YtmhplaanpbpndaaBsd
namespace Go.Proofs.Ytmhplaanpbpndaa
open Go.Maps Go.RowKit
set_option linter.unusedVariables false
set_option maxRecDepth 100000

/-- the document's net at block p: its elements are l -/
structure Dn (w : World) (p : Nat) (l : List Elm) : Prop where
  len : l.length ≤ 256
  made : w.cell? ⟨p, 1, none⟩ = some (.bool true)
  v : ∃ v, w.cell? ⟨p, 0, none⟩ = some v ∧ (v = .slice none 0 0 ∧ l = [] ∨ ∃ b c, v = .slice (some ⟨b, 0, none⟩) l.length c ∧ ∀ (j : Nat) (u : Value), (elCs l)[j]? = some u → w.cell? ⟨b, j, none⟩ = some u)
theorem Dn.below {w w' : World} {p : Nat} {l : List Elm} (h : Dn w p l) (hb : Below w.heap.size w w') : Dn w' p l := by
  have k := fun (a : Addr) (v : Value) (hc : w.cell? a = some v) => (hb.cell (World.block_lt_of_cell? w _ hc)).trans hc
  obtain ⟨v, h1, h2⟩ := h.v
  refine ⟨h.len, k _ _ h.made, v, k _ _ h1, h2.imp id ?_⟩
  rintro ⟨b, c, h3, h4⟩
  exact ⟨b, c, h3, fun j u hj => k _ _ (h4 j u hj)⟩
theorem dnone_made {w : World} {p : Nat} (h : w.cell? ⟨p, 1, none⟩ = some (.bool true)) : Calls Try.prog 71 #[.pointer (some ⟨p, 0, none⟩)] w fun e w' => e = .returned (.bool false) ∧ w' = w := by
  go_enter Try.func71, Try.ntmps71
  go_wp2_with fail
  go_ret
  exact ⟨rfl, rfl⟩
theorem dnone_nil (w : World) : Calls Try.prog 71 #[.pointer none] w fun e w' => e = .returned (.bool true) ∧ w' = w := by
  go_enter Try.func71, Try.ntmps71
  go_wp2_with fail
  go_ret
  exact ⟨rfl, rfl⟩
set_option maxHeartbeats 1000000 in
theorem delements {w : World} {p : Nat} {l : List Elm} (h : Dn w p l) : Calls Try.prog 48 #[.pointer (some ⟨p, 0, none⟩)] w fun e w' => ∃ v', e = .returned v' ∧ w'.ownsRow w.heap.size 55 8 v' l.length (elCs l) ∧ Below w.heap.size w w' := by
  obtain ⟨i0, hi0, hz0, hz1, hz2⟩ := info_parts Try.infoE
  obtain ⟨hl, hm, v, c0, hv⟩ := h
  have hno := dnone_made hm
  rcases hv with ⟨rfl, rfl⟩ | ⟨b, c, rfl, hc⟩
  · go_enter Try.func48, Try.ntmps48
    go_wp2_with (go_at_call 71; (with_reducible refine hno.mono ?_); rintro e1 w1 ⟨rfl, hw1⟩; subst w1)
    go_ret
    exact ⟨.slice none 0 0, rfl, World.ownsRow_nil _ _ _ _, Below.refl _ _⟩
  · obtain ⟨m, hlm⟩ : ∃ m, l.length = m := ⟨_, rfl⟩
    have HM : Hid ((elCs l).length = m * 8 ∧ l.length = m) := ⟨by rw [elCs_len, hlm], hlm⟩
    have HC : Hid (∀ (j : Nat) (u : Value), (elCs l)[j]? = some u → w.cell? ⟨b, j, none⟩ = some u) := hc
    rw [hlm] at c0 hl ⊢
    clear hlm hc hm
    go_enter Try.func48, Try.ntmps48
    go_wp2_with (first
      | (go_at_call 71; (with_reducible refine hno.mono ?_); rintro e1 w1 ⟨rfl, hw1⟩; subst w1)
      | (at_builtin; refine wpList_append_own _ rfl _ _ 24 rfl w.heap.size 55 i0 _ 8 104 Try.underlying24 hi0 hz0 hz1 hz2 (by rfl) (by decide) _ 0 [] rfl (World.ownsRow_nil _ _ _ _) ⟨b, 0, none⟩ m c (elCs l) rfl ?qc1 ?qc2 ?qc3 ?qc4 ?qc5 ?qc6 ?_))
    case qc1 => exact HM.out.1
    case qc2 =>
      intro j u hj
      rw [Addr.add_lit]
      simp only [Nat.zero_add]
      exact HC.out j u hj
    case qc3 => exact elC_one l
    case qc4 => unfold maxLen; omega
    case qc5 => omega
    case qc6 => exact Nat.le_refl _
    intro v' w1 hown hgrow hnil
    go_wp2
    go_ret
    refine ⟨v', rfl, by simpa using hown, ?_⟩
    exact (Below.refl _ w).grown hgrow (Nat.le_refl _) (by intro k hk; simp [Value.ownBlock] at hk)
theorem delements_nil (w : World) : Calls Try.prog 48 #[.pointer none] w fun e w' => e = .returned (.slice none 0 0) ∧ w' = w := by
  go_enter Try.func48, Try.ntmps48
  go_wp2_with (go_at_call 71; (with_reducible refine (dnone_nil _).mono ?_); rintro e1 w1 ⟨rfl, hw1⟩; subst w1)
  go_ret
  exact ⟨rfl, rfl⟩
/-- a row of elements that is owned: its i-th element's cells -/
theorem de8_row {w : World} {base : Nat} {v : Value} {n : Nat} {l : List Elm} (h : w.ownsRow base 55 8 v n (elCs l)) (hn : l.length = n) {i : Nat} {x : Elm} (hx : l[i]? = some x) : ∃ g cap, v = .slice (some ⟨g, 0, none⟩) n cap ∧ E8 w g (i * 8) x := by
  have hi : i < n := by rw [← hn]; exact (List.getElem?_eq_some_iff.1 hx).1
  obtain ⟨g, cap, hv⟩ : ∃ g cap, v = .slice (some ⟨g, 0, none⟩) n cap := by
    obtain ⟨_, ⟨h1, h2⟩ | ⟨g, cap, cur, h1, _⟩⟩ := h
    · omega
    · exact ⟨_, _, h1⟩
  subst hv
  have hc : ∀ c v, c < 8 → (elC x)[c]? = some v → w.cell? ⟨g, i * 8 + c, none⟩ = some v := fun c v h1 h2 => by rw [h.cellAt (i * 8 + c) (by omega), elCs_get hx h1]; exact h2
  exact ⟨g, cap, rfl, hc 0 _ (by omega) rfl, hc 1 _ (by omega) rfl, hc 2 _ (by omega) rfl, hc 3 _ (by omega) rfl, hc 4 _ (by omega) rfl, hc 5 _ (by omega) rfl, hc 6 _ (by omega) rfl, hc 7 _ (by omega) rfl⟩
theorem drow_slice {w : World} {base : Nat} {e : TypeId} {sz : Nat} {v : Value} {n : Nat} {xs : List Value} (h : w.ownsRow base e sz v n xs) : ∃ A cap, v = .slice A n cap := by
  obtain ⟨_, ⟨h1, h2⟩ | ⟨g, cap, cur, h1, _⟩⟩ := h
  · exact ⟨none, 0, by rw [h1, h2]⟩
  · exact ⟨_, _, h1⟩
theorem brR_take {l : List Elm} {i : Nat} {x : Elm} (hx : l[i]? = some x) : brR (l.take (i + 1)) = if isB x = true then brR (l.take i) ++ [bl x.n] else brR (l.take i) := by
  rw [take_snoc hx, brR_snoc]
theorem brR_len (l : List Elm) : (brR l).length ≤ l.length := by unfold brR; rw [List.length_map]; exact List.length_filter_le _ _
theorem snoc_sv (xs : List (List UInt8)) (s : ByteArray) : (xs ++ [bl s]).map sv = xs.map sv ++ [.string s] := by rw [List.map_append]; rfl
set_option maxHeartbeats 4000000 in
theorem dbranches {w : World} {p : Nat} {l : List Elm} (h : Dn w p l) : Calls Try.prog 34 #[.pointer (some ⟨p, 0, none⟩)] w fun e w' => ∃ v', e = .returned v' ∧ w'.ownsRow w.heap.size 9 1 v' (brR l).length ((brR l).map sv) ∧ Below w.heap.size w w' := by
  obtain ⟨i0, hi0, hz0, hz1, hz2⟩ := info_parts Try.infoS
  have hel := delements h
  have hl := h.len
  obtain ⟨n, hn⟩ : ∃ n, l.length = n := ⟨_, rfl⟩
  rw [hn] at hel hl
  have HN : Hid (l.length = n) := hn
  clear hn h
  obtain ⟨L, hL⟩ : ∃ L, w.heap.size = L := ⟨_, rfl⟩
  rw [hL] at hel
  have HL : Hid (w.heap.size = L) := hL
  go_enter Try.func34, Try.ntmps34
  go_wp2_with (go_at_call 48; (with_reducible refine hel.mono ?_); rintro e1 w1 ⟨v1, rfl, ho1, hb1⟩)
  obtain ⟨A1, c1, hv1⟩ := drow_slice ho1
  subst hv1
  have HO1 : Hid _ := ho1
  have HB1 : Hid _ := hb1
  clear ho1 hb1 hel
  go_wp2_with fail
  go_loopw [5, 3] (fun iv ov wr => ∃ (i : Nat), i ≤ n ∧ iv = .int .i64 i ∧ Hid (wr.ownsRow w1.heap.size 9 1 ov (brR (l.take i)).length ((brR (l.take i)).map sv) ∧ Below w1.heap.size w1 wr)) (fun iv _ _ => n - (intOf iv).toNat)
  case atStart => exact ⟨0, Nat.zero_le _, rfl, by rw [List.take_zero]; exact ⟨World.ownsRow_nil _ _ _ _, Below.refl _ _⟩⟩
  case round =>
    obtain ⟨i, hle, rfl, HI⟩ := hrel
    obtain ⟨Ao, co, hov⟩ := drow_slice HI.out.1
    subst hov
    by_cases hp4 : i < n
    · have hpi : (i : Int) < (n : Int) := by omega
      obtain ⟨x, hx⟩ : ∃ x, l[i]? = some x := ⟨_, List.getElem?_eq_getElem (by have := HN.out; omega)⟩
      obtain ⟨g1, cc, hvv, hE⟩ := de8_row HO1.out HN.out hx
      cases hvv
      have hE2 := hE.bel hE.lt HI.out.2
      obtain ⟨d0, d1, _, _, _, _, _, _⟩ := hE2
      have HX : Hid (brR (l.take (i + 1)) = if isB x = true then brR (l.take i) ++ [bl x.n] else brR (l.take i)) := brR_take hx
      have hlen : (brR (l.take i)).length ≤ 256 := by have := brR_len (l.take i); rw [List.length_take] at this; omega
      clear hE hx
      obtain ⟨m, hm⟩ : ∃ m, (brR (l.take i)).length = m := ⟨_, rfl⟩
      rw [hm] at hlen
      have HM : Hid ((brR (l.take i)).length = m) := hm
      have HI2 : Hid (wr.ownsRow w1.heap.size 9 1 (.slice Ao m co) m ((brR (l.take i)).map sv)) := by rw [← hm]; exact HI.out.1
      have HW : Hid (Below w1.heap.size w1 wr) := HI.out.2
      rw [hm] at HI ⊢
      clear HI hm
      by_cases hB : isB x = true
      · have hk : x.k = 5 ∨ x.k = 7 := by unfold isB at hB; simpa using hB
        have HT : Hid (brR (l.take (i + 1)) = brR (l.take i) ++ [bl x.n]) := by show _ = _; rw [HX.out, if_pos hB]
        clear HX hB
        have hrow : (wr.alloc (.cells #[.string x.n] 9)).ownsRow w1.heap.size 9 1 (.slice Ao m co) m ((brR (l.take i)).map sv) := HI2.out.alloc _
        have hs1 : w1.heap.size ≤ wr.heap.size := HW.out.size
        rcases hk with hk | hk
        all_goals
          have hk5 : (x.k : Int) = 5 ∨ (x.k : Int) = 7 := by omega
          rw [hk] at d0
          go_wp2_with (at_builtin; refine wpList_append_own _ rfl _ _ 42 rfl w1.heap.size 9 i0 (.string ByteArray.empty) 1 16 Try.underlying42 hi0 hz0 hz1 hz2 (by rfl) (by decide) _ _ _ rfl hrow ⟨_, 0, none⟩ 1 1 [.string x.n] rfl rfl ?qc2 ?qc3 ?qc4 ?qc5 ?qc6 ?_)
          case qc2 => exact World.news_of_block (fr := (0, 0)) (t := 9) (cs := #[.string x.n]) (heap_alloc_new _ _)
          case qc3 => intro u hu; simp at hu; subst hu; rfl
          case qc4 => unfold maxLen; omega
          case qc5 => omega
          case qc6 => simp; omega
          intro v' w4 hown hgrow hnil
          go_wp2_with fail
          go_roundw
          case rel =>
            refine ⟨i + 1, by omega, by go_num, ?_, ?_⟩
            · rw [HT.out, snoc_sv, List.length_append, HM.out]; exact hown
            · exact (HW.out.alloc hs1 _).grown hgrow (by simp; omega) (by intro k hk; have := (row_ge HI2.out hk).1; omega)
          case measure => simp [intOf]; omega
      · have hk5 : (((x.k : Int) == 5) = false) ∧ (((x.k : Int) == 7) = false) := by unfold isB at hB; simp at hB; constructor <;> (rw [beq_eq_false_iff_ne]; omega)
        obtain ⟨k5, k7⟩ := hk5
        have HT : Hid (brR (l.take (i + 1)) = brR (l.take i)) := by show _ = _; rw [HX.out, if_neg hB]
        clear HX hB
        go_wp2_with fail
        go_roundw
        case rel => exact ⟨i + 1, by omega, by go_num, by rw [HT.out, HM.out]; exact HI2.out, HW.out⟩
        case measure => simp [intOf]; omega
    · have hin : i = n := by omega
      subst hin
      have hnl : ¬ ((i : Int) < (i : Int)) := by omega
      have HT : Hid (l.take i = l) := List.take_of_length_le (by have := HN.out; omega)
      go_wp2_with fail
      go_ret
      obtain ⟨h1, h2⟩ := HI.out
      rw [HT.out] at h1 ⊢
      have hs := HB1.out.size
      refine ⟨_, rfl, ⟨h1.1, ?_⟩, ?_⟩
      · rcases h1.2 with q | ⟨g, cap, cur, q1, q2, q3⟩
        · exact .inl q
        · exact .inr ⟨g, cap, cur, q1, by have := HL.out; omega, q3⟩
      · exact HB1.out.trans (h2.mono (by have := HL.out; omega))
end Go.Proofs.Ytmhplaanpbpndaa
