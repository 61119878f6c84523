/-
  The document's net of some elements: its Of.
-/
import Derived.Test.YtmhplaanpbpndaaDnd
import Derived.Test.YtmhplaanpbpndaaBse
namespace Go.Proofs.Ytmhplaanpbpndaa
open Go.Maps Go.RowKit
set_option linter.unusedVariables false
set_option maxRecDepth 100000

/-- what the document's Of answers, in memory -/
def DofP (w : World) (l : List Elm) (e : Ending) (w' : World) : Prop :=
  Below w.heap.size w w' ∧ ((ofA l).1 = (0, 0) ∧ (∃ p, e = .returned (.tuple #[.pointer (some ⟨p, 0, none⟩), .agg #[.int .i64 0, .int .i64 0]]) ∧ Dn w' p l) ∨ (ofA l).1.1 ≠ 0 ∧ e = .returned (.tuple #[.pointer none, .agg #[.int .i64 (ofA l).1.1, .int .i64 (ofA l).1.2]]))
/-- names that were met among the first k -/
theorem nm_next {l : List Elm} {k : Nat} {x y : Elm} (hy : l[k]? = some y) (h : bl x.n ∉ (l.take k).map fun x => bl x.n) (hne : bl y.n ≠ bl x.n) : bl x.n ∉ (l.take (k + 1)).map fun x => bl x.n := by
  rw [take_snoc hy, List.map_append]
  intro q
  rcases List.mem_append.1 q with q | q
  · exact h q
  · have q2 : bl x.n = bl y.n := by simpa only [List.map_cons, List.map_nil, List.mem_singleton] using q
    exact hne q2.symm
theorem nm_here {l : List Elm} {i k : Nat} {x y : Elm} (hy : l[k]? = some y) (hk : k < i) (he : bl y.n = bl x.n) : bl x.n ∈ (l.take i).map fun x => bl x.n := by
  refine List.mem_map.2 ⟨y, ?_, he⟩
  obtain ⟨hj, rfl⟩ := List.getElem?_eq_some_iff.1 hy
  exact List.mem_iff_getElem?.2 ⟨k, by rw [List.getElem?_take, if_pos hk]; exact List.getElem?_eq_getElem hj⟩
theorem ba_eq {s t : ByteArray} : (bl s == bl t) = true ↔ bl s = bl t := beq_iff_eq
theorem dn_new {w5 : World} {base n : Nat} {v5 : Value} {l : List Elm} (h : w5.ownsRow base 55 8 v5 n (elCs l)) (hn : l.length = n) (h2 : n ≤ 256) : Dn (w5.alloc (.cells #[v5, .bool true] 71)) w5.heap.size l := by
  refine ⟨by omega, World.cell?_alloc_new w5 _ _ 1, v5, World.cell?_alloc_new w5 _ _ 0, ?_⟩
  have h0 := h
  obtain ⟨_, ⟨h1, h3⟩ | ⟨g, cap, cur, h1, hg, hr⟩⟩ := h
  · exact .inl ⟨h1, List.length_eq_zero_iff.1 (by omega)⟩
  · subst h1
    refine .inr ⟨g, cap, by rw [hn], fun j u hj => ?_⟩
    have hjl : j < n * 8 := by have := (List.getElem?_eq_some_iff.1 hj).1; rw [elCs_len, hn] at this; exact this
    have hc : w5.cell? ⟨g, j, none⟩ = some u := by rw [h0.cellAt j (by omega)]; exact hj
    rw [World.cell?_alloc_lt _ _ _ (World.block_lt_of_cell? w5 _ hc)]
    exact hc
theorem dn_set {W : World} {p F : Nat} {T : TypeId} {l : List Elm} (h : Dn W p l) (hF : W.heap[F]? = some (.cells #[.int .i64 0, .int .i64 0] T (0, 0))) (x y : Value) : Dn ((W.setCell ⟨F, 0, none⟩ x).setCell ⟨F, 1, none⟩ y) p l := by
  obtain ⟨z0, z1, _, _⟩ := tw_c hF
  have hk : ∀ (q : Addr) (v : Value), q.block ≠ F → W.cell? q = some v → ((W.setCell ⟨F, 0, none⟩ x).setCell ⟨F, 1, none⟩ y).cell? q = some v := fun q v hq hc => by
    rw [World.cell?_setCell_other _ _ _ _ (fun e => hq (congrArg Addr.block e).symm), World.cell?_setCell_other _ _ _ _ (fun e => hq (congrArg Addr.block e).symm)]; exact hc
  have hp : p ≠ F := fun e => by
    have := h.made
    rw [e, z1] at this; cases this
  obtain ⟨v, h1, h2⟩ := h.v
  refine ⟨h.len, hk ⟨p, 1, none⟩ _ hp h.made, v, hk ⟨p, 0, none⟩ _ hp h1, h2.imp id ?_⟩
  rintro ⟨b, c, h3, h4⟩
  refine ⟨b, c, h3, fun j u hj => hk ⟨b, j, none⟩ _ (fun e => ?_) (h4 j u hj)⟩
  have e : b = F := e
  cases l with
  | nil => simp [elCs] at hj
  | cons x0 t =>
    have h5 := h4 0 (.int .u8 (x0.k : Int)) (by simp [elCs, elC])
    rw [e, z0] at h5
    simp at h5
set_option maxHeartbeats 8000000 in
theorem dof_any (w : World) (base : Nat) (v : Value) (l : List Elm) (n : Nat) (hn : l.length = n) (hn2 : n ≤ 140737488351232) (hr : w.ownsRow base 55 8 v n (elCs l)) (hok : ∀ x ∈ l, x.ok) : Calls Try.prog 6 #[v] w (DofP w l) := by
  obtain ⟨i0, hi0, hz0, hz1, hz2⟩ := info_parts Try.infoE
  obtain ⟨A, cA, hv⟩ := drow_slice hr
  subst hv
  have HR : Hid (w.ownsRow base 55 8 (.slice A n cA) n (elCs l)) := hr
  have HN : Hid (l.length = n) := hn
  have HOK : Hid (∀ x ∈ l, x.ok) := hok
  clear hr hn hok
  obtain ⟨F, hF⟩ : ∃ F, w.heap.size = F := ⟨_, rfl⟩
  obtain ⟨wF, hwF⟩ : ∃ wF, w.alloc (.cells #[.int .i64 0, .int .i64 0] 29) = wF := ⟨_, rfl⟩
  have HF : Hid (wF.heap[F]? = some (.cells #[.int .i64 0, .int .i64 0] 29 (0, 0)) ∧ wF.heap.size = F + 1 ∧ Below F w wF ∧ w.heap.size = F) := by
    rw [← hwF, ← hF]
    exact ⟨heap_alloc_new w _, by simp, (Below.refl _ w).alloc (Nat.le_refl _) _, rfl⟩
  obtain ⟨z0, z1, z2, z3⟩ := tw_c HF.out.1
  by_cases hbig : 256 < n
  · have hbi : (256 : Int) < (n : Int) := by omega
    obtain ⟨y0, y1⟩ := tw_set HF.out.1 (.int .i64 3) (.int .i64 (-1))
    go_enter Try.func6, Try.ntmps6
    go_wp2_with fail
    (try simp only [Exit.inBlock, Exit.then])
    refine bodyPost_ret (by simp [results, Try.results6, go_sem, y0, y1]; try rfl) rfl ?_
    have hA3 : ofA l = ((3, -1), Ns.nil) := if_pos (by have := HN.out; omega)
    refine ⟨tw_bel (by rw [HF.out.2.2.2]; exact HF.out.2.2.1) (by omega) _ _, .inr ⟨by rw [hA3]; simp, by rw [hA3]⟩⟩
  · have hbi : ¬ (256 : Int) < (n : Int) := by omega
    go_enter Try.func6, Try.ntmps6
    go_wp2_with fail
    clear z0 z1 z2 z3
    go_loopw [4] (fun iv wr => ∃ (i : Nat), i ≤ n ∧ iv = .int .i64 i ∧ Hid (Below wF.heap.size wF wr ∧ Fine15 l i)) (fun iv _ => n - (intOf iv).toNat)
    case atStart => exact ⟨0, Nat.zero_le _, rfl, Below.refl _ _, Fine15.zero l⟩
    case round =>
      clear hwF
      obtain ⟨i, hle, rfl, HI⟩ := hrel
      have hFb : wr.heap[F]? = some (.cells #[.int .i64 0, .int .i64 0] 29 (0, 0)) := by rw [HI.out.1.block F (by have := HF.out.2.1; omega)]; exact HF.out.1
      have HFb : Hid (wr.heap[F]? = some (.cells #[.int .i64 0, .int .i64 0] 29 (0, 0))) := hFb
      clear hFb
      by_cases hp4 : i < n
      · have hpi : (i : Int) < (n : Int) := by omega
        obtain ⟨x, hx⟩ : ∃ x, l[i]? = some x := ⟨_, List.getElem?_eq_getElem (by have := HN.out; omega)⟩
        obtain ⟨g1, cc, hvv, hE⟩ := de8_row HR.out HN.out hx
        cases hvv
        have HE0 : Hid (E8 w g1 (i * 8) x) := hE
        have HBw : Hid (Below w.heap.size w wr) := by have h1 := HF.out.2.2.1; rw [← HF.out.2.2.2] at h1; exact h1.trans (HI.out.1.mono (by have := HF.out.2.1; have := HF.out.2.2.2; omega))
        obtain ⟨c0, c1, c2, c3, c4, c5, c6, c7⟩ := hE.bel hE.lt HBw.out
        have HX : Hid (l[i]? = some x) := hx
        have HXo : Hid x.ok := HOK.out x (List.mem_of_getElem? hx)
        have HCK : Hid (∀ W, Calls Try.prog 22 #[.agg #[.int .u8 (x.k : Int), .string x.n, .string x.a, .string x.b, .string x.c, .string x.d, .float .f64 x.v, .int .i64 x.ph]] W fun e w' => e = .returned (.int .i64 (chkI x)) ∧ Below W.heap.size W w') := fun W => rcheck_w x W HXo.out
        clear hE hx
        by_cases hck : chkI x = 0
        · have hc2 : ((chkI x) != 0) = false := by simp [hck]
          obtain ⟨s, hs⟩ : ∃ s, bl x.n = s := ⟨_, rfl⟩
          have HS : Hid (bl x.n = s) := hs
          have HCK2 : Hid (∀ W, Calls Try.prog 22 #[.agg #[.int .u8 (x.k : Int), .string x.n, .string x.a, .string x.b, .string x.c, .string x.d, .float .f64 x.v, .int .i64 x.ph]] W fun e w' => e = .returned (.int .i64 0) ∧ Below W.heap.size W w') := fun W => by have := HCK.out W; rw [hck] at this; exact this
          have HC0 : Hid (chkI x = 0) := hck
          clear hs hc2 hck HCK
          go_wp2_with (first
            | (go_at_call 22; (with_reducible refine (HCK2.out _).mono ?_); rintro e w4 ⟨rfl, hb4⟩; (have HF4 : Hid (w4.heap[F]? = some (.cells #[.int .i64 0, .int .i64 0] 29 (0, 0))) := (show w4.heap[F]? = some (.cells #[.int .i64 0, .int .i64 0] 29 (0, 0)) from (by rw [hb4.block F (Array.getElem?_eq_some_iff.1 HFb.out).1]; exact HFb.out))); (have HB4 : Hid (Below w.heap.size w w4) := HBw.out.trans (hb4.mono HBw.out.size)); (have HBF : Hid (Below wF.heap.size wF w4) := HI.out.1.trans (hb4.mono HI.out.1.size)); clear hb4))
          clear c0 c1 c2 c3 c4 c5 c6 c7
          go_loopw [6] (fun kv wr2 => ∃ (k r : Nat), k ≤ i ∧ kv = .int .i64 k ∧ wr2 = w4.drewN r ∧ Hid (s ∉ (l.take k).map fun x => bl x.n)) (fun kv _ => i - (intOf kv).toNat)
          case atStart => exact ⟨0, 0, Nat.zero_le _, rfl, rfl, by show s ∉ _; simp⟩
          case round =>
            obtain ⟨k, r, hki, rfl, hwr, HK⟩ := hrel
            have HWR : Hid (wr = w4.drewN r) := hwr
            by_cases hkl : k < i
            · have hpk : (k : Int) < (i : Int) := by omega
              obtain ⟨y, hy⟩ : ∃ y, l[k]? = some y := ⟨_, List.getElem?_eq_getElem (by have := HN.out; omega)⟩
              obtain ⟨g2, cc2, hvv2, hE2⟩ := de8_row HR.out HN.out hy
              cases hvv2
              obtain ⟨t, ht⟩ : ∃ t, bl y.n = t := ⟨_, rfl⟩
              have HT : Hid (bl y.n = t ∧ l[k]? = some y) := ⟨ht, hy⟩
              have d1 : wr.cell? ⟨g1, k * 8 + 1, none⟩ = some (.string ⟨t.toArray⟩) := by rw [hwr, ← ht]; exact (hE2.bel hE2.lt HB4.out).c1
              have d2 : wr.cell? ⟨g1, i * 8 + 1, none⟩ = some (.string ⟨s.toArray⟩) := by rw [hwr, ← HS.out]; exact (HE0.out.bel HE0.out.lt HB4.out).c1
              clear hE2 hy ht hwr
              cases hts : (t == s)
              · go_wp2_with fail
                go_region_held_law (fun W => W.cell? ⟨g1, k * 8 + 1, none⟩ = some (.string ⟨t.toArray⟩) ∧ W.cell? ⟨g1, i * 8 + 1, none⟩ = some (.string ⟨s.toArray⟩)) (first | exact ⟨d1, d2⟩ | go_keep) (fail)
                go_wp2_with fail
                go_roundw
                case rel =>
                  have hne : t ≠ s := by simpa using hts
                  have HN1 : Hid (s ∉ (l.take (k + 1)).map fun x => bl x.n) := by
                    show s ∉ _
                    rw [← HS.out]
                    exact nm_next HT.out.2 (by rw [HS.out]; exact HK.out) (by rw [HT.out.1, HS.out]; exact hne)
                  exact ⟨k + 1, r + 1, by omega, by go_num, by rw [HWR.out]; rfl, HN1⟩
                case measure => simp [intOf]; omega
              · have hF5 : wr.heap[F]? = some (.cells #[.int .i64 0, .int .i64 0] 29 (0, 0)) := by rw [HWR.out]; exact HF4.out
                obtain ⟨z0, z1, z2, z3⟩ := tw_c hF5
                obtain ⟨y0, y1⟩ := tw_set hF5 (.int .i64 9) (.int .i64 (i : Int))
                obtain ⟨x0, x1⟩ := tw_set (w := wr.drew) hF5 (.int .i64 9) (.int .i64 (i : Int))
                go_wp2_with fail
                go_region_held_law (fun W => W.cell? ⟨g1, k * 8 + 1, none⟩ = some (.string ⟨t.toArray⟩) ∧ W.cell? ⟨g1, i * 8 + 1, none⟩ = some (.string ⟨s.toArray⟩)) (first | exact ⟨d1, d2⟩ | go_keep) (fail)
                go_wp2_with fail
                (try simp only [Exit.inBlock, Exit.then])
                refine bodyPost_ret (by simp [results, Try.results6, go_sem, y0, y1]; try rfl) rfl ?_
                have hA3 := HI.out.2.there HX.out (by have := HN.out; omega) HC0.out (nm_here HT.out.2 hkl (by rw [HT.out.1, HS.out]; simpa using hts))
                have hB5 : Below w.heap.size w wr := by rw [HWR.out]; exact HB4.out.trans ((bel_dN w4 r).mono HB4.out.size)
                refine ⟨?_, .inr ⟨by rw [hA3]; simp, by rw [hA3]⟩⟩
                first | exact tw_bel hB5 (by have := HF.out.2.2.2; omega) _ _ | exact tw_bel hB5.drew (by have := HF.out.2.2.2; omega) _ _ | exact (tw_bel hB5 (by have := HF.out.2.2.2; omega) _ _).drew
            · have hki2 : k = i := by omega
              subst hki2
              have hnl : ¬ ((k : Int) < (k : Int)) := by omega
              clear hwr
              go_wp2_with fail
              go_roundw
              case rel => exact ⟨k + 1, by omega, by go_num, by rw [HWR.out]; exact HBF.out.trans ((bel_dN w4 r).mono HBF.out.size), HI.out.2.next HX.out HC0.out (by rw [HS.out]; exact HK.out)⟩
              case measure => simp [intOf]; omega
        · have hc2 : ((chkI x) != 0) = true := by simpa using hck
          go_wp2_with (first
            | (go_at_call 22; (with_reducible refine (HCK.out _).mono ?_); rintro e w4 ⟨rfl, hb4⟩; (have hF4 : w4.heap[F]? = some (.cells #[.int .i64 0, .int .i64 0] 29 (0, 0)) := (by rw [hb4.block F (Array.getElem?_eq_some_iff.1 HFb.out).1]; exact HFb.out)); (obtain ⟨z0, z1, z2, z3⟩ := tw_c hF4); (obtain ⟨y0, y1⟩ := tw_set hF4 (.int .i64 (chkI x)) (.int .i64 (i : Int))); (have HB4 : Hid (Below w.heap.size w w4) := HBw.out.trans (hb4.mono HBw.out.size)); clear hb4))
          (try simp only [Exit.inBlock, Exit.then])
          refine bodyPost_ret (by simp [results, Try.results6, go_sem, y0, y1]; try rfl) rfl ?_
          have hA3 := HI.out.2.bad HX.out (by have := HN.out; omega) hck
          refine ⟨tw_bel HB4.out (by have := HF.out.2.2.2; omega) _ _, .inr ⟨by rw [hA3]; exact hck, by rw [hA3]⟩⟩
      · have hin : i = n := by omega
        subst hin
        have hnl : ¬ ((i : Int) < (i : Int)) := by omega
        have HBr : Hid (Below w.heap.size w wr) := by have h1 := HF.out.2.2.1; rw [← HF.out.2.2.2] at h1; exact h1.trans (HI.out.1.mono (by have := HF.out.2.1; have := HF.out.2.2.2; omega))
        obtain ⟨a, ha⟩ : ∃ a, (ndR l).length = a := ⟨_, rfl⟩
        obtain ⟨c, hc⟩ : ∃ c, (brR l).length = c := ⟨_, rfl⟩
        have HAC : Hid ((ndR l).length = a ∧ (brR l).length = c) := ⟨ha, hc⟩
        have ha2 : a ≤ 1024 := by have := ndR_len l; have := HN.out; omega
        have hc2 : c ≤ 256 := by have := brR_len l; have := HN.out; omega
        have HA : Hid (ofA l = if 32 < (ndR l).length ∨ 64 < (ndR l).length + (brR l).length then ((3, -1), laysN l) else ((0, 0), laysN l)) := by
          have h := HI.out.2
          rw [← HN.out] at h
          exact h.whole (by have := HN.out; omega)
        have HND : Hid (∀ (W : World) (p : Nat), Dn W p l → Calls Try.prog 23 #[.pointer (some ⟨p, 0, none⟩)] W fun e w' => ∃ A k, e = .returned (.slice A a k) ∧ Below W.heap.size W w') := fun W p h => (dnodes h).mono (by
          rintro e w' ⟨v', rfl, ho, hb⟩
          obtain ⟨A, k, rfl⟩ := drow_slice ho
          rw [ha]
          exact ⟨A, k, rfl, hb⟩)
        have HOR : Hid (∀ (W : World) (p : Nat), Dn W p l → Calls Try.prog 24 #[.pointer (some ⟨p, 0, none⟩)] W fun e w' => e = .returned (.int .i64 ((a + c : Nat) : Int)) ∧ Below W.heap.size W w') := fun W p h => by have := dorder h; rw [ha, hc] at this; exact this
        clear ha hc
        rcases HR.out.2 with ⟨hv, h0⟩ | ⟨g, cap, cur, hv, hg, -⟩
        · cases hv
          (try subst h0)
          obtain ⟨w5, hw5⟩ : ∃ w5, w5 = wr := ⟨_, rfl⟩
          obtain ⟨v5, hv5⟩ : ∃ v5, v5 = Value.slice none 0 0 := ⟨_, rfl⟩
          have HROW : Hid (w5.ownsRow w5.heap.size 55 8 v5 0 (elCs l)) := by
            have hl0 : l = [] := List.length_eq_zero_iff.1 HN.out
            rw [hv5, hl0]; exact World.ownsRow_nil _ _ _ _
          have HB5 : Hid (Below w.heap.size w w5) := by rw [hw5]; exact HBr.out
          have HF5 : Hid (w5.heap[F]? = some (.cells #[.int .i64 0, .int .i64 0] 29 (0, 0))) := by show _ = _; rw [hw5]; exact HFb.out
          subst hw5
          subst hv5
          have HD : Hid (Dn (w5.alloc (.cells #[(.slice none 0 0), .bool true] 71)) w5.heap.size l) := dn_new HROW.out HN.out (by omega)
          have HB6 : Hid (Below w.heap.size w (w5.alloc (.cells #[(.slice none 0 0), .bool true] 71))) := HB5.out.alloc HB5.out.size _
          have HF6 : Hid ((w5.alloc (.cells #[(.slice none 0 0), .bool true] 71)).heap[F]? = some (.cells #[.int .i64 0, .int .i64 0] 29 (0, 0))) := (show (w5.alloc (.cells #[(.slice none 0 0), .bool true] 71)).heap[F]? = some (.cells #[.int .i64 0, .int .i64 0] 29 (0, 0)) from (by rw [Below.heap_alloc _ _ _ (Array.getElem?_eq_some_iff.1 HF5.out).1]; exact HF5.out))
          by_cases h32 : 32 < a
          · have h32i : (32 : Int) < (a : Int) := by omega
            go_wp2_with (first
              | (go_at_call 23; (with_reducible refine (HND.out _ _ HD.out).mono ?_); rintro e w7 ⟨A7, k7, rfl, hb7⟩; (have hF7 : w7.heap[F]? = some (.cells #[.int .i64 0, .int .i64 0] 29 (0, 0)) := (by rw [hb7.block F (Array.getElem?_eq_some_iff.1 HF6.out).1]; exact HF6.out)); (obtain ⟨z0, z1, z2, z3⟩ := tw_c hF7); (obtain ⟨y0, y1⟩ := tw_set hF7 (.int .i64 3) (.int .i64 (-1))); (have HB7 : Hid (Below w.heap.size w w7) := HB6.out.trans (hb7.mono HB6.out.size)); clear hb7))
            (try simp only [Exit.inBlock, Exit.then])
            refine bodyPost_ret (by simp [results, Try.results6, go_sem, y0, y1]; try rfl) rfl ?_
            have hA3 : (ofA l).1 = (3, -1) := by rw [HA.out, if_pos (.inl (by rw [HAC.out.1]; exact h32))]
            exact ⟨tw_bel HB7.out (by have := HF.out.2.2.2; omega) _ _, .inr ⟨by rw [hA3]; simp, by rw [hA3]⟩⟩
          · have h32i : ¬ (32 : Int) < (a : Int) := by omega
            by_cases h64 : 64 < a + c
            · have h64i : (64 : Int) < ((a + c : Nat) : Int) := by omega
              go_wp2_with (first
                | (go_at_call 23; (with_reducible refine (HND.out _ _ HD.out).mono ?_); rintro e w7 ⟨A7, k7, rfl, hb7⟩; (have HD7 : Hid (Dn w7 w5.heap.size l) := HD.out.below hb7); (have HF7 : Hid (w7.heap[F]? = some (.cells #[.int .i64 0, .int .i64 0] 29 (0, 0))) := (show w7.heap[F]? = some (.cells #[.int .i64 0, .int .i64 0] 29 (0, 0)) from (by rw [hb7.block F (Array.getElem?_eq_some_iff.1 HF6.out).1]; exact HF6.out))); (have HB7 : Hid (Below w.heap.size w w7) := HB6.out.trans (hb7.mono HB6.out.size)); clear hb7)
                | (go_at_call 24; (with_reducible refine (HOR.out _ _ HD7.out).mono ?_); rintro e w8 ⟨rfl, hb8⟩; (have hF8 : w8.heap[F]? = some (.cells #[.int .i64 0, .int .i64 0] 29 (0, 0)) := (by rw [hb8.block F (Array.getElem?_eq_some_iff.1 HF7.out).1]; exact HF7.out)); (obtain ⟨z0, z1, z2, z3⟩ := tw_c hF8); (obtain ⟨y0, y1⟩ := tw_set hF8 (.int .i64 3) (.int .i64 (-1))); (have HB8 : Hid (Below w.heap.size w w8) := HB7.out.trans (hb8.mono HB7.out.size)); clear hb8))
              (try simp only [Exit.inBlock, Exit.then])
              refine bodyPost_ret (by simp [results, Try.results6, go_sem, y0, y1]; try rfl) rfl ?_
              have hA3 : (ofA l).1 = (3, -1) := by rw [HA.out, if_pos (.inr (by rw [HAC.out.1, HAC.out.2]; exact h64))]
              exact ⟨tw_bel HB8.out (by have := HF.out.2.2.2; omega) _ _, .inr ⟨by rw [hA3]; simp, by rw [hA3]⟩⟩
            · have h64i : ¬ (64 : Int) < ((a + c : Nat) : Int) := by omega
              go_wp2_with (first
                | (go_at_call 23; (with_reducible refine (HND.out _ _ HD.out).mono ?_); rintro e w7 ⟨A7, k7, rfl, hb7⟩; (have HD7 : Hid (Dn w7 w5.heap.size l) := HD.out.below hb7); (have HF7 : Hid (w7.heap[F]? = some (.cells #[.int .i64 0, .int .i64 0] 29 (0, 0))) := (show w7.heap[F]? = some (.cells #[.int .i64 0, .int .i64 0] 29 (0, 0)) from (by rw [hb7.block F (Array.getElem?_eq_some_iff.1 HF6.out).1]; exact HF6.out))); (have HB7 : Hid (Below w.heap.size w w7) := HB6.out.trans (hb7.mono HB6.out.size)); clear hb7)
                | (go_at_call 24; (with_reducible refine (HOR.out _ _ HD7.out).mono ?_); rintro e w8 ⟨rfl, hb8⟩; (have hF8 : w8.heap[F]? = some (.cells #[.int .i64 0, .int .i64 0] 29 (0, 0)) := (by rw [hb8.block F (Array.getElem?_eq_some_iff.1 HF7.out).1]; exact HF7.out)); (have HF8 : Hid (w8.heap[F]? = some (.cells #[.int .i64 0, .int .i64 0] 29 (0, 0))) := hF8); (obtain ⟨z0, z1, z2, z3⟩ := tw_c hF8); (obtain ⟨y0, y1⟩ := tw_set hF8 (.int .i64 0) (.int .i64 0)); (have HB8 : Hid (Below w.heap.size w w8) := HB7.out.trans (hb8.mono HB7.out.size)); (have HD8 : Hid (Dn w8 w5.heap.size l) := HD7.out.below hb8); clear hb8))
              (try simp only [Exit.inBlock, Exit.then])
              refine bodyPost_ret (by simp [results, Try.results6, go_sem, y0, y1]; try rfl) rfl ?_
              have hA3 : (ofA l).1 = (0, 0) := by rw [HA.out, if_neg (by rw [HAC.out.1, HAC.out.2]; rintro (q | q); exact h32 q; exact h64 q)]
              refine ⟨tw_bel HB8.out (by have := HF.out.2.2.2; omega) _ _, .inl ⟨hA3, w5.heap.size, rfl, ?_⟩⟩
              exact dn_set HD8.out HF8.out _ _
        · have hcs : ∀ (j : Nat) (u : Value), (elCs l)[j]? = some u → wr.cell? ((⟨g, 0, none⟩ : Addr).add j) = some u := by
            intro j u hj
            rw [Addr.add_lit]
            simp only [Nat.zero_add]
            have hr3 := HR.out
            rw [hv] at hr3
            have hjl : j < i * 8 := by have := (List.getElem?_eq_some_iff.1 hj).1; rw [elCs_len, HN.out] at this; exact this
            have h1 : w.cell? ⟨g, j, none⟩ = some u := by rw [hr3.cellAt j (by omega)]; exact hj
            exact (HBr.out.cell (p := ⟨g, j, none⟩) (World.block_lt_of_cell? w _ h1)).trans h1
          have HCS : Hid (∀ (j : Nat) (u : Value), (elCs l)[j]? = some u → wr.cell? ((⟨g, 0, none⟩ : Addr).add j) = some u) := hcs
          have hll : (elCs l).length = i * 8 := by rw [elCs_len, HN.out]
          cases hv
          clear hcs
          go_wp2_with (at_builtin; refine wpList_append_own _ (by rfl) _ _ 24 (by rfl) wr.heap.size 55 i0 _ 8 104 Try.underlying24 hi0 hz0 hz1 hz2 (by rfl) (by decide) _ 0 [] (by rfl) (World.ownsRow_nil _ _ _ _) ⟨g, 0, none⟩ i cA (elCs l) (by rfl) hll HCS.out (elC_one l) (by unfold maxLen; omega) (by omega) (Nat.le_refl _) ?_; intro v5 w5 hown5 hgrow5 hnil5; (have HROW : Hid (w5.ownsRow wr.heap.size 55 8 v5 i (elCs l)) := (show w5.ownsRow wr.heap.size 55 8 v5 i (elCs l) from (by simpa using hown5))); (have HBX : Hid (Below wr.heap.size wr w5) := (show Below wr.heap.size wr w5 from (Below.refl _ _).grown hgrow5 (Nat.le_refl _) (by intro k hk; simp [Value.ownBlock] at hk))); clear hown5 hgrow5 hnil5; (have HB5 : Hid (Below w.heap.size w w5) := HBr.out.trans (HBX.out.mono HBr.out.size)); (have HF5 : Hid (w5.heap[F]? = some (.cells #[.int .i64 0, .int .i64 0] 29 (0, 0))) := (show w5.heap[F]? = some (.cells #[.int .i64 0, .int .i64 0] 29 (0, 0)) from (by rw [HBX.out.block F (Array.getElem?_eq_some_iff.1 HFb.out).1]; exact HFb.out))); (have hS : ∃ A n k, v5 = Value.slice A n k := (by rcases HROW.out.2 with ⟨e, _⟩ | ⟨g9, cap9, cur9, e, _⟩ <;> exact ⟨_, _, _, e⟩)); obtain ⟨A5, n5, k5, rfl⟩ := hS)
          have HD : Hid (Dn (w5.alloc (.cells #[(.slice A5 n5 k5), .bool true] 71)) w5.heap.size l) := dn_new HROW.out HN.out (by omega)
          have HB6 : Hid (Below w.heap.size w (w5.alloc (.cells #[(.slice A5 n5 k5), .bool true] 71))) := HB5.out.alloc HB5.out.size _
          have HF6 : Hid ((w5.alloc (.cells #[(.slice A5 n5 k5), .bool true] 71)).heap[F]? = some (.cells #[.int .i64 0, .int .i64 0] 29 (0, 0))) := (show (w5.alloc (.cells #[(.slice A5 n5 k5), .bool true] 71)).heap[F]? = some (.cells #[.int .i64 0, .int .i64 0] 29 (0, 0)) from (by rw [Below.heap_alloc _ _ _ (Array.getElem?_eq_some_iff.1 HF5.out).1]; exact HF5.out))
          by_cases h32 : 32 < a
          · have h32i : (32 : Int) < (a : Int) := by omega
            go_wp2_with (first
              | (go_at_call 23; (with_reducible refine (HND.out _ _ HD.out).mono ?_); rintro e w7 ⟨A7, k7, rfl, hb7⟩; (have hF7 : w7.heap[F]? = some (.cells #[.int .i64 0, .int .i64 0] 29 (0, 0)) := (by rw [hb7.block F (Array.getElem?_eq_some_iff.1 HF6.out).1]; exact HF6.out)); (obtain ⟨z0, z1, z2, z3⟩ := tw_c hF7); (obtain ⟨y0, y1⟩ := tw_set hF7 (.int .i64 3) (.int .i64 (-1))); (have HB7 : Hid (Below w.heap.size w w7) := HB6.out.trans (hb7.mono HB6.out.size)); clear hb7))
            (try simp only [Exit.inBlock, Exit.then])
            refine bodyPost_ret (by simp [results, Try.results6, go_sem, y0, y1]; try rfl) rfl ?_
            have hA3 : (ofA l).1 = (3, -1) := by rw [HA.out, if_pos (.inl (by rw [HAC.out.1]; exact h32))]
            exact ⟨tw_bel HB7.out (by have := HF.out.2.2.2; omega) _ _, .inr ⟨by rw [hA3]; simp, by rw [hA3]⟩⟩
          · have h32i : ¬ (32 : Int) < (a : Int) := by omega
            by_cases h64 : 64 < a + c
            · have h64i : (64 : Int) < ((a + c : Nat) : Int) := by omega
              go_wp2_with (first
                | (go_at_call 23; (with_reducible refine (HND.out _ _ HD.out).mono ?_); rintro e w7 ⟨A7, k7, rfl, hb7⟩; (have HD7 : Hid (Dn w7 w5.heap.size l) := HD.out.below hb7); (have HF7 : Hid (w7.heap[F]? = some (.cells #[.int .i64 0, .int .i64 0] 29 (0, 0))) := (show w7.heap[F]? = some (.cells #[.int .i64 0, .int .i64 0] 29 (0, 0)) from (by rw [hb7.block F (Array.getElem?_eq_some_iff.1 HF6.out).1]; exact HF6.out))); (have HB7 : Hid (Below w.heap.size w w7) := HB6.out.trans (hb7.mono HB6.out.size)); clear hb7)
                | (go_at_call 24; (with_reducible refine (HOR.out _ _ HD7.out).mono ?_); rintro e w8 ⟨rfl, hb8⟩; (have hF8 : w8.heap[F]? = some (.cells #[.int .i64 0, .int .i64 0] 29 (0, 0)) := (by rw [hb8.block F (Array.getElem?_eq_some_iff.1 HF7.out).1]; exact HF7.out)); (obtain ⟨z0, z1, z2, z3⟩ := tw_c hF8); (obtain ⟨y0, y1⟩ := tw_set hF8 (.int .i64 3) (.int .i64 (-1))); (have HB8 : Hid (Below w.heap.size w w8) := HB7.out.trans (hb8.mono HB7.out.size)); clear hb8))
              (try simp only [Exit.inBlock, Exit.then])
              refine bodyPost_ret (by simp [results, Try.results6, go_sem, y0, y1]; try rfl) rfl ?_
              have hA3 : (ofA l).1 = (3, -1) := by rw [HA.out, if_pos (.inr (by rw [HAC.out.1, HAC.out.2]; exact h64))]
              exact ⟨tw_bel HB8.out (by have := HF.out.2.2.2; omega) _ _, .inr ⟨by rw [hA3]; simp, by rw [hA3]⟩⟩
            · have h64i : ¬ (64 : Int) < ((a + c : Nat) : Int) := by omega
              go_wp2_with (first
                | (go_at_call 23; (with_reducible refine (HND.out _ _ HD.out).mono ?_); rintro e w7 ⟨A7, k7, rfl, hb7⟩; (have HD7 : Hid (Dn w7 w5.heap.size l) := HD.out.below hb7); (have HF7 : Hid (w7.heap[F]? = some (.cells #[.int .i64 0, .int .i64 0] 29 (0, 0))) := (show w7.heap[F]? = some (.cells #[.int .i64 0, .int .i64 0] 29 (0, 0)) from (by rw [hb7.block F (Array.getElem?_eq_some_iff.1 HF6.out).1]; exact HF6.out))); (have HB7 : Hid (Below w.heap.size w w7) := HB6.out.trans (hb7.mono HB6.out.size)); clear hb7)
                | (go_at_call 24; (with_reducible refine (HOR.out _ _ HD7.out).mono ?_); rintro e w8 ⟨rfl, hb8⟩; (have hF8 : w8.heap[F]? = some (.cells #[.int .i64 0, .int .i64 0] 29 (0, 0)) := (by rw [hb8.block F (Array.getElem?_eq_some_iff.1 HF7.out).1]; exact HF7.out)); (have HF8 : Hid (w8.heap[F]? = some (.cells #[.int .i64 0, .int .i64 0] 29 (0, 0))) := hF8); (obtain ⟨z0, z1, z2, z3⟩ := tw_c hF8); (obtain ⟨y0, y1⟩ := tw_set hF8 (.int .i64 0) (.int .i64 0)); (have HB8 : Hid (Below w.heap.size w w8) := HB7.out.trans (hb8.mono HB7.out.size)); (have HD8 : Hid (Dn w8 w5.heap.size l) := HD7.out.below hb8); clear hb8))
              (try simp only [Exit.inBlock, Exit.then])
              refine bodyPost_ret (by simp [results, Try.results6, go_sem, y0, y1]; try rfl) rfl ?_
              have hA3 : (ofA l).1 = (0, 0) := by rw [HA.out, if_neg (by rw [HAC.out.1, HAC.out.2]; rintro (q | q); exact h32 q; exact h64 q)]
              refine ⟨tw_bel HB8.out (by have := HF.out.2.2.2; omega) _ _, .inl ⟨hA3, w5.heap.size, rfl, ?_⟩⟩
              exact dn_set HD8.out HF8.out _ _
end Go.Proofs.Ytmhplaanpbpndaa
