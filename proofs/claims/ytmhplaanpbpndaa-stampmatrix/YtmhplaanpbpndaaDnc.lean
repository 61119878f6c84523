/-
  The document's net in memory: Nodes.
-/
import Derived.Test.YtmhplaanpbpndaaDnb
import Derived.BigQuiet
import Derived.Deep.QuietTactic
namespace Go.Proofs.Ytmhplaanpbpndaa
open Go.Maps Go.RowKit
set_option linter.unusedVariables false
set_option maxRecDepth 100000

theorem ndR_take {l : List Elm} {i : Nat} {x : Elm} (hx : l[i]? = some x) : ndR (l.take (i + 1)) = ndE (ndR (l.take i)) x := by rw [take_snoc hx, ndR_snoc]
theorem ndR_len : ∀ (l : List Elm), (ndR l).length ≤ 4 * l.length := snoc_rec (P := fun l => (ndR l).length ≤ 4 * l.length) (Nat.zero_le _) (fun l x ih => by
  show (ndR (l ++ [x])).length ≤ _
  rw [ndR_snoc]
  have := ndE_len (ndR l) x
  simp only [List.length_append, List.length_cons, List.length_nil]
  omega)
/-- four texts in a block -/
def Four (W : World) (q : Nat) (x : Elm) : Prop := W.heap[q]? = some (.cells #[.string x.a, .string x.b, .string x.c, .string x.d] 9 (0, 0))
theorem Four.at {W : World} {q k : Nat} {x : Elm} (h : Four W q x) (hk : k < 4) : W.cell? ⟨q, k, none⟩ = some (.string ⟨(bl (nod x k)).toArray⟩) := by
  rw [cell_of_row W q k _ _ (0, 0) h]
  rcases (by omega : k = 0 ∨ k = 1 ∨ k = 2 ∨ k = 3) with rfl | rfl | rfl | rfl <;> rfl
def hasN (xs : List (List UInt8)) (s : List UInt8) (j : Nat) : Bool := decide (s ∈ xs.take j)
theorem hasN_next {xs : List (List UInt8)} {s y : List UInt8} {j : Nat} (hy : xs[j]? = some y) : hasN xs s (j + 1) = (hasN xs s j || (y == s)) := by
  unfold hasN
  rw [List.take_add_one, hy]
  by_cases h1 : s ∈ xs.take j
  · simp [h1]
  · by_cases h2 : y = s
    · subst h2; simp [h1]
    · have h3 : ¬ s = y := fun e => h2 e.symm
      simp [h1, h2, h3]
set_option maxHeartbeats 8000000 in
theorem dnodes {w : World} {p : Nat} {l : List Elm} (h : Dn w p l) : Calls Try.prog 23 #[.pointer (some ⟨p, 0, none⟩)] w fun e w' => ∃ v', e = .returned v' ∧ w'.ownsRow w.heap.size 9 1 v' (ndR l).length ((ndR l).map sv) ∧ Below w.heap.size w w' := by
  obtain ⟨i0, hi0, hz0, hz1, hz2⟩ := info_parts Try.infoS
  have hel := delements h
  have hl := h.len
  obtain ⟨n, hn⟩ : ∃ n, l.length = n := ⟨_, rfl⟩
  rw [hn] at hel hl
  have HN : Hid (l.length = n) := hn
  clear hn h
  go_enter Try.func23, Try.ntmps23
  go_wp2_with (go_at_call 48; (with_reducible refine hel.mono ?_); rintro e1 w1 ⟨v1, rfl, ho1, hb1⟩)
  obtain ⟨A1, c1, hv1⟩ := drow_slice ho1
  subst hv1
  obtain ⟨L, hL⟩ : ∃ L, w1.heap.size = L := ⟨_, rfl⟩
  have HL : Hid (w1.heap.size = L ∧ w.heap.size ≤ L) := ⟨hL, by have := hb1.size; omega⟩
  have HO1 : Hid _ := ho1
  have HB1 : Hid (Below w.heap.size w w1) := hb1
  clear ho1 hb1 hel hL
  go_wp2_with fail
  go_loopw [5, 3] (fun iv ov wr => ∃ (i : Nat), i ≤ n ∧ iv = .int .i64 i ∧ Hid (wr.ownsRow L 9 1 ov (ndR (l.take i)).length ((ndR (l.take i)).map sv) ∧ Below w1.heap.size w1 wr)) (fun iv _ _ => n - (intOf iv).toNat)
  case atStart => exact ⟨0, Nat.zero_le _, rfl, by rw [List.take_zero]; exact ⟨World.ownsRow_nil _ _ _ _, Below.refl _ _⟩⟩
  case round =>
    obtain ⟨i, hle, rfl, HI⟩ := hrel
    obtain ⟨Ao, co, hov⟩ := drow_slice HI.out.1
    subst hov
    by_cases hp4 : i < n
    · have hpi : (i : Int) < (n : Int) := by omega
      obtain ⟨x, hx⟩ : ∃ x, l[i]? = some x := ⟨_, List.getElem?_eq_getElem (by have := HN.out; omega)⟩
      obtain ⟨g1, cc, hvv, hE⟩ := de8_row HO1.out HN.out hx
      cases hvv
      have hE2 := hE.bel hE.lt HI.out.2
      obtain ⟨_, _, d2, d3, d4, d5, _, _⟩ := hE2
      have HX : Hid (ndR (l.take (i + 1)) = ndE (ndR (l.take i)) x) := ndR_take hx
      have hlen : (ndR (l.take i)).length ≤ 1024 := by have := ndR_len (l.take i); rw [List.length_take] at this; omega
      obtain ⟨xs, hxs⟩ : ∃ xs, ndR (l.take i) = xs := ⟨_, rfl⟩
      rw [hxs] at hlen HX HI ⊢
      have HXS : Hid (ndR (l.take i) = xs) := hxs
      have HE0 : Hid (E8 w1 g1 (i * 8) x) := hE
      clear hE hx hxs
      have hq0 : L ≤ wr.heap.size := by have h1 := HL.out.1; have h2 := HI.out.2.size; omega
      obtain ⟨q, hq⟩ : ∃ q, wr.heap.size = q := ⟨_, rfl⟩
      obtain ⟨wq, hwq⟩ : ∃ wq, wr.alloc (.cells #[.string x.a, .string x.b, .string x.c, .string x.d] 9) = wq := ⟨_, rfl⟩
      have HQ : Hid (Four wq q x ∧ wq.ownsRow L 9 1 (.slice Ao xs.length co) xs.length (xs.map sv) ∧ Below w1.heap.size w1 wq ∧ (Value.slice Ao xs.length co).ownBlock ≠ some q ∧ L ≤ q ∧ q < wq.heap.size) := by
        rw [← hwq, ← hq]
        refine ⟨heap_alloc_new _ _, HI.out.1.alloc _, HI.out.2.alloc HI.out.2.size _, fun e => ?_, hq0, by simp⟩
        have := (row_ge HI.out.1 e).2
        omega
      obtain ⟨_, _, q2, q3, q4, q5, _, _⟩ := HE0.out.bel HE0.out.lt HQ.out.2.2.1
      go_wp2_with fail
      go_region_held_law (fun W => W.cell? ⟨g1, i * 8 + 2, none⟩ = some (.string x.a) ∧ W.cell? ⟨g1, i * 8 + 3, none⟩ = some (.string x.b) ∧ W.cell? ⟨g1, i * 8 + 4, none⟩ = some (.string x.c) ∧ W.cell? ⟨g1, i * 8 + 5, none⟩ = some (.string x.d)) (first | exact ⟨d2, d3, d4, d5⟩ | exact ⟨q2, q3, q4, q5⟩ | go_keep) (fail)
      clear d2 d3 d4 d5 q2 q3 q4 q5
      have HQ2 : Hid (Four wq.drew q x ∧ wq.drew.ownsRow L 9 1 (.slice Ao xs.length co) xs.length (xs.map sv) ∧ Below w1.heap.size w1 wq.drew ∧ (Value.slice Ao xs.length co).ownBlock ≠ some q ∧ L ≤ q ∧ q < wq.drew.heap.size) := ⟨HQ.out.1, HQ.out.2.1, HQ.out.2.2.1.drew, HQ.out.2.2.2⟩
      clear HQ HI HE0
      go_wp2_with fail
      go_loopw [7, 3] (fun iv ov wr => ∃ (k : Nat), k ≤ 4 ∧ iv = .int .i64 k ∧ Hid (Four wr q x ∧ wr.ownsRow L 9 1 ov (ndK xs x k).length ((ndK xs x k).map sv) ∧ Below w1.heap.size w1 wr ∧ ov.ownBlock ≠ some q ∧ L ≤ q ∧ q < wr.heap.size)) (fun iv _ _ => 4 - (intOf iv).toNat)
      case atStart => exact ⟨0, Nat.zero_le _, rfl, HQ2⟩
      case round =>
        clear HQ2 hwq
        obtain ⟨k, hk4, rfl, HK⟩ := hrel
        obtain ⟨Ak, ck, hok⟩ := drow_slice HK.out.2.1
        subst hok
        by_cases hp5 : k < 4
        · have hpk : (k : Int) < 4 := by omega
          obtain ⟨ys, hys⟩ : ∃ ys, ndK xs x k = ys := ⟨_, rfl⟩
          have hyl : ys.length ≤ 1028 := by have := ndK_len xs x k; rw [hys] at this; omega
          have HYS : Hid (ndK xs x k = ys) := hys
          rw [hys] at HK ⊢
          clear hys
          have HS : Hid (ndK xs x (k + 1) = ndO ys (nod x k)) := by show ndO (ndK xs x k) (nod x k) = _; rw [HYS.out]
          have c4 := HK.out.1.at hp5
          obtain ⟨s, hs⟩ : ∃ s, bl (nod x k) = s := ⟨_, rfl⟩
          rw [hs] at c4
          obtain ⟨m, hm⟩ : ∃ m, ys.length = m := ⟨_, rfl⟩
          have HM : Hid (ys.length = m) := hm
          rw [hm] at hyl HK ⊢
          have HSN : Hid (ndO ys (nod x k) = if (!(s == []) && !(s == [48])) = true then addU ys s else ys) := by
            show ndO _ _ = _
            unfold ndO isN
            rw [hs]
          clear hm hs
          have HC4 : Hid (wr.cell? ⟨q, k, none⟩ = some (.string ⟨s.toArray⟩)) := c4
          have HLT : Hid (q < wr.heap.size) := HK.out.2.2.2.2.2
          obtain ⟨t0, ht0⟩ : ∃ t0, ((s == []) || (s == [48])) = t0 := ⟨_, rfl⟩
          have HT0 : Hid (((s == []) || (s == [48])) = t0) := ht0
          cases hA : (s == []) <;> cases hB : (s == [48])
          all_goals
            rw [hA, hB] at ht0
            first | (obtain rfl : t0 = true := ht0.symm) | (obtain rfl : t0 = false := ht0.symm)
            go_wp2_with fail
            clear c4
            obtain ⟨wk, hwk⟩ : ∃ wk, wk = wr := ⟨_, rfl⟩
            rw [← hwk] at HC4 HLT HK
            go_loopw [9, 8] (fun jv tv wr2 => ∃ (j r : Nat) (t : Bool), j ≤ m ∧ jv = .int .i64 j ∧ tv = .bool t ∧ wr2 = wk.drewN r ∧ Hid (t = (((s == []) || (s == [48])) || hasN ys s j))) (fun jv _ _ => m - (intOf jv).toNat)
            case atStart =>
              refine ⟨0, 0, _, Nat.zero_le _, rfl, rfl, by rw [hwk]; rfl, ?_⟩
              show _ = _
              rw [HT0.out]; simp [hasN]
            case round =>
              clear hwk
              obtain ⟨j, r, t, hjm, rfl, rfl, hwr, HT⟩ := hrel
              by_cases hjl : j < m
              · have hpj : (j : Int) < (m : Int) := by omega
                obtain ⟨y, hy⟩ : ∃ y, ys[j]? = some y := ⟨_, List.getElem?_eq_getElem (by have := HM.out; omega)⟩
                obtain ⟨gy, capy, hvy, cy⟩ := row_cellS (by have := HK.out.2.1; rw [← HM.out] at this; exact this) hy
                rw [HM.out] at hvy
                cases hvy
                have HY : Hid (hasN ys s (j + 1) = (hasN ys s j || (y == s))) := hasN_next hy
                have HWR : Hid (wr = wk.drewN r) := hwr
                have cy2 : wr.cell? ⟨gy, j, none⟩ = some (.string ⟨y.toArray⟩) := by rw [hwr]; exact cy
                have c42 : wr.cell? ⟨q, k, none⟩ = some (.string ⟨s.toArray⟩) := by rw [hwr]; exact HC4.out
                clear hy cy hwr
                cases t
                · cases hys : (y == s)
                  all_goals
                    go_wp2_with fail
                    go_big_quiet (fail)
                    go_wp2_with fail
                    go_roundw
                    case rel => exact ⟨j + 1, r + nq, _, by omega, by go_num, rfl, by rw [HWR.out, World.drewN_drewN], by show _ = _; rw [HY.out, ← Bool.or_assoc, ← HT.out, hys]; rfl⟩
                    case measure => simp [intOf]; omega
                · go_wp2_with fail
                  go_big_quiet (fail)
                  go_wp2_with fail
                  go_roundw
                  case rel => exact ⟨j + 1, r + nq, _, by omega, by go_num, rfl, by rw [HWR.out, World.drewN_drewN], by show _ = _; rw [HY.out, ← Bool.or_assoc, ← HT.out]; rfl⟩
                  case measure => simp [intOf]; omega
              · have hjm2 : j = m := by omega
                subst hjm2
                have hnl : ¬ ((j : Int) < (j : Int)) := by omega
                have hall : hasN ys s j = decide (s ∈ ys) := by unfold hasN; rw [List.take_of_length_le (by have := HM.out; omega)]
                have HE : Hid (t = (((s == []) || (s == [48])) || decide (s ∈ ys))) := by rw [← hall]; exact HT.out
                have HWR : Hid (wr = wk.drewN r) := hwr
                have hsz : wr.heap.size = wk.heap.size := by rw [hwr]; rfl
                have HF4 : Hid (Four wr q x) := by show wr.heap[q]? = _; rw [hwr]; exact HK.out.1
                have HR4 : Hid (wr.ownsRow L 9 1 (.slice Ak j ck) j (ys.map sv)) := by rw [hwr]; exact HK.out.2.1
                have HB4 : Hid (Below w1.heap.size w1 wr) := by rw [hwr]; exact HK.out.2.2.1.trans (bel_dN wk r |>.mono HK.out.2.2.1.size)
                have HQL : Hid (q < wr.heap.size) := by rw [hsz]; exact HLT.out
                have c42 : wr.cell? ⟨q, k, none⟩ = some (.string ⟨s.toArray⟩) := by rw [hwr]; exact HC4.out
                clear hwr hsz hall HT
                cases t
                · have HNS : Hid ((!(s == []) && !(s == [48])) = true ∧ s ∉ ys) := by
                    have := HE.out
                    rw [eq_comm, Bool.or_eq_false_iff, Bool.or_eq_false_iff, decide_eq_false_iff_not] at this
                    exact ⟨by rw [this.1.1, this.1.2]; rfl, this.2⟩
                  have hLw : L ≤ wr.heap.size := by have h1 := HK.out.2.2.2.2.1; have h2 := HQL.out; omega
                  go_wp2_with (at_builtin; refine wpList_append_lies _ (by rfl) _ _ 42 (by rfl) L 9 i0 _ 1 16 Try.underlying42 hi0 hz0 hz1 hz2 (by rfl) (by decide) _ _ _ (by rfl) (HR4.out.alloc _) ⟨wr.heap.size, 0, none⟩ 1 1 [.string ⟨s.toArray⟩] (by rfl) (by rfl) (World.news_of_block (fr := (0, 0)) (t := 9) (cs := #[.string ⟨s.toArray⟩]) (heap_alloc_new _ _)) (fun u hu => by simp at hu; subst hu; rfl) (by decide) (by unfold maxLen; omega) (by omega) (by simp; omega) _ rfl ?_; intro g4 cp4 w4 hown4 hgrow4 hat4 hlt4)
                  go_roundw
                  case rel =>
                    have e1 : ndK xs x (k + 1) = ys ++ [s] := by rw [HS.out, HSN.out, if_pos HNS.out.1]; exact if_neg HNS.out.2
                    have hqw := HQL.out
                    have hne := HK.out.2.2.2.1
                    refine ⟨k + 1, by omega, by go_num, ?_, ?_, ?_, ?_, HK.out.2.2.2.2.1, ?_⟩
                    · show w4.heap[q]? = _
                      rw [hgrow4.block q (by simp; omega) (fun e => hne e.symm), Below.heap_alloc _ _ _ hqw]; exact HF4.out
                    · rw [e1, List.map_append, List.length_append, HM.out]; exact hown4
                    · exact (HB4.out.alloc HB4.out.size _).grown hgrow4 (by have := HB4.out.size; simp; omega) (fun j2 hj2 => by have := (row_ge HR4.out hj2).1; have := HL.out.1; omega)
                    · intro e
                      have e2 : g4 = q := by simpa [Value.ownBlock] using e
                      rcases hat4 with h1 | h1
                      · exact hne (by rw [h1, e2])
                      · rw [World.size_alloc] at h1; omega
                    · have := hgrow4.size; simp at this; omega
                  case measure => simp [intOf]; omega
                · have HNS : Hid (ndK xs x (k + 1) = ys) := by
                    show _ = _
                    rw [HS.out, HSN.out]
                    have h2 := HE.out
                    by_cases h3 : (!(s == []) && !(s == [48])) = true
                    · rw [if_pos h3]
                      rw [Bool.and_eq_true, Bool.not_eq_true', Bool.not_eq_true'] at h3
                      rw [h3.1, h3.2] at h2
                      exact if_pos (by simpa using h2.symm)
                    · rw [if_neg h3]
                  go_wp2_with fail
                  go_roundw
                  case rel => exact ⟨k + 1, by omega, by go_num, HF4.out, by rw [HNS.out, HM.out]; exact HR4.out, HB4.out, HK.out.2.2.2.1, HK.out.2.2.2.2.1, HQL.out⟩
                  case measure => simp [intOf]; omega
        · have hk : k = 4 := by omega
          subst hk
          have hnk : ¬ (((4 : Nat) : Int) < 4) := by decide
          go_wp2_with fail
          go_roundw
          case rel => exact ⟨i + 1, by omega, by go_num, by rw [HX.out, ← ndK_4]; exact HK.out.2.1, HK.out.2.2.1⟩
          case measure => simp [intOf]; omega
    · have hin : i = n := by omega
      subst hin
      have hnl : ¬ ((i : Int) < (i : Int)) := by omega
      have HT : Hid (l.take i = l) := List.take_of_length_le (by have := HN.out; omega)
      go_wp2_with fail
      go_ret
      obtain ⟨h1, h2⟩ := HI.out
      rw [HT.out] at h1 ⊢
      refine ⟨_, rfl, ⟨h1.1, ?_⟩, ?_⟩
      · rcases h1.2 with q | ⟨g, cap, cur, q1, q2, q3⟩
        · exact .inl q
        · exact .inr ⟨g, cap, cur, q1, by have := HL.out.2; omega, q3⟩
      · exact HB1.out.trans (h2.mono (by have := HL.out; omega))
end Go.Proofs.Ytmhplaanpbpndaa
