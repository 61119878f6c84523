/-
  Several texts in one: Tke Tkr Tkj Nma.
-/
import Derived.Test.YtmpkcioeodlbcaaGreatDoorK02
import Derived.WalkMore
import Derived.Deep.LoopGhost
import Derived.Deep.RegionWith
import Derived.Deep.QuietTactic
import Derived.Test.YtmpkcioeodlbcaaGreatDoorProg
import Derived.Maps.OwnSet
namespace Go.Proofs.YtmpkcioeodlbcaaGreatDoor
open RowKit Joins Deep
set_option linter.unusedVariables false
theorem Tryz.infoRow : (Tryz.prog.info? 161).map (fun i => (i.zero, i.size, i.bytes)) = some (some (.slice none 0 0), 1, 24) := by kernel_rfl
/-- the fault as a value -/
abbrev fltV (e a : Int) : Value := .agg #[.int .i64 e, .int .i64 a]
set_option maxHeartbeats 4000000 in
set_option maxRecDepth 100000 in
theorem cut_any (s : ByteArray) (m : Int) (w : World) (hs : s.size ≤ 65536) (hm : w.cell? ⟨1, 0, none⟩ = some (.int .i64 m)) :
    Calls Tryz.prog 104 #[.string s] w fun e w' => Below w.heap.size w w' ∧ ∃ v, e = .returned (.tuple #[v, fltV (erL 0 (liT s)).1 (erL 0 (liT s)).2]) ∧
      (((erL 0 (liT s)).1 = 0 ∧ (erL 0 (liT s)).2 = 0 ∧ v = .slice (some ⟨w.heap.size + 2, 0, none⟩) (liP s).length (liP s).length ∧ ∃ vs ts, Fam w' (w.heap.size + 3) (w.heap.size + 2) (liP s).length vs ts ∧ ∀ j u, (liT s)[j]? = some u → ts j = tkl j u)
        ∨ ((erL 0 (liT s)).1 ≠ 0 ∧ v = .slice none 0 0)) := by
  have hlen := liP_len s
  obtain ⟨N, hN⟩ : ∃ N, (liP s).length = N := ⟨_, rfl⟩
  have hmk := run_make_row' (P := Tryz.prog) 155 161 (.slice none 0 0) 24 Tryz.underlying155 Tryz.infoRow rfl .i64 .i64 N (by omega) (by omega)
  have hlo : ∀ F, Calls Tryz.prog 145 #[.string s] (w.alloc F) fun e w' =>
      e = .returned (.slice (some ⟨w.heap.size + 1, 0, none⟩) N (alP s).length) ∧ w' = (w.alloc F).alloc (.cells ((cuT s (alP s)).map Value.string).toArray 9) := by
    intro F
    have := linesOf_any s m (w.alloc F) hs (by rw [World.cell?_alloc_lt _ _ _ (World.block_lt_of_cell? w _ hm)]; exact hm)
    rw [hN] at this
    simpa using this
  have HC : Hid (∀ F, F = Obj.cells #[.int .i64 0, .int .i64 0] 69 → Civ s w (((w.alloc F).alloc (.cells ((cuT s (alP s)).map Value.string).toArray 9)).alloc (.cells (madeCells #[.slice none 0 0] N) 161)) 0 []) := by
    rintro F rfl
    exact Civ.start hN
  generalize ((cuT s (alP s)).map Value.string).toArray = X at hlo HC
  go_enter Tryz.func104, Tryz.ntmps104
  go_wp2_with fail
  go_step3
  go_wp2_with (go_at_call 145; (with_reducible refine (hlo _).mono ?_); rintro e w' ⟨rfl, rfl⟩)
  go_step3
  go_wp2_with fail
  go_loopg [23] N (fun g iv wr => ∃ n : Nat, n + g = N ∧ iv = .int .i64 n ∧ Hid (Civ s w wr n []))
  case atStart => exact ⟨0, by omega, rfl, HC.out _ rfl⟩
  case round =>
    obtain ⟨n, hng, rfl, HV⟩ := hrel
    cases gk with
    | zero =>
      have hnn : ¬ ((n : Int) < (N : Int)) := by omega
      obtain rfl : n = N := by omega
      have hfc := HV.out.fc
      obtain ⟨c0, c1, f0, f1⟩ := two_c hfc
      have rr := two_set hfc (.int .i64 0) (.int .i64 0)
      clear hfc
      go_wp2_with fail
      try rw [Exit.noGoto_ret]
      refine bodyPost_ret (by simp [results, Tryz.results104, go_sem, rr.1, rr.2]; try rfl) rfl ?_
      have hz : erL 0 (liT s) = (0, 0) := erL_ok fun t ht => by
        obtain ⟨j, hj⟩ := List.getElem?_of_mem ht
        refine HV.out.ok j t ?_ hj
        have := (List.getElem?_eq_some_iff.1 hj).1
        rw [liT_len] at this; omega
      obtain ⟨vs, ts, hf, h1, _, _⟩ := HV.out.fam
      rw [hz]
      refine ⟨below_two HV.out.bel (Nat.le_refl _) _ _, _, rfl, .inl ⟨rfl, rfl, by rw [hN], vs, ts, (hf.put (by omega) (by omega) _).put (by omega) (by omega) _, fun j u hu => h1 j u ?_ hu⟩⟩
      have := (List.getElem?_eq_some_iff.1 hu).1
      rw [liT_len] at this; omega
    | succ g =>
      have hnn : (n : Int) < (N : Int) := by omega
      obtain ⟨p, hp, hpl, ht⟩ := liT_get (s := s) (n := n) (by omega)
      have hp2 := (liP_in hp).2
      obtain ⟨t, htt⟩ : ∃ t, s.extract p.1 p.2 = t := ⟨_, rfl⟩
      have hts : t.size ≤ 65536 := by rw [← htt, ex_size hp2]; omega
      rw [htt] at ht
      clear htt hpl hp hp2
      have HT : Hid ((liT s)[n]? = some t) := ht
      have hcell := HV.out.text ht
      clear ht
      go_wp2_with fail
      go_loopg [30] t.size (fun g2 iv wr2 => ∃ (i : Nat) (L : List (Nat × Nat)), i + g2 = t.size ∧ iv = .int .i64 i ∧ Hid (scn t i = (0, L)) ∧ Hid (Civ s w wr2 n (wtk t n L)))
      case atStart => exact ⟨0, [], by omega, rfl, rfl, HV.out⟩
      case round =>
        obtain ⟨i, L, hig, rfl, HS, HV2⟩ := hrel
        cases gk with
        | zero =>
          have hii : ¬ ((i : Int) < (t.size : Int)) := by omega
          obtain rfl : i = t.size := by omega
          go_wp2_with fail
          go_roundg g
          case measure => omega
          case rel =>
            refine ⟨n + 1, by omega, by go_num, ?_⟩
            refine Civ.next (t := t) ?_ HT.out (bd_ok (.inl (by rw [HS.out])))
            have := HV2.out
            rw [tkl_wtk, HS.out]
            exact this
        | succ g2 =>
          have hii : (i : Int) < (t.size : Int) := by omega
          have hit : i < t.size := by omega
          have hg := bty_get hit
          have hcl := bty_lt t i
          obtain ⟨c, hc⟩ : ∃ c, c = bty t i := ⟨_, rfl⟩
          rw [← hc] at hg hcl
          have HCc : Hid (c = bty t i) := hc
          clear hc
          have hfc := HV2.out.fc
          obtain ⟨c0, c1, f0, f1⟩ := two_c hfc
          have rr240 := two_set hfc (.int .i64 240) (.int .i64 n)
          have rr3 := two_set hfc (.int .i64 3) (.int .i64 n)
          clear hfc
          rcases (show (c = 42 ∨ c = 59) ∨ (c = 32 ∨ c = 9 ∨ c = 13) ∨ (¬ (c = 42 ∨ c = 59) ∧ ¬ (c = 32 ∨ c = 9 ∨ c = 13) ∧ (c < 33 ∨ 126 < c)) ∨ (¬ (c = 42 ∨ c = 59) ∧ ¬ (c = 32 ∨ c = 9 ∨ c = 13) ∧ ¬ (c < 33 ∨ 126 < c)) from by omega) with hq | hq | hq | hq
          · have hfin : scn t t.size = (1, L) := by
              have h1 := scn_rem HS.out (by rw [← HCc.out]; exact hq)
              rw [scn_stays (s := t) (i := i + 1) (by rw [h1]; simp) t.size (by omega), h1]
            have HF : Hid (scn t t.size = (1, L)) := hfin
            clear hfin
            rcases hq with rfl | rfl
            all_goals
              go_wp2_with fail
              go_roundg g
              case measure => omega
              case rel =>
                refine ⟨n + 1, by omega, by go_num, ?_⟩
                refine Civ.next (t := t) ?_ HT.out (bd_ok (.inr (by rw [HF.out])))
                have := HV2.out
                rw [tkl_wtk, HF.out]
                exact this
          · have HN : Hid (scn t (i + 1) = (0, L)) := scn_blk HS.out (by rw [← HCc.out]; exact hq)
            rcases hq with rfl | rfl | rfl
            all_goals
              go_wp2_with fail
              go_roundg g2
              case measure => omega
              case rel => exact ⟨i + 1, L, by omega, by go_num, HN.out, HV2.out⟩
          · obtain ⟨q1, q2, q3⟩ := hq
            have hfin : scn t t.size = (2, L) := by
              have h1 := scn_bad HS.out (by rw [← HCc.out]; exact q1) (by rw [← HCc.out]; exact q2) (by rw [← HCc.out]; exact q3)
              rw [scn_stays (s := t) (i := i + 1) (by rw [h1]; simp) t.size (by omega), h1]
            have HF : Hid (scn t t.size = (2, L)) := hfin
            clear hfin
            have n1 : ((c : Int) == 42) = false := by simp; omega
            have n2 : ((c : Int) == 59) = false := by simp; omega
            have n3 : ((c : Int) == 32) = false := by simp; omega
            have n4 : ((c : Int) == 9) = false := by simp; omega
            have n5 : ((c : Int) == 13) = false := by simp; omega
            clear q1 q2
            rcases q3 with q | q
            · have n6 : decide ((c : Int) < 33) = true := by simp; omega
              go_wp2_with fail
              try rw [Exit.noGoto_ret]
              refine bodyPost_ret (by simp [results, Tryz.results104, go_sem, rr240.1, rr240.2]; try rfl) rfl ?_
              have hb : bdE t = 240 := bd_2 (by rw [HF.out])
              have hz : erL 0 (liT s) = (240, n) := by rw [erL_at (n := 0) HT.out HV2.out.ok (by rw [hb]; decide), hb, Nat.zero_add]
              rw [hz]
              exact ⟨below_two HV2.out.bel (Nat.le_refl _) _ _, _, rfl, .inr ⟨by simp, rfl⟩⟩
            · have n6 : decide ((c : Int) < 33) = false := by simp; omega
              have n7 : decide ((126 : Int) < (c : Int)) = true := by simp; omega
              go_wp2_with fail
              try rw [Exit.noGoto_ret]
              refine bodyPost_ret (by simp [results, Tryz.results104, go_sem, rr240.1, rr240.2]; try rfl) rfl ?_
              have hb : bdE t = 240 := bd_2 (by rw [HF.out])
              have hz : erL 0 (liT s) = (240, n) := by rw [erL_at (n := 0) HT.out HV2.out.ok (by rw [hb]; decide), hb, Nat.zero_add]
              rw [hz]
              exact ⟨below_two HV2.out.bel (Nat.le_refl _) _ _, _, rfl, .inr ⟨by simp, rfl⟩⟩
          · obtain ⟨q1, q2, q3⟩ := hq
            have n1 : ((c : Int) == 42) = false := by simp; omega
            have n2 : ((c : Int) == 59) = false := by simp; omega
            have n3 : ((c : Int) == 32) = false := by simp; omega
            have n4 : ((c : Int) == 9) = false := by simp; omega
            have n5 : ((c : Int) == 13) = false := by simp; omega
            have n6 : decide ((c : Int) < 33) = false := by simp; omega
            have n7 : decide ((126 : Int) < (c : Int)) = false := by simp; omega
            have HQ : Hid ((¬ (bty t i = 42 ∨ bty t i = 59)) ∧ ¬ blk (bty t i) ∧ ¬ (bty t i < 33 ∨ 126 < bty t i)) := by rw [← HCc.out]; exact ⟨q1, q2, q3⟩
            clear q1 q2 q3
            obtain ⟨vs, ts, hf, h1, h2, h3⟩ := HV2.out.fam
            have hnl : n < (liP s).length := by omega
            have hwf : Wfw i L := by have := scn_wf t i; rw [HS.out] at this; exact this
            have hbase : w.heap.size + 3 ≤ wr.heap.size := hf.lt
            have hown : wr.ownsRow (w.heap.size + 3) 225 3 (vs n) L.length (tcs (wtk t n L)) := by
              have := hf.own n hnl
              rw [h2, wtk_len] at this; exact this
            have hcl2 : wr.cell? ⟨w.heap.size + 2, n, none⟩ = some (vs n) := hf.row.cell hnl
            have hfz2 := hf.row.frozen n
            have hne := hf.far n hnl
            have HCL : Hid (∀ w3 : World, wr.grownBy w3 (vs n).ownBlock → w3.cell? ⟨w.heap.size + 2, n, none⟩ = some (vs n) ∧ w3.frozen? ⟨w.heap.size + 2, n, none⟩ = false) := fun w3 hg =>
              ⟨(hg.cell_far _ (by simpa using hf.lt) (fun e => hne e.symm)).trans hcl2, (hg.frozen_far _ (by simpa using hf.lt) (fun e => hne e.symm)).trans hfz2⟩
            have HST : Hid (∀ (w3 : World) (v' : Value) (l2 : List Tok), wr.grownBy w3 (vs n).ownBlock → w3.ownsRow (w.heap.size + 3) 225 3 v' l2.length (tcs l2) → (v'.ownBlock = (vs n).ownBlock ∨ ∃ g, v'.ownBlock = some g ∧ wr.heap.size ≤ g) → Civ s w (w3.setCell ⟨w.heap.size + 2, n, none⟩ v') n l2) :=
              fun w3 v' l2 a1 a2 a3 => HV2.out.lays hnl hf h1 h3 a1 a2 a3
            have HFT : Hid (∀ w3 : World, wr.grownBy w3 (vs n).ownBlock → w3.heap[w.heap.size]? = some (.cells #[.int .i64 0, .int .i64 0] 69 (0, 0)) ∧ Below w.heap.size w w3) := fun w3 hg => by
              have hb0 : ∀ g, (vs n).ownBlock = some g → w.heap.size + 3 ≤ g := fun g e => ((hf.own n hnl).lt g e).1
              refine ⟨(hg.block _ (by omega) (fun e => by have := hb0 _ e.symm; omega)).trans HV2.out.fc, HV2.out.bel.trans ⟨hg.os, hg.tape, hg.output, by have := hg.size; omega, fun k hk => hg.block k (by omega) (fun e => by have := hb0 k e.symm; omega)⟩⟩
            clear hf h1 h2 h3 hne
            generalize vs n = v at hown hcl2 HCL HST HFT
            by_cases hnew : ∀ a b r, L = (a, b) :: r → b < i
            · have HN : Hid (scn t (i + 1) = (0, (i, i + 1) :: L)) := scn_new HS.out HQ.out.1 HQ.out.2.1 HQ.out.2.2 hnew
              have HL : Hid (Calls Tryz.prog 146 #[v, .string t, .int .i64 n, .int .i64 i] wr _) := lay_new wr (w.heap.size + 3) v t n i L hbase (by omega) hit hts hwf hnew hown
              clear hnew hwf hown
              go_wp2_with (go_at_call 146; (with_reducible refine HL.out.mono ?_); rintro e w3 ⟨v', rfl, ho, hgr, hv⟩; (obtain ⟨g3, cap3, rfl, _, _⟩ := ho.form (by omega)); (obtain ⟨y1, y2⟩ := HCL.out w3 hgr); (have HO : Hid _ := HST.out w3 _ (wtk t n ((i, i + 1) :: L)) hgr (by rw [wtk_len]; exact ho) hv); clear ho hgr hv)
              go_roundg g2
              case measure => omega
              case rel => exact ⟨i + 1, _, by omega, by go_num, HN.out, HO.out⟩
            · obtain ⟨a, b, r, rfl, hb⟩ : ∃ a b r, L = (a, b) :: r ∧ ¬ b < i := by
                match L, hnew with
                | [], hnew => exact absurd (fun a b r h => by cases h) hnew
                | (a, b) :: r, hnew => exact ⟨a, b, r, rfl, fun hb => hnew fun a' b' r' h => by cases h; exact hb⟩
              clear hnew
              have hx := scn_ext HS.out HQ.out.1 HQ.out.2.1 HQ.out.2.2 hb
              have HL := lay_ext wr (w.heap.size + 3) v t n i a b r hbase (by omega) hit hts hwf hb hown
              have hown2 : wr.ownsRow (w.heap.size + 3) 225 3 v (r.length + 1) (tcs (wtk t n ((a, b) :: r))) := hown
              clear hown
              obtain ⟨g0, cap0, rfl, _, _⟩ := hown2.form (by omega)
              by_cases h80 : i + 1 - a ≤ 80
              · rw [if_pos h80] at hx
                rw [decide_eq_true h80] at HL
                have HN : Hid (scn t (i + 1) = (0, (a, i + 1) :: r)) := hx
                have HLL : Hid (Calls Tryz.prog 146 _ wr _) := HL
                clear hx hwf hown2 hb HL
                go_wp2_with (go_at_call 146; (with_reducible refine HLL.out.mono ?_); rintro e w3 ⟨rfl, ho, hgr⟩; (obtain ⟨y1, y2⟩ := HCL.out w3 hgr); (have HO : Hid _ := HST.out w3 _ (wtk t n ((a, i + 1) :: r)) hgr (by rw [wtk_len]; exact ho) (.inl rfl)); clear ho hgr)
                go_roundg g2
                case measure => omega
                case rel => exact ⟨i + 1, _, by omega, by go_num, HN.out, HO.out⟩
              · rw [if_neg h80] at hx
                rw [decide_eq_false h80] at HL
                have hfin : scn t t.size = (3, (a, b) :: r) := by rw [scn_stays (s := t) (i := i + 1) (by rw [hx]; simp) t.size (by omega), hx]
                have HF : Hid (scn t t.size = (3, (a, b) :: r)) := hfin
                have HLL : Hid (Calls Tryz.prog 146 _ wr _) := HL
                clear hx hwf hown2 hb HL hfin c0 c1 f0 f1
                go_wp2_with (go_at_call 146; (with_reducible refine HLL.out.mono ?_); rintro e w3 ⟨rfl, ho, hgr⟩; (obtain ⟨y3, hb3⟩ := HFT.out w3 hgr); (have HB3 : Hid (Below w.heap.size w w3) := hb3); (obtain ⟨c0, c1, f0, f1⟩ := two_c y3); (have rr3' := two_set y3 (.int .i64 3) (.int .i64 n)); clear ho hgr hb3 y3)
                try rw [Exit.noGoto_ret]
                refine bodyPost_ret (by simp [results, Tryz.results104, go_sem, rr3'.1, rr3'.2]; try rfl) rfl ?_
                have hb : bdE t = 3 := bd_3 (by rw [HF.out])
                have hz : erL 0 (liT s) = (3, n) := by rw [erL_at (n := 0) HT.out HV2.out.ok (by rw [hb]; decide), hb, Nat.zero_add]
                rw [hz]
                exact ⟨below_two HB3.out (Nat.le_refl _) _ _, _, rfl, .inr ⟨by simp, rfl⟩⟩
end Go.Proofs.YtmpkcioeodlbcaaGreatDoor
namespace Go.Proofs.YtmpkcioeodlbcaaGreatDoor
open RowKit Joins Deep
set_option linter.unusedVariables false
/-- the value v reads as the words ts -/
def RdT (w : World) (v : Value) (ts : List Tok) : Prop :=
  ts.length ≤ 4611686018427387904 ∧ ∃ A c, v = .slice A ts.length c ∧ (ts = [] ∨ ∃ b, A = some ⟨b, 0, none⟩ ∧ ∀ (k : Nat) (p : Tok), ts[k]? = some p → w.cell? ⟨b, k * 3, none⟩ = some (.string p.1) ∧ w.cell? ⟨b, k * 3 + 1, none⟩ = some (.int .i64 p.2.1) ∧ w.cell? ⟨b, k * 3 + 2, none⟩ = some (.int .i64 p.2.2))
/-- the value v reads as the lists ls -/
def RdL (w : World) (v : Value) (ls : List (List Tok)) : Prop :=
  ls.length ≤ 4611686018427387904 ∧ ∃ A c, v = .slice A ls.length c ∧ (ls = [] ∨ ∃ b, A = some ⟨b, 0, none⟩ ∧ ∀ (k : Nat) (ts : List Tok), ls[k]? = some ts → ∃ u, w.cell? ⟨b, k, none⟩ = some u ∧ RdT w u ts)
theorem RdT.kept {w w' : World} {v : Value} {ts : List Tok} (h : RdT w v ts) (hb : Below w.heap.size w w') : RdT w' v ts := by
  obtain ⟨h0, A, c, h1, h2⟩ := h
  refine ⟨h0, A, c, h1, h2.imp id ?_⟩
  rintro ⟨b, h3, h4⟩
  refine ⟨b, h3, fun k p hk => ?_⟩
  obtain ⟨q0, q1, q2⟩ := h4 k p hk
  exact ⟨(hb.cell (World.block_lt_of_cell? w _ q0)).trans q0, (hb.cell (World.block_lt_of_cell? w _ q1)).trans q1, (hb.cell (World.block_lt_of_cell? w _ q2)).trans q2⟩
theorem RdL.kept {w w' : World} {v : Value} {ls : List (List Tok)} (h : RdL w v ls) (hb : Below w.heap.size w w') : RdL w' v ls := by
  obtain ⟨h0, A, c, h1, h2⟩ := h
  refine ⟨h0, A, c, h1, h2.imp id ?_⟩
  rintro ⟨b, h3, h4⟩
  refine ⟨b, h3, fun k p hk => ?_⟩
  obtain ⟨u, q0, q1⟩ := h4 k p hk
  exact ⟨u, (hb.cell (World.block_lt_of_cell? w _ q0)).trans q0, q1.kept hb⟩
theorem RdT.of {w : World} {base : Nat} {v : Value} {ts : List Tok} (h : w.ownsRow base 225 3 v ts.length (tcs ts)) (hl : ts.length ≤ 4611686018427387904) : RdT w v ts := by
  refine ⟨hl, ?_⟩
  rcases ownsRow_forms h with ⟨rfl, h0⟩ | ⟨g, cap, rfl⟩
  · rw [h0]; exact ⟨none, 0, rfl, .inl (List.length_eq_zero_iff.1 h0)⟩
  · refine ⟨_, cap, rfl, .inr ⟨g, rfl, fun k p hk => ?_⟩⟩
    have hlt := (List.getElem?_eq_some_iff.1 hk).1
    obtain ⟨q0, q1, q2⟩ := tcs_get hk
    exact ⟨by rw [h.cellAt _ (by omega)]; exact q0, by rw [h.cellAt _ (by omega)]; exact q1, by rw [h.cellAt _ (by omega)]; exact q2⟩
theorem tkl_len (n : Nat) (t : ByteArray) : (tkl n t).length ≤ t.size := by
  rw [tkl_wtk, wtk_len]; exact (scn_wf t t.size).len
theorem liT_size {s : ByteArray} {k : Nat} {t : ByteArray} (h : (liT s)[k]? = some t) : t.size ≤ s.size := by
  obtain ⟨p, hp, _, ht⟩ := liT_get (s := s) (n := k) (by have := (List.getElem?_eq_some_iff.1 h).1; rw [liT_len] at this; exact this)
  rw [h] at ht
  cases ht
  rw [ex_size (liP_in hp).2]; have := (liP_in hp).2; omega
theorem tkL_inv {l : List ByteArray} {k : Nat} {ts : List Tok} (h : (tkL 0 l)[k]? = some ts) : ∃ t, l[k]? = some t ∧ ts = tkl k t := by
  have hlt := (List.getElem?_eq_some_iff.1 h).1
  rw [tkL_len] at hlt
  refine ⟨l[k], List.getElem?_eq_getElem hlt, ?_⟩
  rw [tkL_get (List.getElem?_eq_getElem hlt), Nat.zero_add] at h
  exact (Option.some.inj h).symm
/-- what Cut hands back, read -/
theorem RdL.fam {s : ByteArray} {w : World} {base BL : Nat} {vs : Nat → Value} {ts : Nat → List Tok} (hs : s.size ≤ 65536) (h : Fam w base BL (liP s).length vs ts) (ht : ∀ j u, (liT s)[j]? = some u → ts j = tkl j u) :
    RdL w (.slice (some ⟨BL, 0, none⟩) (liP s).length (liP s).length) (tkL 0 (liT s)) := by
  have hl := liP_len s
  refine ⟨by rw [tkL_len, liT_len]; omega, _, _, by rw [tkL_len, liT_len], .inr ⟨BL, rfl, fun k l hk => ?_⟩⟩
  obtain ⟨t, h1, rfl⟩ := tkL_inv hk
  have hlt := (List.getElem?_eq_some_iff.1 h1).1
  rw [liT_len] at hlt
  refine ⟨vs k, h.row.cell hlt, ?_⟩
  have := h.own k hlt
  rw [ht k t h1] at this
  exact RdT.of this (by have := tkl_len k t; have := liT_size h1; omega)
theorem RdL.none (w : World) : RdL w (.slice none 0 0) [] := ⟨by simp, _, _, rfl, .inl rfl⟩
end Go.Proofs.YtmpkcioeodlbcaaGreatDoor
namespace Go.Proofs.YtmpkcioeodlbcaaGreatDoor
open RowKit Joins Deep
set_option linter.unusedVariables false
/-- the variable of the library that strings.Split names holds some number -/
def Mln (w : World) : Prop := ∃ m, w.cell? ⟨1, 0, none⟩ = some (.int .i64 m)
theorem Mln.kept {w w' : World} (h : Mln w) (hb : Below w.heap.size w w') : Mln w' := by
  obtain ⟨m, hm⟩ := h
  exact ⟨m, (hb.cell (World.block_lt_of_cell? w _ hm)).trans hm⟩
theorem cut_ok (s : ByteArray) (w : World) (hs : s.size ≤ 65536) (hm : Mln w) (he : erL 0 (liT s) = (0, 0)) :
    Calls Tryz.prog 104 #[.string s] w fun e w' => ∃ v, e = .returned (.tuple #[v, fltV 0 0]) ∧ RdL w' v (tkL 0 (liT s)) ∧ Below w.heap.size w w' := by
  obtain ⟨m, hm⟩ := hm
  refine (cut_any s m w hs hm).mono ?_
  rintro e w' ⟨hb, v, h1, h2⟩
  rw [he] at h1 h2
  rcases h2 with ⟨_, _, rfl, vs, ts, hf, ht⟩ | ⟨h, _⟩
  · exact ⟨_, h1, RdL.fam hs hf ht, hb⟩
  · exact absurd rfl h
/-- a list of words laid as a literal -/
theorem RdT.lit {w : World} {B : Nat} {ts : List Tok} {cs : Array Value} {c : Nat} (h : w.heap[B]? = some (.cells cs 225 (0, 0))) (hc : cs.toList = tcs ts) (hl : ts.length ≤ 4611686018427387904) : RdT w (.slice (some ⟨B, 0, none⟩) ts.length c) ts := by
  refine ⟨hl, _, _, rfl, .inr ⟨B, rfl, fun k p hk => ?_⟩⟩
  obtain ⟨q0, q1, q2⟩ := tcs_get hk
  rw [← hc] at q0 q1 q2
  refine ⟨?_, ?_, ?_⟩
  · rw [cell_of_row w B _ _ _ (0, 0) h]; simpa using q0
  · rw [cell_of_row w B _ _ _ (0, 0) h]; simpa using q1
  · rw [cell_of_row w B _ _ _ (0, 0) h]; simpa using q2
end Go.Proofs.YtmpkcioeodlbcaaGreatDoor
namespace Go.Proofs.YtmpkcioeodlbcaaGreatDoor
open Go.Maps
/-- names are told by their bytes -/
abbrev kyS (s : List UInt8) : Lit := .string s
theorem kyS_inj {s t : List UInt8} (h : kyS s = kyS t) : s = t := Lit.string.inj h
/-- where a text stands in a list; 0 if it does not -/
def posL (xs : List (List UInt8)) (s : List UInt8) : Nat := if s ∈ xs then xs.idxOf s else 0
/-- the map says of each text whether it is on the list, and where -/
structure MdOk (D : DataW Unit) (xs : List (List UInt8)) : Prop where
  im : IsMap D
  hs : ∀ s, Maps.has D (kyS s) = decide (s ∈ xs)
  ak : ∀ s, D.atKey (kyS s) (.lit (.int .i64 0)) = .lit (.int .i64 (posL xs s))
theorem MdOk.empty : MdOk (.map []) [] := ⟨isMap_empty, fun s => by simp [has_eq], fun s => by simp [posL]; rfl⟩
theorem pos_old {xs : List (List UInt8)} {x s : List UInt8} (h : s ∈ xs) : posL (xs ++ [x]) s = posL xs s := by
  unfold posL
  rw [if_pos (List.mem_append_left _ h), if_pos h, List.idxOf_append, if_pos h]
theorem pos_new {xs : List (List UInt8)} {x : List UInt8} (h : x ∉ xs) : posL (xs ++ [x]) x = xs.length := by
  unfold posL
  rw [if_pos (by simp), List.idxOf_append, if_neg h]
  simp
theorem MdOk.push {D : DataW Unit} {xs : List (List UInt8)} {x : List UInt8} (h : MdOk D xs) (hx : x ∉ xs) : MdOk (D.put (kyS x) (.lit (.int .i64 xs.length))) (xs ++ [x]) := by
  refine ⟨h.im.put _ _, fun s => ?_, fun s => ?_⟩
  · by_cases e : s = x
    · subst e
      rw [has_put_same h.im (by trivial)]; simp
    · rw [has_put_other (fun q => e (kyS_inj q)), h.hs]
      simp [e]
  · by_cases e : s = x
    · subst e
      rw [atKey_put_same h.im (by trivial), pos_new hx]
    · rw [atKey_put_other (fun q => e (kyS_inj q)), h.ak]
      by_cases hm : s ∈ xs
      · rw [pos_old hm]
      · unfold posL
        rw [if_neg hm, if_neg (by simp [hm, e])]

end Go.Proofs.YtmpkcioeodlbcaaGreatDoor
