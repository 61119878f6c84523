/-
  Words: the document's side: what blank, bare and words hand back, whatever they are called with.
-/
import Derived.Test.YtdcodajjcaipdaaDoorTkb
import Derived.Deep.RegionWith
namespace Go.Proofs.YtdcodajjcaipdaaDoor
open RowKit Joins
set_option linter.unusedVariables false

theorem blank_any (c : Nat) (w : World) (hc : c < 256) :
    Calls Tryd.prog 49 #[.int .u8 c] w fun e w' => e = .returned (.bool (decide (blk c))) ∧ w' = w := by
  by_cases h1 : c = 32
  · subst h1
    go_enter Tryd.func49, Tryd.ntmps49
    go_wp2_with fail
    go_ret
    exact ⟨rfl, rfl⟩
  by_cases h2 : c = 9
  · subst h2
    go_enter Tryd.func49, Tryd.ntmps49
    go_wp2_with fail
    go_ret
    exact ⟨rfl, rfl⟩
  by_cases h3 : c = 13
  · subst h3
    go_enter Tryd.func49, Tryd.ntmps49
    go_wp2_with fail
    go_ret
    exact ⟨rfl, rfl⟩
  rw [decide_eq_false (show ¬ blk c by unfold blk; omega)]
  have n3 : ((c : Int) == 32) = false := by simp; omega
  have n4 : ((c : Int) == 9) = false := by simp; omega
  have n5 : ((c : Int) == 13) = false := by simp; omega
  go_enter Tryd.func49, Tryd.ntmps49
  go_wp2_with fail
  go_ret
  exact ⟨rfl, rfl⟩

/-- a line ahead of its remark -/
def Bre (t : ByteArray) (r : Nat) : Prop := r ≤ t.size ∧ (∀ j, j < r → ¬ (bty t j = 42 ∨ bty t j = 59)) ∧ (r = t.size ∨ (bty t r = 42 ∨ bty t r = 59))
theorem sub_to (t : ByteArray) (b : Nat) (h2 : b ≤ t.size) : ∀ w : World, (Instr.slice 9 (.string t) none (some (.int .i64 b)) none).run Tryd.prog w = .ok (.string (t.extract 0 b)) w := by
  intro w
  rw [run_slice_string_to_if (P := Tryd.prog) w 9 t .i64 b Tryd.underlying9]
  rw [if_pos (by omega)]; simp
set_option maxRecDepth 100000 in
theorem bare_any (t : ByteArray) (w : World) (ht : t.size ≤ 140737488355328) :
    Calls Tryd.prog 48 #[.string t] w fun e w' => ∃ r, e = .returned (.string (t.extract 0 r)) ∧ Bre t r ∧ w' = w := by
  go_enter Tryd.func48, Tryd.ntmps48
  go_wp2
  go_loopw [3] (fun iv w' => ∃ i : Nat, iv = .int .i64 i ∧ w' = w ∧ i ≤ t.size ∧ Hid (∀ j, j < i → ¬ (bty t j = 42 ∨ bty t j = 59))) (fun iv _ => t.size - (intOf iv).toNat)
  case atStart => exact ⟨0, rfl, rfl, Nat.zero_le _, fun i hi => absurd hi (by omega)⟩
  case round =>
    obtain ⟨i, rfl, hw, hle, HA⟩ := hrel
    subst hw
    by_cases hp : i < t.size
    · have hg := bty_get hp
      obtain ⟨c, hc⟩ : ∃ c, c = bty t i := ⟨_, rfl⟩
      rw [← hc] at hg
      have HC : Hid (c = bty t i) := hc
      clear hc
      have hsl := sub_to t i (by omega)
      by_cases h1 : c = 42
      · subst h1
        go_wp2
        go_ret
        exact ⟨i, rfl, ⟨by omega, HA.out, .inr (.inl HC.out.symm)⟩, rfl⟩
      · by_cases h2 : c = 59
        · subst h2
          go_wp2
          go_ret
          exact ⟨i, rfl, ⟨by omega, HA.out, .inr (.inr HC.out.symm)⟩, rfl⟩
        · have n1 : ((c : Int) == 42) = false := by simp; omega
          have n2 : ((c : Int) == 59) = false := by simp; omega
          go_wp2
          go_roundw
          case rel =>
            refine ⟨i + 1, by go_num, trivial, by omega, fun j hj => ?_⟩
            rcases Nat.lt_succ_iff_lt_or_eq.1 hj with h | rfl
            · exact HA.out j h
            · rw [← HC.out]; omega
          case measure => simp [intOf]; omega
    · have e : i = t.size := by omega
      subst e
      go_wp2
      go_ret
      exact ⟨t.size, by simp, ⟨Nat.le_refl _, HA.out, .inl rfl⟩, rfl⟩
theorem scn_prev {t : ByteArray} {i : Nat} {L : List (Nat × Nat)} (h : scn t i = (0, L)) : (i = 0 ∨ blk (bty t (i - 1))) ↔ ∀ a b r, L = (a, b) :: r → b < i := by
  cases i with
  | zero =>
    have : L = [] := by have h2 : ((0, []) : Nat × List (Nat × Nat)) = (0, L) := h; exact (Prod.mk.inj h2).2.symm
    subst this
    exact ⟨fun _ a b r e => (by cases e), fun _ => .inl rfl⟩
  | succ i =>
    have h0 : (scn t i).1 = 0 := scn_zero (n := i + 1) (by rw [h]) (by omega)
    obtain ⟨M, hM⟩ : ∃ M, scn t i = (0, M) := ⟨(scn t i).2, by rw [← h0]⟩
    have hwf : Wfw i M := by have := scn_wf t i; rw [hM] at this; exact this
    rw [Nat.add_sub_cancel]
    by_cases q0 : bty t i = 42 ∨ bty t i = 59
    · rw [scn_rem hM q0] at h; cases h
    by_cases q1 : blk (bty t i)
    · rw [scn_blk hM q1] at h
      cases h
      refine ⟨fun _ a b r e => ?_, fun _ => .inr q1⟩
      subst e; have := hwf.2.1; omega
    by_cases q2 : bty t i < 33 ∨ 126 < bty t i
    · rw [scn_bad hM q0 q1 q2] at h; cases h
    refine ⟨fun q => ?_, fun q => ?_⟩
    · rcases q with q | q
      · omega
      · exact absurd q q1
    · exfalso
      by_cases q3 : ∀ a b r, M = (a, b) :: r → b < i
      · rw [scn_new hM q0 q1 q2 q3] at h
        cases h
        have := q i (i + 1) M rfl; omega
      · match M, q3 with
        | [], q3 => exact q3 (fun a b r h => by cases h)
        | (a, b) :: r, q3 =>
          have hb : ¬ b < i := fun hb => q3 fun a' b' r' e => by cases e; exact hb
          rw [scn_ext hM q0 q1 q2 hb] at h
          split at h
          · cases h; have := q a (i + 1) r rfl; omega
          · cases h

set_option maxHeartbeats 4000000 in
set_option maxRecDepth 100000 in
theorem rwords_any (t : ByteArray) (n : Nat) (w : World) (ht : t.size ≤ 65536) (hn : n ≤ 65536) :
    Calls Tryd.prog 28 #[.string t, .int .i64 n] w fun e w' => ∃ v, e = .returned (.tuple #[v, .int .i64 (bdE t : Nat)]) ∧ Below w.heap.size w w' ∧
      (bdE t = 0 → w'.ownsRow w.heap.size 32 3 v (tkl n t).length (tcs (tkl n t))) := by
  obtain ⟨i0, hi0, hz0, hz1, hz2⟩ := info_parts Tryd.infoTok
  have HB : Hid (Calls Tryd.prog 48 #[.string t] w fun e w' => ∃ r, e = .returned (.string (t.extract 0 r)) ∧ Bre t r ∧ w' = w) := bare_any t w (by omega)
  go_enter Tryd.func28, Tryd.ntmps28
  go_wp2_with (go_at_call 48; (with_reducible refine HB.out.mono ?_); rintro e w1 ⟨r, rfl, hbr, hw1⟩; subst w1)
  obtain ⟨hr, hno, hend⟩ := hbr
  obtain ⟨u, hu⟩ : ∃ u, t.extract 0 r = u := ⟨_, rfl⟩
  have hus : u.size = r := by rw [← hu, ex_size hr]; omega
  have hsub : Hid (∀ a b, b ≤ r → u.extract a b = t.extract a b) := fun a b hb => by rw [← hu, ex_ex (by omega)]; simp
  have hby : Hid (∀ j, j < r → bty u j = bty t j) := fun j hj => by rw [← hu, bty_ex hr (by omega)]; simp
  rw [hu]
  clear hu
  have HNO : Hid (∀ j, j < r → ¬ (bty t j = 42 ∨ bty t j = 59)) := hno
  have HEN : Hid (r = t.size ∨ (bty t r = 42 ∨ bty t r = 59)) := hend
  clear hno hend
  go_loopw [6, 7] (fun v iv wr => ∃ (i : Nat) (L : List (Nat × Nat)) (v0 : Value), i ≤ r ∧ iv = .int .i64 i ∧ v0 = v ∧ Hid (scn t i = (0, L)) ∧ Hid (wr.ownsRow w.heap.size 32 3 v0 L.length (tcs (wtk t n L))) ∧ Hid (Below w.heap.size w wr)) (fun _ iv _ => r - (intOf iv).toNat)
  case atStart => exact ⟨0, [], _, Nat.zero_le _, rfl, rfl, rfl, World.ownsRow_nil _ _ _ _, Below.refl _ _⟩
  case round =>
    obtain ⟨i, L, v0, hle, rfl, hv, HS, HO, HW⟩ := hrel
    subst hv
    by_cases hp : i < r
    · have hp2 : i < u.size := by omega
      have hg := bty_get hp2
      rw [hby.out i hp] at hg
      have hcl := bty_lt t i
      obtain ⟨c, hc⟩ : ∃ c, c = bty t i := ⟨_, rfl⟩
      rw [← hc] at hg hcl
      have HC : Hid (c = bty t i) := hc
      have hrm : ¬ (c = 42 ∨ c = 59) := by rw [hc]; exact HNO.out i hp
      clear hc
      have hir : (i : Int) < (u.size : Int) := by omega
      have hwf : Wfw i L := by have := scn_wf t i; rw [HS.out] at this; exact this
      have hll := hwf.len
      have HBL : Hid (∀ (c : Nat) (w : World), c < 256 → Calls Tryd.prog 49 #[.int .u8 c] w fun e w' => e = .returned (.bool (decide (blk c))) ∧ w' = w) := blank_any
      by_cases q1 : blk c
      · have HN : Hid (scn t (i + 1) = (0, L)) := scn_blk HS.out (by rw [← HC.out]; exact q1)
        have q1' := decide_eq_true q1
        clear q1
        go_wp2_with (go_at_call 49; (try rw [hg]); (with_reducible refine (HBL.out c _ hcl).mono ?_); rintro e w1 ⟨rfl, hw1⟩; subst w1; rw [q1'])
        go_roundw
        case rel => exact ⟨i + 1, L, _, by omega, by go_num, rfl, HN.out, HO.out, HW.out⟩
        case measure => simp [intOf]; omega
      · by_cases q2 : c < 33 ∨ 126 < c
        · have hfin : scn t t.size = (2, L) := by
            have h1 := scn_bad HS.out (by rw [← HC.out]; exact hrm) (by rw [← HC.out]; exact q1) (by rw [← HC.out]; exact q2)
            rw [scn_stays (s := t) (i := i + 1) (by rw [h1]; simp) t.size (by omega), h1]
          have HF : Hid (bdE t = 240) := bd_2 (by rw [hfin])
          clear hfin
          have q1' := decide_eq_false q1
          clear q1
          rcases q2 with q | q
          · have n6 : decide ((c : Int) < 33) = true := by simp; omega
            go_wp2_with (go_at_call 49; (try rw [hg]); (with_reducible refine (HBL.out c _ hcl).mono ?_); rintro e w1 ⟨rfl, hw1⟩; subst w1; rw [q1'])
            go_ret2
            rw [HF.out]
            exact ⟨_, rfl, HW.out, fun h => by cases h⟩
          · have n6 : decide ((c : Int) < 33) = false := by simp; omega
            have n7 : decide ((126 : Int) < (c : Int)) = true := by simp; omega
            go_wp2_with (go_at_call 49; (try rw [hg]); (with_reducible refine (HBL.out c _ hcl).mono ?_); rintro e w1 ⟨rfl, hw1⟩; subst w1; rw [q1'])
            go_ret2
            rw [HF.out]
            exact ⟨_, rfl, HW.out, fun h => by cases h⟩
        · have q1' := decide_eq_false q1
          have n6 : decide ((c : Int) < 33) = false := by simp; omega
          have n7 : decide ((126 : Int) < (c : Int)) = false := by simp; omega
          have hsl : ∀ w : World, (Instr.slice 9 (.string u) (some (.int .i64 i)) (some (.int .i64 ((i : Int) + 1))) none).run Tryd.prog w = .ok (.string (t.extract i (i + 1))) w := by
            intro w; rw [sub_run u i (i + 1) ((i : Int) + 1) (by omega) (by omega) (by omega), hsub.out _ _ (by omega)]
          have hprev := scn_prev HS.out
          have hq : (¬ (bty t i = 42 ∨ bty t i = 59)) ∧ ¬ blk (bty t i) ∧ ¬ (bty t i < 33 ∨ 126 < bty t i) := by rw [← HC.out]; exact ⟨hrm, q1, q2⟩
          clear q1 q2 hrm
          have HNW : Hid ((i = 0 ∨ blk (bty t (i - 1))) → scn t (i + 1) = (0, (i, i + 1) :: L)) := fun h => scn_new HS.out hq.1 hq.2.1 hq.2.2 (hprev.1 h)
          have HXT : Hid (¬ (i = 0 ∨ blk (bty t (i - 1))) → ∃ a r, L = (a, i) :: r ∧ scn t (i + 1) = if i + 1 - a ≤ 80 then (0, (a, i + 1) :: r) else (3, (a, i) :: r)) := by
            intro h
            have h2 : ¬ ∀ a b r, L = (a, b) :: r → b < i := fun q => h (hprev.2 q)
            match L, h2, hwf, HS with
            | [], h2, _, _ => exact absurd (fun a b r h => by cases h) h2
            | (a, b) :: r, h2, hwf, HS =>
              have hb : ¬ b < i := fun hb => h2 fun a' b' r' e => by cases e; exact hb
              obtain rfl : b = i := by have := hwf.2.1; omega
              exact ⟨a, r, rfl, scn_ext HS.out hq.1 hq.2.1 hq.2.2 hb⟩
          clear hq hprev
          by_cases hi00 : i = 0
          · have HN : Hid (scn t (i + 1) = (0, (i, i + 1) :: L)) := HNW.out (.inl hi00)
            have hib : ((i : Int) == 0) = true := by simp; omega
            clear hi00
            obtain ⟨A, cap, rfl⟩ : ∃ A cap, v0 = .slice A L.length cap := by
              rcases ownsRow_forms HO.out with ⟨rfl, h0⟩ | ⟨g, cap, rfl⟩
              · rw [h0]; exact ⟨_, _, rfl⟩
              · exact ⟨_, _, rfl⟩
            go_wp2_with (first | (go_at_call 49; (try rw [hg]); (with_reducible refine (HBL.out c _ hcl).mono ?_); rintro e w1 ⟨rfl, hw1⟩; subst w1; rw [q1']) | (at_builtin; refine wpList_append_lies _ (by rfl) _ _ 30 (by rfl) w.heap.size 32 i0 (.agg #[.string ByteArray.empty, .int .i64 0, .int .i64 0]) 3 32 Tryd.underlying30 hi0 hz0 hz1 hz2 (by rfl) (by decide) _ _ _ (by rfl) (HO.out.alloc _) ⟨_, 0, none⟩ 1 1 [.string (t.extract i (i + 1)), .int .i64 n, .int .i64 i] (by rfl) (by rfl) ?c1 ?c2 (by decide) ?c3 ?c4 ?c5 _ rfl ?next))
            case c1 => exact World.news_of_block (fr := (0, 0)) (t := 32) (cs := #[.string (t.extract i (i + 1)), .int .i64 n, .int .i64 i]) (heap_alloc_new _ _)
            case c2 => intro u hu; simp at hu; rcases hu with rfl | rfl | rfl <;> rfl
            case c3 => unfold maxLen; omega
            case c4 => omega
            case c5 => have := HW.out.size; simp; omega
            case next =>
              intro g2 cap2 w2 hown2 hgrow hat hlt
              have HO2 : Hid (w2.ownsRow w.heap.size 32 3 (.slice (some ⟨g2, 0, none⟩) (L.length + 1) cap2) (L.length + 1) (tcs (wtk t n ((i, i + 1) :: L)))) := by rw [wtk_cons, tcs_app]; exact hown2
              have HW2 : Hid (Below w.heap.size w w2) := (HW.out.alloc HW.out.size _).grown hgrow (by have := HW.out.size; simp; omega) (fun k hk => (HO.out.lt k hk).1)
              clear hown2 hgrow hat hlt
              go_wp2_with fail
              go_roundw
              case rel => exact ⟨i + 1, (i, i + 1) :: L, _, by omega, by go_num, rfl, HN.out, HO2.out, HW2.out⟩
              case measure => simp [intOf]; omega
          · have hib : ((i : Int) == 0) = false := by simp; omega
            have hp3 : i - 1 < u.size := by omega
            have hg2 := bty_get hp3
            rw [hby.out (i - 1) (by omega)] at hg2
            have hdl := bty_lt t (i - 1)
            obtain ⟨d, hd⟩ : ∃ d, d = bty t (i - 1) := ⟨_, rfl⟩
            rw [← hd] at hg2 hdl
            rw [← hd] at HNW HXT
            clear hd
            by_cases qd : blk d
            · have HN : Hid (scn t (i + 1) = (0, (i, i + 1) :: L)) := HNW.out (.inr qd)
              have qd' := decide_eq_true qd
              clear qd
              obtain ⟨A, cap, rfl⟩ : ∃ A cap, v0 = .slice A L.length cap := by
                rcases ownsRow_forms HO.out with ⟨rfl, h0⟩ | ⟨g, cap, rfl⟩
                · rw [h0]; exact ⟨_, _, rfl⟩
                · exact ⟨_, _, rfl⟩
              go_wp2_with (first | (go_at_call 49; (with_reducible refine (HBL.out d _ hdl).mono ?_); rintro e w1 ⟨rfl, hw1⟩; subst w1; rw [qd']) | (go_at_call 49; (try rw [hg]); (with_reducible refine (HBL.out c _ hcl).mono ?_); rintro e w1 ⟨rfl, hw1⟩; subst w1; rw [q1']) | (at_builtin; refine wpList_append_lies _ (by rfl) _ _ 30 (by rfl) w.heap.size 32 i0 (.agg #[.string ByteArray.empty, .int .i64 0, .int .i64 0]) 3 32 Tryd.underlying30 hi0 hz0 hz1 hz2 (by rfl) (by decide) _ _ _ (by rfl) (HO.out.alloc _) ⟨_, 0, none⟩ 1 1 [.string (t.extract i (i + 1)), .int .i64 n, .int .i64 i] (by rfl) (by rfl) ?c1 ?c2 (by decide) ?c3 ?c4 ?c5 _ rfl ?next))
              case c1 => exact World.news_of_block (fr := (0, 0)) (t := 32) (cs := #[.string (t.extract i (i + 1)), .int .i64 n, .int .i64 i]) (heap_alloc_new _ _)
              case c2 => intro u hu; simp at hu; rcases hu with rfl | rfl | rfl <;> rfl
              case c3 => unfold maxLen; omega
              case c4 => omega
              case c5 => have := HW.out.size; simp; omega
              case next =>
                intro g2 cap2 w2 hown2 hgrow hat hlt
                have HO2 : Hid (w2.ownsRow w.heap.size 32 3 (.slice (some ⟨g2, 0, none⟩) (L.length + 1) cap2) (L.length + 1) (tcs (wtk t n ((i, i + 1) :: L)))) := by rw [wtk_cons, tcs_app]; exact hown2
                have HW2 : Hid (Below w.heap.size w w2) := (HW.out.alloc HW.out.size _).grown hgrow (by have := HW.out.size; simp; omega) (fun k hk => (HO.out.lt k hk).1)
                clear hown2 hgrow hat hlt
                go_wp2_with fail
                go_roundw
                case rel => exact ⟨i + 1, (i, i + 1) :: L, _, by omega, by go_num, rfl, HN.out, HO2.out, HW2.out⟩
                case measure => simp [intOf]; omega
            · obtain ⟨a, rr, rfl, hx⟩ := HXT.out (by rintro (q | q); exact hi00 q; exact qd q)
              have qd' := decide_eq_false qd
              clear qd
              simp only [List.length_cons] at hll
              have hwf1 := hwf.1
              have HO1 : wr.ownsRow w.heap.size 32 3 v0 (rr.length + 1) (tcs (wtk t n ((a, i) :: rr))) := HO.out
              obtain ⟨g, cap, rfl, hgb, hglt⟩ := HO1.form (by omega)
              have hgt : (wtk t n ((a, i) :: rr))[rr.length]? = some (t.extract a i, (n : Int), (a : Int)) := by
                rw [wtk_cons, List.getElem?_append_right (by rw [wtk_len]; omega), wtk_len]; simp
              obtain ⟨k0, k1, k2⟩ := tcs_get hgt
              rw [← HO1.cellAt _ (by omega)] at k0 k2
              have hfz := HO1.frozenAt (rr.length * 3)
              have hst := HO1.stored (rr.length * 3) (.string (t.extract a (i + 1)))
              have HS2 : Hid ((wr.setCell ⟨g, rr.length * 3, none⟩ (.string (t.extract a (i + 1)))).ownsRow w.heap.size 32 3 (.slice (some ⟨g, 0, none⟩) (rr.length + 1) cap) (rr.length + 1) (tcs (wtk t n ((a, i + 1) :: rr)))) := by
                have he : tcs (wtk t n ((a, i + 1) :: rr)) = (tcs (wtk t n ((a, i) :: rr))).set (rr.length * 3) (.string (t.extract a (i + 1))) := by
                  rw [wtk_cons, wtk_cons, tcs_app, tcs_app, List.set_append_right _ _ (by rw [tcs_len, wtk_len]; omega), tcs_len, wtk_len, Nat.sub_self]
                  rfl
                rw [he]; exact hst.1
              have HW2 : Hid (Below w.heap.size w (wr.setCell ⟨g, rr.length * 3, none⟩ (.string (t.extract a (i + 1))))) := HW.out.setCell (p := ⟨g, rr.length * 3, none⟩) hgb _
              have kc : (wr.setCell ⟨g, rr.length * 3, none⟩ (.string (t.extract a (i + 1)))).cell? ⟨g, rr.length * 3, none⟩ = some (.string (t.extract a (i + 1))) := World.cell?_setCell_same _ _ _ k0
              have hsz2 : (t.extract a (i + 1)).size = i + 1 - a := ex_size (by omega)
              have hsl2 : ∀ w : World, (Instr.slice 9 (.string u) (some (.int .i64 a)) (some (.int .i64 ((i : Int) + 1))) none).run Tryd.prog w = .ok (.string (t.extract a (i + 1))) w := by
                intro w; rw [sub_run u a (i + 1) ((i : Int) + 1) (by omega) (by omega) (by omega), hsub.out _ _ (by omega)]
              have HX : Hid (scn t (i + 1) = if i + 1 - a ≤ 80 then (0, (a, i + 1) :: rr) else (3, (a, i) :: rr)) := hx
              clear hx hst hgt k1 HO HO1 hwf hsl
              obtain ⟨m, hm⟩ : ∃ m, rr.length = m := ⟨_, rfl⟩
              rw [hm] at k0 k2 hfz HS2 HW2 kc hll
              rw [hm]
              have HM : Hid (rr.length = m) := hm
              clear hm
              have hix : (m : Int) < (m : Int) + 1 := by omega
              by_cases h80 : i + 1 - a ≤ 80
              · have HN : Hid (scn t (i + 1) = (0, (a, i + 1) :: rr)) := by rw [HX.out]; exact if_pos h80
                have h81 : decide ((80 : Int) < ((i + 1 - a : Nat) : Int)) = false := by simp; omega
                go_wp2_with (first | (go_at_call 49; (with_reducible refine (HBL.out d _ hdl).mono ?_); rintro e w1 ⟨rfl, hw1⟩; subst w1; rw [qd']) | (go_at_call 49; (try rw [hg]); (with_reducible refine (HBL.out c _ hcl).mono ?_); rintro e w1 ⟨rfl, hw1⟩; subst w1; rw [q1']))
                go_roundw
                case rel => exact ⟨i + 1, (a, i + 1) :: rr, _, by omega, by go_num, rfl, HN.out, (by show World.ownsRow _ _ _ 3 _ (rr.length + 1) _; rw [HM.out]; exact HS2.out), HW2.out⟩
                case measure => simp [intOf]; omega
              · have hfin : scn t t.size = (3, (a, i) :: rr) := by
                  have h1 : scn t (i + 1) = (3, (a, i) :: rr) := by rw [HX.out]; exact if_neg h80
                  rw [scn_stays (s := t) (i := i + 1) (by rw [h1]; simp) t.size (by omega), h1]
                have HF : Hid (bdE t = 3) := bd_3 (by rw [hfin])
                clear hfin
                have h81 : decide ((80 : Int) < ((i + 1 - a : Nat) : Int)) = true := by simp; omega
                go_wp2_with (first | (go_at_call 49; (with_reducible refine (HBL.out d _ hdl).mono ?_); rintro e w1 ⟨rfl, hw1⟩; subst w1; rw [qd']) | (go_at_call 49; (try rw [hg]); (with_reducible refine (HBL.out c _ hcl).mono ?_); rintro e w1 ⟨rfl, hw1⟩; subst w1; rw [q1']))
                go_ret2
                rw [HF.out]
                exact ⟨_, rfl, HW2.out, fun h => by cases h⟩
    · have e : i = r := by omega
      subst e
      have hir : ¬ (i : Int) < (u.size : Int) := by omega
      have HF : Hid (bdE t = 0 ∧ tkl n t = wtk t n L) := by
        rcases HEN.out with h | h
        · subst h; exact ⟨bd_ok (.inl (by rw [HS.out])), by rw [tkl_wtk, HS.out]⟩
        · have h1 := scn_rem HS.out h
          have hlt : i < t.size := by
            rcases Nat.lt_or_ge i t.size with q | q
            · exact q
            · obtain rfl : i = t.size := by omega
              exfalso
              have : bty t t.size = 0 := by
                show (t.data.getD t.size 0).toNat = 0
                rw [Array.getD_eq_getD_getElem?, Array.getElem?_eq_none (xs := t.data) (i := t.size) (Nat.le_refl t.data.size)]; rfl
              omega
          have h2 : scn t t.size = (1, L) := by rw [scn_stays (s := t) (i := i + 1) (by rw [h1]; simp) t.size (by omega), h1]
          exact ⟨bd_ok (.inr (by rw [h2])), by rw [tkl_wtk, h2]⟩
      go_wp2_with fail
      go_ret2
      rw [HF.out.1, HF.out.2, wtk_len]
      exact ⟨_, rfl, HW.out, fun _ => HO.out⟩
end Go.Proofs.YtdcodajjcaipdaaDoor
