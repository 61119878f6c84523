/-
  What ApartReals of the given package gridworkkit hands back.
-/
import Derived.Test.YthkhemmpjfilaaaAp
import Derived.BigQuiet
namespace Go.Proofs.Ythkhemmpjfilaaa
open Fl RowKit

theorem Try.infoS : (Try.prog.info? 23).map (fun i => (i.zero, i.size, i.bytes)) = some (some (.slice none 0 0), 1, 24) := by kernel_rfl
theorem wrap10 {k : Nat} (hk : k ≤ 10) : IntKind.i64.wrap ((k : Int) + 10) = (k : Int) + 10 := by rw [IntKind.wrap_i64]; omega
theorem mark_w (k : Nat) (i : Int) (w : World) (hk : k ≤ 10) (hi : 0 ≤ i) (hi2 : i ≤ 1000000000000000) :
    Calls Try.prog 59 #[.int .i64 (IntKind.i64.wrap ((k : Int) + 10)), .int .i64 i] w fun e w' => e = .returned (.float .f64 (mk ((k : Int) + 10) i)) ∧ w' = w := by
  rw [wrap10 hk]; exact mark_any _ _ _ (by omega) (by omega) hi hi2
set_option maxRecDepth 10000 in
set_option maxHeartbeats 40000000 in
theorem apart_any (base LB m B : Nat) (n G : Nat → Nat) (E : Nat → List Nat) (w : World) (hm0 : 0 < m) (hm : m ≤ 8) (hT : Many base LB m n G E w) (hsz : ∀ j, j < m → n j * 8 + 48 ≤ 140737488355328) (hB : ∀ j, j < m → B ≤ G j) (hBw : B ≤ w.heap.size) :
    Calls Try.prog 17 #[.slice (some ⟨LB, 0, none⟩) m m] w fun e w' => e = .returned (.bool true) ∧ Below B w w' := by
  go_enter Try.func17, Try.ntmps17
  go_wp2
  go_loopw [3] (fun kv wr => ∃ k : Nat, k ≤ m ∧ kv = .int .i64 k ∧ Many base LB m n G (wr1 E k 0 n) wr ∧ Below B w wr) (fun kv _ => m - (intOf kv).toNat)
  case atStart => exact ⟨0, Nat.zero_le _, rfl, by rw [wr1_start]; exact hT, Below.refl _ _⟩
  case round =>
    obtain ⟨k, hk, rfl, hM, hbel⟩ := hrel
    by_cases hlt : k < m
    · have hsk := hsz k hlt
      have hck := hM.cell k hlt
      have hbd := hM.lt
      go_wp2
      go_loopw [4] (fun iv wr => ∃ i : Nat, i ≤ n k ∧ iv = .int .i64 i ∧ Many base LB m n G (wr1 E k i n) wr ∧ Below B w wr) (fun iv _ => n k - (intOf iv).toNat)
      case atStart => exact ⟨0, Nat.zero_le _, rfl, hM, hbel⟩
      case round =>
        obtain ⟨i, hi, rfl, hMi, hbeli⟩ := hrel
        have hci := hMi.cell k hlt
        have hlti := hMi.lt
        by_cases hin : i < n k
        · have hlen : (E k).length = n k := hT.len k hlt
          have hcell := (hMi.own k hlt).cellAt i (by omega)
          have hfz := (hMi.own k hlt).frozenAt i
          have hget : ((wr1 E k i n k).map (Value.float .f64))[i]? = some (.float .f64 ((wr1 E k i n k).getD i 0)) := by
            have hl := hMi.len k hlt
            rw [List.getElem?_map]
            simp [List.getD_eq_getElem?_getD, hl, hin]
          rw [hget] at hcell
          obtain ⟨y, hy⟩ : ∃ y, y = (wr1 E k i n k).getD i 0 := ⟨_, rfl⟩
          rw [← hy] at hcell
          have hst := hMi.store (i := i) hlt (mk ((k : Int) + 10) (i : Int))
          rw [wr1_set E k i n (by omega)] at hst
          have HB : Hid (Below B w wr) := hbeli
          have HS : Hid (Many base LB m n G (wr1 E k (i + 1) n) (wr.setCell ⟨G k, i, none⟩ (.float .f64 (mk ((k : Int) + 10) (i : Int))))) := hst
          have hBk := hB k hlt
          clear hy hget hbeli hst hMi hM hT hbel hck hbd hsz hB hlen
          have hmk := fun W => mark_w k (i : Int) W (by omega) (by omega) (by omega)
          go_wp2
          go_region_with (go_at_call 59; (with_reducible refine (hmk _).mono ?_); rintro e w' ⟨rfl, rfl⟩)
          all_goals
            go_wp2
            go_roundw
            case rel => exact ⟨i + 1, by omega, by go_num, HS.out.drewN 1, (HB.out.setCell (p := ⟨G k, i, none⟩) hBk _).drew⟩
            case measure => simp [intOf]; omega
        · have e : i = n k := by omega
          subst e
          rw [wr1_next E k n (hT.len k hlt)] at hMi
          have HM : Hid (Many base LB m n G (wr1 E (k + 1) 0 n) wr) := hMi
          have HB : Hid (Below B w wr) := hbeli
          clear hMi hbeli hM hbel hT hsz hB
          go_wp2
          go_roundw
          case rel => exact ⟨k + 1, by omega, by go_num, HM.out, HB.out⟩
          case measure => simp [intOf]; omega
    · have e : m = k := by omega
      subst e
      clear hT hk hlt
      obtain ⟨M, hMM⟩ : ∃ M : Nat → List Nat, M = wr1 E m 0 n := ⟨_, rfl⟩
      have hMk : ∀ j, j < m → M j = marks ((j : Int) + 10) (n j) := fun j hj => by rw [hMM]; unfold wr1; rw [if_pos hj]
      rw [← hMM] at hM
      clear hMM
      go_wp2
      have hBwr : B ≤ wr.heap.size := Nat.le_trans hBw hbel.size
      obtain ⟨w1, hw1⟩ : ∃ w1, w1 = wr := ⟨_, rfl⟩
      rw [← hw1] at hM hbel hBwr
      go_loopw [5, 6] (fun gv kv wr => ∃ (k : Nat) (H C : Nat → Nat) (gv0 : Value), k ≤ m ∧ kv = .int .i64 k ∧ gv0 = gv ∧ Gone w1.heap.size k n H C gv0 wr ∧ Below w1.heap.size w1 wr) (fun _ kv _ => m - (intOf kv).toNat)
      case atStart => exact ⟨0, fun _ => 0, fun _ => 0, _, Nat.zero_le _, rfl, rfl, gone0 _ _ _ _ _, by rw [hw1]; exact Below.refl _ _⟩
      case round =>
        obtain ⟨k, H, C, gv0, hk, rfl, rfl, hG, hb1⟩ := hrel
        clear hw1
        by_cases hlt : k < m
        · have hMr := hM.below hb1
          have hck := hMr.cell k hlt
          have hlr := hMr.lt
          have hsk := hsz k hlt
          go_wp2
          obtain ⟨w2, hw2⟩ : ∃ w2, w2 = wr := ⟨_, rfl⟩
          rw [← hw2] at hG hb1 hMr hlr hck
          have hMow := hMr.own k hlt
          rw [hMk k hlt] at hMow
          have hgl := (hMr.g_lt hlt).2
          go_loopw [7, 8] (fun g iv wr => ∃ (i : Nat) (g0 : Value), i ≤ 6 ∧ iv = .int .i64 i ∧ g0 = g ∧ Below w2.heap.size w2 wr ∧ (i = 0 → g0 = .slice (some ⟨G k, 0, none⟩) (n k) (n k)) ∧ (0 < i → wr.ownsRow w2.heap.size 29 1 g0 (n k + i) ((marks ((k : Int) + 10) (n k + i)).map (Value.float .f64)))) (fun _ iv _ => 6 - (intOf iv).toNat)
          case atStart => exact ⟨0, _, by omega, rfl, rfl, by rw [hw2]; exact Below.refl _ _, fun _ => rfl, fun h => absurd h (by omega)⟩
          case round =>
            obtain ⟨i, g0, hi, rfl, rfl, hb2, h0, h1⟩ := hrel
            clear hw2
            have hs2 := hb2.size
            have hckr : wr.cell? ⟨LB, k, none⟩ = some (.slice (some ⟨G k, 0, none⟩) (n k) (n k)) := by rw [hb2.cell hlr]; exact hck
            have hlrr : LB < wr.heap.size := Nat.lt_of_lt_of_le hlr hs2
            by_cases hin : i < 6
            · obtain ⟨i0, hi0, hz0, hz1, hz2⟩ := info_parts Try.infoF
              have HB : Hid (Below w2.heap.size w2 wr) := hb2
              rcases Nat.eq_zero_or_pos i with hz | hp
              · subst hz
                have hg0 := h0 rfl
                subst hg0
                have hown : wr.ownsRow base 29 1 (.slice (some ⟨G k, 0, none⟩) (n k) (n k)) (n k) ((marks ((k : Int) + 10) (n k)).map (Value.float .f64)) := own_at hMow (fun g hg => hb2.block g (hMow.lt g hg).2)
                have hbs : base ≤ wr.heap.size := by have := (hMow.lt (G k) (by simp [Value.ownBlock])).1; omega
                clear h0 h1 hb2 hMow hck hM hMr hsz hB hG hb1 hbel hMk
                go_wp2_with (first
                  | (go_at_call 59; refine (mark_any _ _ _ (by omega) (by omega) (by omega) (by omega)).mono ?_; rintro e w' ⟨rfl, rfl⟩)
                  | (at_builtin; refine wpList_append_moved rfl _ _ 23 rfl base 29 i0 (.float .f64 0) 1 8 Try.underlying23 hi0 hz0 hz1 hz2 rfl (by decide) (G k) (n k) _ rfl (hown.alloc _) ⟨_, 0, none⟩ 1 1 [.float .f64 (mk ((k : Int) + 10) (n k : Int))] rfl rfl ?c1 ?c2 ?c6 ?c3 ?c4 ?c5 ?_))
                case c1 =>
                  intro j u hj
                  match j, hj with
                  | 0, hj =>
                    simp at hj; subst hj
                    simp [Addr.add]
                case c2 => intro u hu; simp at hu; subst hu; rfl
                case c3 => unfold maxLen; omega
                case c4 => omega
                case c5 => simp; omega
                case c6 => decide
                · intro v' w3 hown' hbel3
                  have R2 : Below w2.heap.size w2 w3 := (HB.out.alloc (by omega) _).trans (hbel3.mono (by first | omega | (simp; omega)))
                  have R : w3.ownsRow w2.heap.size 29 1 v' (n k + 1) ((marks ((k : Int) + 10) (n k + 1)).map (Value.float .f64)) := by
                    rw [marks_succ, List.map_append]; exact own_base hown' (by first | omega | (simp; omega))
                  clear hown' hbel3 hown
                  go_wp2
                  go_roundw
                  case rel => exact ⟨1, v', by omega, by go_num, rfl, R2, fun h => absurd h (by omega), fun _ => R⟩
                  case measure => simp [intOf]
              · have hown := h1 hp
                clear h0 h1 hb2 hMow hck hM hMr hsz hB hG hb1 hbel hMk
                go_wp2_with (first
                  | (go_at_call 59; refine (mark_any _ _ _ (by omega) (by omega) (by omega) (by omega)).mono ?_; rintro e w' ⟨rfl, rfl⟩)
                  | (at_builtin; refine wpList_append_own _ rfl _ _ 23 rfl w2.heap.size 29 i0 (.float .f64 0) 1 8 Try.underlying23 hi0 hz0 hz1 hz2 rfl (by decide) _ _ _ rfl (hown.alloc _) ⟨_, 0, none⟩ 1 1 [.float .f64 (mk ((k : Int) + 10) ((n k : Int) + (i : Int)))] rfl rfl ?c1 ?c2 ?c3 ?c4 ?c5 ?_))
                case c1 =>
                  intro j u hj
                  match j, hj with
                  | 0, hj =>
                    simp at hj; subst hj
                    simp [Addr.add]
                case c2 => intro u hu; simp at hu; subst hu; rfl
                case c3 => unfold maxLen; omega
                case c4 => omega
                case c5 => simp; omega
                · intro v' w3 hown' hgrow _
                  have R2 : Below w2.heap.size w2 w3 := (HB.out.alloc (by omega) _).grown hgrow (by simp; omega) (fun j hj => own_ge hown hj)
                  have R : w3.ownsRow w2.heap.size 29 1 v' (n k + (i + 1)) ((marks ((k : Int) + 10) (n k + (i + 1))).map (Value.float .f64)) := by
                    rw [← marks_next]; exact hown'
                  clear hown' hgrow hown
                  go_wp2
                  go_roundw
                  case rel => exact ⟨i + 1, v', by omega, by go_num, rfl, R2, fun h => absurd h (by omega), fun _ => R⟩
                  case measure => simp [intOf]; omega
            · have e6 : i = 6 := by omega
              subst e6
              have hown := h1 (by omega)
              obtain ⟨h, c, hg0, hge⟩ := own_shape hown (by omega)
              subst hg0
              have hGr := hG.below hb2
              have hbr : Below w1.heap.size w1 wr := hb1.trans (hb2.mono hb1.size)
              have hs1 := hb1.size
              have hne : gv0.ownBlock ≠ some h := fun e => by
                have := (hG.gs.lt h e).2
                omega
              obtain ⟨i1, hi1, hy0, hy1, hy2⟩ := info_parts Try.infoS
              have hown1 : wr.ownsRow w1.heap.size 29 1 (.slice (some ⟨h, 0, none⟩) (n k + 6) c) (n k + 6) ((marks ((k : Int) + 10) (n k + 6)).map (Value.float .f64)) := own_base hown (by omega)
              have HG : Hid (Gone w1.heap.size k n H C gv0 wr) := hGr
              have HO : Hid (wr.ownsRow w1.heap.size 29 1 (.slice (some ⟨h, 0, none⟩) (n k + 6) c) (n k + 6) ((marks ((k : Int) + 10) (n k + 6)).map (Value.float .f64))) := hown1
              have HB : Hid (Below w1.heap.size w1 wr) := hbr
              have hgs := hGr.gs
              clear h0 h1 hb2 hMow hck hM hMr hsz hB hG hb1 hbel hMk hown1 hown hGr hbr
              go_wp2_with (first
                | (at_builtin; refine wpList_append_own_at _ rfl _ _ 34 rfl w1.heap.size 23 i1 (.slice none 0 0) 1 24 Try.underlying34 hi1 hy0 hy1 hy2 rfl (by decide) _ _ _ rfl (hgs.alloc _) ⟨_, 0, none⟩ 1 1 [.slice (some ⟨h, 0, none⟩) (n k + 6) c] rfl rfl ?c1 ?c2 ?c3 ?c4 ?c5 ?_))
              case c1 =>
                intro j u hj
                match j, hj with
                | 0, hj =>
                  simp at hj; subst hj
                  simp [Addr.add]
              case c2 => intro u hu; simp at hu; subst hu; rfl
              case c3 => unfold maxLen; omega
              case c4 => omega
              case c5 => simp; omega
              · intro v' w3 hown' hgrow _ hat
                have R := Gone.push (HG.out.below ((Below.refl _ _).alloc (Nat.le_refl _) _)) (HO.out.alloc _) hne hown' hgrow (by simpa using hat)
                have R2 : Below w1.heap.size w1 w3 := (HB.out.alloc (by omega) _).grown hgrow (by simp; omega) (fun j hj => own_ge hgs hj)
                clear hown' hgrow hgs hat
                go_wp2
                go_roundw
                case rel => exact ⟨k + 1, upd H k h, upd C k c, v', by omega, by go_num, rfl, R, R2⟩
                case measure => simp [intOf]; omega
        · have e : m = k := by omega
          subst e
          have hMr := hM.below hb1
          have hbr : Below B w wr := hbel.trans (hb1.mono hBwr)
          have hgsr := hG.gs
          have hlgs : (List.map (fun j => Value.slice (some ⟨H j, 0, none⟩) (n j + 6) (C j)) (List.range m)).length = m := by simp
          clear hM hb1 hbel hk hlt
          obtain ⟨gb, gc, hgv, hgb⟩ := own_shape hgsr hm0
          subst hgv
          have F1 : Hid (∀ j, j < m → wr.cell? ⟨gb, j, none⟩ = some (.slice (some ⟨H j, 0, none⟩) (n j + 6) (C j))) := fun j hj => by
            have := hgsr.cellAt j (by omega)
            rw [this]; simp [hj]
          have F2 : Hid (∀ j i, j < m → i < n j + 6 → wr.cell? ⟨H j, i, none⟩ = some (.float .f64 (mk ((j : Int) + 10) (i : Int)))) := fun j i hj hi => by
            have := (hG.row j hj).cellAt i (by omega)
            rw [this, List.getElem?_map]; simp [marks, hi]
          have F3 : Hid (∀ j, j < m → wr.cell? ⟨LB, j, none⟩ = some (.slice (some ⟨G j, 0, none⟩) (n j) (n j))) := hMr.cell
          have F4 : Hid (∀ j i, j < m → i < n j → wr.cell? ⟨G j, i, none⟩ = some (.float .f64 (mk ((j : Int) + 10) (i : Int)))) := fun j i hj hi => by
            have := (hMr.own j hj).cellAt i (by omega)
            rw [this, hMk j hj, List.getElem?_map]; simp [marks, hi]
          have HB : Hid (Below B w wr) := hbr
          clear hG hMr hMk hgsr hlgs hbr hB hBwr hBw
          go_wp2
          obtain ⟨w5, hw5⟩ : ∃ w5, w5 = wr := ⟨_, rfl⟩
          rw [← hw5] at F1 F2 F3 F4 HB
          go_loopw [9] (fun kv wr => ∃ (k q : Nat), k ≤ m ∧ kv = .int .i64 k ∧ wr = w5.drewN q) (fun kv _ => m - (intOf kv).toNat)
          case atStart => exact ⟨0, 0, Nat.zero_le _, rfl, by rw [hw5]; rfl⟩
          case round =>
            obtain ⟨k, q, hk, rfl, hq⟩ := hrel
            clear hw5
            by_cases hlt : k < m
            · go_wp2
              go_loopw [10] (fun iv wr => ∃ (i q : Nat), i ≤ n k + 6 ∧ iv = .int .i64 i ∧ wr = w5.drewN q) (fun iv _ => n k + 6 - (intOf iv).toNat)
              case atStart => exact ⟨0, q, Nat.zero_le _, rfl, by rw [← hq]⟩
              case round =>
                clear hq
                obtain ⟨i, q, hi, rfl, hq⟩ := hrel
                have c1 : wr.cell? ⟨gb, k, none⟩ = some (.slice (some ⟨H k, 0, none⟩) (n k + 6) (C k)) := by rw [hq]; exact F1.out k hlt
                have c3 : wr.cell? ⟨LB, k, none⟩ = some (.slice (some ⟨G k, 0, none⟩) (n k) (n k)) := by rw [hq]; exact F3.out k hlt
                have hsk := hsz k hlt
                have HQ : Hid (wr = w5.drewN q) := hq
                by_cases hin : i < n k + 6
                · have c2 : wr.cell? ⟨H k, i, none⟩ = some (.float .f64 (mk ((k : Int) + 10) (i : Int))) := by rw [hq]; exact F2.out k i hlt hin
                  have hmk := fun W => mark_any ((k : Int) + 10) (i : Int) W (by omega) (by omega) (by omega) (by omega)
                  have hsm := smB_id (mk ((k : Int) + 10) (i : Int))
                  have hin2 : (i : Int) < (n k : Int) + 6 := by omega
                  by_cases hik : i < n k
                  · have c4 : wr.cell? ⟨G k, i, none⟩ = some (.float .f64 (mk ((k : Int) + 10) (i : Int))) := by rw [hq]; exact F4.out k i hlt hik
                    have hikI : (i : Int) < (n k : Int) := by omega
                    clear hq hsz F1 F2 F3 F4 HB hik
                    go_wp2
                    go_big_quiet (first | (go_at_call 67; (with_reducible exact Calls.quiet_of_same (sameReal_any _ _ _))) | (go_at_call 59; (with_reducible exact Calls.quiet_of_same (hmk _))))
                    go_wp2
                    go_roundw
                    case rel => exact ⟨i + 1, q + nq, by omega, by go_num, by rw [HQ.out, World.drewN_drewN]⟩
                    case measure => simp [intOf]; omega
                  · have hik4 : decide (i < n k) = false := decide_eq_false hik
                    clear hq hsz F1 F2 F3 F4 HB hik
                    go_wp2
                    go_big_quiet (first | (go_at_call 67; (with_reducible exact Calls.quiet_of_same (sameReal_any _ _ _))) | (go_at_call 59; (with_reducible exact Calls.quiet_of_same (hmk _))))
                    go_wp2
                    go_roundw
                    case rel => exact ⟨i + 1, q + nq, by omega, by go_num, by rw [HQ.out, World.drewN_drewN]⟩
                    case measure => simp [intOf]; omega
                · have e : i = n k + 6 := by omega
                  subst e
                  clear hq hsz F1 F2 F3 F4 HB
                  go_wp2
                  go_roundw
                  case rel => exact ⟨k + 1, q, by omega, by go_num, HQ.out⟩
                  case measure => simp [intOf]; omega
            · have HQ : Hid (wr = w5.drewN q) := hq
              clear hq hsz F1 F2 F3 F4
              go_wp2
              go_ret
              exact ⟨rfl, by rw [HQ.out]; exact below_drewN HB.out q⟩

end Go.Proofs.Ythkhemmpjfilaaa
