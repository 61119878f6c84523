/-
  Words: lists of lists of texts as they are read in memory; what the statements' sameTexts says of two.
-/
import Derived.Test.YtpfdgibgdehcdaaDoorTkh
namespace Go.Proofs.YtpfdgibgdehcdaaDoor
open RowKit Joins Deep
set_option linter.unusedVariables false

/-- the value v reads as the texts xs -/
def RdS (w : World) (v : Value) (xs : List ByteArray) : Prop :=
  xs.length ≤ 4611686018427387904 ∧ ∃ A c, v = .slice A xs.length c ∧ (xs = [] ∨ ∃ b, A = some ⟨b, 0, none⟩ ∧ ∀ (k : Nat) (t : ByteArray), xs[k]? = some t → w.cell? ⟨b, k, none⟩ = some (.string t))
/-- the value v reads as the lists ls of texts -/
def RdSL (w : World) (v : Value) (ls : List (List ByteArray)) : Prop :=
  ls.length ≤ 4611686018427387904 ∧ ∃ A c, v = .slice A ls.length c ∧ (ls = [] ∨ ∃ b, A = some ⟨b, 0, none⟩ ∧ ∀ (k : Nat) (ts : List ByteArray), ls[k]? = some ts → ∃ u, w.cell? ⟨b, k, none⟩ = some u ∧ RdS w u ts)
theorem RdS.kept {w w' : World} {v : Value} {ts : List ByteArray} (h : RdS w v ts) (hb : Below w.heap.size w w') : RdS w' v ts := by
  obtain ⟨h0, A, c, h1, h2⟩ := h
  refine ⟨h0, A, c, h1, h2.imp id ?_⟩
  rintro ⟨b, h3, h4⟩
  exact ⟨b, h3, fun k p hk => (hb.cell (World.block_lt_of_cell? w _ (h4 k p hk))).trans (h4 k p hk)⟩
theorem RdSL.kept {w w' : World} {v : Value} {ls : List (List ByteArray)} (h : RdSL w v ls) (hb : Below w.heap.size w w') : RdSL w' v ls := by
  obtain ⟨h0, A, c, h1, h2⟩ := h
  refine ⟨h0, A, c, h1, h2.imp id ?_⟩
  rintro ⟨b, h3, h4⟩
  refine ⟨b, h3, fun k p hk => ?_⟩
  obtain ⟨u, q0, q1⟩ := h4 k p hk
  exact ⟨u, (hb.cell (World.block_lt_of_cell? w _ q0)).trans q0, q1.kept hb⟩
set_option maxHeartbeats 4000000 in
set_option maxRecDepth 100000 in
theorem sameT_any (w : World) (a b : Value) (la lb : List (List ByteArray)) (ha : RdSL w a la) (hb : RdSL w b lb) :
    Calls Tryd.prog 21 #[a, b] w fun e w' => e = .returned (.bool (decide (la = lb))) ∧ ∃ q, w' = w.drewN q := by
  obtain ⟨hla, A, ca, rfl, hA⟩ := ha
  obtain ⟨hlb, B, cb, rfl, hB⟩ := hb
  have HA : Hid (la = [] ∨ ∃ b, A = some ⟨b, 0, none⟩ ∧ ∀ (k : Nat) (ts : List ByteArray), la[k]? = some ts → ∃ u, w.cell? ⟨b, k, none⟩ = some u ∧ RdS w u ts) := hA
  have HB : Hid (lb = [] ∨ ∃ b, B = some ⟨b, 0, none⟩ ∧ ∀ (k : Nat) (ts : List ByteArray), lb[k]? = some ts → ∃ u, w.cell? ⟨b, k, none⟩ = some u ∧ RdS w u ts) := hB
  clear hA hB
  obtain ⟨N, hN⟩ : ∃ N, la.length = N := ⟨_, rfl⟩
  obtain ⟨M, hM⟩ : ∃ M, lb.length = M := ⟨_, rfl⟩
  rw [hN] at hla ⊢
  rw [hM] at hlb ⊢
  have HNM : Hid (la.length = N ∧ lb.length = M) := ⟨hN, hM⟩
  clear hN hM
  by_cases hNM : N = M
  · subst hNM
    have hnn : ((N : Int) != (N : Int)) = false := by simp
    go_enter Tryd.func21, Tryd.ntmps21
    go_wp2_with fail
    go_loopw [5] (fun iv wr => ∃ (i q : Nat), i ≤ N ∧ iv = .int .i64 i ∧ wr = w.drewN q ∧ Hid (agr la lb i)) (fun iv _ => N - (intOf iv).toNat)
    case atStart => exact ⟨0, 0, Nat.zero_le _, rfl, rfl, fun j hj => absurd hj (by omega)⟩
    case round =>
      obtain ⟨i, q, hle, rfl, hw, HG⟩ := hrel
      subst wr
      by_cases hp : i < N
      · have hpi : (i : Int) < (N : Int) := by omega
        obtain ⟨xs, hxs⟩ : ∃ xs, la[i]? = some xs := ⟨_, List.getElem?_eq_getElem (by have := HNM.out.1; omega)⟩
        obtain ⟨ys, hys⟩ : ∃ ys, lb[i]? = some ys := ⟨_, List.getElem?_eq_getElem (by have := HNM.out.2; omega)⟩
        have HX : Hid (la[i]? = some xs ∧ lb[i]? = some ys) := ⟨hxs, hys⟩
        obtain ⟨ba, rfl, hca⟩ := HA.out.resolve_left (by intro e; rw [e] at hxs; cases hxs)
        obtain ⟨bb, rfl, hcb⟩ := HB.out.resolve_left (by intro e; rw [e] at hys; cases hys)
        obtain ⟨ua, qa, hx0, Au, cu, rfl, hxc⟩ := hca i xs hxs
        obtain ⟨ub, qb, hy0, Bu, du, rfl, hyc⟩ := hcb i ys hys
        have HXC : Hid _ := hxc
        have HYC : Hid _ := hyc
        clear hxc hyc hxs hys hca hcb
        obtain ⟨n, hn⟩ : ∃ n, xs.length = n := ⟨_, rfl⟩
        obtain ⟨m, hm⟩ : ∃ m, ys.length = m := ⟨_, rfl⟩
        rw [hn] at qa hx0
        rw [hm] at qb hy0
        have HL : Hid (xs.length = n ∧ ys.length = m) := ⟨hn, hm⟩
        clear hn hm
        by_cases hnm : n = m
        · subst hnm
          have hnn2 : ((n : Int) != (n : Int)) = false := by simp
          go_wp2_with fail
          go_region_held_law (fun w' => w'.cell? ⟨ba, i, none⟩ = some (.slice Au n cu) ∧ w'.cell? ⟨bb, i, none⟩ = some (.slice Bu n du)) (go_keep) (fail)
          go_wp2_with fail
          go_loopw [6] (fun iv wr => ∃ (k q2 : Nat), k ≤ n ∧ iv = .int .i64 k ∧ wr = w.drewN q2 ∧ Hid (agr xs ys k)) (fun iv _ => n - (intOf iv).toNat)
          case atStart => exact ⟨0, q + 1, Nat.zero_le _, rfl, rfl, fun j hj => absurd hj (by omega)⟩
          case round =>
            obtain ⟨k, q2, hle2, rfl, hw, HG2⟩ := hrel
            subst wr
            by_cases hp2 : k < n
            · have hpk : (k : Int) < (n : Int) := by omega
              obtain ⟨p0, hpp⟩ : ∃ p, xs[k]? = some p := ⟨_, List.getElem?_eq_getElem (by have := HL.out.1; omega)⟩
              obtain ⟨r0, hrr⟩ : ∃ r, ys[k]? = some r := ⟨_, List.getElem?_eq_getElem (by have := HL.out.2; omega)⟩
              obtain ⟨bx, rfl, hxc⟩ := HXC.out.resolve_left (by intro e; rw [e] at hpp; cases hpp)
              obtain ⟨bY, rfl, hyc⟩ := HYC.out.resolve_left (by intro e; rw [e] at hrr; cases hrr)
              have x0 := hxc k _ hpp
              have y0 := hyc k _ hrr
              have HP : Hid (xs[k]? = some p0 ∧ ys[k]? = some r0) := ⟨hpp, hrr⟩
              clear hxc hyc hpp hrr
              by_cases d0 : p0 = r0
              · subst d0
                have b0 : (p0.toList == p0.toList) = true := by simp
                have HE : Hid (agr xs ys (k + 1)) := agr_step HG2.out (by rw [HP.out.1, HP.out.2])
                go_wp2_with fail
                go_region_held_law (fun w' => w'.cell? ⟨ba, i, none⟩ = some (.slice (some ⟨bx, 0, none⟩) n cu) ∧ w'.cell? ⟨bb, i, none⟩ = some (.slice (some ⟨bY, 0, none⟩) n du) ∧ w'.cell? ⟨bx, k, none⟩ = some (.string p0) ∧ w'.cell? ⟨bY, k, none⟩ = some (.string p0)) (go_keep) (fail)
                go_wp2_with fail
                go_roundw
                case rel => exact ⟨k + 1, q2 + 1, by omega, by go_num, rfl, HE.out⟩
                case measure => simp [intOf]; omega
              · have b0 : (p0.toList == r0.toList) = false := by
                  rw [beq_eq_false_iff_ne]; intro e; exact d0 (ba_ext e)
                have HE : Hid (la ≠ lb) := agr_ne (i := i) (by rw [HX.out.1, HX.out.2]; intro e; have := Option.some.inj e; subst this; have h1 := HP.out.1; rw [HP.out.2] at h1; cases h1; exact d0 rfl)
                go_wp2_with fail
                go_region_held_law (fun w' => w'.cell? ⟨ba, i, none⟩ = some (.slice (some ⟨bx, 0, none⟩) n cu) ∧ w'.cell? ⟨bb, i, none⟩ = some (.slice (some ⟨bY, 0, none⟩) n du) ∧ w'.cell? ⟨bx, k, none⟩ = some (.string p0) ∧ w'.cell? ⟨bY, k, none⟩ = some (.string r0)) (go_keep) (fail)
                go_wp2_with fail
                go_ret
                rw [decide_eq_false HE.out]
                exact ⟨rfl, q2 + 1, rfl⟩
            · have e : k = n := by omega
              subst e
              have hpk : ¬ (k : Int) < (k : Int) := by omega
              have HE : Hid (agr la lb (i + 1)) := agr_step HG.out (by rw [HX.out.1, HX.out.2, agr_eq (HL.out.1.trans HL.out.2.symm) (by rw [HL.out.1]; exact HG2.out)])
              go_wp2_with fail
              go_roundw
              case rel => exact ⟨i + 1, q2, by omega, by go_num, rfl, HE.out⟩
              case measure => simp [intOf]; omega
        · have hnn2 : ((n : Int) != (m : Int)) = true := by simp; omega
          have HE : Hid (la ≠ lb) := agr_ne (i := i) (by rw [HX.out.1, HX.out.2]; intro e; exact hnm (by rw [← HL.out.1, ← HL.out.2, Option.some.inj e]))
          clear hnm
          go_wp2_with fail
          go_region_held_law (fun w' => w'.cell? ⟨ba, i, none⟩ = some (.slice Au n cu) ∧ w'.cell? ⟨bb, i, none⟩ = some (.slice Bu m du)) (go_keep) (fail)
          go_wp2_with fail
          go_ret
          rw [decide_eq_false HE.out]
          exact ⟨rfl, q + 1, rfl⟩
      · have e : i = N := by omega
        subst e
        have hpi : ¬ (i : Int) < (i : Int) := by omega
        have HE : Hid (la = lb) := agr_eq (HNM.out.1.trans HNM.out.2.symm) (by rw [HNM.out.1]; exact HG.out)
        go_wp2_with fail
        go_ret
        rw [decide_eq_true HE.out]
        exact ⟨rfl, q, rfl⟩
  · have hnn : ((N : Int) != (M : Int)) = true := by simp; omega
    have HE : Hid (la ≠ lb) := fun e => hNM (by rw [← HNM.out.1, ← HNM.out.2, e])
    go_enter Tryd.func21, Tryd.ntmps21
    go_wp2_with fail
    go_ret
    rw [decide_eq_false HE.out]
    exact ⟨rfl, 0, rfl⟩
end Go.Proofs.YtpfdgibgdehcdaaDoor
