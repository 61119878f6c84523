/-
  Words: what the statements' same says of two lists of lists of words.
-/
import Derived.Test.YtpfdgibgdehcdaaDoorTkr
import Derived.Deep.RegionWith
import Derived.Deep.QuietTactic
namespace Go.Proofs.YtpfdgibgdehcdaaDoor
open RowKit Joins Deep
set_option linter.unusedVariables false

theorem ba_ext {a b : ByteArray} (h : a.toList = b.toList) : a = b := by
  rw [ByteArray.toList_eq, ByteArray.toList_eq] at h
  cases a; cases b; congr 1; exact Array.ext' h
/-- do two lists agree up to a place? -/
def agr {α : Type} (a b : List α) (n : Nat) : Prop := ∀ j, j < n → a[j]? = b[j]?
theorem agr_eq {α : Type} {a b : List α} (hl : a.length = b.length) (h : agr a b a.length) : a = b := by
  apply List.ext_getElem? 
  intro i
  rcases Nat.lt_or_ge i a.length with q | q
  · exact h i q
  · rw [List.getElem?_eq_none q, List.getElem?_eq_none (by omega)]
theorem agr_ne {α : Type} {a b : List α} {i : Nat} (h : a[i]? ≠ b[i]?) : a ≠ b := fun e => h (by rw [e])
theorem agr_step {α : Type} {a b : List α} {i : Nat} (h : agr a b i) (h2 : a[i]? = b[i]?) : agr a b (i + 1) := by
  intro j hj
  rcases Nat.lt_succ_iff_lt_or_eq.1 hj with q | rfl
  · exact h j q
  · exact h2

set_option maxHeartbeats 4000000 in
set_option maxRecDepth 100000 in
theorem same_any (w : World) (a b : Value) (la lb : List (List Tok)) (ha : RdL w a la) (hb : RdL w b lb) :
    Calls Tryd.prog 38 #[a, b] w fun e w' => e = .returned (.bool (decide (la = lb))) ∧ ∃ q, w' = w.drewN q := by
  obtain ⟨hla, A, ca, rfl, hA⟩ := ha
  obtain ⟨hlb, B, cb, rfl, hB⟩ := hb
  have HA : Hid (la = [] ∨ ∃ b, A = some ⟨b, 0, none⟩ ∧ ∀ (k : Nat) (ts : List Tok), la[k]? = some ts → ∃ u, w.cell? ⟨b, k, none⟩ = some u ∧ RdT w u ts) := hA
  have HB : Hid (lb = [] ∨ ∃ b, B = some ⟨b, 0, none⟩ ∧ ∀ (k : Nat) (ts : List Tok), lb[k]? = some ts → ∃ u, w.cell? ⟨b, k, none⟩ = some u ∧ RdT w u ts) := hB
  clear hA hB
  obtain ⟨N, hN⟩ : ∃ N, la.length = N := ⟨_, rfl⟩
  obtain ⟨M, hM⟩ : ∃ M, lb.length = M := ⟨_, rfl⟩
  rw [hN] at hla ⊢
  rw [hM] at hlb ⊢
  have HNM : Hid (la.length = N ∧ lb.length = M) := ⟨hN, hM⟩
  clear hN hM
  by_cases hNM : N = M
  · subst hNM
    have hnn : ((N : Int) != (N : Int)) = false := by simp
    go_enter Tryd.func38, Tryd.ntmps38
    go_wp2_with fail
    go_loopw [5] (fun iv wr => ∃ (i q : Nat), i ≤ N ∧ iv = .int .i64 i ∧ wr = w.drewN q ∧ Hid (agr la lb i)) (fun iv _ => N - (intOf iv).toNat)
    case atStart => exact ⟨0, 0, Nat.zero_le _, rfl, rfl, fun j hj => absurd hj (by omega)⟩
    case round =>
      obtain ⟨i, q, hle, rfl, hw, HG⟩ := hrel
      subst wr
      by_cases hp : i < N
      · have hpi : (i : Int) < (N : Int) := by omega
        obtain ⟨xs, hxs⟩ : ∃ xs, la[i]? = some xs := ⟨_, List.getElem?_eq_getElem (by have := HNM.out.1; omega)⟩
        obtain ⟨ys, hys⟩ : ∃ ys, lb[i]? = some ys := ⟨_, List.getElem?_eq_getElem (by have := HNM.out.2; omega)⟩
        have HX : Hid (la[i]? = some xs ∧ lb[i]? = some ys) := ⟨hxs, hys⟩
        obtain ⟨ba, rfl, hca⟩ := HA.out.resolve_left (by intro e; rw [e] at hxs; cases hxs)
        obtain ⟨bb, rfl, hcb⟩ := HB.out.resolve_left (by intro e; rw [e] at hys; cases hys)
        obtain ⟨ua, qa, hx0, Au, cu, rfl, hxc⟩ := hca i xs hxs
        obtain ⟨ub, qb, hy0, Bu, du, rfl, hyc⟩ := hcb i ys hys
        have HXC : Hid _ := hxc
        have HYC : Hid _ := hyc
        clear hxc hyc hxs hys hca hcb
        obtain ⟨n, hn⟩ : ∃ n, xs.length = n := ⟨_, rfl⟩
        obtain ⟨m, hm⟩ : ∃ m, ys.length = m := ⟨_, rfl⟩
        rw [hn] at qa hx0
        rw [hm] at qb hy0
        have HL : Hid (xs.length = n ∧ ys.length = m) := ⟨hn, hm⟩
        clear hn hm
        by_cases hnm : n = m
        · subst hnm
          have hnn2 : ((n : Int) != (n : Int)) = false := by simp
          go_wp2_with fail
          go_region_held_law (fun w' => w'.cell? ⟨ba, i, none⟩ = some (.slice Au n cu) ∧ w'.cell? ⟨bb, i, none⟩ = some (.slice Bu n du)) (go_keep) (fail)
          go_wp2_with fail
          go_loopw [6] (fun iv wr => ∃ (k q2 : Nat), k ≤ n ∧ iv = .int .i64 k ∧ wr = w.drewN q2 ∧ Hid (agr xs ys k)) (fun iv _ => n - (intOf iv).toNat)
          case atStart => exact ⟨0, q + 1, Nat.zero_le _, rfl, rfl, fun j hj => absurd hj (by omega)⟩
          case round =>
            obtain ⟨k, q2, hle2, rfl, hw, HG2⟩ := hrel
            subst wr
            by_cases hp2 : k < n
            · have hpk : (k : Int) < (n : Int) := by omega
              obtain ⟨⟨p0, p1, p2⟩, hpp⟩ : ∃ p, xs[k]? = some p := ⟨_, List.getElem?_eq_getElem (by have := HL.out.1; omega)⟩
              obtain ⟨⟨r0, r1, r2⟩, hrr⟩ : ∃ r, ys[k]? = some r := ⟨_, List.getElem?_eq_getElem (by have := HL.out.2; omega)⟩
              obtain ⟨bx, rfl, hxc⟩ := HXC.out.resolve_left (by intro e; rw [e] at hpp; cases hpp)
              obtain ⟨bY, rfl, hyc⟩ := HYC.out.resolve_left (by intro e; rw [e] at hrr; cases hrr)
              obtain ⟨x0, x1, x2⟩ := hxc k _ hpp
              obtain ⟨y0, y1, y2⟩ := hyc k _ hrr
              have HP : Hid (xs[k]? = some (p0, p1, p2) ∧ ys[k]? = some (r0, r1, r2)) := ⟨hpp, hrr⟩
              clear hxc hyc hpp hrr
              by_cases d0 : p0 = r0
              · subst d0
                have b0 : (p0.toList == p0.toList) = true := by simp
                by_cases d1 : p1 = r1
                · subst d1
                  have b1 : (p1 == p1) = true := by simp
                  by_cases d2 : p2 = r2
                  · subst d2
                    have b2 : (p2 == p2) = true := by simp
                    have HE : Hid (agr xs ys (k + 1)) := agr_step HG2.out (by rw [HP.out.1, HP.out.2])
                    go_wp2_with fail
                    go_region_held_law (fun w' => w'.cell? ⟨ba, i, none⟩ = some (.slice (some ⟨bx, 0, none⟩) n cu) ∧ w'.cell? ⟨bb, i, none⟩ = some (.slice (some ⟨bY, 0, none⟩) n du) ∧ w'.cell? ⟨bx, k * 3, none⟩ = some (.string p0) ∧ w'.cell? ⟨bx, k * 3 + 1, none⟩ = some (.int .i64 p1) ∧ w'.cell? ⟨bx, k * 3 + 2, none⟩ = some (.int .i64 p2) ∧ w'.cell? ⟨bY, k * 3, none⟩ = some (.string p0) ∧ w'.cell? ⟨bY, k * 3 + 1, none⟩ = some (.int .i64 p1) ∧ w'.cell? ⟨bY, k * 3 + 2, none⟩ = some (.int .i64 p2)) (go_keep) (fail)
                    go_wp2_with fail
                    go_roundw
                    case rel => exact ⟨k + 1, q2 + 1, by omega, by go_num, rfl, HE.out⟩
                    case measure => simp [intOf]; omega
                  · have b2 : (p2 == r2) = false := by simpa using d2
                    have HE : Hid (la ≠ lb) := agr_ne (i := i) (by rw [HX.out.1, HX.out.2]; intro e; have := Option.some.inj e; subst this; have h1 := HP.out.1; rw [HP.out.2] at h1; cases h1; exact d2 rfl)
                    go_wp2_with fail
                    go_region_held_law (fun w' => w'.cell? ⟨ba, i, none⟩ = some (.slice (some ⟨bx, 0, none⟩) n cu) ∧ w'.cell? ⟨bb, i, none⟩ = some (.slice (some ⟨bY, 0, none⟩) n du) ∧ w'.cell? ⟨bx, k * 3, none⟩ = some (.string p0) ∧ w'.cell? ⟨bx, k * 3 + 1, none⟩ = some (.int .i64 p1) ∧ w'.cell? ⟨bx, k * 3 + 2, none⟩ = some (.int .i64 p2) ∧ w'.cell? ⟨bY, k * 3, none⟩ = some (.string p0) ∧ w'.cell? ⟨bY, k * 3 + 1, none⟩ = some (.int .i64 p1) ∧ w'.cell? ⟨bY, k * 3 + 2, none⟩ = some (.int .i64 r2)) (go_keep) (fail)
                    go_wp2_with fail
                    go_ret
                    rw [decide_eq_false HE.out]
                    exact ⟨rfl, q2 + 1, rfl⟩
                · have b1 : (p1 == r1) = false := by simpa using d1
                  have HE : Hid (la ≠ lb) := agr_ne (i := i) (by rw [HX.out.1, HX.out.2]; intro e; have := Option.some.inj e; subst this; have h1 := HP.out.1; rw [HP.out.2] at h1; cases h1; exact d1 rfl)
                  go_wp2_with fail
                  go_region_held_law (fun w' => w'.cell? ⟨ba, i, none⟩ = some (.slice (some ⟨bx, 0, none⟩) n cu) ∧ w'.cell? ⟨bb, i, none⟩ = some (.slice (some ⟨bY, 0, none⟩) n du) ∧ w'.cell? ⟨bx, k * 3, none⟩ = some (.string p0) ∧ w'.cell? ⟨bx, k * 3 + 1, none⟩ = some (.int .i64 p1) ∧ w'.cell? ⟨bx, k * 3 + 2, none⟩ = some (.int .i64 p2) ∧ w'.cell? ⟨bY, k * 3, none⟩ = some (.string p0) ∧ w'.cell? ⟨bY, k * 3 + 1, none⟩ = some (.int .i64 r1) ∧ w'.cell? ⟨bY, k * 3 + 2, none⟩ = some (.int .i64 r2)) (go_keep) (fail)
                  go_wp2_with fail
                  go_ret
                  rw [decide_eq_false HE.out]
                  exact ⟨rfl, q2 + 1, rfl⟩
              · have b0 : (p0.toList == r0.toList) = false := by
                  rw [beq_eq_false_iff_ne]; intro e; exact d0 (ba_ext e)
                have HE : Hid (la ≠ lb) := agr_ne (i := i) (by rw [HX.out.1, HX.out.2]; intro e; have := Option.some.inj e; subst this; have h1 := HP.out.1; rw [HP.out.2] at h1; cases h1; exact d0 rfl)
                go_wp2_with fail
                go_region_held_law (fun w' => w'.cell? ⟨ba, i, none⟩ = some (.slice (some ⟨bx, 0, none⟩) n cu) ∧ w'.cell? ⟨bb, i, none⟩ = some (.slice (some ⟨bY, 0, none⟩) n du) ∧ w'.cell? ⟨bx, k * 3, none⟩ = some (.string p0) ∧ w'.cell? ⟨bx, k * 3 + 1, none⟩ = some (.int .i64 p1) ∧ w'.cell? ⟨bx, k * 3 + 2, none⟩ = some (.int .i64 p2) ∧ w'.cell? ⟨bY, k * 3, none⟩ = some (.string r0) ∧ w'.cell? ⟨bY, k * 3 + 1, none⟩ = some (.int .i64 r1) ∧ w'.cell? ⟨bY, k * 3 + 2, none⟩ = some (.int .i64 r2)) (go_keep) (fail)
                go_wp2_with fail
                go_ret
                rw [decide_eq_false HE.out]
                exact ⟨rfl, q2 + 1, rfl⟩
            · have e : k = n := by omega
              subst e
              have hpk : ¬ (k : Int) < (k : Int) := by omega
              have HE : Hid (agr la lb (i + 1)) := agr_step HG.out (by rw [HX.out.1, HX.out.2, agr_eq (HL.out.1.trans HL.out.2.symm) (by rw [HL.out.1]; exact HG2.out)])
              go_wp2_with fail
              go_roundw
              case rel => exact ⟨i + 1, q2, by omega, by go_num, rfl, HE.out⟩
              case measure => simp [intOf]; omega
        · have hnn2 : ((n : Int) != (m : Int)) = true := by simp; omega
          have HE : Hid (la ≠ lb) := agr_ne (i := i) (by rw [HX.out.1, HX.out.2]; intro e; exact hnm (by rw [← HL.out.1, ← HL.out.2, Option.some.inj e]))
          clear hnm
          go_wp2_with fail
          go_region_held_law (fun w' => w'.cell? ⟨ba, i, none⟩ = some (.slice Au n cu) ∧ w'.cell? ⟨bb, i, none⟩ = some (.slice Bu m du)) (go_keep) (fail)
          go_wp2_with fail
          go_ret
          rw [decide_eq_false HE.out]
          exact ⟨rfl, q + 1, rfl⟩
      · have e : i = N := by omega
        subst e
        have hpi : ¬ (i : Int) < (i : Int) := by omega
        have HE : Hid (la = lb) := agr_eq (HNM.out.1.trans HNM.out.2.symm) (by rw [HNM.out.1]; exact HG.out)
        go_wp2_with fail
        go_ret
        rw [decide_eq_true HE.out]
        exact ⟨rfl, q, rfl⟩
  · have hnn : ((N : Int) != (M : Int)) = true := by simp; omega
    have HE : Hid (la ≠ lb) := fun e => hNM (by rw [← HNM.out.1, ← HNM.out.2, e])
    go_enter Tryd.func38, Tryd.ntmps38
    go_wp2_with fail
    go_ret
    rw [decide_eq_false HE.out]
    exact ⟨rfl, 0, rfl⟩
end Go.Proofs.YtpfdgibgdehcdaaDoor
