/-
  Two lists of texts, two lists of lists: SameTexts of the statements' kit, same of the statements.
-/
import Derived.Test.YtdlecihkjokeiaaGod
namespace Go.Proofs.Ytdlecihkjokeiaa
open Go.Maps Go.RowKit
set_option linter.unusedVariables false
set_option maxRecDepth 100000

def agN (xs ys : List Nm) (k : Nat) : Prop := ∀ j, j < k → xs[j]? = ys[j]?
theorem agN_all {xs ys : List Nm} (h : agN xs ys xs.length) (hl : xs.length = ys.length) : xs = ys := by
  apply List.ext_getElem?
  intro i
  by_cases hi : i < xs.length
  · exact h i hi
  · rw [List.getElem?_eq_none (by omega), List.getElem?_eq_none (by omega)]
theorem row_cellS {w : World} {base : Nat} {v : Value} {xs : List Nm} (h : w.ownsRow base 9 1 v xs.length (xs.map sv)) {k : Nat} {x : Nm} (hk : xs[k]? = some x) : ∃ g cap, v = .slice (some ⟨g, 0, none⟩) xs.length cap ∧ w.cell? ⟨g, k, none⟩ = some (.string ⟨x.toArray⟩) := by
  have hlt := (List.getElem?_eq_some_iff.1 hk).1
  obtain ⟨g, cap, hv⟩ : ∃ g cap, v = .slice (some ⟨g, 0, none⟩) xs.length cap := by
    obtain ⟨_, ⟨h1, h2⟩ | ⟨g, cap, cur, h1, _⟩⟩ := h
    · omega
    · exact ⟨_, _, h1⟩
  rw [hv] at h
  exact ⟨g, cap, hv, by rw [h.cellAt k (by omega), List.getElem?_map, hk]; rfl⟩
theorem bel_dN (w : World) (q : Nat) : Below w.heap.size w (w.drewN q) := ⟨rfl, rfl, rfl, Nat.le_refl _, fun _ _ => rfl⟩
set_option maxHeartbeats 4000000 in
theorem sameS_any (w : World) (b1 b2 : Nat) (a b : Value) (xs ys : List Nm) (ha : w.ownsRow b1 9 1 a xs.length (xs.map sv)) (hb : w.ownsRow b2 9 1 b ys.length (ys.map sv)) (hx : xs.length ≤ 1000000) (hy : ys.length ≤ 1000000) :
    Calls Try.prog 15 #[a, b] w fun e w' => e = .returned (.bool (decide (xs = ys))) ∧ Below w.heap.size w w' := by
  have HA : Hid _ := ha
  have HB : Hid _ := hb
  obtain ⟨A, ca, hva⟩ : ∃ A c, a = .slice A xs.length c := by
    obtain ⟨_, ⟨h1, h2⟩ | ⟨g, cap, cur, h1, _⟩⟩ := ha
    · exact ⟨none, 0, by rw [h1, h2]⟩
    · exact ⟨_, _, h1⟩
  obtain ⟨B, cb, hvb⟩ : ∃ A c, b = .slice A ys.length c := by
    obtain ⟨_, ⟨h1, h2⟩ | ⟨g, cap, cur, h1, _⟩⟩ := hb
    · exact ⟨none, 0, by rw [h1, h2]⟩
    · exact ⟨_, _, h1⟩
  clear ha hb
  subst hva
  subst hvb
  by_cases hl : xs.length = ys.length
  · obtain ⟨n, hn⟩ : ∃ n, xs.length = n := ⟨_, rfl⟩
    have hn2 : ys.length = n := by omega
    rw [hn] at HA hx ⊢
    rw [hn2] at HB hy ⊢
    have HN : Hid (xs.length = n ∧ ys.length = n) := ⟨hn, hn2⟩
    have hnn : ((n : Int) != (n : Int)) = false := by simp
    clear hn hn2 hl
    go_enter Try.func15, Try.ntmps15
    go_wp2_with fail
    go_loopw [5] (fun iv wr => ∃ (k : Nat), k ≤ n ∧ iv = .int .i64 k ∧ Hid (∃ q, wr = w.drewN q) ∧ Hid (agN xs ys k)) (fun iv _ => n - (intOf iv).toNat)
    case atStart => exact ⟨0, Nat.zero_le _, rfl, ⟨0, rfl⟩, fun j hj => absurd hj (by omega)⟩
    case round =>
      obtain ⟨k, hle, rfl, HQ, HG⟩ := hrel
      obtain ⟨q, hq⟩ := HQ.out
      subst hq
      by_cases hp4 : k < n
      · have hpk : (k : Int) < (n : Int) := by omega
        obtain ⟨x, hx1⟩ : ∃ x, xs[k]? = some x := ⟨_, List.getElem?_eq_getElem (by have := HN.out.1; omega)⟩
        obtain ⟨y, hy1⟩ : ∃ y, ys[k]? = some y := ⟨_, List.getElem?_eq_getElem (by have := HN.out.2; omega)⟩
        obtain ⟨g, cg, hvg, cx⟩ := row_cellS (by rw [HN.out.1]; exact HA.out) hx1
        obtain ⟨g2, cg2, hvg2, cy⟩ := row_cellS (by rw [HN.out.2]; exact HB.out) hy1
        rw [HN.out.1] at hvg
        rw [HN.out.2] at hvg2
        cases hvg
        cases hvg2
        have HX : Hid (xs[k]? = some x ∧ ys[k]? = some y) := ⟨hx1, hy1⟩
        clear hx1 hy1
        by_cases hxy : x = y
        · subst hxy
          have hxx : (x == x) = true := by simp
          go_wp2_with fail
          go_region_held_law (fun w' => w'.cell? ⟨g, k, none⟩ = some (.string ⟨x.toArray⟩) ∧ w'.cell? ⟨g2, k, none⟩ = some (.string ⟨x.toArray⟩)) (first | exact ⟨cx, cy⟩ | go_keep) (fail)
          go_wp2_with fail
          go_roundw
          case rel => exact ⟨k + 1, by omega, by go_num, ⟨q + 1, rfl⟩, fun j hj => by
            rcases Nat.lt_succ_iff_lt_or_eq.1 hj with q2 | rfl
            · exact HG.out j q2
            · rw [HX.out.1, HX.out.2]⟩
          case measure => simp [intOf]; omega
        · have hxx : (x == y) = false := by simpa using hxy
          go_wp2_with fail
          go_region_held_law (fun w' => w'.cell? ⟨g, k, none⟩ = some (.string ⟨x.toArray⟩) ∧ w'.cell? ⟨g2, k, none⟩ = some (.string ⟨y.toArray⟩)) (first | exact ⟨cx, cy⟩ | go_keep) (fail)
          go_wp2_with fail
          go_ret
          refine ⟨?_, bel_dN w (q + 1)⟩
          have : ¬ xs = ys := fun e => hxy (by
            have h1 := HX.out.1
            rw [e, HX.out.2] at h1
            exact (Option.some.inj h1).symm)
          rw [decide_eq_false this]; rfl
      · have hkn : k = n := by omega
        subst hkn
        have hkk : ¬ ((k : Int) < (k : Int)) := by omega
        have he : xs = ys := agN_all (by rw [HN.out.1]; exact HG.out) (by rw [HN.out.1, HN.out.2])
        have hd : decide (xs = ys) = true := decide_eq_true he
        clear he
        go_wp2_with fail
        go_ret
        exact ⟨rfl, bel_dN w q⟩
  · have hne : ((xs.length : Int) != (ys.length : Int)) = true := by
      rw [bne_iff_ne]; omega
    have hd : decide (xs = ys) = false := decide_eq_false (fun e => hl (by rw [e]))
    go_enter Try.func15, Try.ntmps15
    go_wp2_with fail
    go_ret
    first | exact ⟨rfl, Below.refl _ _⟩ | (rw [hd]; exact ⟨rfl, Below.refl _ _⟩)

theorem ll_cell {w : World} {base : Nat} {v : Value} {vals : List Value} {ls : List (List Nm)} (h : LL w base 29 9 1 nmE v vals ls) {k : Nat} {l : List Nm} (hk : ls[k]? = some l) : ∃ g cap u, v = .slice (some ⟨g, 0, none⟩) ls.length cap ∧ w.cell? ⟨g, k, none⟩ = some u ∧ w.ownsRow base 9 1 u l.length (l.map sv) := by
  have hlt := (List.getElem?_eq_some_iff.1 hk).1
  have hlen := h.len
  obtain ⟨u, hu⟩ : ∃ u, vals[k]? = some u := ⟨_, List.getElem?_eq_getElem (by omega)⟩
  have o := h.out
  obtain ⟨g, cap, hv⟩ : ∃ g cap, v = .slice (some ⟨g, 0, none⟩) vals.length cap := by
    obtain ⟨_, ⟨h1, h2⟩ | ⟨g, cap, cur, h1, _⟩⟩ := o
    · omega
    · exact ⟨_, _, h1⟩
  rw [hv] at o
  have hr := h.inn k u l hu hk
  rw [nmE_map] at hr
  exact ⟨g, cap, u, by rw [hlen]; exact hv, by rw [o.cellAt k (by omega)]; exact hu, hr⟩
def agL (xs ys : List (List Nm)) (k : Nat) : Prop := ∀ j, j < k → xs[j]? = ys[j]?
theorem agL_all {xs ys : List (List Nm)} (h : agL xs ys xs.length) (hl : xs.length = ys.length) : xs = ys := by
  apply List.ext_getElem?
  intro i
  by_cases hi : i < xs.length
  · exact h i hi
  · rw [List.getElem?_eq_none (by omega), List.getElem?_eq_none (by omega)]
set_option maxHeartbeats 4000000 in
theorem sameL_any (w : World) (b1 b2 : Nat) (a b : Value) (va vb : List Value) (xs ys : List (List Nm)) (ha : LL w b1 29 9 1 nmE a va xs) (hb : LL w b2 29 9 1 nmE b vb ys) (hx : xs.length ≤ 1000000) (hy : ys.length ≤ 1000000) (hxl : ∀ l ∈ xs, l.length ≤ 1000000) (hyl : ∀ l ∈ ys, l.length ≤ 1000000) :
    Calls Try.prog 13 #[a, b] w fun e w' => e = .returned (.bool (decide (xs = ys))) ∧ Below w.heap.size w w' := by
  obtain ⟨A, ca, hva⟩ : ∃ A c, a = .slice A xs.length c := by
    rw [ha.len]
    obtain ⟨_, ⟨h1, h2⟩ | ⟨g, cap, cur, h1, _⟩⟩ := ha.out
    · exact ⟨none, 0, by rw [h1, h2]⟩
    · exact ⟨_, _, h1⟩
  obtain ⟨B, cb, hvb⟩ : ∃ A c, b = .slice A ys.length c := by
    rw [hb.len]
    obtain ⟨_, ⟨h1, h2⟩ | ⟨g, cap, cur, h1, _⟩⟩ := hb.out
    · exact ⟨none, 0, by rw [h1, h2]⟩
    · exact ⟨_, _, h1⟩
  subst hva
  subst hvb
  have HA : Hid _ := ha
  have HB : Hid _ := hb
  have HXL : Hid ((∀ l ∈ xs, l.length ≤ 1000000) ∧ ∀ l ∈ ys, l.length ≤ 1000000) := ⟨hxl, hyl⟩
  clear ha hb hxl hyl
  by_cases hl : xs.length = ys.length
  · obtain ⟨n, hn⟩ : ∃ n, xs.length = n := ⟨_, rfl⟩
    have hn2 : ys.length = n := by omega
    rw [hn] at HA hx ⊢
    rw [hn2] at HB hy ⊢
    have HN : Hid (xs.length = n ∧ ys.length = n) := ⟨hn, hn2⟩
    have hnn : ((n : Int) != (n : Int)) = false := by simp
    clear hn hn2 hl
    go_enter Try.func13, Try.ntmps13
    go_wp2_with fail
    go_loopw [5] (fun iv wr => ∃ (k : Nat), k ≤ n ∧ iv = .int .i64 k ∧ Hid (Below w.heap.size w wr) ∧ Hid (agL xs ys k)) (fun iv _ => n - (intOf iv).toNat)
    case atStart => exact ⟨0, Nat.zero_le _, rfl, Below.refl _ _, fun j hj => absurd hj (by omega)⟩
    case round =>
      obtain ⟨k, hle, rfl, HQ, HG⟩ := hrel
      by_cases hp4 : k < n
      · have hpk : (k : Int) < (n : Int) := by omega
        obtain ⟨x, hx1⟩ : ∃ x, xs[k]? = some x := ⟨_, List.getElem?_eq_getElem (by have := HN.out.1; omega)⟩
        obtain ⟨y, hy1⟩ : ∃ y, ys[k]? = some y := ⟨_, List.getElem?_eq_getElem (by have := HN.out.2; omega)⟩
        obtain ⟨g, cg, ux, hvg, cx, rx⟩ := ll_cell (HA.out.below HQ.out) hx1
        obtain ⟨g2, cg2, uy, hvg2, cy, ry⟩ := ll_cell (HB.out.below HQ.out) hy1
        rw [HN.out.1] at hvg
        rw [HN.out.2] at hvg2
        cases hvg
        cases hvg2
        have hcall := sameS_any wr.drew b1 b2 ux uy x y rx ry (HXL.out.1 x (List.mem_of_getElem? hx1)) (HXL.out.2 y (List.mem_of_getElem? hy1))
        have HX : Hid (xs[k]? = some x ∧ ys[k]? = some y) := ⟨hx1, hy1⟩
        have HRC : Hid (∀ W, Below wr.drew.heap.size wr.drew W → W.cell? ⟨g, k, none⟩ = some ux ∧ W.cell? ⟨g2, k, none⟩ = some uy) := fun W hW => ⟨(hW.cell (World.block_lt_of_cell? wr _ cx)).trans cx, (hW.cell (World.block_lt_of_cell? wr _ cy)).trans cy⟩
        clear hx1 hy1 rx ry
        by_cases hxy : x = y
        · rw [decide_eq_true hxy] at hcall
          go_wp2_with fail
          go_region_held_law (fun w' => w'.cell? ⟨g, k, none⟩ = some ux ∧ w'.cell? ⟨g2, k, none⟩ = some uy) (first | exact ⟨cx, cy⟩ | exact HRC.out _ hb5 | go_keep) (first | (go_at_call 15; (with_reducible refine hcall.mono ?_); rintro e5 w5 ⟨rfl, hb5⟩))
          go_wp2_with fail
          go_roundw
          case rel => exact ⟨k + 1, by omega, by go_num, HQ.out.trans ((Below.drew (Below.refl _ wr)).trans hb5 |>.mono HQ.out.size), fun j hj => by
            rcases Nat.lt_succ_iff_lt_or_eq.1 hj with q2 | rfl
            · exact HG.out j q2
            · rw [HX.out.1, HX.out.2, hxy]⟩
          case measure => simp [intOf]; omega
        · rw [decide_eq_false hxy] at hcall
          go_wp2_with fail
          go_region_held_law (fun w' => w'.cell? ⟨g, k, none⟩ = some ux ∧ w'.cell? ⟨g2, k, none⟩ = some uy) (first | exact ⟨cx, cy⟩ | exact HRC.out _ hb5 | go_keep) (first | (go_at_call 15; (with_reducible refine hcall.mono ?_); rintro e5 w5 ⟨rfl, hb5⟩))
          go_wp2_with fail
          go_ret
          have : ¬ xs = ys := fun e => hxy (by
            have h1 := HX.out.1
            rw [e, HX.out.2] at h1
            exact (Option.some.inj h1).symm)
          refine ⟨by rw [decide_eq_false this]; rfl, HQ.out.trans ((Below.drew (Below.refl _ wr)).trans hb5 |>.mono HQ.out.size)⟩
      · have hkn : k = n := by omega
        subst hkn
        have hkk : ¬ ((k : Int) < (k : Int)) := by omega
        have he : xs = ys := agL_all (by rw [HN.out.1]; exact HG.out) (by rw [HN.out.1, HN.out.2])
        have hd : decide (xs = ys) = true := decide_eq_true he
        clear he
        go_wp2_with fail
        go_ret
        first | exact ⟨rfl, HQ.out⟩ | (rw [hd]; exact ⟨rfl, HQ.out⟩)
  · have hne : ((xs.length : Int) != (ys.length : Int)) = true := by
      rw [bne_iff_ne]; omega
    have hd : decide (xs = ys) = false := decide_eq_false (fun e => hl (by rw [e]))
    go_enter Try.func13, Try.ntmps13
    go_wp2_with fail
    go_ret
    first | exact ⟨rfl, Below.refl _ _⟩ | (rw [hd]; exact ⟨rfl, Below.refl _ _⟩)

end Go.Proofs.Ytdlecihkjokeiaa
