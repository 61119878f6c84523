/-
  What pivot's copied and exchange hand back.
-/
import Derived.Test.YtgpjlobclcbniaaYc
import Derived.Test.YtgpjlobclcbniaaVp
import Derived.RegionTactic
namespace Go.Proofs.Ytgpjlobclcbniaa
open Fl RowKit

theorem splice_all {cur cs : List Value} (h : cur.length = cs.length) : splice cur 0 cs = cs := by
  unfold splice
  rw [List.take_zero, List.nil_append, Nat.zero_add, ← h, List.drop_length, List.append_nil]
theorem ir_of {w : World} {b g n : Nat} {zs : List Int} (hn : zs.length = n) (hm : n ≤ maxLen) (hb : b ≤ g) (h : w.heap[g]? = some (.cells (zs.map ci).toArray 3 (0, 0))) : Ir w b (.slice (some ⟨g, 0, none⟩) n n) n zs := by
  refine ⟨hn, by simp [hn], .inr ⟨g, n, _, rfl, hb, h, Nat.le_refl _, hm, by simp [hn], ?_⟩⟩
  rw [List.toList_toArray, Nat.mul_one]
  exact List.take_of_length_le (by simp [hn])
theorem src_at {w : World} {ao : Option Addr} {zs : List Int} (hc : Qi w ao zs) (h0 : 0 < (zs.map ci).length) : ∃ ad, ao = some ad ∧ ∀ j v, (zs.map ci)[j]? = some v → w.cell? (ad.add j) = some v := by
  rw [List.length_map] at h0
  obtain ⟨b, off, rfl, _, _⟩ := hc 0 h0
  refine ⟨_, rfl, fun j v hj => ?_⟩
  rw [List.getElem?_map] at hj
  by_cases hk : j < zs.length
  · rw [iat_lt hk] at hj
    cases hj
    obtain ⟨b', off', h1, _, h3⟩ := hc j hk
    cases h1
    unfold Addr.add
    split
    · rename_i e0
      rw [e0, Nat.add_zero] at h3
      rw [e0]; exact h3
    · exact h3
  · rw [List.getElem?_eq_none (by omega)] at hj; cases hj
theorem one_ci {zs : List Int} : ∀ v ∈ zs.map ci, v.oneCell' = true := by
  intro v hv
  obtain ⟨z, _, rfl⟩ := List.mem_map.1 hv
  rfl
theorem made_cur {w : World} {g n : Nat} {xs : List Value} (h : w.ownsRow g 3 1 (.slice (some ⟨g, 0, none⟩) n n) n xs) : ∃ cur : List Value, w.heap[g]? = some (.cells cur.toArray 3 (0, 0)) ∧ cur.length = n := by
  rcases h.2 with ⟨hv, _⟩ | ⟨g', cap, cur, hv, _, hg, _, _, hsz, _⟩
  · cases hv
  · cases hv
    exact ⟨cur.toList, by rw [hg], by rw [Array.length_toList, hsz, Nat.mul_one]⟩
set_option maxHeartbeats 2000000 in
theorem copied_any (ao : Option Addr) (cap n : Nat) (zs : List Int) (w : World) (hn : zs.length = n) (hsz : n * 8 ≤ 140737488355328) (hc : Qi w ao zs) :
    Calls Try.prog 56 #[.slice ao n cap] w fun e w' => ∃ g, e = .returned (.slice (some ⟨g, 0, none⟩) n n) ∧ Ir w' w.heap.size (.slice (some ⟨g, 0, none⟩) n n) n zs ∧ Below w.heap.size w w' := by
  obtain ⟨i0, hi, hz0, hz1, hz2⟩ := info_parts Try.infoI
  go_enter Try.func56, Try.ntmps56
  go_wp2_with (first
    | (at_make; (refine wpList_make_full _ rfl _ _ 45 rfl w.heap.size 3 i0 (.int .i64 0) 1 Try.underlying45 hi hz0 hz1 _ _ _ _ n rfl rfl rfl rfl (by rw [hz2]; omega) (by unfold maxLen; omega) (Nat.le_refl _) ?_); intro w1 hown hgrow; (have BB : Below w.heap.size w w1 := (Below.refl _ _).grown hgrow (Nat.le_refl _) (by intro k hk; simp at hk)); (obtain ⟨cur, hcur, hcs⟩ := made_cur hown); clear hown hgrow)
    | (refine wpList_copy_splice rfl _ _ _ _ rfl 3 Try.underlying45 Try.infoIs _ _ _ _ _ _ rfl rfl w.heap.size 0 cur _ hcur (zs.map ci) (by simp [hn]) (fun h0 => ⟨rfl, src_at (hc.below BB) h0⟩) (by rw [List.length_map, hcs]; omega) one_ci w.heap.size w BB (Nat.le_refl _) ?_; intro w2 hb2 B2; clear hcur BB))
  go_ret
  rw [splice_all (by rw [hcs, List.length_map, hn])] at hb2
  exact ⟨w.heap.size, rfl, ir_of hn (by unfold maxLen; omega) (Nat.le_refl _) hb2.out, B2⟩
set_option maxHeartbeats 2000000 in
theorem exchange_any (b g n c : Nat) (zs : List Int) (i j : Nat) (w : World) (_hn8 : n ≤ 64) (hi : i < n) (hj : j < n) (h : Ir w b (.slice (some ⟨g, 0, none⟩) n c) n zs) :
    Calls Try.prog 57 #[.slice (some ⟨g, 0, none⟩) n c, .int .i64 i, .int .i64 j] w fun e w' => e = .returned (.tuple #[]) ∧ Ir w' b (.slice (some ⟨g, 0, none⟩) n c) n (sw zs i j) ∧ OnlyRow g w w' := by
  have c1 : w.cell? ⟨g, i, none⟩ = some (.int .i64 (iat zs i)) := by
    obtain ⟨b', o', e1, _, e3⟩ := h.qi i (by rw [h.len]; exact hi)
    cases e1; rw [Nat.zero_add] at e3; exact e3
  have c2 : w.cell? ⟨g, j, none⟩ = some (.int .i64 (iat zs j)) := by
    obtain ⟨b', o', e1, _, e3⟩ := h.qi j (by rw [h.len]; exact hj)
    cases e1; rw [Nat.zero_add] at e3; exact e3
  have f1 := h.own.frozenAt i
  have f2 := h.own.frozenAt j
  have hl := h.lt.2
  have R1 : ∀ m, Ir (((w.drewN m).setCell ⟨g, i, none⟩ (.int .i64 (iat zs j))).setCell ⟨g, j, none⟩ (.int .i64 (iat zs i))) b (.slice (some ⟨g, 0, none⟩) n c) n (sw zs i j) := fun m => ((h.drewN m).set i _).set j _
  have R2 : ∀ m, Ir (((w.drewN m).setCell ⟨g, j, none⟩ (.int .i64 (iat zs i))).setCell ⟨g, i, none⟩ (.int .i64 (iat zs j))) b (.slice (some ⟨g, 0, none⟩) n c) n (sw zs i j) := fun m => by
    rw [sw_comm (by rw [h.len]; exact hi) (by rw [h.len]; exact hj)]
    exact ((h.drewN m).set j _).set i _
  have O : ∀ m (a b' : Nat) (u v : Value), OnlyRow g w (((w.drewN m).setCell ⟨g, a, none⟩ u).setCell ⟨g, b', none⟩ v) := fun m a b' u v => OnlyRow.setCell (OnlyRow.setCell (g := g) (w := w) (w' := w.drewN m) ⟨rfl, rfl, rfl, rfl, fun _ _ => rfl⟩ u) v
  obtain ⟨x, hxe⟩ : ∃ x, x = iat zs i := ⟨_, rfl⟩
  obtain ⟨y, hye⟩ : ∃ y, y = iat zs j := ⟨_, rfl⟩
  rw [← hxe] at c1 R1 R2
  rw [← hye] at c2 R1 R2
  have H1 := hid_o R1
  have H2 := hid_o R2
  have HO := hid_o O
  clear R1 R2 O hxe hye h
  by_cases hij : i = j
  · subst hij
    have exy : x = y := by rw [c1] at c2; cases c2; rfl
    subst exy
    have d1 : (w.setCell ⟨g, i, none⟩ (.int .i64 x)).cell? ⟨g, i, none⟩ = some (.int .i64 x) := World.cell?_setCell_same _ _ _ c1
    go_enter Try.func57, Try.ntmps57
    go_wp2
    go_region
    all_goals
      go_wp2
      go_end0
      first
      | exact ⟨rfl, H1.out _, HO.out _ _ _ _ _⟩
      | exact ⟨rfl, H1.out 1, HO.out 1 _ _ _ _⟩
  have d1 : ∀ u, (w.setCell ⟨g, i, none⟩ u).cell? ⟨g, j, none⟩ = some (.int .i64 y) := fun u => by rw [World.cell?_setCell_other _ _ _ _ (by intro e; cases e; exact hij rfl)]; exact c2
  have d2 : ∀ u, (w.setCell ⟨g, j, none⟩ u).cell? ⟨g, i, none⟩ = some (.int .i64 x) := fun u => by rw [World.cell?_setCell_other _ _ _ _ (by intro e; cases e; exact hij rfl)]; exact c1
  go_enter Try.func57, Try.ntmps57
  go_wp2
  go_region
  all_goals
    go_wp2
    go_end0
    first
    | exact ⟨rfl, H1.out _, HO.out _ _ _ _ _⟩
    | exact ⟨rfl, H1.out 1, HO.out 1 _ _ _ _⟩
    | exact ⟨rfl, H2.out _, HO.out _ _ _ _ _⟩
    | exact ⟨rfl, H2.out 1, HO.out 1 _ _ _ _⟩

end Go.Proofs.Ytgpjlobclcbniaa
