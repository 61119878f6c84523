/-
  What solve's Transposed hands back.
-/
import Derived.Test.YtomllbpkjhoepaaSlg
namespace Go.Proofs.Ytomllbpkjhoepaa
open Fl RowKit

theorem made_curC {w : World} {g n : Nat} {xs : List Value} (h : w.ownsRow g 43 1 (.slice (some ⟨g, 0, none⟩) n n) n xs) : ∃ cur : List Value, w.heap[g]? = some (.cells cur.toArray 43 (0, 0)) ∧ cur.length = n := by
  rcases h.2 with ⟨hv, _⟩ | ⟨g', cap, cur, hv, _, hg, _, _, hsz, _⟩
  · cases hv
  · cases hv
    exact ⟨cur.toList, by rw [hg], by rw [Array.length_toList, hsz, Nat.mul_one]⟩
theorem rw_of {w : World} {b g n : Nat} {zs : List Cw} (hn : zs.length = n) (hm : n ≤ maxLen) (hb : b ≤ g) (h : w.heap[g]? = some (.cells (zs.map cx).toArray 43 (0, 0))) : Rw w b (.slice (some ⟨g, 0, none⟩) n n) n zs := by
  refine ⟨hn, by simp [hn], .inr ⟨g, n, _, rfl, hb, h, Nat.le_refl _, hm, by simp [hn], ?_⟩⟩
  rw [List.toList_toArray, Nat.mul_one]
  exact List.take_of_length_le (by simp [hn])
theorem srcZ_at {w : World} {ao : Option Addr} {zs : List Cw} (hc : Rc w ao zs) (h0 : 0 < (zs.map cx).length) : ∃ ad, ao = some ad ∧ ∀ j v, (zs.map cx)[j]? = some v → w.cell? (ad.add j) = some v := by
  rw [List.length_map] at h0
  obtain ⟨b, off, rfl, _, _⟩ := hc 0 h0
  refine ⟨_, rfl, fun j v hj => ?_⟩
  rw [List.getElem?_map] at hj
  by_cases hk : j < zs.length
  · rw [zat_lt hk] at hj
    cases hj
    obtain ⟨b', off', h1, _, h3⟩ := hc j hk
    cases h1
    unfold Addr.add
    split
    · rename_i e0
      rw [e0, Nat.add_zero] at h3
      rw [e0]; exact h3
    · exact h3
  · rw [List.getElem?_eq_none (by omega)] at hj; cases hj
/-- what Transposed reckons, place i of which goes to o i -/
def trY (n : Nat) (M : Nat → Nat → Cw) (xs : List Cw) : Nat → Cn := fwS (fun i j => mzU M j i) divZ (fun i => anz (zat xs i)) n
def trZ (n : Nat) (M : Nat → Nat → Cw) (xs : List Cw) : Nat → Cn := bwS n (fun i j => mzL M j i) fstZ (trY n M xs) n
def trK (n : Nat) (M : Nat → Nat → Cw) (xs : List Cw) : Bool := finS (trY n M xs) n && finS (trZ n M xs) n
def GotT (w w' : World) (n : Nat) (ok : Bool) (o : Nat → Nat) (z : Nat → Cn) (v : Value) (E : Int) : Prop :=
  (ok = true ∧ E = 0 ∧ ∃ g y, v = .slice (some ⟨g, 0, none⟩) n n ∧ (∀ i, i < n → repz (z i) (y (o i))) ∧ Rw w' w.heap.size (.slice (some ⟨g, 0, none⟩) n n) n (ro n y)) ∨ (ok = false ∧ E = 6 ∧ v = .slice none 0 0)
theorem tr_eq {n : Nat} {M : Nat → Nat → Cw} {E : Nat → Cw} (xs : List Cw) (h : ∀ i j, i < n → j < n → mz n E i j = mz n (flw n (uE M)) j i) : fwS (mz n E) divZ (fun i => anz (zat xs i)) n = trY n M xs :=
  fwS_congr _ _ (fun i j hi hj => by rw [h i j hi hj, mz_u hi]) n (Nat.le_refl _)
theorem tr_eq2 {n : Nat} {M : Nat → Nat → Cw} {E : Nat → Cw} (xs : List Cw) (h : ∀ i j, i < n → j < n → mz n E i j = mz n (flw n (lE M)) j i) : bwS n (mz n E) fstZ (trY n M xs) n = trZ n M xs :=
  bwS_congr _ _ (fun i j hi hj => by rw [h i j hi hj, mz_l hi]) n (Nat.le_refl _)
theorem qi_set {w : World} {gb gx : Nat} {zs : List Int} (h : Qi w (some ⟨gb, 0, none⟩) zs) (hne : gx ≠ gb) (k : Nat) (v : Value) : Qi (w.setCell ⟨gx, k, none⟩ v) (some ⟨gb, 0, none⟩) zs := fun j hj => by
  obtain ⟨b, off, h1, h2, h3⟩ := h j hj
  refine ⟨b, off, h1, by simpa using h2, ?_⟩
  cases h1
  rw [other_cell _ (by intro e; exact hne (congrArg Addr.block e))]
  exact h3
section trans
variable {w : World} {v : Value} {n : Nat} {M : Nat → Nat → Cw} {o : Nat → Nat} {s : Int} (h : Lhd w v n M o s) {ao : Option Addr} {cap : Nat} {xs : List Cw} (hl : xs.length = n) (hn : n ≤ 64) (hc : Rc w ao xs) (hx : okl xs)
include h hl hn hc hx
end trans

end Go.Proofs.Ytomllbpkjhoepaa
