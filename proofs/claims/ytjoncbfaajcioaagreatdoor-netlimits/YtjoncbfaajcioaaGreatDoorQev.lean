/-
  While each of the package quantity goes on: what the four whole numbers of a span are by now.
-/
import Derived.Test.YtjoncbfaajcioaaGreatDoorQsh
import Derived.Test.YtjoncbfaajcioaaGreatDoorQcl
namespace Go.Proofs.YtjoncbfaajcioaaGreatDoor
open RowKit

/-- the four whole numbers by now (us, ys), as each goes on: the struct is as it was -/
structure Ev (w0 w : World) (base : Nat) (vs us : Nat → Value) (ys Ls : Nat → Nat) : Prop where
  wh : ∀ i, i < 4 → Wh w base (us i) (ys i) (Ls i)
  ap : ∀ i, i < 4 → ∀ j, j < 4 → i ≠ j → ∀ k, Ob (us i) k → ¬ Ob (us j) k
  fr : ∀ i, i < 4 → ∀ k, Ob (us i) k → Ob (vs i) k ∨ w0.heap.size ≤ k
  on : Only (fun k => Ob (vs 0) k ∨ Ob (vs 2) k ∨ Ob (vs 3) k) w0 w
  bs : base ≤ w.heap.size
theorem Ev.turn {w0 w w' : World} {base i z' L' : Nat} {vs us : Nat → Value} {ys Ls : Nat → Nat} {v' : Value} (E : Ev w0 w base vs us ys Ls) (hi : i = 0 ∨ i = 2 ∨ i = 3)
    (hv : Wh w' base v' z' L') (ho : Only (Ob (us i)) w w') (hf : ∀ k, Ob v' k → Ob (us i) k ∨ w.heap.size ≤ k) : Ev w0 w' base vs (upd us i v') (upd ys i z') (upd Ls i L') := by
  have hi4 : i < 4 := by omega
  refine ⟨fun j hj => ?_, fun a ha b hb hab k h1 h2 => ?_, fun j hj k hk => ?_, ?_, Nat.le_trans E.bs ho.size⟩
  · by_cases hji : j = i
    · subst hji; rw [upd_same, upd_same, upd_same]; exact hv
    · rw [upd_other _ _ hji, upd_other _ _ hji, upd_other _ _ hji]
      exact (E.wh j hj).only ho (E.ap j hj i hi4 hji)
  · by_cases hai : a = i
    · subst hai
      rw [upd_same] at h1
      rw [upd_other _ _ (Ne.symm hab)] at h2
      rcases hf k h1 with h3 | h3
      · exact E.ap a ha b hb hab k h3 h2
      · have := ((E.wh b hb).lt h2).1; omega
    · rw [upd_other _ _ hai] at h1
      by_cases hbi : b = i
      · subst hbi
        rw [upd_same] at h2
        rcases hf k h2 with h3 | h3
        · exact E.ap a ha b hb hab k h1 h3
        · have := ((E.wh a ha).lt h1).1; omega
      · rw [upd_other _ _ hbi] at h2
        exact E.ap a ha b hb hab k h1 h2
  · by_cases hji : j = i
    · subst hji
      rw [upd_same] at hk
      rcases hf k hk with h3 | h3
      · exact E.fr j hj k h3
      · exact .inr (Nat.le_trans E.on.size h3)
    · rw [upd_other _ _ hji] at hk
      exact E.fr j hj k hk
  · refine E.on.next ho (fun k hk => ?_)
    rcases E.fr i hi4 k hk with h3 | h3
    · rcases hi with rfl | rfl | rfl
      · exact .inl (.inl h3)
      · exact .inl (.inr (.inl h3))
      · exact .inl (.inr (.inr h3))
    · exact .inr h3
/-- a variable of its own -/
def Vr (w : World) (q : Nat) (x : Int) : Prop := w.heap[q]? = some (.cells #[.int .i64 x] 3 (0, 0))
theorem Vr.cell {w : World} {q : Nat} {x : Int} (h : Vr w q x) : w.cell? ⟨q, 0, none⟩ = some (.int .i64 x) := by
  rw [cell_of_row w q 0 _ _ (0, 0) h]; rfl
theorem Vr.only {w w' : World} {q : Nat} {x : Int} (h : Vr w q x) {S : Nat → Prop} (ho : Only S w w') (hq : ¬ S q) : Vr w' q x := by
  unfold Vr
  rw [ho.block q (Array.getElem?_eq_some_iff.1 h).1 hq]; exact h
theorem Vr.froz {w : World} {q : Nat} {x : Int} (h : Vr w q x) : w.frozen? ⟨q, 0, none⟩ = false := frozen_of_row w q 0 _ _ h
theorem ev_call1 {w0 w : World} {base i n q : Nat} {vs us : Nat → Value} {ys Ls : Nat → Nat} {v : Value} (E : Ev w0 w base vs us ys Ls) (hi : i = 0 ∨ i = 2 ∨ i = 3) (hs : us i = v) (hq : Vr w0 q ((n : Nat) : Int)) (hq1 : ∀ j, j < 4 → ¬ Ob (vs j) q) (hz : 0 < ys i) (hL : Ls i ≤ 50000) (hn : n ≤ 1000000) :
    Calls Tryz.prog 136 #[v, .pointer (some ⟨q, 0, none⟩)] w fun e w' => ∃ ao m c, e = .returned (.slice ao m c) ∧ Ev w0 w' base vs (upd us i (.slice ao m c)) (upd ys i (ys i * 2 ^ n)) (upd Ls i (Ls i + n / 64 + 1)) := by
  subst hs
  have hc := (hq.only E.on (fun h => h.elim (hq1 0 (by decide)) (fun h => h.elim (hq1 2 (by decide)) (hq1 3 (by decide))))).cell
  refine (clo1_any hc (E.wh i (by omega)) hz hL hn E.bs).mono ?_
  rintro e w' ⟨v', rfl, k1, k2, k3⟩
  obtain ⟨a, b, c, rfl⟩ := k1.sl
  exact ⟨a, b, c, rfl, E.turn hi k1 k2 (fun k hk => .inr (k3 k hk))⟩
theorem ev_call2 {w0 w : World} {base i n q : Nat} {vs us : Nat → Value} {ys Ls : Nat → Nat} {v : Value} (E : Ev w0 w base vs us ys Ls) (hi : i = 0 ∨ i = 2 ∨ i = 3) (hs : us i = v) (hq : Vr w0 q (-((n : Nat) : Int))) (hq1 : ∀ j, j < 4 → ¬ Ob (vs j) q) (hL : Ls i + n ≤ 100000) :
    Calls Tryz.prog 137 #[v, .pointer (some ⟨q, 0, none⟩)] w fun e w' => ∃ ao m c, e = .returned (.slice ao m c) ∧ Ev w0 w' base vs (upd us i (.slice ao m c)) (upd ys i (ys i * 10 ^ n)) (upd Ls i (Ls i + n)) := by
  subst hs
  have hc := (hq.only E.on (fun h => h.elim (hq1 0 (by decide)) (fun h => h.elim (hq1 2 (by decide)) (hq1 3 (by decide))))).cell
  refine (clo2_any hc (E.wh i (by omega)) hL E.bs).mono ?_
  rintro e w' ⟨v', rfl, k1, k2, k3⟩
  obtain ⟨a, b, c, rfl⟩ := k1.sl
  exact ⟨a, b, c, rfl, E.turn hi k1 k2 k3⟩
theorem Ev.start {w : World} {p base L : Nat} {cur : Array Value} {vs : Nat → Value} {zs : Nat → Nat} {ends : Bool} (h : Sp w p cur base vs zs ends L) : Ev w w.drew base vs vs zs (fun _ => L) :=
  ⟨fun i hi => (h.wh i hi).hp rfl, h.ap, fun _ _ _ hk => .inl hk, (Only.refl _ w).drewN 1, h.bs⟩
theorem Ev.cells {w w1 : World} {p base L : Nat} {cur : Array Value} {vs us : Nat → Value} {zs ys Ls : Nat → Nat} {ends : Bool} (E : Ev w w1 base vs us ys Ls) (h : Sp w p cur base vs zs ends L) :
    (w1.cell? ⟨p, 0, none⟩ = some (vs 0) ∧ w1.cell? ⟨p, 2, none⟩ = some (vs 2) ∧ w1.cell? ⟨p, 3, none⟩ = some (vs 3)) ∧ w1.frozen? ⟨p, 0, none⟩ = false ∧ w1.frozen? ⟨p, 2, none⟩ = false ∧ w1.frozen? ⟨p, 3, none⟩ = false := by
  have k := h.later E.on (fun q => q.elim (h.pp 0 (by decide)) (fun q => q.elim (h.pp 2 (by decide)) (h.pp 3 (by decide))))
  exact ⟨⟨k.1 0 (by decide), k.1 2 (by decide), k.1 3 (by decide)⟩, k.2 0, k.2 2, k.2 3⟩
/-- three cells of the struct are written, in whatever order -/
theorem Ev.ended {w w3 : World} {p base L L' i j k : Nat} {cur : Array Value} {vs us : Nat → Value} {zs ys Ls : Nat → Nat} {ends : Bool} {x y z : Value} (E : Ev w w3 base vs us ys Ls) (h : Sp w p cur base vs zs ends L)
    (hL : ∀ i, i < 4 → Ls i ≤ L') (h1 : us 1 = vs 1) (hx : x = us i) (hy : y = us j) (hz : z = us k) (hi : i < 4 ∧ j < 4 ∧ k < 4) (hp : ∀ m, m < 4 → m ≠ 1 → m = i ∨ m = j ∨ m = k) :
    ∃ cur', Sp (((w3.setCell ⟨p, i, none⟩ x).setCell ⟨p, j, none⟩ y).setCell ⟨p, k, none⟩ z) p cur' base us ys ends L' ∧
      Only (fun k => Ob (vs 0) k ∨ Ob (vs 2) k ∨ Ob (vs 3) k ∨ k = p) w (((w3.setCell ⟨p, i, none⟩ x).setCell ⟨p, j, none⟩ y).setCell ⟨p, k, none⟩ z) := by
  have hb3 : w3.heap[p]? = some (.cells cur 165 (0, 0)) := by
    rw [E.on.block p h.plt (fun q => q.elim (h.pp 0 (by decide)) (fun q => q.elim (h.pp 2 (by decide)) (h.pp 3 (by decide))))]; exact h.blk
  have hs : 4 < cur.size := (Array.getElem?_eq_some_iff.1 h.e4).1
  have os : Only (fun k => k = p) w3 (((w3.setCell ⟨p, i, none⟩ x).setCell ⟨p, j, none⟩ y).setCell ⟨p, k, none⟩ z) := (((Only.refl (fun k => k = p) w3).set ⟨p, i, none⟩ x (.inl rfl)).set ⟨p, j, none⟩ y (.inl rfl)).set ⟨p, k, none⟩ z (.inl rfl)
  have fp : ∀ m, m < 4 → ¬ Ob (us m) p := fun m hm hk => by
    rcases E.fr m hm p hk with h3 | h3
    · exact h.pp m hm h3
    · have := h.plt; omega
  refine ⟨((cur.setIfInBounds i x).setIfInBounds j y).setIfInBounds k z, ⟨?_, fun m hm => ?_, ?_, fun m hm => ?_, E.ap, fp, Nat.le_trans E.bs os.size⟩, ?_⟩
  · exact heap_setCell_same _ p k _ _ z (heap_setCell_same _ p j _ _ y (heap_setCell_same w3 p i cur _ x hb3))
  · rw [Array.getElem?_setIfInBounds]
    split
    · next e => subst e; rw [if_pos (by simp; omega), hz]
    · rw [Array.getElem?_setIfInBounds]
      split
      · next e => subst e; rw [if_pos (by simp; omega), hy]
      · rw [Array.getElem?_setIfInBounds]
        split
        · next e => subst e; rw [if_pos (by omega), hx]
        · next a b c =>
          have : m = 1 := Classical.byContradiction fun h9 => by
            rcases hp m hm h9 with q | q | q
            · exact c q.symm
            · exact b q.symm
            · exact a q.symm
          subst this
          rw [h1]; exact h.c 1 (by decide)
  · rw [Array.getElem?_setIfInBounds, if_neg (by omega), Array.getElem?_setIfInBounds, if_neg (by omega), Array.getElem?_setIfInBounds, if_neg (by omega)]; exact h.e4
  · exact ((E.wh m hm).only os (fun k hk hk2 => by subst hk2; exact fp m hm hk)).mono (hL m hm)
  · refine (E.on.mono (fun i _ hi => ?_)).next os (fun i hi => .inl (.inr (.inr (.inr hi))))
    rcases hi with q | q | q
    · exact .inl q
    · exact .inr (.inl q)
    · exact .inr (.inr (.inl q))
theorem Ev.fin {w w3 W : World} {p base L L' i j k : Nat} {cur : Array Value} {vs us : Nat → Value} {zs ys Ls : Nat → Nat} {ends : Bool} {x y z : Value} (E : Ev w w3 base vs us ys Ls) (h : Sp w p cur base vs zs ends L)
    (hL : ∀ i, i < 4 → Ls i ≤ L') (h1 : us 1 = vs 1) (hW : W = ((w3.setCell ⟨p, i, none⟩ x).setCell ⟨p, j, none⟩ y).setCell ⟨p, k, none⟩ z) (hx : us i = x) (hy : us j = y) (hz : us k = z) (hi : i < 4 ∧ j < 4 ∧ k < 4) (hp : ∀ m, m < 4 → m ≠ 1 → m = i ∨ m = j ∨ m = k) :
    ∃ cur' us, Sp W p cur' base us ys ends L' ∧ Only (fun k => Ob (vs 0) k ∨ Ob (vs 2) k ∨ Ob (vs 3) k ∨ k = p) w W := by
  subst hW
  obtain ⟨c, k1, k2⟩ := E.ended h hL h1 hx.symm hy.symm hz.symm hi hp
  exact ⟨c, us, k1, k2⟩

end Go.Proofs.YtjoncbfaajcioaaGreatDoor
