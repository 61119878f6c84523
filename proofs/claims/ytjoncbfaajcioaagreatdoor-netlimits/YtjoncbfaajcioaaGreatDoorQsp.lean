/-
  Spans of the package quantity: four whole numbers and a mark in one struct; what reaches and apart hand back.
-/
import Derived.Test.YtjoncbfaajcioaaGreatDoorBqc
import Derived.Test.YtjoncbfaajcioaaGreatDoorBqd
namespace Go.Proofs.YtjoncbfaajcioaaGreatDoor
open RowKit

def upd {α : Type} (f : Nat → α) (i : Nat) (x : α) : Nat → α := fun j => if j = i then x else f j
theorem upd_same {α : Type} (f : Nat → α) (i : Nat) (x : α) : upd f i x i = x := if_pos rfl
theorem upd_other {α : Type} (f : Nat → α) {i j : Nat} (x : α) (h : j ≠ i) : upd f i x j = f j := if_neg h
/-- a span in memory: rest, one, below, above, ends -/
structure Sp (w : World) (p : Nat) (cur : Array Value) (base : Nat) (vs : Nat → Value) (zs : Nat → Nat) (ends : Bool) (L : Nat) : Prop where
  blk : w.heap[p]? = some (.cells cur 165 (0, 0))
  c : ∀ i, i < 4 → cur[i]? = some (vs i)
  e4 : cur[4]? = some (.bool ends)
  wh : ∀ i, i < 4 → Wh w base (vs i) (zs i) L
  ap : ∀ i, i < 4 → ∀ j, j < 4 → i ≠ j → ∀ k, Ob (vs i) k → ¬ Ob (vs j) k
  pp : ∀ i, i < 4 → ¬ Ob (vs i) p
  bs : base ≤ w.heap.size
theorem Sp.plt {w : World} {p base L : Nat} {cur : Array Value} {vs : Nat → Value} {zs : Nat → Nat} {ends : Bool} (h : Sp w p cur base vs zs ends L) : p < w.heap.size := (Array.getElem?_eq_some_iff.1 h.blk).1
theorem Sp.rt {w : World} {p base L : Nat} {cur : Array Value} {vs : Nat → Value} {zs : Nat → Nat} {ends : Bool} (h : Sp w p cur base vs zs ends L) : Rt w p 165 cur base (vs 0) (vs 1) (zs 0) (zs 1) L :=
  ⟨h.blk, h.c 0 (by decide), h.c 1 (by decide), h.wh 0 (by decide), h.wh 1 (by decide), h.ap 0 (by decide) 1 (by decide) (by decide), h.pp 0 (by decide), h.pp 1 (by decide), h.bs⟩
theorem Sp.cell {w : World} {p base L : Nat} {cur : Array Value} {vs : Nat → Value} {zs : Nat → Nat} {ends : Bool} (h : Sp w p cur base vs zs ends L) (i : Nat) (hi : i < 4) : w.cell? ⟨p, i, none⟩ = some (vs i) := by
  rw [cell_of_row w p i cur _ (0, 0) h.blk]; exact h.c i hi
theorem Sp.cell4 {w : World} {p base L : Nat} {cur : Array Value} {vs : Nat → Value} {zs : Nat → Nat} {ends : Bool} (h : Sp w p cur base vs zs ends L) : w.cell? ⟨p, 4, none⟩ = some (.bool ends) := by
  rw [cell_of_row w p 4 cur _ (0, 0) h.blk]; exact h.e4
theorem Sp.hp {w w' : World} {p base L : Nat} {cur : Array Value} {vs : Nat → Value} {zs : Nat → Nat} {ends : Bool} (h : Sp w p cur base vs zs ends L) (hh : w'.heap = w.heap) : Sp w' p cur base vs zs ends L :=
  ⟨hh ▸ h.blk, h.c, h.e4, fun i hi => (h.wh i hi).hp hh, h.ap, h.pp, hh ▸ h.bs⟩
/-- one of the four is turned, in memory and in the struct: all else is as it was -/
theorem Sp.turn {w w2 : World} {p base L L' i z' : Nat} {cur : Array Value} {vs : Nat → Value} {zs : Nat → Nat} {ends : Bool} {v' : Value} (h : Sp w p cur base vs zs ends L) (hi : i < 4) (hb : w2.heap[p]? = some (.cells (cur.setIfInBounds i v') 165 (0, 0))) (ho : Only (fun k => Ob (vs i) k ∨ k = p) w w2) (hv : Wh w2 base v' z' L') (hf : ∀ k, Ob v' k → Ob (vs i) k ∨ w.heap.size ≤ k) (hL : L ≤ L') :
    Sp w2 p (cur.setIfInBounds i v') base (upd vs i v') (upd zs i z') ends L' := by
  have hv' : ∀ j, j < 4 → j ≠ i → ∀ k, Ob v' k → ¬ Ob (vs j) k := fun j hj hji k hk hk2 => by
    rcases hf k hk with h1 | h1
    · exact h.ap i hi j hj (Ne.symm hji) k h1 hk2
    · have := ((h.wh j hj).lt hk2).1; omega
  have hp' : ¬ Ob v' p := fun hk => by
    rcases hf p hk with h1 | h1
    · exact h.pp i hi h1
    · have := h.plt; omega
  refine ⟨hb, fun j hj => ?_, ?_, fun j hj => ?_, fun j hj k hk hjk b h1 h2 => ?_, fun j hj => ?_, ?_⟩
  · by_cases hji : j = i
    · subst hji
      rw [upd_same]
      have hs : j < cur.size := (Array.getElem?_eq_some_iff.1 (h.c j hj)).1
      simp [hs]
    · rw [upd_other _ _ hji, Array.getElem?_setIfInBounds, if_neg (fun q => hji q.symm)]; exact h.c j hj
  · rw [Array.getElem?_setIfInBounds, if_neg (by omega)]; exact h.e4
  · by_cases hji : j = i
    · subst hji; rw [upd_same, upd_same]; exact hv
    · rw [upd_other _ _ hji, upd_other _ _ hji]
      refine ((h.wh j hj).only ho (fun k hk hk2 => ?_)).mono hL
      rcases hk2 with q | q
      · exact h.ap i hi j hj (Ne.symm hji) k q hk
      · subst q; exact h.pp j hj hk
  · by_cases hji : j = i
    · subst hji
      rw [upd_same] at h1
      rw [upd_other _ _ (Ne.symm hjk)] at h2
      exact hv' k hk (Ne.symm hjk) b h1 h2
    · rw [upd_other _ _ hji] at h1
      by_cases hki : k = i
      · subst hki; rw [upd_same] at h2; exact hv' j hj hji b h2 h1
      · rw [upd_other _ _ hki] at h2; exact h.ap j hj k hk hjk b h1 h2
  · by_cases hji : j = i
    · subst hji; rw [upd_same]; exact hp'
    · rw [upd_other _ _ hji]; exact h.pp j hj
  · have := ho.size
    have := h.bs
    omega
/-- a store of one of the four -/
theorem Sp.put {w w1 : World} {p base L L' i z' : Nat} {cur : Array Value} {vs : Nat → Value} {zs : Nat → Nat} {ends : Bool} {v' : Value} (h : Sp w p cur base vs zs ends L) (hi : i < 4) (ho : Only (Ob (vs i)) w w1) (hv : Wh w1 base v' z' L') (hf : ∀ k, Ob v' k → Ob (vs i) k ∨ w.heap.size ≤ k) (hL : L ≤ L') :
    Sp (w1.setCell ⟨p, i, none⟩ v') p (cur.setIfInBounds i v') base (upd vs i v') (upd zs i z') ends L' ∧ Only (fun k => Ob (vs i) k ∨ k = p) w (w1.setCell ⟨p, i, none⟩ v') := by
  have hb1 : w1.heap[p]? = some (.cells cur 165 (0, 0)) := by rw [ho.block p h.plt (h.pp i hi)]; exact h.blk
  have hp' : ¬ Ob v' p := fun hk => by
    rcases hf p hk with h1 | h1
    · exact h.pp i hi h1
    · have := h.plt; omega
  have os : Only (fun k => k = p) w1 (w1.setCell ⟨p, i, none⟩ v') := (Only.refl _ _).set _ _ (.inl rfl)
  have o2 : Only (fun k => Ob (vs i) k ∨ k = p) w (w1.setCell ⟨p, i, none⟩ v') := (ho.mono (fun j _ hj => .inl hj)).next os (fun j hj => .inl (.inr hj))
  exact ⟨h.turn hi (heap_setCell_same w1 p i cur _ v' hb1) o2 (hv.only os (fun k hk hk2 => hp' (hk2 ▸ hk))) hf hL, o2⟩
/-- behind next -/
theorem Sp.nexted {w w2 : World} {p base L z' : Nat} {cur : Array Value} {vs : Nat → Value} {zs : Nat → Nat} {ends : Bool} {v' : Value} (h : Sp w p cur base vs zs ends L) (hr : Rt w2 p 165 (cur.setIfInBounds 0 v') base v' (vs 1) z' (zs 1) L) (ho : Only (fun k => Ob (vs 0) k ∨ k = p) w w2) (hf : ∀ k, Ob v' k → Ob (vs 0) k ∨ w.heap.size ≤ k) :
    Sp w2 p (cur.setIfInBounds 0 v') base (upd vs 0 v') (upd zs 0 z') ends L := h.turn (by decide) hr.blk ho hr.wr hf (Nat.le_refl _)
/-- does what lies so far away belong to it? -/
def rch (a l : Nat) (ends : Bool) : Bool := decide (a < l) || (decide (a = l) && ends)
set_option maxRecDepth 10000 in
set_option maxHeartbeats 1000000 in
theorem reaches_any {w : World} {p a l b1 b2 L1 L2 : Nat} {va vl : Value} {ends : Bool} (hc : w.cell? ⟨p, 4, none⟩ = some (.bool ends)) (ha : Wh w b1 va a L1) (hl : Wh w b2 vl l L2) (h1 : L1 ≤ 200000) (h2 : L2 ≤ 200000) :
    Calls Tryz.prog 138 #[.pointer (some ⟨p, 0, none⟩), va, vl] w fun e w' => ∃ n, e = .returned (.bool (rch a l ends)) ∧ w' = w.drewN n := by
  obtain ⟨x, hx⟩ : ∃ x, cmI a l = x := ⟨_, rfl⟩
  have HX : Hid (cmI a l = x) := hx
  rcases Nat.lt_trichotomy a l with h | h | h
  · have e1 : rch a l ends = true := by unfold rch; rw [decide_eq_true h]; rfl
    have e2 : x = -1 := by rw [← hx]; unfold cmI; rw [if_pos h]
    rw [e1]
    subst e2
    clear hx e1
    have hc' : ∀ n, (w.drewN n).cell? ⟨p, 4, none⟩ = some (.bool ends) := fun n => hc
    go_enter Tryz.func138, Tryz.ntmps138
    go_wp2_with (go_at_call 105; (with_reducible refine (qcmp_any _ ha hl h1 h2).mono ?_); rintro e3 w3 ⟨m3, rfl, rfl⟩; rw [HX.out])
    go_ret
    exact ⟨m3, rfl, rfl⟩
  · subst h
    have e1 : rch a a ends = ends := by unfold rch; rw [decide_eq_false (by omega), decide_eq_true rfl]; simp
    have e2 : x = 0 := by rw [← hx]; unfold cmI; rw [if_neg (by omega), if_pos rfl]
    rw [e1]
    subst e2
    clear hx e1
    have hc' : ∀ n, (w.drewN n).cell? ⟨p, 4, none⟩ = some (.bool ends) := fun n => hc
    go_enter Tryz.func138, Tryz.ntmps138
    go_wp2_with (go_at_call 105; (with_reducible refine (qcmp_any _ ha hl h1 h2).mono ?_); rintro e3 w3 ⟨m3, rfl, rfl⟩; rw [HX.out])
    go_ret
    exact ⟨m3, rfl, rfl⟩
  · have e1 : rch a l ends = false := by unfold rch; rw [decide_eq_false (by omega), decide_eq_false (by omega)]; rfl
    have e2 : x = 1 := by rw [← hx]; unfold cmI; rw [if_neg (by omega), if_neg (by omega)]
    rw [e1]
    subst e2
    clear hx e1
    have hc' : ∀ n, (w.drewN n).cell? ⟨p, 4, none⟩ = some (.bool ends) := fun n => hc
    go_enter Tryz.func138, Tryz.ntmps138
    go_wp2_with (go_at_call 105; (with_reducible refine (qcmp_any _ ha hl h1 h2).mono ?_); rintro e3 w3 ⟨m3, rfl, rfl⟩; rw [HX.out])
    go_ret
    exact ⟨m3, rfl, rfl⟩

end Go.Proofs.YtjoncbfaajcioaaGreatDoor
