/-
  What lower's exchange hands back.
-/
import Derived.Test.YtklbgibhbnijaaaLwa
import Derived.RegionTactic
import Derived.Deep.DeepCutAuto
namespace Go.Proofs.Ytklbgibhbnijaaa
open Fl RowKit

def sl (g n : Nat) : Value := .slice (some ⟨g, 0, none⟩) n n
def swB (bl : Nat → Nat) (k q : Nat) : Nat → Nat := swO bl k q
theorem range_set (n : Nat) (F : Nat → Value) (k : Nat) (v : Value) : ((List.range n).map F).set k v = (List.range n).map (fun j => if j = k then v else F j) := by
  apply List.ext_getElem?
  intro i
  by_cases hi : i < n
  · by_cases e : k = i
    · subst e
      rw [List.getElem?_set_self (by simp; exact hi)]
      simp [hi]
    · rw [List.getElem?_set_ne e]
      simp [hi, Ne.symm e]
  · rw [List.getElem?_eq_none (by simp; omega), List.getElem?_eq_none (by simp; omega)]
theorem Lo.swapRows {w w' : World} {b p n gr go : Nat} {bl : Nat → Nat} {M : Nat → Nat → Cw} {o : Nat → Nat} {s : Int} (h : Lo w b p n gr go bl M o s) {k q : Nat} (hk : k < n) (hq : q < n) (hkq : k ≠ q)
    (hw : ∃ m, w' = ((w.drewN m).setCell ⟨gr, k, none⟩ (.slice (some ⟨bl q, 0, none⟩) n n)).setCell ⟨gr, q, none⟩ (.slice (some ⟨bl k, 0, none⟩) n n)) :
    Lo w' b p n gr go (swO bl k q) (swM M k q) o s := by
  obtain ⟨m, rfl⟩ := hw
  have hoth : ∀ g, g ≠ gr → (((w.drewN m).setCell ⟨gr, k, none⟩ (.slice (some ⟨bl q, 0, none⟩) n n)).setCell ⟨gr, q, none⟩ (.slice (some ⟨bl k, 0, none⟩) n n)).heap[g]? = w.heap[g]? := by
    intro g hg
    rw [Below.heap_setCell _ _ _ _ hg, Below.heap_setCell _ _ _ _ hg]; rfl
  have hrow : ∀ i, i < n → Rw (((w.drewN m).setCell ⟨gr, k, none⟩ (.slice (some ⟨bl q, 0, none⟩) n n)).setCell ⟨gr, q, none⟩ (.slice (some ⟨bl k, 0, none⟩) n n)) b (.slice (some ⟨bl i, 0, none⟩) n n) n (ro n (M i)) :=
    fun i hi => ⟨(h.row i hi).len, own_at (h.row i hi).own (fun g hg => by cases hg; exact hoth _ (h.ap i hi).2.1)⟩
  have hsw : ∀ i, i < n → swO bl k q i = (if i = k then bl q else if i = q then bl k else bl i) := fun i _ => rfl
  refine ⟨((h.v.drewN m).other (q := ⟨gr, k, none⟩) h.ap2.1 _).other (q := ⟨gr, q, none⟩) h.ap2.1 _, ?_, ?_, ⟨h.ord.len, own_at h.ord.own (fun g hg => by cases hg; exact hoth _ h.ap2.2.2.symm)⟩, h.ge, ?_, ?_, h.ap2⟩
  · have h1 := (h.rows.stored k (.slice (some ⟨bl q, 0, none⟩) n n)).1
    have h2 := (h1.stored q (.slice (some ⟨bl k, 0, none⟩) n n)).1
    rw [range_set, range_set] at h2
    have e : (List.range n).map (fun j => if j = q then (Value.slice (some ⟨bl k, 0, none⟩) n n) else if j = k then .slice (some ⟨bl q, 0, none⟩) n n else .slice (some ⟨bl j, 0, none⟩) n n) = (List.range n).map (fun i => Value.slice (some ⟨swO bl k q i, 0, none⟩) n n) := by
      refine List.map_congr_left (fun i _ => ?_)
      unfold swO
      by_cases h1 : i = q
      · subst h1; rw [if_pos rfl, if_neg (Ne.symm hkq), if_pos rfl]
      · rw [if_neg h1]
        by_cases h2 : i = k
        · subst h2; rw [if_pos rfl, if_pos rfl]
        · rw [if_neg h2, if_neg h2, if_neg h1]
    rw [e] at h2
    exact h2
  · intro i hi
    unfold swO swM
    by_cases h1 : i = k
    · subst h1; simp only [if_true]; exact hrow q hq
    · simp only [h1, if_false]
      by_cases h2 : i = q
      · subst h2; simp only [if_true]; exact hrow k hk
      · simp only [h2, if_false]; exact hrow i hi
  · intro i j hi hj
    unfold swO
    intro e
    by_cases a1 : i = k
    · by_cases a2 : j = k
      · omega
      · rw [if_pos a1, if_neg a2] at e
        by_cases a3 : j = q
        · rw [if_pos a3] at e; exact absurd (h.inj _ _ hq hk e) (Ne.symm hkq)
        · rw [if_neg a3] at e; exact absurd (h.inj _ _ hq hj e) (Ne.symm a3)
    · rw [if_neg a1] at e
      by_cases b1 : i = q
      · rw [if_pos b1] at e
        by_cases a2 : j = k
        · rw [if_pos a2] at e; exact absurd (h.inj _ _ hk hq e) hkq
        · rw [if_neg a2] at e
          by_cases a3 : j = q
          · omega
          · rw [if_neg a3] at e; exact absurd (h.inj _ _ hk hj e) (Ne.symm a2)
      · rw [if_neg b1] at e
        by_cases a2 : j = k
        · rw [if_pos a2] at e; exact absurd (h.inj _ _ hi hq e) b1
        · rw [if_neg a2] at e
          by_cases a3 : j = q
          · rw [if_pos a3] at e; exact absurd (h.inj _ _ hi hk e) a1
          · rw [if_neg a3] at e; exact h.inj _ _ hi hj e
  · intro i hi
    unfold swO
    split
    · exact h.ap q hq
    · split
      · exact h.ap k hk
      · exact h.ap i hi
theorem Lo.swapOrd {w w' : World} {b p n gr go : Nat} {bl : Nat → Nat} {M : Nat → Nat → Cw} {o : Nat → Nat} {s : Int} (h : Lo w b p n gr go bl M o s) {k q : Nat} (hkq : k ≠ q) {t : Int}
    (hw : ∃ m, w' = (((w.drewN m).setCell ⟨go, k, none⟩ (.int .i64 (o q))).setCell ⟨go, q, none⟩ (.int .i64 (o k))).setCell ⟨p, 2, none⟩ (.int .i64 t)) :
    Lo w' b p n gr go bl M (swO o k q) t := by
  obtain ⟨m, rfl⟩ := hw
  have hoth : ∀ g, g ≠ go → g ≠ p → ((((w.drewN m).setCell ⟨go, k, none⟩ (.int .i64 (o q))).setCell ⟨go, q, none⟩ (.int .i64 (o k))).setCell ⟨p, 2, none⟩ (.int .i64 t)).heap[g]? = w.heap[g]? := by
    intro g hg hp
    rw [Below.heap_setCell _ _ _ _ hp, Below.heap_setCell _ _ _ _ hg, Below.heap_setCell _ _ _ _ hg]; rfl
  have v1 := ((h.v.drewN m).other (q := ⟨go, k, none⟩) h.ap2.2.1 (.int .i64 (o q))).other (q := ⟨go, q, none⟩) h.ap2.2.1 (.int .i64 (o k))
  refine ⟨⟨by simpa using v1.lt, ?_, ?_, World.cell?_setCell_same _ _ _ v1.c2, by simpa using v1.f0, by simpa using v1.f1, by simpa using v1.f2⟩, own_at h.rows (fun g hg => by cases hg; exact hoth _ h.ap2.2.2 h.ap2.1), fun i hi => ⟨(h.row i hi).len, own_at (h.row i hi).own (fun g hg => by cases hg; exact hoth _ (h.ap i hi).2.2 (h.ap i hi).1)⟩, ?_, h.ge, h.inj, h.ap, h.ap2⟩
  · rw [other_cell _ (by simp)]; exact v1.c0
  · rw [other_cell _ (by simp)]; exact v1.c1
  · have h1 := ((h.ord.drewN m).set k (o q : Int)).set q (o k : Int)
    rw [ri_set, ri_set] at h1
    have e : ri n (fun j => if j = q then o k else if j = k then o q else o j) = ri n (swO o k q) := by
      refine ri_congr (fun i _ => ?_)
      unfold swO
      by_cases h1 : i = q
      · subst h1; rw [if_pos rfl, if_neg (Ne.symm hkq), if_pos rfl]
      · rw [if_neg h1]
        by_cases h2 : i = k
        · subst h2; rw [if_pos rfl, if_pos rfl]
        · rw [if_neg h2, if_neg h2, if_neg h1]
    rw [e] at h1
    refine ⟨h1.len, own_at h1.own (fun g hg => ?_)⟩
    cases hg
    exact Below.heap_setCell _ _ _ _ h.ap2.2.1
set_option maxHeartbeats 2000000 in
theorem lexchange_any (b p n gr go : Nat) (bl : Nat → Nat) (M : Nat → Nat → Cw) (o : Nat → Nat) (s : Int) (k q : Nat) (w : World) (_hn : n ≤ 64) (hk : k < n) (hq : q < n) (hkq : k ≠ q) (hs : s = 1 ∨ s = -1) (h : Lo w b p n gr go bl M o s) :
    Calls Try.prog 85 #[.pointer (some ⟨p, 0, none⟩), .int .i64 k, .int .i64 q] w fun e w' => e = .returned (.tuple #[]) ∧ Lo w' b p n gr go (swO bl k q) (swM M k q) (swO o k q) (-s) ∧ Below b w w' := by
  have v0 := h.v.c0
  have hl := h.v.lt
  have c1 := h.cell hk
  have c2 := h.cell hq
  have f1 := h.rows.frozenAt k
  have f2 := h.rows.frozenAt q
  have hgl := (h.rows.lt gr rfl)
  have hgl2 := hgl.2
  have HG := hid_o hgl.1
  have hqk : q ≠ k := Ne.symm hkq
  have d1 : ∀ m u, ((w.drewN m).setCell ⟨gr, k, none⟩ u).cell? ⟨gr, q, none⟩ = some (.slice (some ⟨bl q, 0, none⟩) n n) := fun m u => by rw [World.cell?_setCell_other _ _ _ _ (by intro e; cases e; exact hkq rfl)]; exact c2
  have HL := hid_o h
  clear h hgl
  go_enter Try.func85, Try.ntmps85
  go_wp2
  go_cut [] (fun wc => ∃ m, wc = ((w.drewN m).setCell ⟨gr, k, none⟩ (.slice (some ⟨bl q, 0, none⟩) n n)).setCell ⟨gr, q, none⟩ (.slice (some ⟨bl k, 0, none⟩) n n))
  case first =>
    go_region
    all_goals
      go_wp2_with fail
      go_meet
      case rel => first | exact ⟨_, rfl⟩ | exact ⟨0, rfl⟩ | exact ⟨1, rfl⟩
  case rest =>
    have L1 := HL.out.swapRows hk hq hkq hcut
    have B1 : Hid (Below b w wc) := by
      obtain ⟨m, rfl⟩ := hcut
      exact ((below_drewN (Below.refl _ _) m).setCell (p := ⟨gr, k, none⟩) HG.out _).setCell (p := ⟨gr, q, none⟩) HG.out _
    clear hcut v0 c1 c2 f1 f2 d1 hl
    have v1 := L1.v.c1
    have v2 := L1.v.c2
    have f3 := L1.v.f2
    have hl := L1.v.lt
    have o1 : wc.cell? ⟨go, k, none⟩ = some (.int .i64 (o k)) := by
      obtain ⟨b', o', e1, _, e3⟩ := L1.ord.qi k (by rw [ri_len]; exact hk)
      cases e1; rw [Nat.zero_add, ri_at _ hk] at e3; exact e3
    have o2 : wc.cell? ⟨go, q, none⟩ = some (.int .i64 (o q)) := by
      obtain ⟨b', o', e1, _, e3⟩ := L1.ord.qi q (by rw [ri_len]; exact hq)
      cases e1; rw [Nat.zero_add, ri_at _ hq] at e3; exact e3
    have f1 := L1.ord.own.frozenAt k
    have f2 := L1.ord.own.frozenAt q
    have hol := L1.ord.lt
    have hol2 := hol.2
    have HO := hid_o hol.1
    have hpg : go ≠ p := L1.ap2.2.1
    have hgp : p ≠ go := Ne.symm hpg
    have ow : wrap64 (-s) = -s := by unfold wrap64; omega
    have FIN : Hid (∀ w', (∃ m, w' = (((wc.drewN m).setCell ⟨go, k, none⟩ (.int .i64 (o q))).setCell ⟨go, q, none⟩ (.int .i64 (o k))).setCell ⟨p, 2, none⟩ (.int .i64 (-s))) → Lo w' b p n gr go (swO bl k q) (swM M k q) (swO o k q) (-s) ∧ Below b w w') := by
      intro w' hw
      refine ⟨L1.swapOrd hkq hw, ?_⟩
      obtain ⟨m, rfl⟩ := hw
      exact (((below_drewN B1.out m).setCell (p := ⟨go, k, none⟩) HO.out _).setCell (p := ⟨go, q, none⟩) HO.out _).setCell (p := ⟨p, 2, none⟩) L1.ge _
    have d1 : ∀ u, (wc.setCell ⟨go, k, none⟩ u).cell? ⟨go, q, none⟩ = some (.int .i64 (o q)) := fun u => by rw [World.cell?_setCell_other _ _ _ _ (by intro e; cases e; exact hkq rfl)]; exact o2
    have d2 : ∀ u v, ((wc.setCell ⟨go, k, none⟩ u).setCell ⟨go, q, none⟩ v).cell? ⟨p, 2, none⟩ = some (.int .i64 s) := fun u v => by rw [World.cell?_setCell_other _ _ _ _ (by intro e; cases e; exact hpg rfl), World.cell?_setCell_other _ _ _ _ (by intro e; cases e; exact hpg rfl)]; exact v2
    clear L1 hol HL hs
    go_wp2
    go_region
    all_goals
      go_wp2
      go_end0
      first
      | exact ⟨rfl, FIN.out _ ⟨_, rfl⟩⟩
      | exact ⟨rfl, FIN.out _ ⟨0, rfl⟩⟩
      | exact ⟨rfl, FIN.out _ ⟨1, rfl⟩⟩

end Go.Proofs.Ytklbgibhbnijaaa
