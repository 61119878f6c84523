/-
  An account of package refine: terms and what rounding took off the products in it.
-/
import Derived.Test.YtiohceelphpifaaRfa
import Derived.Test.YtiohceelphpifaaLwd
import Derived.Lib.JoinLaws
namespace Go.Proofs.Ytiohceelphpifaa
open Fl RowKit

/-- an account in memory -/
structure Acc (b p gt ct gl cl : Nat) (T L : List Nat) (w : World) : Prop where
  c0 : w.cell? ⟨p, 0, none⟩ = some (.slice (some ⟨gt, 0, none⟩) T.length ct)
  c1 : w.cell? ⟨p, 1, none⟩ = some (.slice (some ⟨gl, 0, none⟩) L.length cl)
  fz : ∀ j, w.frozen? ⟨p, j, none⟩ = false
  lt : p < w.heap.size
  ge : b ≤ p
  ot : w.ownsRow b 48 1 (.slice (some ⟨gt, 0, none⟩) T.length ct) T.length (T.map (Value.float .f64))
  ol : w.ownsRow b 48 1 (.slice (some ⟨gl, 0, none⟩) L.length cl) L.length (L.map (Value.float .f64))
  a1 : gt ≠ gl
  a2 : p ≠ gt
  a3 : p ≠ gl
theorem own_lt {w : World} {base e size n g m c : Nat} {xs : List Value} (h : w.ownsRow base e size (.slice (some ⟨g, 0, none⟩) m c) n xs) : base ≤ g ∧ g < w.heap.size := h.lt g rfl
theorem Acc.below {b p gt ct gl cl : Nat} {T L : List Nat} {w w' : World} (h : Acc b p gt ct gl cl T L w) (hs : w.heap.size ≤ w'.heap.size) (hp : w'.heap[p]? = w.heap[p]?) (ht : w'.heap[gt]? = w.heap[gt]?) (hl : w'.heap[gl]? = w.heap[gl]?) : Acc b p gt ct gl cl T L w' :=
  ⟨(World.cell?_of_block (a := ⟨p, 0, none⟩) hp).trans h.c0, (World.cell?_of_block (a := ⟨p, 1, none⟩) hp).trans h.c1, fun j => (World.frozen?_of_block (a := ⟨p, j, none⟩) hp).trans (h.fz j), Nat.lt_of_lt_of_le h.lt hs, h.ge, own_at h.ot (fun g hg => by cases hg; exact ht), own_at h.ol (fun g hg => by cases hg; exact hl), h.a1, h.a2, h.a3⟩
theorem ncell1 (w : World) (v : Value) (t : TypeId) : (w.alloc (.cells #[v] t)).cell? ⟨w.heap.size, 0, none⟩ = some v := new_cell w 0 v t
theorem ncell2 (w : World) (n : Nat) (o : Obj) (v : Value) (t : TypeId) : (((w.drewN n).alloc o).alloc (.cells #[v] t)).cell? ⟨w.heap.size + 1, 0, none⟩ = some v := by
  have := ncell1 ((w.drewN n).alloc o) v t
  simpa using this
theorem ncell3 (w : World) (n : Nat) (o : Obj) (v : Value) (t : TypeId) : (((w.drewN n).alloc (.cells #[v] t)).alloc o).cell? ⟨w.heap.size, 0, none⟩ = some v := by
  rw [World.cell?_of_block (w := (w.drewN n).alloc (.cells #[v] t)) (Below.heap_alloc _ _ _ (by simp))]; exact new_cell w n v t
/-- the terms are gone on with -/
structure MidT (b p gt ct gl cl gt' : Nat) (T L : List Nat) (w w1 : World) : Prop where
  c0 : w1.cell? ⟨p, 0, none⟩ = some (.slice (some ⟨gt, 0, none⟩) T.length ct)
  c1 : w1.cell? ⟨p, 1, none⟩ = some (.slice (some ⟨gl, 0, none⟩) L.length cl)
  fz : ∀ j, w1.frozen? ⟨p, j, none⟩ = false
  lt : p < w1.heap.size
  ol : w1.ownsRow b 48 1 (.slice (some ⟨gl, 0, none⟩) L.length cl) L.length (L.map (Value.float .f64))
  fr : ∀ q, q < w.heap.size → q ≠ gt → w1.heap[q]? = w.heap[q]?
  sz : w.heap.size ≤ w1.heap.size
  bl : Below b w w1
  gg : gt' = gt ∨ w.heap.size ≤ gt'
theorem mid_t {b p gt ct gl cl gt' H : Nat} {T L : List Nat} {w X w1 : World} (hA : Acc b p gt ct gl cl T L w) (U : Below w.heap.size w X) (hg : X.grownBy w1 (some gt)) (hat : some gt = some gt' ∨ gt' = H) (hH : X.heap.size = H) : MidT b p gt ct gl cl gt' T L w w1 := by
  have hgt := own_lt hA.ot
  have hgl := own_lt hA.ol
  have fr : ∀ q, q < w.heap.size → q ≠ gt → w1.heap[q]? = w.heap[q]? := fun q hq hn => (hg.block q (Nat.lt_of_lt_of_le hq U.size) (fun e => hn (Option.some.inj e))).trans (U.block q hq)
  have sz : w.heap.size ≤ w1.heap.size := Nat.le_trans U.size hg.size
  refine ⟨(World.cell?_of_block (a := ⟨p, 0, none⟩) (fr p hA.lt hA.a2)).trans hA.c0, (World.cell?_of_block (a := ⟨p, 1, none⟩) (fr p hA.lt hA.a2)).trans hA.c1, fun j => (World.frozen?_of_block (a := ⟨p, j, none⟩) (fr p hA.lt hA.a2)).trans (hA.fz j), Nat.lt_of_lt_of_le hA.lt sz, own_at hA.ol (fun g hg => by cases hg; exact fr gl hgl.2 (Ne.symm hA.a1)), fr, sz, ?_, ?_⟩
  · exact (U.mono (by omega)).grown hg (Nat.le_trans (by omega) U.size) (fun k hk => by have := Option.some.inj hk; omega)
  · rcases hat with h | h
    · exact .inl (Option.some.inj h).symm
    · right; rw [h, ← hH]; exact U.size
/-- an account that has grown by a term and what was lost -/
def AccUp (b p gt gl : Nat) (T L : List Nat) (r s : Nat) (w w' : World) : Prop := ∃ gt' ct' gl' cl', Acc b p gt' ct' gl' cl' (T ++ [r]) (L ++ [s]) w' ∧ Below b w w' ∧ w.heap.size ≤ w'.heap.size ∧ (∀ q, q < w.heap.size → q ≠ p → q ≠ gt → q ≠ gl → w'.heap[q]? = w.heap[q]?) ∧ (gt' = gt ∨ w.heap.size ≤ gt') ∧ (gl' = gl ∨ w.heap.size ≤ gl')
theorem mid_l {b p gt ct gl cl gt' ct' gl' H : Nat} {T L : List Nat} {w w1 X w2 : World} {r : Nat} (hA : Acc b p gt ct gl cl T L w) (hM : MidT b p gt ct gl cl gt' T L w w1)
    (_ : w1.ownsRow b 48 1 (.slice (some ⟨gt', 0, none⟩) (T.length + 1) ct') (T.length + 1) (T.map (Value.float .f64) ++ [.float .f64 r])) (U : Below w1.heap.size w1 X) (hg : X.grownBy w2 (some gl)) (_ : some gl = some gl' ∨ gl' = H) (_ : X.heap.size = H) :
    w2.cell? ⟨p, 0, none⟩ = some (.slice (some ⟨gt, 0, none⟩) T.length ct) ∧ w2.cell? ⟨p, 1, none⟩ = some (.slice (some ⟨gl, 0, none⟩) L.length cl) ∧ (∀ j, w2.frozen? ⟨p, j, none⟩ = false) ∧ p < w2.heap.size := by
  have fr : w2.heap[p]? = w1.heap[p]? := (hg.block p (Nat.lt_of_lt_of_le hM.lt U.size) (fun e => hA.a3 (Option.some.inj e))).trans (U.block p hM.lt)
  exact ⟨(World.cell?_of_block (a := ⟨p, 0, none⟩) fr).trans hM.c0, (World.cell?_of_block (a := ⟨p, 1, none⟩) fr).trans hM.c1, fun j => (World.frozen?_of_block (a := ⟨p, j, none⟩) fr).trans (hM.fz j), Nat.lt_of_lt_of_le hM.lt (Nat.le_trans U.size hg.size)⟩
theorem own_cast {w : World} {b e g c : Nat} {T : List Nat} {r : Nat} (h : w.ownsRow b e 1 (.slice (some ⟨g, 0, none⟩) (T.length + 1) c) (T.length + 1) (T.map (Value.float .f64) ++ [.float .f64 r])) : w.ownsRow b e 1 (.slice (some ⟨g, 0, none⟩) (T ++ [r]).length c) (T ++ [r]).length ((T ++ [r]).map (Value.float .f64)) := by
  rw [List.length_append, List.map_append]; exact h
theorem acc_up {b p gt ct gl cl gt' ct' gl' cl' H : Nat} {T L : List Nat} {w w1 X w2 : World} {r s : Nat} (hA : Acc b p gt ct gl cl T L w) (hM : MidT b p gt ct gl cl gt' T L w w1)
    (hown : w1.ownsRow b 48 1 (.slice (some ⟨gt', 0, none⟩) (T.length + 1) ct') (T.length + 1) (T.map (Value.float .f64) ++ [.float .f64 r])) (U : Below w1.heap.size w1 X) (hg : X.grownBy w2 (some gl)) (hat : some gl = some gl' ∨ gl' = H) (hH : X.heap.size = H)
    (hown2 : w2.ownsRow b 48 1 (.slice (some ⟨gl', 0, none⟩) (L.length + 1) cl') (L.length + 1) (L.map (Value.float .f64) ++ [.float .f64 s])) :
    AccUp b p gt gl T L r s w ((w2.setCell ⟨p, 0, none⟩ (.slice (some ⟨gt', 0, none⟩) (T.length + 1) ct')).setCell ⟨p, 1, none⟩ (.slice (some ⟨gl', 0, none⟩) (L.length + 1) cl')) := by
  obtain ⟨c0, c1, fz, lt⟩ := mid_l hA hM hown U hg hat hH
  have o1 := own_lt hown
  have o2 := own_lt hown2
  have o3 := own_lt hA.ot
  have o4 := own_lt hA.ol
  have hbp := hA.ge
  have hplt := hA.lt
  have sz1 := hM.sz
  have sz2 : w1.heap.size ≤ w2.heap.size := Nat.le_trans U.size hg.size
  have e1 : gl' = gl ∨ w1.heap.size ≤ gl' := by
    rcases hat with h | h
    · exact .inl (Option.some.inj h).symm
    · right; rw [h, ← hH]; exact U.size
  have e2 := hM.gg
  have n1 : gt' ≠ gl' := by have := hA.a1; omega
  have n2 : p ≠ gt' := by have := hA.a2; omega
  have n3 : p ≠ gl' := by have := hA.a3; omega
  have n4 : gt' ≠ gl := by have := hA.a1; omega
  have t2 : w2.heap[gt']? = w1.heap[gt']? := (hg.block gt' (Nat.lt_of_lt_of_le o1.2 U.size) (fun e => n4 (Option.some.inj e))).trans (U.block gt' o1.2)
  have hfar : ∀ q, q ≠ p → ((w2.setCell ⟨p, 0, none⟩ (.slice (some ⟨gt', 0, none⟩) (T.length + 1) ct')).setCell ⟨p, 1, none⟩ (.slice (some ⟨gl', 0, none⟩) (L.length + 1) cl')).heap[q]? = w2.heap[q]? := fun q hq =>
    (Below.heap_setCell _ _ _ q hq).trans (Below.heap_setCell _ _ _ q hq)
  have q1 : (T ++ [r]).length = T.length + 1 := by simp
  have q2 : (L ++ [s]).length = L.length + 1 := by simp
  refine ⟨gt', ct', gl', cl', ⟨?_, ?_, ?_, ?_, hbp, own_at (own_cast (own_at hown (fun g hh => by cases hh; exact t2))) (fun g hh => by cases hh; exact hfar _ (Ne.symm n2)), own_at (own_cast hown2) (fun g hh => by cases hh; exact hfar _ (Ne.symm n3)), n1, n2, n3⟩, ?_, ?_, ?_, e2, ?_⟩
  · rw [q1, other_cell _ (by simp)]; exact World.cell?_setCell_same _ _ _ c0
  · rw [q2]; exact World.cell?_setCell_same _ _ _ (by rw [other_cell _ (by simp)]; exact c1)
  · intro j; simpa using fz j
  · simpa using lt
  · have B1 : Below b w1 w2 := (U.mono (by omega)).grown hg (Nat.le_trans (by omega) U.size) (fun k hk => by have := Option.some.inj hk; omega)
    exact ((hM.bl.trans B1).setCell hbp _).setCell hbp _
  · simp; omega
  · intro q hq m1 m2 m3
    rw [hfar q m1, hg.block q (Nat.lt_of_lt_of_le (by omega) U.size) (fun e => m3 (Option.some.inj e)), U.block q (by omega)]
    exact hM.fr q hq m2
  · rcases e1 with h | h
    · exact .inl h
    · exact .inr (Nat.le_trans sz1 h)
end Go.Proofs.Ytiohceelphpifaa
