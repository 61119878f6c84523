/-
  What is told of a right side, by one form: the fault, the numbers; of no net too. Three rows held apart.
-/
import Derived.Test.YtmhplaanpbpndaaSwp
import Derived.Test.YtmhplaanpbpndaaSwn
namespace Go.Proofs.Ytmhplaanpbpndaa
open Fl Go.Maps RowKit Joins Deep
set_option linter.unusedVariables false

/-- a fault and numbers -/
def Res (f1 f2 : Int) (K : Nat) (R : Nat → Cn) (w : World) (e : Ending) (w' : World) : Prop := ∃ A c, e = .returned (.tuple #[.slice A K c, .agg #[.int .i64 f1, .int .i64 f2]]) ∧ Nr w' w.heap.size (.slice A K c) K R ∧ Below w.heap.size w w'
/-- no net's -/
theorem nr_nil (w : World) (b : Nat) (R : Nat → Cn) : Nr w b (.slice none 0 0) 0 R := ⟨[], rw_nil _ _, fun j hj => absurd hj (Nat.not_lt_zero j)⟩
theorem Nr.sh {w : World} {b K : Nat} {v : Value} {R : Nat → Cn} (h : Nr w b v K R) : ∃ A c, v = .slice A K c := by
  obtain ⟨xs, h1, _⟩ := h
  exact drow_slice h1.own
theorem Nr.lst {w : World} {b K c : Nat} {A : Option Addr} {R : Nat → Cn} (h : Nr w b (.slice A K c) K R) : ∃ xs, Lst w A K R xs := by
  obtain ⟨xs, h1, h2⟩ := h
  obtain ⟨ao, cap, hv, _, _, hr⟩ := own_rc h1.len.symm h1.own
  injection hv with e1 e2 e3
  subst e1
  exact ⟨xs, h1.len, h2, hr⟩
/-- the fault of a made net's right side; how many numbers; the numbers -/
def rgF (N : Ns) : Int × Int := (rgL N N.es noC 0).1
def rgK (N : Ns) : Nat := if rgF N = (0, 0) then N.nd.length + N.br.length else 0
def rgR (N : Ns) : Nat → Cn := (rgL N N.es noC 0).2
theorem rgp_res {w w' : World} {N : Ns} {e : Ending} (h : RgP w N e w') : Res (rgF N).1 (rgF N).2 (rgK N) (rgR N) w e w' := by
  obtain ⟨hb, ⟨h1, v, rfl, hN⟩ | ⟨i, h1, hi, rfl⟩⟩ := h
  · have hF : rgF N = (0, 0) := h1
    have hK : rgK N = N.nd.length + N.br.length := by unfold rgK; rw [if_pos hF]
    unfold Res
    rw [hF, hK]
    obtain ⟨A, c, rfl⟩ := hN.sh
    exact ⟨A, c, rfl, hN, hb⟩
  · have hF : rgF N = (6, (i : Int)) := h1
    have hK : rgK N = 0 := by unfold rgK; rw [if_neg (by rw [hF]; intro q; have h6 : (6 : Int) = 0 := congrArg Prod.fst q; exact absurd h6 (by decide))]
    unfold Res
    rw [hF, hK]
    exact ⟨none, 0, rfl, nr_nil _ _ _, hb⟩
theorem rgK_le {N : Ns} (h : Md N) : rgK N ≤ 64 := by
  unfold rgK
  split
  · exact h.nb
  · omega
/-- a port of that name -/
def prt (N : Ns) (s : ByteArray) : Option Elm := (fnd N.es (bl s)).filter fun x => x.k == 8
theorem prt_some {N : Ns} {s : ByteArray} {x : Elm} (h : prt N s = some x) : fnd N.es (bl s) = some x ∧ x.k = 8 := by
  unfold prt at h
  rw [Option.filter_eq_some_iff] at h
  exact ⟨h.1, beq_iff_eq.1 h.2⟩
theorem prt_none {N : Ns} {s : ByteArray} (h : prt N s = none) : ∀ x, fnd N.es (bl s) = some x → x.k ≠ 8 := by
  intro x hx e
  unfold prt at h
  rw [hx] at h
  simp [e] at h
def drF (N : Ns) (s : ByteArray) : Int × Int := match prt N s with | some _ => (0, 0) | none => (10, -1)
def drK (N : Ns) (s : ByteArray) : Nat := match prt N s with | some _ => N.nd.length + N.br.length | none => 0
def drQ (N : Ns) (s : ByteArray) : Nat → Cn := match prt N s with | some x => drR N x | none => noC
theorem drK_le {N : Ns} (h : Md N) (s : ByteArray) : drK N s ≤ 64 := by
  unfold drK
  split
  · exact h.nb
  · omega
/-- the same numbers -/
theorem nr_same {w : World} {b b' K c c' : Nat} {A A' : Option Addr} {R : Nat → Cn} (h : Nr w b (.slice A K c) K R) (k : Nr w b' (.slice A' K c') K R) (hK : K ≤ 64) : Calls Try.prog 33 #[.slice A K c, .slice A' K c'] w fun e w' => e = .returned (.bool true) ∧ Below w.heap.size w w' := by
  obtain ⟨xs, h1⟩ := h.lst
  obtain ⟨ys, h2⟩ := k.lst
  exact (tsame h1 h2 (by omega)).mono (by rintro e w' ⟨m, rfl, rfl⟩; exact ⟨rfl, below_dN (Below.refl _ _) m⟩)
def pk3 {α : Type} (a b c : α) (j : Nat) : α := if j = 0 then a else if j = 1 then b else c
theorem three {P : Nat → Prop} (h0 : P 0) (h1 : P 1) (h2 : P 2) : ∀ j, j < 3 → P j := by
  intro j hj
  rcases (by omega : j = 0 ∨ j = 1 ∨ j = 2) with rfl | rfl | rfl
  · exact h0
  · exact h1
  · exact h2
/-- three rows, held apart -/
theorem apart3c {w : World} {b0 n0 n1 n2 : Nat} {v0 v1 v2 : Value} {R0 R1 R2 : Nat → Cn} {t : TypeId} {LB : Nat} (hLB : w.heap.size = LB) (r0 : Nr w b0 v0 n0 R0) (r1 : Nr w b0 v1 n1 R1) (r2 : Nr w b0 v2 n2 R2) (h0 : n0 ≤ 64) (h1 : n1 ≤ 64) (h2 : n2 ≤ 64)
    (a01 : ∀ g, v0.ownBlock = some g → v1.ownBlock ≠ some g) (a02 : ∀ g, v0.ownBlock = some g → v2.ownBlock ≠ some g) (a12 : ∀ g, v1.ownBlock = some g → v2.ownBlock ≠ some g) (hb : b0 ≤ w.heap.size) :
    Calls Try.prog 14 #[.slice (some ⟨LB, 0, none⟩) 3 3] (w.alloc (.cells #[v0, v1, v2] t)) fun e w' => e = .returned (.bool true) ∧ Below b0 (w.alloc (.cells #[v0, v1, v2] t)) w' := by
  subst hLB
  obtain ⟨l0, r0, _⟩ := r0
  obtain ⟨l1, r1, _⟩ := r1
  obtain ⟨l2, r2, _⟩ := r2
  have hM : Many b0 w.heap.size 3 (pk3 n0 n1 n2) (pk3 v0 v1 v2) (pk3 l0 l1 l2) (w.alloc (.cells #[v0, v1, v2] t)) := by
    refine many_of _ t (three rfl rfl rfl) (three r0 r1 r2) ?_
    intro j k hjk hk g hg e
    rcases (by omega : (j = 0 ∧ k = 1) ∨ (j = 0 ∧ k = 2) ∨ (j = 1 ∧ k = 2)) with ⟨rfl, rfl⟩ | ⟨rfl, rfl⟩ | ⟨rfl, rfl⟩
    · exact a01 g hg e
    · exact a02 g hg e
    · exact a12 g hg e
  refine kapart_any b0 w.heap.size 3 b0 _ _ _ _ (by omega) (by omega) hM (three (by show n0 * 16 + 96 ≤ _; omega) (by show n1 * 16 + 96 ≤ _; omega) (by show n2 * 16 + 96 ≤ _; omega)) ?_ (by rw [size_al]; omega) (by rw [size_al]; omega)
  exact three (fun g hg => own_ge r0.own hg) (fun g hg => own_ge r1.own hg) (fun g hg => own_ge r2.own hg)
end Go.Proofs.Ytmhplaanpbpndaa
