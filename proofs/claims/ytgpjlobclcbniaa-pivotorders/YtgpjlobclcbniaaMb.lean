/-
  Structs of three cells in memory; what made and all of package matrix hand back, by what the function that they are handed says.
-/
import Derived.Test.YtgpjlobclcbniaaMa
namespace Go.Proofs.Ytgpjlobclcbniaa
open Fl RowKit

theorem other_cell {w : World} {a b : Addr} (u : Value) (h : a ≠ b) : (w.setCell a u).cell? b = w.cell? b := World.cell?_setCell_other _ _ _ _ h
/-- a struct of three cells that may be written -/
structure V3 (p : Nat) (a b c : Value) (w : World) : Prop where
  lt : p < w.heap.size
  c0 : w.cell? ⟨p, 0, none⟩ = some a
  c1 : w.cell? ⟨p, 1, none⟩ = some b
  c2 : w.cell? ⟨p, 2, none⟩ = some c
  f0 : w.frozen? ⟨p, 0, none⟩ = false
  f1 : w.frozen? ⟨p, 1, none⟩ = false
  f2 : w.frozen? ⟨p, 2, none⟩ = false
theorem V3.later {p n : Nat} {a b c : Value} {w w' : World} (h : V3 p a b c w) (hb : Below n w w') (hn : p < n) : V3 p a b c w' :=
  ⟨Nat.lt_of_lt_of_le h.lt hb.size, (hb.cell hn).trans h.c0, (hb.cell hn).trans h.c1, (hb.cell hn).trans h.c2, (hb.frozen hn).trans h.f0, (hb.frozen hn).trans h.f1, (hb.frozen hn).trans h.f2⟩
theorem V3.below {p : Nat} {a b c : Value} {w w' : World} (h : V3 p a b c w) (hb : Below w.heap.size w w') : V3 p a b c w' := h.later hb h.lt
theorem V3.drewN {p : Nat} {a b c : Value} {w : World} (h : V3 p a b c w) (n : Nat) : V3 p a b c (w.drewN n) := ⟨h.lt, h.c0, h.c1, h.c2, h.f0, h.f1, h.f2⟩
theorem v3_new (w : World) (a b c : Value) (t : TypeId) : V3 w.heap.size a b c (w.alloc (.cells #[a, b, c] t)) :=
  ⟨by simp, World.cell?_alloc_new w _ _ 0, World.cell?_alloc_new w _ _ 1, World.cell?_alloc_new w _ _ 2, by simp, by simp, by simp⟩
theorem V3.other {p : Nat} {a b c : Value} {w : World} (h : V3 p a b c w) {q : Addr} (hq : q.block ≠ p) (u : Value) : V3 p a b c (w.setCell q u) := by
  have key : ∀ j : Nat, q ≠ (⟨p, j, none⟩ : Addr) := fun j e => hq (congrArg Addr.block e)
  refine ⟨by simpa using h.lt, ?_, ?_, ?_, ?_, ?_, ?_⟩
  · rw [other_cell _ (key _)]; exact h.c0
  · rw [other_cell _ (key _)]; exact h.c1
  · rw [other_cell _ (key _)]; exact h.c2
  · simpa using h.f0
  · simpa using h.f1
  · simpa using h.f2
theorem V3.reads {p : Nat} {x y z : Value} {w : World} (h : V3 p x y z w) : (∀ a, (w.setCell ⟨p, 0, none⟩ a).cell? ⟨p, 0, none⟩ = some a) ∧ (∀ a b, ((w.setCell ⟨p, 0, none⟩ a).setCell ⟨p, 1, none⟩ b).cell? ⟨p, 1, none⟩ = some b) ∧
    (∀ a b c, (((w.setCell ⟨p, 0, none⟩ a).setCell ⟨p, 1, none⟩ b).setCell ⟨p, 2, none⟩ c).cell? ⟨p, 2, none⟩ = some c) := by
  refine ⟨fun a => World.cell?_setCell_same _ _ _ h.c0, fun a b => World.cell?_setCell_same _ _ _ (u := y) ?_, fun a b c => World.cell?_setCell_same _ _ _ (u := z) ?_⟩
  · rw [other_cell _ (by simp)]; exact h.c1
  · rw [other_cell _ (by simp), other_cell _ (by simp)]; exact h.c2
/-- three cells written -/
def set3 (w : World) (p : Nat) (a b c : Value) : World := ((w.setCell ⟨p, 0, none⟩ a).setCell ⟨p, 1, none⟩ b).setCell ⟨p, 2, none⟩ c
theorem V3.put {p : Nat} {x y z : Value} {w : World} (h : V3 p x y z w) (a b c : Value) : V3 p a b c (set3 w p a b c) := by
  obtain ⟨r0, r1, r2⟩ := h.reads
  refine ⟨by simpa [set3] using h.lt, ?_, ?_, r2 a b c, by simpa [set3] using h.f0, by simpa [set3] using h.f1, by simpa [set3] using h.f2⟩
  · unfold set3; rw [other_cell _ (by simp), other_cell _ (by simp)]; exact r0 a
  · unfold set3; rw [other_cell _ (by simp)]; exact r1 a b
theorem V3.other3 {p n : Nat} {a b c : Value} {w : World} (h : V3 p a b c w) (hn : n ≠ p) (x y z : Value) : V3 p a b c (set3 w n x y z) :=
  ((h.other (q := ⟨n, 0, none⟩) hn x).other (q := ⟨n, 1, none⟩) hn y).other (q := ⟨n, 2, none⟩) hn z
theorem below_set3 {n p : Nat} {w w' : World} (h : Below n w w') (hp : n ≤ p) (a b c : Value) : Below n w (set3 w' p a b c) :=
  ((h.setCell (p := ⟨p, 0, none⟩) hp _).setCell (p := ⟨p, 1, none⟩) hp _).setCell (p := ⟨p, 2, none⟩) hp _
theorem set3_block {w : World} {p g : Nat} {a b c : Value} (h : p ≠ g) : (set3 w p a b c).heap[g]? = w.heap[g]? := by
  unfold set3
  rw [Below.heap_setCell _ _ _ _ (Ne.symm h), Below.heap_setCell _ _ _ _ (Ne.symm h), Below.heap_setCell _ _ _ _ (Ne.symm h)]
theorem New.set3 {base n p g cap : Nat} {f : Nat → Cn} {zs : List Cw} {w : World} (h : New base f n zs (.slice (some ⟨g, 0, none⟩) n cap) w) (hp : p ≠ g) (a b c : Value) : New base f n zs (.slice (some ⟨g, 0, none⟩) n cap) (Go.Proofs.Ytgpjlobclcbniaa.set3 w p a b c) :=
  ⟨h.len, h.rep, own_at h.own (fun q hq => by cases hq; exact set3_block hp)⟩

/-- what a function value of a row and a column says, in all worlds from w on; it may lay new memory -/
def SaysE (w : World) (F : FuncId) (caps : Array Value) (R C : Nat) (f : Nat → Nat → Cn) : Prop :=
  ∀ (i j : Nat) (W : World), i < R → j < C → Below w.heap.size w W → Calls Try.prog F (#[.int .i64 i, .int .i64 j] ++ caps) W fun e W' => ∃ r : Cw, e = .returned (cx r) ∧ repz (f i j) r ∧ Below W.heap.size W W'
/-- a function of rows and columns, by places -/
def flat (C : Nat) (f : Nat → Nat → Cn) (k : Nat) : Cn := f (k / C) (k % C)
theorem flat_at {C i j : Nat} {f : Nat → Nat → Cn} (hj : j < C) : flat C f (i * C + j) = f i j := by
  unfold flat
  rw [Nat.add_comm, Nat.add_mul_div_right _ _ (by omega), Nat.div_eq_of_lt hj, Nat.add_mul_mod_self_right, Nat.mod_eq_of_lt hj, Nat.zero_add]
/-- holds it at all places below k? -/
def allB (p : Nat → Bool) : Nat → Bool
  | 0 => true
  | k + 1 => allB p k && p k
theorem allB_no {p : Nat → Bool} {k : Nat} (hf : p k = false) : ∀ n, k < n → allB p n = false := by
  intro n
  induction n with
  | zero => intro _; omega
  | succ n ih =>
    intro hk
    unfold allB
    by_cases e : k = n
    · subst e; rw [hf, Bool.and_false]
    · rw [ih (by omega), Bool.false_and]
theorem allB_at {p : Nat → Bool} {n : Nat} (h : allB p n = true) : ∀ j, j < n → p j = true := by
  intro j hj
  cases hp : p j
  · rw [allB_no hp n hj] at h; cases h
  · rfl
theorem allB_mk {p : Nat → Bool} {n : Nat} (h : ∀ j, j < n → p j = true) : allB p n = true := by
  induction n with
  | zero => rfl
  | succ n ih => unfold allB; rw [ih (fun j hj => h j (by omega)), h n (by omega)]; rfl
theorem allB_congr {p q : Nat → Bool} {n : Nat} (h : ∀ j, j < n → p j = q j) : allB p n = allB q n := by
  induction n with
  | zero => rfl
  | succ n ih => unfold allB; rw [ih (fun j hj => h j (by omega)), h n (by omega)]
def flatB (C : Nat) (p : Nat → Nat → Bool) (k : Nat) : Bool := p (k / C) (k % C)
theorem flatB_at {C i j : Nat} {p : Nat → Nat → Bool} (hj : j < C) : flatB C p (i * C + j) = p i j := by
  unfold flatB
  rw [Nat.add_comm, Nat.add_mul_div_right _ _ (by omega), Nat.div_eq_of_lt hj, Nat.add_mul_mod_self_right, Nat.mod_eq_of_lt hj, Nat.zero_add]
/-- what a function value that asks of a row and a column says, in all worlds from w on -/
def SaysB (w : World) (F : FuncId) (caps : Array Value) (R C : Nat) (p : Nat → Nat → Bool) : Prop :=
  ∀ (i j : Nat) (W : World), i < R → j < C → Below w.heap.size w W → Calls Try.prog F (#[.int .i64 i, .int .i64 j] ++ caps) W fun e W' => e = .returned (.bool (p i j)) ∧ Below W.heap.size W W'
end Go.Proofs.Ytgpjlobclcbniaa
