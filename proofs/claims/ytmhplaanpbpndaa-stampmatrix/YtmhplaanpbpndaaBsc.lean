/-
  Several texts in one: Ma Mb Mc Md Me Mf Mg Mh Ml Vfr Mw Mva Mp.
-/
import Derived.Test.YtmhplaanpbpndaaBsb
import Derived.Deep.RegionHeldLaw
import Derived.Deep.SlicePairs
import Derived.OpenShut
import Derived.SizedLaws
namespace Go.Proofs.Ytmhplaanpbpndaa
open Fl RowKit

/-- may a matrix be? -/
def mb (R C : Int) (n : Nat) : Bool := decide (0 ≤ R ∧ R ≤ 64 ∧ 0 ≤ C ∧ C ≤ 64 ∧ (n : Int) = R * C)
def cnt (n : Int) : Bool := decide (0 ≤ n ∧ n ≤ 64)
theorem wrap_small {z : Int} (h0 : 0 ≤ z) (h1 : z ≤ 1000000) : wrap64 z = z := by
  unfold wrap64
  omega
theorem mb_val {R C : Int} {n : Nat} (h1 : cnt R = true) (h2 : cnt C = true) : mb R C n = ((n : Int) == wrap64 (R * C)) := by
  obtain ⟨a, b⟩ := of_decide_eq_true h1
  obtain ⟨c, d⟩ := of_decide_eq_true h2
  have e0 : 0 ≤ R * C := Int.mul_nonneg a c
  have e1 : R * C ≤ 64 * 64 := Int.mul_le_mul b d c (by omega)
  rw [wrap_small e0 (by omega)]
  unfold mb
  by_cases h : (n : Int) = R * C
  · rw [decide_eq_true ⟨a, b, c, d, h⟩, h]; exact (beq_self_eq_true _).symm
  · rw [decide_eq_false (fun k => h k.2.2.2.2)]; exact (beq_false_of_ne h).symm
theorem mb_no1 {R C : Int} {n : Nat} (h1 : cnt R = false) : mb R C n = false := decide_eq_false (fun k => of_decide_eq_false h1 ⟨k.1, k.2.1⟩)
theorem mb_no2 {R C : Int} {n : Nat} (h1 : cnt C = false) : mb R C n = false := decide_eq_false (fun k => of_decide_eq_false h1 ⟨k.2.2.1, k.2.2.2.1⟩)
/-- places: row i, column j -/
theorem place_lt {R C i j : Nat} (hi : i < R) (hj : j < C) : i * C + j < R * C := by
  have h1 : (i + 1) * C ≤ R * C := Nat.mul_le_mul_right _ (by omega)
  rw [Nat.succ_mul] at h1
  omega
theorem le_4096 {R C : Nat} (hR : R ≤ 64) (hC : C ≤ 64) : R * C ≤ 4096 := Nat.mul_le_mul hR hC
theorem wrap_mul {i C : Nat} (hi : i ≤ 1000) (hC : C ≤ 1000) : wrap64 ((i : Int) * (C : Int)) = ((i * C : Nat) : Int) := by
  have := Nat.mul_le_mul hi hC
  rw [← Int.natCast_mul]
  exact wrap_small (by omega) (by omega)
/-- row i of a list of rows of C -/
def rowL (C : Nat) (xs : List Cw) (i : Nat) : List Cw := (xs.drop (i * C)).take C
theorem rowL_len {R C i : Nat} {xs : List Cw} (hn : xs.length = R * C) (hi : i < R) : (rowL C xs i).length = C := by
  have h1 : (i + 1) * C ≤ R * C := Nat.mul_le_mul_right _ (by omega)
  rw [Nat.succ_mul] at h1
  simp [rowL]; omega
theorem rowL_at {C i j : Nat} {xs : List Cw} (hj : j < C) : zat (rowL C xs i) j = zat xs (i * C + j) := by
  simp [rowL, zat, List.getD_eq_getElem?_getD, hj, List.getElem?_drop]
theorem rowL_ok {C i : Nat} {xs : List Cw} (h : okl xs) : okl (rowL C xs i) := by
  intro j
  rcases Nat.lt_or_ge j C with hj | hj
  · rw [rowL_at hj]; exact h _
  · rw [zat_ge (by simp [rowL]; omega)]; exact ⟨by decide, by decide⟩
end Go.Proofs.Ytmhplaanpbpndaa

namespace Go.Proofs.Ytmhplaanpbpndaa
open Fl RowKit

theorem other_cell {w : World} {a b : Addr} (u : Value) (h : a ≠ b) : (w.setCell a u).cell? b = w.cell? b := World.cell?_setCell_other _ _ _ _ h
/-- a struct of three cells that may be written -/
structure V3 (p : Nat) (a b c : Value) (w : World) : Prop where
  lt : p < w.heap.size
  c0 : w.cell? ⟨p, 0, none⟩ = some a
  c1 : w.cell? ⟨p, 1, none⟩ = some b
  c2 : w.cell? ⟨p, 2, none⟩ = some c
  f0 : w.frozen? ⟨p, 0, none⟩ = false
  f1 : w.frozen? ⟨p, 1, none⟩ = false
  f2 : w.frozen? ⟨p, 2, none⟩ = false
theorem V3.later {p n : Nat} {a b c : Value} {w w' : World} (h : V3 p a b c w) (hb : Below n w w') (hn : p < n) : V3 p a b c w' :=
  ⟨Nat.lt_of_lt_of_le h.lt hb.size, (hb.cell hn).trans h.c0, (hb.cell hn).trans h.c1, (hb.cell hn).trans h.c2, (hb.frozen hn).trans h.f0, (hb.frozen hn).trans h.f1, (hb.frozen hn).trans h.f2⟩
theorem V3.below {p : Nat} {a b c : Value} {w w' : World} (h : V3 p a b c w) (hb : Below w.heap.size w w') : V3 p a b c w' := h.later hb h.lt
theorem V3.drewN {p : Nat} {a b c : Value} {w : World} (h : V3 p a b c w) (n : Nat) : V3 p a b c (w.drewN n) := ⟨h.lt, h.c0, h.c1, h.c2, h.f0, h.f1, h.f2⟩
theorem v3_new (w : World) (a b c : Value) (t : TypeId) : V3 w.heap.size a b c (w.alloc (.cells #[a, b, c] t)) :=
  ⟨by simp, World.cell?_alloc_new w _ _ 0, World.cell?_alloc_new w _ _ 1, World.cell?_alloc_new w _ _ 2, by simp, by simp, by simp⟩
theorem V3.other {p : Nat} {a b c : Value} {w : World} (h : V3 p a b c w) {q : Addr} (hq : q.block ≠ p) (u : Value) : V3 p a b c (w.setCell q u) := by
  have key : ∀ j : Nat, q ≠ (⟨p, j, none⟩ : Addr) := fun j e => hq (congrArg Addr.block e)
  refine ⟨by simpa using h.lt, ?_, ?_, ?_, ?_, ?_, ?_⟩
  · rw [other_cell _ (key _)]; exact h.c0
  · rw [other_cell _ (key _)]; exact h.c1
  · rw [other_cell _ (key _)]; exact h.c2
  · simpa using h.f0
  · simpa using h.f1
  · simpa using h.f2
theorem V3.reads {p : Nat} {x y z : Value} {w : World} (h : V3 p x y z w) : (∀ a, (w.setCell ⟨p, 0, none⟩ a).cell? ⟨p, 0, none⟩ = some a) ∧ (∀ a b, ((w.setCell ⟨p, 0, none⟩ a).setCell ⟨p, 1, none⟩ b).cell? ⟨p, 1, none⟩ = some b) ∧
    (∀ a b c, (((w.setCell ⟨p, 0, none⟩ a).setCell ⟨p, 1, none⟩ b).setCell ⟨p, 2, none⟩ c).cell? ⟨p, 2, none⟩ = some c) := by
  refine ⟨fun a => World.cell?_setCell_same _ _ _ h.c0, fun a b => World.cell?_setCell_same _ _ _ (u := y) ?_, fun a b c => World.cell?_setCell_same _ _ _ (u := z) ?_⟩
  · rw [other_cell _ (by simp)]; exact h.c1
  · rw [other_cell _ (by simp), other_cell _ (by simp)]; exact h.c2
/-- three cells written -/
def set3 (w : World) (p : Nat) (a b c : Value) : World := ((w.setCell ⟨p, 0, none⟩ a).setCell ⟨p, 1, none⟩ b).setCell ⟨p, 2, none⟩ c
theorem V3.put {p : Nat} {x y z : Value} {w : World} (h : V3 p x y z w) (a b c : Value) : V3 p a b c (set3 w p a b c) := by
  obtain ⟨r0, r1, r2⟩ := h.reads
  refine ⟨by simpa [set3] using h.lt, ?_, ?_, r2 a b c, by simpa [set3] using h.f0, by simpa [set3] using h.f1, by simpa [set3] using h.f2⟩
  · unfold set3; rw [other_cell _ (by simp), other_cell _ (by simp)]; exact r0 a
  · unfold set3; rw [other_cell _ (by simp)]; exact r1 a b
theorem V3.other3 {p n : Nat} {a b c : Value} {w : World} (h : V3 p a b c w) (hn : n ≠ p) (x y z : Value) : V3 p a b c (set3 w n x y z) :=
  ((h.other (q := ⟨n, 0, none⟩) hn x).other (q := ⟨n, 1, none⟩) hn y).other (q := ⟨n, 2, none⟩) hn z
theorem below_set3 {n p : Nat} {w w' : World} (h : Below n w w') (hp : n ≤ p) (a b c : Value) : Below n w (set3 w' p a b c) :=
  ((h.setCell (p := ⟨p, 0, none⟩) hp _).setCell (p := ⟨p, 1, none⟩) hp _).setCell (p := ⟨p, 2, none⟩) hp _
theorem set3_block {w : World} {p g : Nat} {a b c : Value} (h : p ≠ g) : (set3 w p a b c).heap[g]? = w.heap[g]? := by
  unfold set3
  rw [Below.heap_setCell _ _ _ _ (Ne.symm h), Below.heap_setCell _ _ _ _ (Ne.symm h), Below.heap_setCell _ _ _ _ (Ne.symm h)]
theorem New.set3 {base n p g cap : Nat} {f : Nat → Cn} {zs : List Cw} {w : World} (h : New base f n zs (.slice (some ⟨g, 0, none⟩) n cap) w) (hp : p ≠ g) (a b c : Value) : New base f n zs (.slice (some ⟨g, 0, none⟩) n cap) (Go.Proofs.Ytmhplaanpbpndaa.set3 w p a b c) :=
  ⟨h.len, h.rep, own_at h.own (fun q hq => by cases hq; exact set3_block hp)⟩

/-- what a function value of a row and a column says, in all worlds from w on; it may lay new memory -/
def SaysE (w : World) (F : FuncId) (caps : Array Value) (R C : Nat) (f : Nat → Nat → Cn) : Prop :=
  ∀ (i j : Nat) (W : World), i < R → j < C → Below w.heap.size w W → Calls Try.prog F (#[.int .i64 i, .int .i64 j] ++ caps) W fun e W' => ∃ r : Cw, e = .returned (cx r) ∧ repz (f i j) r ∧ Below W.heap.size W W'
/-- a function of rows and columns, by places -/
def flat (C : Nat) (f : Nat → Nat → Cn) (k : Nat) : Cn := f (k / C) (k % C)
theorem flat_at {C i j : Nat} {f : Nat → Nat → Cn} (hj : j < C) : flat C f (i * C + j) = f i j := by
  unfold flat
  rw [Nat.add_comm, Nat.add_mul_div_right _ _ (by omega), Nat.div_eq_of_lt hj, Nat.add_mul_mod_self_right, Nat.mod_eq_of_lt hj, Nat.zero_add]
/-- holds it at all places below k? -/
def allB (p : Nat → Bool) : Nat → Bool
  | 0 => true
  | k + 1 => allB p k && p k
theorem allB_no {p : Nat → Bool} {k : Nat} (hf : p k = false) : ∀ n, k < n → allB p n = false := by
  intro n
  induction n with
  | zero => intro _; omega
  | succ n ih =>
    intro hk
    unfold allB
    by_cases e : k = n
    · subst e; rw [hf, Bool.and_false]
    · rw [ih (by omega), Bool.false_and]
theorem allB_at {p : Nat → Bool} {n : Nat} (h : allB p n = true) : ∀ j, j < n → p j = true := by
  intro j hj
  cases hp : p j
  · rw [allB_no hp n hj] at h; cases h
  · rfl
theorem allB_mk {p : Nat → Bool} {n : Nat} (h : ∀ j, j < n → p j = true) : allB p n = true := by
  induction n with
  | zero => rfl
  | succ n ih => unfold allB; rw [ih (fun j hj => h j (by omega)), h n (by omega)]; rfl
theorem allB_congr {p q : Nat → Bool} {n : Nat} (h : ∀ j, j < n → p j = q j) : allB p n = allB q n := by
  induction n with
  | zero => rfl
  | succ n ih => unfold allB; rw [ih (fun j hj => h j (by omega)), h n (by omega)]
def flatB (C : Nat) (p : Nat → Nat → Bool) (k : Nat) : Bool := p (k / C) (k % C)
theorem flatB_at {C i j : Nat} {p : Nat → Nat → Bool} (hj : j < C) : flatB C p (i * C + j) = p i j := by
  unfold flatB
  rw [Nat.add_comm, Nat.add_mul_div_right _ _ (by omega), Nat.div_eq_of_lt hj, Nat.add_mul_mod_self_right, Nat.mod_eq_of_lt hj, Nat.zero_add]
/-- what a function value that asks of a row and a column says, in all worlds from w on -/
def SaysB (w : World) (F : FuncId) (caps : Array Value) (R C : Nat) (p : Nat → Nat → Bool) : Prop :=
  ∀ (i j : Nat) (W : World), i < R → j < C → Below w.heap.size w W → Calls Try.prog F (#[.int .i64 i, .int .i64 j] ++ caps) W fun e W' => e = .returned (.bool (p i j)) ∧ Below W.heap.size W W'
end Go.Proofs.Ytmhplaanpbpndaa

namespace Go.Proofs.Ytmhplaanpbpndaa
open Fl RowKit

/-- a matrix that may be, and is read -/
structure Mx (w : World) (R C : Nat) (A : Option Addr) (c : Nat) (F : Nat → Cn) (xs : List Cw) : Prop where
  len : xs.length = R * C
  hR : R ≤ 64
  hC : C ≤ 64
  rep : repl F (R * C) xs
  sl : Sl w A c xs
theorem Mx.below {w w' : World} {R C c : Nat} {A : Option Addr} {F : Nat → Cn} {xs : List Cw} (h : Mx w R C A c F xs) (hb : Below w.heap.size w w') : Mx w' R C A c F xs := ⟨h.len, h.hR, h.hC, h.rep, h.sl.below hb⟩
theorem Mx.drewN {w : World} {R C c : Nat} {A : Option Addr} {F : Nat → Cn} {xs : List Cw} (h : Mx w R C A c F xs) (n : Nat) : Mx (w.drewN n) R C A c F xs := ⟨h.len, h.hR, h.hC, h.rep, h.sl.drewN n⟩
theorem Mx.okl {w : World} {R C c : Nat} {A : Option Addr} {F : Nat → Cn} {xs : List Cw} (h : Mx w R C A c F xs) : okl xs := by
  have h1 := h.len
  have h2 := h.rep
  rw [← h1] at h2
  exact h2.okl
theorem Mx.lst {w : World} {R C c : Nat} {A : Option Addr} {F : Nat → Cn} {xs : List Cw} (h : Mx w R C A c F xs) : Lst w A (R * C) F xs := ⟨h.len, h.rep, h.sl.rd⟩
theorem Mx.at {w : World} {R C c i j : Nat} {A : Option Addr} {F : Nat → Cn} {xs : List Cw} (h : Mx w R C A c F xs) (hi : i < R) (hj : j < C) : repz (F (i * C + j)) (zat xs (i * C + j)) := h.rep _ (place_lt hi hj)
theorem bal (w : World) (o : Obj) : Below w.heap.size w (w.alloc o) := (Below.refl _ _).alloc (Nat.le_refl _) o
abbrev ptr (B : Nat) : Value := .pointer (some ⟨B, 0, none⟩)
section one
variable {w : World} {R C c B : Nat} {A : Option Addr} {F : Nat → Cn} {xs : List Cw} (h : Mx w R C A c F xs) (hV : V3 B (.int .i64 R) (.int .i64 C) (.slice A (R * C) c) w)
include h hV
/-- rows i and j changed -/
def swp2 (i j r : Nat) : Nat := if r = i then j else if r = j then i else r
end one
def idE (i j : Nat) : Cn := if i = j then (some 4607182418800017408, some 0) else (some 0, some 0)
/-- are two numbers the same, equal? -/
def sameW (x y : Cw) : Bool := smB x.1 y.1 && smB x.2 y.2
def equalW (x y : Cw) : Bool := eqB x.1 y.1 && eqB x.2 y.2
theorem b_of {n : Nat} {w w' w'' : World} (h : Below n w w') (k : Below w'.heap.size w' w'') (hn : n ≤ w'.heap.size) : Below n w w'' := h.trans (k.mono hn)

theorem undrew {w w' : World} (h : Below w.drew.heap.size w.drew w') : Below w.heap.size w w' := ((below_self w).drew).trans h
section one2
variable {w : World} {R C c B : Nat} {A : Option Addr} {F : Nat → Cn} {xs : List Cw} (h : Mx w R C A c F xs) (hV : V3 B (.int .i64 R) (.int .i64 C) (.slice A (R * C) c) w)
include h hV
end one2
section two
variable {w : World} {R C c B R' C' c' B' : Nat} {A A' : Option Addr} {F G : Nat → Cn} {xs ys : List Cw} (h : Mx w R C A c F xs) (hV : V3 B (.int .i64 R) (.int .i64 C) (.slice A (R * C) c) w) (h' : Mx w R' C' A' c' G ys) (hV' : V3 B' (.int .i64 R') (.int .i64 C') (.slice A' (R' * C') c') w)
include h hV h' hV'
end two

end Go.Proofs.Ytmhplaanpbpndaa

namespace Go.Proofs.Ytmhplaanpbpndaa
open Fl RowKit

section two
variable {w : World} {R C c B R' C' c' B' : Nat} {A A' : Option Addr} {F G : Nat → Cn} {xs ys : List Cw} (h : Mx w R C A c F xs) (hV : V3 B (.int .i64 R) (.int .i64 C) (.slice A (R * C) c) w) (h' : Mx w R' C' A' c' G ys) (hV' : V3 B' (.int .i64 R') (.int .i64 C') (.slice A' (R' * C') c') w)
include h hV h' hV'
end two

end Go.Proofs.Ytmhplaanpbpndaa

namespace Go.Proofs.Ytmhplaanpbpndaa
open Fl RowKit

@[go_sem] theorem run_fieldM (a b : Int) (o : Option Addr) (l c : Nat) (w : World) : Sem.run Try.prog (Instr.field 39 (.agg #[.int .i64 a, .int .i64 b, .slice o l c]) 2) w = .ok (.slice o l c) w := by kernel_rfl
theorem v3_at (w : World) {p : Nat} (a b c : Value) (t : TypeId) (hp : w.heap.size = p) : V3 p a b c (w.alloc (.cells #[a, b, c] t)) := by subst hp; exact v3_new w a b c t
theorem mb_of {R C : Nat} {n : Nat} (hR : R ≤ 64) (hC : C ≤ 64) (hn : n = R * C) : mb (R : Int) (C : Int) n = true := decide_eq_true ⟨by omega, by omega, by omega, by omega, by rw [hn, Int.natCast_mul]⟩
theorem Mx.mb {w : World} {R C c : Nat} {A : Option Addr} {F : Nat → Cn} {xs : List Cw} (h : Mx w R C A c F xs) : mb (R : Int) (C : Int) (R * C) = true := mb_of h.hR h.hC rfl
theorem New.base {base base' n : Nat} {f : Nat → Cn} {zs : List Cw} {v : Value} {w : World} (h : New base f n zs v w) (hb : base' ≤ base) : New base' f n zs v w := ⟨h.len, h.rep, own_base h.own hb⟩
theorem New.ge {base n g c : Nat} {f : Nat → Cn} {zs : List Cw} {w : World} (h : New base f n zs (.slice (some ⟨g, 0, none⟩) n c) w) : base ≤ g := own_ge h.own rfl
theorem New.congr {base n : Nat} {f g : Nat → Cn} {zs : List Cw} {v : Value} {w : World} (h : New base f n zs v w) (e : ∀ j, j < n → f j = g j) : New base g n zs v w := ⟨h.len, repl_congr h.rep e, h.own⟩
theorem small {n : Nat} (h : n ≤ 4096) : n ≤ 1000000000000000 := by omega
theorem cell_al {w : World} {q : Addr} {v : Value} {o : Obj} (h : w.cell? q = some v) (hq : q.block < w.heap.size) : (w.alloc o).cell? q = some v := by rw [← h]; exact (bal w o).cell hq
section one
variable {w : World} {R C c : Nat} {A : Option Addr} {F : Nat → Cn} {xs : List Cw} (h : Mx w R C A c F xs)
include h
end one

end Go.Proofs.Ytmhplaanpbpndaa

namespace Go.Proofs.Ytmhplaanpbpndaa
open Fl RowKit

/-- may both be, and have as many rows and columns? -/
def prB (R C : Int) (n : Nat) (R' C' : Int) (n' : Nat) : Bool := mb R C n && mb R' C' n' && decide (R = R') && decide (C = C')
theorem flat_flat {C : Nat} {f : Nat → Cn} (k : Nat) : flat C (fun i j => f (i * C + j)) k = f k := by
  show f (k / C * C + k % C) = f k
  rw [Nat.mul_comm, Nat.div_add_mod]
theorem flatB_flat {C : Nat} {p : Nat → Bool} (k : Nat) : flatB C (fun i j => p (i * C + j)) k = p k := by
  show p (k / C * C + k % C) = p k
  rw [Nat.mul_comm, Nat.div_add_mod]
section two
variable {w : World} {R C c c' : Nat} {A A' : Option Addr} {F G : Nat → Cn} {xs ys : List Cw} (h : Mx w R C A c F xs) (h' : Mx w R C A' c' G ys)
include h h'
omit h' in
theorem pr_yes : prB R C (R * C) R C (R * C) = true := by unfold prB; rw [h.mb]; simp
end two

end Go.Proofs.Ytmhplaanpbpndaa

namespace Go.Proofs.Ytmhplaanpbpndaa
open Fl RowKit

theorem new_mx {base R C g c : Nat} {f : Nat → Cn} {zs : List Cw} {w : World} (h : New base f (R * C) zs (.slice (some ⟨g, 0, none⟩) (R * C) c) w) (hR : R ≤ 64) (hC : C ≤ 64) : Mx w R C (some ⟨g, 0, none⟩) c f zs := by
  have h1 := h.len
  have h2 := h.own
  rw [← h1] at h2
  obtain ⟨ao, cap, hv, hs⟩ := own_sl h2
  cases hv
  exact ⟨h1, hR, hC, h.rep, hs⟩
section none
variable {R C : Int} {A : Option Addr} {n c : Nat} {w : World} (hn : n ≤ 1000000000000000) (hm : mb R C n = false)
include hn hm
end none
section arg
variable {R C : Int} {A : Option Addr} {n c : Nat} {w : World} (hn : n ≤ 1000000000000000) (hm : mb R C n = true)
include hn hm
end arg
end Go.Proofs.Ytmhplaanpbpndaa

namespace Go.Proofs.Ytmhplaanpbpndaa
open Fl RowKit

section pairs
variable {R C R' C' : Int} {A A' : Option Addr} {n c n' c' : Nat} {w : World} (hn : n ≤ 1000000000000000) (hn' : n' ≤ 1000000000000000)
include hn hn'
/-- may a product be? -/
def muB (R C : Int) (n : Nat) (R' C' : Int) (n' : Nat) : Bool := mb R C n && mb R' C' n' && decide (C = R')
end pairs
section two
variable {w : World} {R C c c' : Nat} {A A' : Option Addr} {F G : Nat → Cn} {xs ys : List Cw} (h : Mx w R C A c F xs) (h' : Mx w R C A' c' G ys)
include h h'
end two
end Go.Proofs.Ytmhplaanpbpndaa

namespace Go.Proofs.Ytmhplaanpbpndaa
open Fl RowKit

/-- sizes summed -/
def nrF (f : Nat → Cn) : Nat → Option Nat
  | 0 => some 0
  | k + 1 => addA (nrF f k) (sizZ (f k))
theorem nrm_nrF {xs : List Cw} {f : Nat → Cn} {n : Nat} (h : repl f n xs) : ∀ k, k ≤ n → nrm xs k = nrF f k := by
  intro k
  induction k with
  | zero => intro _; rfl
  | succ k ih =>
    intro hk
    show addA (nrm xs k) (sizZ (anz (zat xs k))) = addA (nrF f k) (sizZ (f k))
    rw [ih (by omega), h.anz (by omega : k < n)]
theorem nrF_bd (f : Nat → Cn) (k : Nat) : bdA (nrF f k) := by
  cases k with
  | zero => intro r hr; cases hr; exact ⟨by decide, by decide⟩
  | succ k => exact bd_addA _ _
theorem nrF_congr {f g : Nat → Cn} {n : Nat} (h : ∀ j, j < n → f j = g j) : nrF f n = nrF g n := by
  induction n with
  | zero => rfl
  | succ n ih =>
    show addA (nrF f n) (sizZ (f n)) = addA (nrF g n) (sizZ (g n))
    rw [ih (fun j hj => h j (by omega)), h n (by omega)]
/-- the greatest of some answers, +0 ahead of them -/
def mxF (t : Nat → Option Nat) : Nat → Nat
  | 0 => 0
  | k + 1 => if ordA (t k) (some (mxF t k)) == some .gt then (t k).getD 0 else mxF t k
theorem mxF_ok {t : Nat → Option Nat} (ht : ∀ k, bdA (t k)) (k : Nat) : mxF t k < 18446744073709551616 ∧ nan (mxF t k) = false := by
  induction k with
  | zero => exact ⟨Nat.zero_lt_succ _, show nan 0 = false from by decide⟩
  | succ k ih =>
    unfold mxF
    split
    · cases h : t k with
      | none => exact ⟨by decide, by decide⟩
      | some r => exact ht k r h
    · exact ih
theorem mxF_step (t : Nat → Option Nat) (k : Nat) (hs : rep (some (mxF t k)) (mxF t k)) (r : Nat) (hr : rep (t k) r) : mxF t (k + 1) = if FloatKind.f64.format.order r (mxF t k) == some .gt then r else mxF t k := by
  rw [ordA_of hr hs]
  show (if ordA (t k) (some (mxF t k)) == some .gt then (t k).getD 0 else mxF t k) = _
  cases h : (ordA (t k) (some (mxF t k)) == some .gt)
  · rfl
  · simp only [if_true]
    cases h2 : t k with
    | none => rw [h2] at h; cases h
    | some c => rw [rep_is hr h2]; rfl
/-- the sums of the columns' sizes -/
def colT (F : Nat → Cn) (R C j : Nat) : Option Nat := nrF (fun i => F (i * C + j)) R
end Go.Proofs.Ytmhplaanpbpndaa

namespace Go.Proofs.Ytmhplaanpbpndaa
open Fl RowKit Go.ChangeShapes Go.WideShapes Go.Deep

end Go.Proofs.Ytmhplaanpbpndaa

namespace Go.Proofs.Ytmhplaanpbpndaa
open Fl RowKit

theorem rw_src {w : World} {b n c : Nat} {A : Option Addr} {xs : List Cw} (h : Rw w b (.slice A n c) n xs) (hx : okl xs) : Src w A c n xs := by
  have h1 := h.len
  have h2 := h.own
  rw [← h1] at h2
  obtain ⟨ao, cap, hv, hs⟩ := own_sl h2
  cases hv
  exact ⟨h1, hx, hs⟩
theorem Rw.set3 {w : World} {b n p : Nat} {v : Value} {zs : List Cw} (h : Rw w b v n zs) (hp : p < b) (x y z : Value) : Rw (Go.Proofs.Ytmhplaanpbpndaa.set3 w p x y z) b v n zs :=
  ⟨h.len, own_at h.own (fun q hq => set3_block (by have := (h.own.lt q hq).1; omega))⟩
theorem ksameM {n ca cb : Nat} {ao bo : Option Addr} {F : Nat → Cn} {xs ys : List Cw} {w : World} (R C : Int) (h : Lst w ao n F xs) (k : Lst w bo n F ys) (hsz : n * 16 ≤ 140737488355328) :
    Calls Try.prog 11 #[.agg #[.int .i64 R, .int .i64 C, .slice ao n ca], .agg #[.int .i64 R, .int .i64 C, .slice bo n cb]] w fun e w' => e = .returned (.bool true) ∧ Below w.heap.size w w' := by
  have hb2 : ∀ o p, Below w.heap.size w ((w.alloc o).alloc p) := fun o p => ba (bal _ _) _
  go_enter Try.func11, Try.ntmps11
  go_wp2_with (go_at_call 33; (refine (tsame (h.below (hb2 _ _)) (k.below (hb2 _ _)) hsz).mono ?_); (rintro e w1 ⟨m, rfl, hw1⟩); subst w1)
  go_ret
  exact ⟨rfl, below_drewN (hb2 _ _) _⟩

end Go.Proofs.Ytmhplaanpbpndaa

namespace Go.Proofs.Ytmhplaanpbpndaa
open Fl RowKit

theorem rc4 {w : World} {B : Nat} {a b c d : Cw} (h0 : w.cell? ⟨B, 0, none⟩ = some (.complex .f64 a.1 a.2)) (h1 : w.cell? ⟨B, 1, none⟩ = some (.complex .f64 b.1 b.2)) (h2 : w.cell? ⟨B, 2, none⟩ = some (.complex .f64 c.1 c.2)) (h3 : w.cell? ⟨B, 3, none⟩ = some (.complex .f64 d.1 d.2)) (hB : B < w.heap.size) : Rc w (some ⟨B, 0, none⟩) [a, b, c, d] := by
  intro k hk
  refine ⟨B, 0, rfl, hB, ?_⟩
  match k, hk with
  | 0, _ => exact h0
  | 1, _ => exact h1
  | 2, _ => exact h2
  | 3, _ => exact h3
theorem al_rc4 (W : World) (a b c d : Cw) (t : TypeId) (B : Nat) (hB : W.heap.size = B) : Rc (W.alloc (.cells #[.complex .f64 a.1 a.2, .complex .f64 b.1 b.2, .complex .f64 c.1 c.2, .complex .f64 d.1 d.2] t)) (some ⟨B, 0, none⟩) [a, b, c, d] :=
  rc4 (al_at W _ t B 0 hB) (al_at W _ t B 1 hB) (al_at W _ t B 2 hB) (al_at W _ t B 3 hB) (by rw [size_al]; omega)
theorem mx_closed {W : World} {R C B c : Nat} {xs : List Cw} (hl : xs.length = R * C) (hR : R ≤ 64) (hC : C ≤ 64) (hc : R * C ≤ c) (hx : okl xs) (hr : Rc W (some ⟨B, 0, none⟩) xs) : Mx W R C (some ⟨B, 0, none⟩) c (fun k => anz (zat xs k)) xs :=
  ⟨hl, hR, hC, fun j _ => repz_anz (hx j), ⟨hr, .inr ⟨B, 0, rfl⟩, by omega⟩⟩
def xI : Cw := (0, 4607182418800017408)
def x1 : Cw := (4607182418800017408, 0)
def x2 : Cw := (4611686018427387904, 0)
def x3 : Cw := (4613937818241073152, 0)
def x4 : Cw := (4616189618054758400, 0)
def x0 : Cw := (0, 0)
def x34 : Cw := (4613937818241073152, 4616189618054758400)
def xm1 : Cw := (13830554455654793216, 0)
theorem ok4 {a b c d : Cw} (h1 : okz a) (h2 : okz b) (h3 : okz c) (h4 : okz d) : okl [a, b, c, d] := okl_cons h1 (okl_cons h2 (okl_cons h3 (okl_cons h4 okl_nil)))
theorem ok2 {a b : Cw} (h1 : okz a) (h2 : okz b) : okl [a, b] := okl_cons h1 (okl_cons h2 okl_nil)
theorem okA : okl [x1, xI, x0, x2] := ok4 (by unfold okz x1; decide) (by unfold okz xI; decide) (by unfold okz x0; decide) (by unfold okz x2; decide)
theorem okB : okl [x1, xI] := ok2 (by unfold okz x1; decide) (by unfold okz xI; decide)
theorem okC : okl [x1, x2, x3, x4] := ok4 (by unfold okz x1; decide) (by unfold okz x2; decide) (by unfold okz x3; decide) (by unfold okz x4; decide)
theorem okD : okl [x34, x1, xm1, x2] := ok4 (by unfold okz x34; decide) (by unfold okz x1; decide) (by unfold okz xm1; decide) (by unfold okz x2; decide)
end Go.Proofs.Ytmhplaanpbpndaa

namespace Go.Proofs.Ytmhplaanpbpndaa
open Fl RowKit

theorem V3.drew {p : Nat} {a b c : Value} {w : World} (h : V3 p a b c w) : V3 p a b c w.drew := h.drewN 1
theorem V3.putR {p : Nat} {x y z : Value} {w : World} (h : V3 p x y z w) (a b c : Value) : V3 p a b c (((w.setCell ⟨p, 0, none⟩ a).setCell ⟨p, 1, none⟩ b).setCell ⟨p, 2, none⟩ c) := h.put a b c
theorem V3.otherR {p n : Nat} {a b c : Value} {w : World} (h : V3 p a b c w) (hn : n ≠ p) (x y z : Value) : V3 p a b c (((w.setCell ⟨n, 0, none⟩ x).setCell ⟨n, 1, none⟩ y).setCell ⟨n, 2, none⟩ z) := h.other3 hn x y z
theorem cell_dr {w : World} {q : Addr} {v : Value} (h : w.cell? q = some v) : w.drew.cell? q = some v := h
theorem cell_ks {w : World} {q : Addr} {v u : Value} {g k : Nat} (h : w.cell? q = some v) (hq : q.block ≠ g) : (w.setCell ⟨g, k, none⟩ u).cell? q = some v := by
  rw [other_cell _ (fun e => hq (congrArg Addr.block e.symm))]; exact h
theorem cell_kb {w : World} {b o g k : Nat} {v u : Value} (h : w.cell? ⟨b, o, none⟩ = some v) (hq : b ≠ g) : (w.setCell ⟨g, k, none⟩ u).cell? ⟨b, o, none⟩ = some v := cell_ks h hq
theorem cell_ab {w : World} {b o : Nat} {v : Value} {x : Obj} (h : w.cell? ⟨b, o, none⟩ = some v) (hq : b < w.heap.size) : (w.alloc x).cell? ⟨b, o, none⟩ = some v := cell_al h hq
theorem lt_al {w : World} {k : Nat} {o : Obj} (h : k < w.heap.size) : k < (w.alloc o).heap.size := by rw [size_al]; omega
theorem lt_dr {w : World} {k : Nat} (h : k < w.heap.size) : k < w.drew.heap.size := h
theorem lt_sc {w : World} {k : Nat} {q : Addr} {v : Value} (h : k < w.heap.size) : k < (w.setCell q v).heap.size := by simpa using h
theorem le_al {w : World} {k : Nat} {o : Obj} (h : k ≤ w.heap.size) : k ≤ (w.alloc o).heap.size := by rw [size_al]; omega
theorem le_dr {w : World} {k : Nat} (h : k ≤ w.heap.size) : k ≤ w.drew.heap.size := h
/-- a row that is owned, between two blocks -/
structure Rx (lo hi : Nat) (w : World) (v : Value) (n : Nat) (zs : List Cw) : Prop where
  rw : Rw w lo v n zs
  lt : ∀ g, v.ownBlock = some g → g < hi
theorem Rw.rx {w : World} {b n : Nat} {v : Value} {zs : List Cw} (h : Rw w b v n zs) : Rx b w.heap.size w v n zs := ⟨h, fun g hg => (h.own.lt g hg).2⟩
theorem Rx.below {lo hi n : Nat} {w w' : World} {v : Value} {zs : List Cw} (h : Rx lo hi w v n zs) (hb : Below w.heap.size w w') : Rx lo hi w' v n zs := ⟨h.rw.below hb, h.lt⟩
theorem Rx.drew {lo hi n : Nat} {w : World} {v : Value} {zs : List Cw} (h : Rx lo hi w v n zs) : Rx lo hi w.drew v n zs := ⟨h.rw.drewN 1, h.lt⟩
theorem Rx.lo {lo lo' hi n : Nat} {w : World} {v : Value} {zs : List Cw} (h : Rx lo hi w v n zs) (hl : lo' ≤ lo) : Rx lo' hi w v n zs := ⟨rw_base h.rw hl, h.lt⟩
theorem Rx.setR {lo hi n p : Nat} {w : World} {v : Value} {zs : List Cw} (h : Rx lo hi w v n zs) (hp : p < lo ∨ hi ≤ p) (x y z : Value) : Rx lo hi (((w.setCell ⟨p, 0, none⟩ x).setCell ⟨p, 1, none⟩ y).setCell ⟨p, 2, none⟩ z) v n zs := by
  refine ⟨⟨h.rw.len, own_at h.rw.own (fun q hq => ?_)⟩, h.lt⟩
  have h1 := (h.rw.own.lt q hq).1
  have h2 := h.lt q hq
  exact set3_block (w := w) (by omega)
theorem below_setR {n p : Nat} {w w' : World} (h : Below n w w') (hp : n ≤ p) (a b c : Value) : Below n w (((w'.setCell ⟨p, 0, none⟩ a).setCell ⟨p, 1, none⟩ b).setCell ⟨p, 2, none⟩ c) := below_set3 h hp a b c
theorem size_dr (w : World) : w.drew.heap.size = w.heap.size := rfl
theorem size_ald (w : World) (o : Obj) : (w.alloc o).drew.heap.size = w.heap.size + 1 := size_al w o
theorem size_dal (w : World) (o : Obj) : (w.drew.alloc o).heap.size = w.heap.size + 1 := size_al w.drew o
theorem size_dald (w : World) (o : Obj) : (w.drew.alloc o).drew.heap.size = w.heap.size + 1 := size_al w.drew o
theorem size_s3 (w : World) (p : Nat) (a b c : Value) : (((w.setCell ⟨p, 0, none⟩ a).setCell ⟨p, 1, none⟩ b).setCell ⟨p, 2, none⟩ c).heap.size = w.heap.size := by simp
theorem size_s3al (w : World) (p : Nat) (a b c : Value) (o : Obj) : ((((w.setCell ⟨p, 0, none⟩ a).setCell ⟨p, 1, none⟩ b).setCell ⟨p, 2, none⟩ c).alloc o).heap.size = w.heap.size + 1 := by rw [size_al, size_s3]
theorem v3_both {p : Nat} {a b c : Value} {W w' : World} (h : V3 p a b c W) (hb : Below W.heap.size W w') : V3 p a b c w' ∧ p < W.heap.size := ⟨h.below hb, h.lt⟩
theorem lo_of {B : Nat} {W w' : World} (_hb : Below W.heap.size W w') (h : B ≤ W.heap.size) : B ≤ W.heap.size := h
theorem size_sc (w : World) (q : Addr) (v : Value) : (w.setCell q v).heap.size = w.heap.size := by simp

end Go.Proofs.Ytmhplaanpbpndaa
