/-
  Several texts in one: Vt Ma Mb Mc.
-/
import Derived.Test.YtmpkcioeodlbcaaGreatDoorK32
import Derived.BigQuiet
import Derived.Deep.RegionWith
import Derived.Laws.AppendOwn
import Derived.Laws.OwnMore
import Derived.Maps.AppendAt
import Derived.Maps.Range
import Derived.Deep.AppendLies
import Derived.Deep.RegionHeldLaw
namespace Go.Proofs.YtmpkcioeodlbcaaGreatDoor
open Fl RowKit
/-- a row that is owned -/
structure Rw (w : World) (b : Nat) (v : Value) (n : Nat) (zs : List Cw) : Prop where
  len : zs.length = n
  own : w.ownsRow b 39 1 v n (zs.map cx)
theorem Rw.below {w w' : World} {b n : Nat} {v : Value} {zs : List Cw} (h : Rw w b v n zs) (hb : Below w.heap.size w w') : Rw w' b v n zs := ⟨h.len, own_below h.own hb⟩
theorem Rw.drewN {w : World} {b n : Nat} {v : Value} {zs : List Cw} (h : Rw w b v n zs) (m : Nat) : Rw (w.drewN m) b v n zs := ⟨h.len, h.own⟩
theorem Rw.only {w w' : World} {b n g : Nat} {v : Value} {zs : List Cw} (h : Rw w b v n zs) (ho : OnlyRow g w w') (hne : v.ownBlock ≠ some g) : Rw w' b v n zs := ⟨h.len, own_at h.own (fun q hq => ho.block q (fun e => hne (by rw [hq, e])))⟩
theorem Rw.lt {w : World} {b n g c : Nat} {zs : List Cw} (h : Rw w b (.slice (some ⟨g, 0, none⟩) n c) n zs) : b ≤ g ∧ g < w.heap.size := h.own.lt g rfl
theorem Rw.rc {w : World} {b n g c : Nat} {zs : List Cw} (h : Rw w b (.slice (some ⟨g, 0, none⟩) n c) n zs) : Rc w (some ⟨g, 0, none⟩) zs := by
  obtain ⟨A, C, hv, _, _, hr⟩ := own_rc h.len.symm h.own
  cases hv
  exact hr
theorem tsame_none (w : World) : Calls Tryz.prog 78 #[.slice none 0 0, .slice none 0 0] w fun e w' => ∃ m, e = .returned (.bool true) ∧ w' = w.drewN m :=
  ksameL_len none none 0 0 0 [] [] w (by simp) rfl rfl (Rc.nil _ _) (Rc.nil _ _) (fun j hj => by omega)
section two
variable {n ca cb : Nat} {ao bo : Option Addr} {F G : Nat → Cn} {xs ys : List Cw} {w : World} (h : Lst w ao n F xs) (k : Lst w bo n G ys) (hm : n ≤ 65536)
include h k hm
end two
section one
variable {n ca : Nat} {ao : Option Addr} {F : Nat → Cn} {xs : List Cw} {w : World} (h : Lst w ao n F xs) (hsz : n * 16 ≤ 140737488355328)
include h hsz
end one
section errs
variable {na nb : Nat} {E : Int} (ao bo : Option Addr) (ca cb : Nat) (w : World) (ha : na ≤ 1000000000000000) (hb : nb ≤ 1000000000000000) (he : ¬ E = 0) (hE : E = errV na nb)
include ha hb he hE
end errs
theorem rw_nil (w : World) (b : Nat) : Rw w b (.slice none 0 0) 0 [] := ⟨rfl, World.ownsRow_nil _ _ _ _⟩
theorem rw_base {w : World} {b b' n : Nat} {v : Value} {zs : List Cw} (h : Rw w b v n zs) (hb : b' ≤ b) : Rw w b' v n zs := ⟨h.len, own_base h.own hb⟩
theorem below_only {B g : Nat} {w w6 w7 : World} (h : Below B w w6) (ho : OnlyRow g w6 w7) (hg : B ≤ g) : Below B w w7 :=
  ⟨ho.os.trans h.os, ho.tape.trans h.tape, ho.output.trans h.output, by rw [ho.size]; exact h.size, fun b hb => (ho.block b (by omega)).trans (h.block b hb)⟩
theorem Lst.only {w w' : World} {g q n : Nat} {f : Nat → Cn} {zs : List Cw} (h : Lst w (some ⟨q, 0, none⟩) n f zs) (ho : OnlyRow g w w') (hne : q ≠ g) : Lst w' (some ⟨q, 0, none⟩) n f zs := by
  refine ⟨h.len, h.rep, fun k hk => ?_⟩
  obtain ⟨b, off, h1, h2, h3⟩ := h.rc k hk
  cases h1
  exact ⟨q, 0, rfl, by rw [ho.size]; exact h2, by rw [World.cell?_of_block (w := w) (ho.block q hne)]; exact h3⟩

end Go.Proofs.YtmpkcioeodlbcaaGreatDoor
namespace Go.Proofs.YtmpkcioeodlbcaaGreatDoor
open Fl RowKit
/-- may a matrix be? -/
def mb (R C : Int) (n : Nat) : Bool := decide (0 ≤ R ∧ R ≤ 64 ∧ 0 ≤ C ∧ C ≤ 64 ∧ (n : Int) = R * C)
def cnt (n : Int) : Bool := decide (0 ≤ n ∧ n ≤ 64)
theorem cnt_any (n : Int) (w : World) : Calls Tryz.prog 201 #[.int .i64 n] w fun e w' => e = .returned (.bool (cnt n)) ∧ w' = w := by
  by_cases h1 : 0 ≤ n
  · by_cases h2 : n ≤ 64
    · have e : cnt n = true := decide_eq_true ⟨h1, h2⟩
      rw [e]
      go_enter Tryz.func201, Tryz.ntmps201
      go_wp2
      go_ret
      exact ⟨rfl, rfl⟩
    · have e : cnt n = false := decide_eq_false (fun h => h2 h.2)
      rw [e]
      go_enter Tryz.func201, Tryz.ntmps201
      go_wp2
      go_ret
      exact ⟨rfl, rfl⟩
  · have e : cnt n = false := decide_eq_false (fun h => h1 h.1)
    rw [e]
    go_enter Tryz.func201, Tryz.ntmps201
    go_wp2
    go_ret
    exact ⟨rfl, rfl⟩
theorem wrap_small {z : Int} (h0 : 0 ≤ z) (h1 : z ≤ 1000000) : wrap64 z = z := by
  unfold wrap64
  omega
theorem mb_val {R C : Int} {n : Nat} (h1 : cnt R = true) (h2 : cnt C = true) : mb R C n = ((n : Int) == wrap64 (R * C)) := by
  obtain ⟨a, b⟩ := of_decide_eq_true h1
  obtain ⟨c, d⟩ := of_decide_eq_true h2
  have e0 : 0 ≤ R * C := Int.mul_nonneg a c
  have e1 : R * C ≤ 64 * 64 := Int.mul_le_mul b d c (by omega)
  rw [wrap_small e0 (by omega)]
  unfold mb
  by_cases h : (n : Int) = R * C
  · rw [decide_eq_true ⟨a, b, c, d, h⟩, h]; exact (beq_self_eq_true _).symm
  · rw [decide_eq_false (fun k => h k.2.2.2.2)]; exact (beq_false_of_ne h).symm
theorem mb_no1 {R C : Int} {n : Nat} (h1 : cnt R = false) : mb R C n = false := decide_eq_false (fun k => of_decide_eq_false h1 ⟨k.1, k.2.1⟩)
theorem mb_no2 {R C : Int} {n : Nat} (h1 : cnt C = false) : mb R C n = false := decide_eq_false (fun k => of_decide_eq_false h1 ⟨k.2.2.1, k.2.2.2.1⟩)
theorem mayBe_any (R C : Int) (A : Option Addr) (n c : Nat) (w : World) (_hn : n ≤ 1000000000000000) :
    Calls Tryz.prog 165 #[.agg #[.int .i64 R, .int .i64 C, .slice A n c]] w fun e w' => e = .returned (.bool (mb R C n)) ∧ w' = w.alloc (.cells #[.int .i64 R, .int .i64 C, .slice A n c] 120) := by
  cases h1 : cnt R <;> cases h2 : cnt C
  all_goals
    first | rw [mb_no1 h1] | rw [mb_no2 h2] | rw [mb_val h1 h2]
    go_enter Tryz.func165, Tryz.ntmps165
    go_wp2_with (go_at_call 201; refine (cnt_any _ _).mono ?_; rintro e w' ⟨rfl, rfl⟩)
    go_ret
    exact ⟨rfl, rfl⟩
/-- places: row i, column j -/
theorem place_lt {R C i j : Nat} (hi : i < R) (hj : j < C) : i * C + j < R * C := by
  have h1 : (i + 1) * C ≤ R * C := Nat.mul_le_mul_right _ (by omega)
  rw [Nat.succ_mul] at h1
  omega
theorem le_4096 {R C : Nat} (hR : R ≤ 64) (hC : C ≤ 64) : R * C ≤ 4096 := Nat.mul_le_mul hR hC
theorem wrap_mul {i C : Nat} (hi : i ≤ 1000) (hC : C ≤ 1000) : wrap64 ((i : Int) * (C : Int)) = ((i * C : Nat) : Int) := by
  have := Nat.mul_le_mul hi hC
  rw [← Int.natCast_mul]
  exact wrap_small (by omega) (by omega)
end Go.Proofs.YtmpkcioeodlbcaaGreatDoor
namespace Go.Proofs.YtmpkcioeodlbcaaGreatDoor
open Fl RowKit
theorem other_cell {w : World} {a b : Addr} (u : Value) (h : a ≠ b) : (w.setCell a u).cell? b = w.cell? b := World.cell?_setCell_other _ _ _ _ h
/-- a struct of three cells that may be written -/
structure V3 (p : Nat) (a b c : Value) (w : World) : Prop where
  lt : p < w.heap.size
  c0 : w.cell? ⟨p, 0, none⟩ = some a
  c1 : w.cell? ⟨p, 1, none⟩ = some b
  c2 : w.cell? ⟨p, 2, none⟩ = some c
  f0 : w.frozen? ⟨p, 0, none⟩ = false
  f1 : w.frozen? ⟨p, 1, none⟩ = false
  f2 : w.frozen? ⟨p, 2, none⟩ = false
theorem V3.later {p n : Nat} {a b c : Value} {w w' : World} (h : V3 p a b c w) (hb : Below n w w') (hn : p < n) : V3 p a b c w' :=
  ⟨Nat.lt_of_lt_of_le h.lt hb.size, (hb.cell hn).trans h.c0, (hb.cell hn).trans h.c1, (hb.cell hn).trans h.c2, (hb.frozen hn).trans h.f0, (hb.frozen hn).trans h.f1, (hb.frozen hn).trans h.f2⟩
theorem V3.below {p : Nat} {a b c : Value} {w w' : World} (h : V3 p a b c w) (hb : Below w.heap.size w w') : V3 p a b c w' := h.later hb h.lt
theorem V3.drewN {p : Nat} {a b c : Value} {w : World} (h : V3 p a b c w) (n : Nat) : V3 p a b c (w.drewN n) := ⟨h.lt, h.c0, h.c1, h.c2, h.f0, h.f1, h.f2⟩
theorem v3_new (w : World) (a b c : Value) (t : TypeId) : V3 w.heap.size a b c (w.alloc (.cells #[a, b, c] t)) :=
  ⟨by simp, World.cell?_alloc_new w _ _ 0, World.cell?_alloc_new w _ _ 1, World.cell?_alloc_new w _ _ 2, by simp, by simp, by simp⟩
theorem V3.other {p : Nat} {a b c : Value} {w : World} (h : V3 p a b c w) {q : Addr} (hq : q.block ≠ p) (u : Value) : V3 p a b c (w.setCell q u) := by
  have key : ∀ j : Nat, q ≠ (⟨p, j, none⟩ : Addr) := fun j e => hq (congrArg Addr.block e)
  refine ⟨by simpa using h.lt, ?_, ?_, ?_, ?_, ?_, ?_⟩
  · rw [other_cell _ (key _)]; exact h.c0
  · rw [other_cell _ (key _)]; exact h.c1
  · rw [other_cell _ (key _)]; exact h.c2
  · simpa using h.f0
  · simpa using h.f1
  · simpa using h.f2
theorem V3.reads {p : Nat} {x y z : Value} {w : World} (h : V3 p x y z w) : (∀ a, (w.setCell ⟨p, 0, none⟩ a).cell? ⟨p, 0, none⟩ = some a) ∧ (∀ a b, ((w.setCell ⟨p, 0, none⟩ a).setCell ⟨p, 1, none⟩ b).cell? ⟨p, 1, none⟩ = some b) ∧
    (∀ a b c, (((w.setCell ⟨p, 0, none⟩ a).setCell ⟨p, 1, none⟩ b).setCell ⟨p, 2, none⟩ c).cell? ⟨p, 2, none⟩ = some c) := by
  refine ⟨fun a => World.cell?_setCell_same _ _ _ h.c0, fun a b => World.cell?_setCell_same _ _ _ (u := y) ?_, fun a b c => World.cell?_setCell_same _ _ _ (u := z) ?_⟩
  · rw [other_cell _ (by simp)]; exact h.c1
  · rw [other_cell _ (by simp), other_cell _ (by simp)]; exact h.c2
/-- three cells written -/
def set3 (w : World) (p : Nat) (a b c : Value) : World := ((w.setCell ⟨p, 0, none⟩ a).setCell ⟨p, 1, none⟩ b).setCell ⟨p, 2, none⟩ c
theorem V3.put {p : Nat} {x y z : Value} {w : World} (h : V3 p x y z w) (a b c : Value) : V3 p a b c (set3 w p a b c) := by
  obtain ⟨r0, r1, r2⟩ := h.reads
  refine ⟨by simpa [set3] using h.lt, ?_, ?_, r2 a b c, by simpa [set3] using h.f0, by simpa [set3] using h.f1, by simpa [set3] using h.f2⟩
  · unfold set3; rw [other_cell _ (by simp), other_cell _ (by simp)]; exact r0 a
  · unfold set3; rw [other_cell _ (by simp)]; exact r1 a b
theorem below_set3 {n p : Nat} {w w' : World} (h : Below n w w') (hp : n ≤ p) (a b c : Value) : Below n w (set3 w' p a b c) :=
  ((h.setCell (p := ⟨p, 0, none⟩) hp _).setCell (p := ⟨p, 1, none⟩) hp _).setCell (p := ⟨p, 2, none⟩) hp _
theorem set3_block {w : World} {p g : Nat} {a b c : Value} (h : p ≠ g) : (set3 w p a b c).heap[g]? = w.heap[g]? := by
  unfold set3
  rw [Below.heap_setCell _ _ _ _ (Ne.symm h), Below.heap_setCell _ _ _ _ (Ne.symm h), Below.heap_setCell _ _ _ _ (Ne.symm h)]
/-- holds it at all places below k? -/
def allB (p : Nat → Bool) : Nat → Bool
  | 0 => true
  | k + 1 => allB p k && p k
end Go.Proofs.YtmpkcioeodlbcaaGreatDoor
namespace Go.Proofs.YtmpkcioeodlbcaaGreatDoor
open Fl RowKit
/-- a matrix that may be, and is read -/
structure Mx (w : World) (R C : Nat) (A : Option Addr) (c : Nat) (F : Nat → Cn) (xs : List Cw) : Prop where
  len : xs.length = R * C
  hR : R ≤ 64
  hC : C ≤ 64
  rep : repl F (R * C) xs
  sl : Sl w A c xs
theorem Mx.below {w w' : World} {R C c : Nat} {A : Option Addr} {F : Nat → Cn} {xs : List Cw} (h : Mx w R C A c F xs) (hb : Below w.heap.size w w') : Mx w' R C A c F xs := ⟨h.len, h.hR, h.hC, h.rep, h.sl.below hb⟩
theorem Mx.drewN {w : World} {R C c : Nat} {A : Option Addr} {F : Nat → Cn} {xs : List Cw} (h : Mx w R C A c F xs) (n : Nat) : Mx (w.drewN n) R C A c F xs := ⟨h.len, h.hR, h.hC, h.rep, h.sl.drewN n⟩
theorem Mx.okl {w : World} {R C c : Nat} {A : Option Addr} {F : Nat → Cn} {xs : List Cw} (h : Mx w R C A c F xs) : okl xs := by
  have h1 := h.len
  have h2 := h.rep
  rw [← h1] at h2
  exact h2.okl
theorem Mx.at {w : World} {R C c i j : Nat} {A : Option Addr} {F : Nat → Cn} {xs : List Cw} (h : Mx w R C A c F xs) (hi : i < R) (hj : j < C) : repz (F (i * C + j)) (zat xs (i * C + j)) := h.rep _ (place_lt hi hj)
theorem bal (w : World) (o : Obj) : Below w.heap.size w (w.alloc o) := (Below.refl _ _).alloc (Nat.le_refl _) o
section one
variable {w : World} {R C c B : Nat} {A : Option Addr} {F : Nat → Cn} {xs : List Cw} (h : Mx w R C A c F xs) (hV : V3 B (.int .i64 R) (.int .i64 C) (.slice A (R * C) c) w)
include h hV
end one
theorem undrew {w w' : World} (h : Below w.drew.heap.size w.drew w') : Below w.heap.size w w' := ((below_self w).drew).trans h
section one2
variable {w : World} {R C c B : Nat} {A : Option Addr} {F : Nat → Cn} {xs : List Cw} (h : Mx w R C A c F xs) (hV : V3 B (.int .i64 R) (.int .i64 C) (.slice A (R * C) c) w)
include h hV
end one2
section two
variable {w : World} {R C c B R' C' c' B' : Nat} {A A' : Option Addr} {F G : Nat → Cn} {xs ys : List Cw} (h : Mx w R C A c F xs) (hV : V3 B (.int .i64 R) (.int .i64 C) (.slice A (R * C) c) w) (h' : Mx w R' C' A' c' G ys) (hV' : V3 B' (.int .i64 R') (.int .i64 C') (.slice A' (R' * C') c') w)
include h hV h' hV'
end two
end Go.Proofs.YtmpkcioeodlbcaaGreatDoor
