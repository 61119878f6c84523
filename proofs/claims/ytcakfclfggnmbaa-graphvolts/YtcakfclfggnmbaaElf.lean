/-
  Elements: Check.
-/
import Derived.Test.YtcakfclfggnmbaaEle
namespace Go.Proofs.Ytcakfclfggnmbaa
open Fl RowKit
set_option linter.unusedVariables false

/-- an element -/
structure Elm where
  k : Nat
  n : ByteArray
  a : ByteArray
  b : ByteArray
  c : ByteArray
  d : ByteArray
  v : Nat
  ph : Int
def elV (x : Elm) : Value := .agg #[.int .u8 (x.k : Int), .string x.n, .string x.a, .string x.b, .string x.c, .string x.d, .float .f64 x.v, .int .i64 x.ph]
structure Elm.ok (x : Elm) : Prop where
  k : x.k < 256
  n : x.n.size ≤ 140737488351232
  a : x.a.size ≤ 140737488351232
  b : x.b.size ≤ 140737488351232
  c : x.c.size ≤ 140737488351232
  d : x.d.size ≤ 140737488351232
  v : x.v < 18446744073709551616
/-- the element's cells, its nature's cells -/
def elA (x : Elm) : Array Value := #[.int .u8 (x.k : Int), .string x.n, .string x.a, .string x.b, .string x.c, .string x.d, .float .f64 x.v, .int .i64 x.ph]
def ntA (k : Nat) : Array Value := #[.int .u8 (ltr k : Nat), .string (unS k), .bool (abv k), .bool (phs k), .bool (fou k)]
/-- an element that lies in memory -/
structure EC (w W : World) (p : Nat) (x : Elm) : Prop where
  bel : Below w.heap.size w W
  e : W.heap[p]? = some (.cells (elA x) 56 (0, 0))
theorem EC.lt {w W : World} {p : Nat} {x : Elm} (h : EC w W p x) : p < W.heap.size := (Array.getElem?_eq_some_iff.1 h.e).1
theorem EC.below {w W W' : World} {p : Nat} {x : Elm} (h : EC w W p x) (hb : Below W.heap.size W W') : EC w W' p x :=
  ⟨h.bel.trans (hb.mono h.bel.size), by rw [hb.block p h.lt]; exact h.e⟩
theorem EC.al {w W : World} {p : Nat} {x : Elm} (h : EC w W p x) (o : Obj) : EC w (W.alloc o) p x := h.below ((Below.refl _ _).alloc (Nat.le_refl _) o)
theorem EC.f {w W : World} {p : Nat} {x : Elm} (h : EC w W p x) : p < W.heap.size ∧ W.cell? ⟨p, 0, none⟩ = some (.int .u8 (x.k : Int)) ∧ W.cell? ⟨p, 1, none⟩ = some (.string x.n) ∧ W.cell? ⟨p, 2, none⟩ = some (.string x.a) ∧ W.cell? ⟨p, 3, none⟩ = some (.string x.b) ∧ W.cell? ⟨p, 4, none⟩ = some (.string x.c) ∧ W.cell? ⟨p, 5, none⟩ = some (.string x.d) ∧ W.cell? ⟨p, 6, none⟩ = some (.float .f64 x.v) ∧ W.cell? ⟨p, 7, none⟩ = some (.int .i64 x.ph) := by
  refine ⟨h.lt, ?_, ?_, ?_, ?_, ?_, ?_, ?_, ?_⟩ <;> rw [cell_of_row W p _ _ _ (0, 0) h.e] <;> rfl
theorem ec_new (w : World) (x : Elm) : EC w (w.alloc (.cells (elA x) 56)) w.heap.size x :=
  ⟨(Below.refl _ _).alloc (Nat.le_refl _) _, heap_alloc_new w _⟩
/-- a nature that lies in memory -/
structure NC (W : World) (q : Nat) (k : Nat) : Prop where
  n : W.heap[q]? = some (.cells (ntA k) 113 (0, 0))
theorem NC.lt {W : World} {p k : Nat} (h : NC W p k) : p < W.heap.size := (Array.getElem?_eq_some_iff.1 h.n).1
theorem NC.below {W W' : World} {p k : Nat} (h : NC W p k) (hb : Below W.heap.size W W') : NC W' p k := ⟨by rw [hb.block p h.lt]; exact h.n⟩
theorem NC.f {W : World} {p k : Nat} (h : NC W p k) : p < W.heap.size ∧ W.cell? ⟨p, 0, none⟩ = some (.int .u8 (ltr k : Nat)) ∧ W.cell? ⟨p, 1, none⟩ = some (.string (unS k)) ∧ W.cell? ⟨p, 2, none⟩ = some (.bool (abv k)) ∧ W.cell? ⟨p, 3, none⟩ = some (.bool (phs k)) ∧ W.cell? ⟨p, 4, none⟩ = some (.bool (fou k)) := by
  refine ⟨h.lt, ?_, ?_, ?_, ?_, ?_⟩ <;> rw [cell_of_row W p _ _ _ (0, 0) h.n] <;> rfl
theorem nc_new (W : World) (k : Nat) : NC (W.alloc (.cells (ntA k) 113)) W.heap.size k := ⟨heap_alloc_new W _⟩
/-- has it nothing where its kind uses nothing? -/
def spF (x : Elm) : Bool := (fou x.k || (x.c.toList.isEmpty && x.d.toList.isEmpty)) && (phs x.k || x.ph == 0)
set_option maxRecDepth 100000 in
set_option maxHeartbeats 2000000 in
theorem spare_any (x : Elm) (w : World) (h : x.ok) :
    Calls Try.prog 68 #[elV x, natV x.k] w fun e w' => e = .returned (.bool (spF x)) ∧ Below w.heap.size w w' := by
  unfold elV natV
  have HB : Hid (∀ o1 o2, Below w.heap.size w ((w.alloc o1).alloc o2)) := fun o1 o2 => ((Below.refl _ _).alloc (Nat.le_refl _) _).alloc (by simp) _
  go_enter Try.func68, Try.ntmps68
  go_wp2_with fail
  all_goals go_ret
  all_goals refine ⟨retb ?_, HB.out _ _⟩
  all_goals simp_all [spF]
/-- has it a name of its kind, and nodes? -/
def naF (x : Elm) : Bool := (nmK x.n != 0) && (nmK x.n == x.k) && ndF x.a && ndF x.b && (!fou x.k || (ndF x.c && ndF x.d))
set_option maxRecDepth 100000 in
set_option maxHeartbeats 2000000 in
theorem named_any (x : Elm) (w : World) (h : x.ok) :
    Calls Try.prog 67 #[elV x, natV x.k] w fun e w' => e = .returned (.bool (naF x)) ∧ Below w.heap.size w w' := by
  unfold elV natV
  have E0 : Hid (EC w ((w.alloc (.cells (elA x) 56)).alloc (.cells (ntA x.k) 113)) w.heap.size x) := (ec_new w x).al _
  have N0 : Hid (NC ((w.alloc (.cells (elA x) 56)).alloc (.cells (ntA x.k) 113)) (w.heap.size + 1) x.k) := by have := nc_new (w.alloc (.cells (elA x) 56)) x.k; rwa [al_size] at this
  go_enter Try.func67, Try.ntmps67
  go_wp2_with (first
    | (go_at_call 80; (with_reducible refine (name_any x.n _ h.n).mono ?_); rintro e w1 ⟨rfl, hb⟩; (have E1 : Hid _ := E0.out.below hb); (have N1 : Hid _ := N0.out.below hb); (obtain ⟨l1, c10, c11, c12, c13, c14, c15, c16, c17⟩ := E1.out.f); (obtain ⟨m1, n10, n11, n12, n13, n14⟩ := N1.out.f); clear hb E0 N0)
    | (go_at_call 81; (with_reducible refine (node_any x.a _ h.a).mono ?_); rintro e w2 ⟨rfl, hb⟩; (have E2 : Hid _ := E1.out.below hb); (have N2 : Hid _ := N1.out.below hb); (obtain ⟨l2, c20, c21, c22, c23, c24, c25, c26, c27⟩ := E2.out.f); (obtain ⟨m2, n20, n21, n22, n23, n24⟩ := N2.out.f); clear hb E1 N1 c10 c11 c12 c13 c14 c15 c16 c17 n10 n11 n12 n13 n14)
    | (go_at_call 81; (with_reducible refine (node_any x.b _ h.b).mono ?_); rintro e w3 ⟨rfl, hb⟩; (have E3 : Hid _ := E2.out.below hb); (have N3 : Hid _ := N2.out.below hb); (obtain ⟨l3, c30, c31, c32, c33, c34, c35, c36, c37⟩ := E3.out.f); (obtain ⟨m3, n30, n31, n32, n33, n34⟩ := N3.out.f); clear hb E2 N2 c20 c21 c22 c23 c24 c25 c26 c27 n20 n21 n22 n23 n24)
    | (go_at_call 81; (with_reducible refine (node_any x.c _ h.c).mono ?_); rintro e w4 ⟨rfl, hb⟩; (have E4 : Hid _ := E3.out.below hb); (obtain ⟨l4, c40, c41, c42, c43, c44, c45, c46, c47⟩ := E4.out.f); clear hb E3 N3 c30 c31 c32 c33 c34 c35 c36 c37 n30 n31 n32 n33 n34)
    | (go_at_call 81; (with_reducible refine (node_any x.d _ h.d).mono ?_); rintro e w5 ⟨rfl, hb⟩; (have E5 : Hid _ := E4.out.below hb); clear hb E4 c40 c41 c42 c43 c44 c45 c46 c47))
  all_goals go_ret
  all_goals refine ⟨retb ?_, ?_⟩
  all_goals first | exact E1.out.bel | exact E2.out.bel | exact E3.out.bel | exact E4.out.bel | exact E5.out.bel | (simp_all [naF]; done) | (simp_all [naF]; omega) | (simp_all [naF]; intro _; omega)
end Go.Proofs.Ytcakfclfggnmbaa
