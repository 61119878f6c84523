/-
  Several texts in one: Elf Elg Elh Eli Npc.
-/
import Derived.Test.YtmpkcioeodlbcaaGreatDoorK18
import Derived.Deep.QuietTactic
import Derived.Deep.RegionHeldLaw
import Derived.Test.YtmpkcioeodlbcaaGreatDoorK06
import Derived.Test.YtmpkcioeodlbcaaGreatDoorK17
import Derived.Deep.MidRow
namespace Go.Proofs.YtmpkcioeodlbcaaGreatDoor
open Fl RowKit
set_option linter.unusedVariables false
/-- an element -/
structure Elm where
  k : Nat
  n : ByteArray
  a : ByteArray
  b : ByteArray
  c : ByteArray
  d : ByteArray
  v : Nat
  ph : Int
def elV (x : Elm) : Value := .agg #[.int .u8 (x.k : Int), .string x.n, .string x.a, .string x.b, .string x.c, .string x.d, .float .f64 x.v, .int .i64 x.ph]
structure Elm.ok (x : Elm) : Prop where
  k : x.k < 256
  n : x.n.size ≤ 140737488351232
  a : x.a.size ≤ 140737488351232
  b : x.b.size ≤ 140737488351232
  c : x.c.size ≤ 140737488351232
  d : x.d.size ≤ 140737488351232
  v : x.v < 18446744073709551616
/-- the element's cells, its nature's cells -/
def elA (x : Elm) : Array Value := #[.int .u8 (x.k : Int), .string x.n, .string x.a, .string x.b, .string x.c, .string x.d, .float .f64 x.v, .int .i64 x.ph]
def ntA (k : Nat) : Array Value := #[.int .u8 (ltr k : Nat), .string (unS k), .bool (abv k), .bool (phs k), .bool (fou k)]
/-- an element that lies in memory -/
structure EC (w W : World) (p : Nat) (x : Elm) : Prop where
  bel : Below w.heap.size w W
  e : W.heap[p]? = some (.cells (elA x) 96 (0, 0))
theorem EC.lt {w W : World} {p : Nat} {x : Elm} (h : EC w W p x) : p < W.heap.size := (Array.getElem?_eq_some_iff.1 h.e).1
theorem EC.below {w W W' : World} {p : Nat} {x : Elm} (h : EC w W p x) (hb : Below W.heap.size W W') : EC w W' p x :=
  ⟨h.bel.trans (hb.mono h.bel.size), by rw [hb.block p h.lt]; exact h.e⟩
theorem EC.al {w W : World} {p : Nat} {x : Elm} (h : EC w W p x) (o : Obj) : EC w (W.alloc o) p x := h.below ((Below.refl _ _).alloc (Nat.le_refl _) o)
theorem EC.f {w W : World} {p : Nat} {x : Elm} (h : EC w W p x) : p < W.heap.size ∧ W.cell? ⟨p, 0, none⟩ = some (.int .u8 (x.k : Int)) ∧ W.cell? ⟨p, 1, none⟩ = some (.string x.n) ∧ W.cell? ⟨p, 2, none⟩ = some (.string x.a) ∧ W.cell? ⟨p, 3, none⟩ = some (.string x.b) ∧ W.cell? ⟨p, 4, none⟩ = some (.string x.c) ∧ W.cell? ⟨p, 5, none⟩ = some (.string x.d) ∧ W.cell? ⟨p, 6, none⟩ = some (.float .f64 x.v) ∧ W.cell? ⟨p, 7, none⟩ = some (.int .i64 x.ph) := by
  refine ⟨h.lt, ?_, ?_, ?_, ?_, ?_, ?_, ?_, ?_⟩ <;> rw [cell_of_row W p _ _ _ (0, 0) h.e] <;> rfl
theorem ec_new (w : World) (x : Elm) : EC w (w.alloc (.cells (elA x) 96)) w.heap.size x :=
  ⟨(Below.refl _ _).alloc (Nat.le_refl _) _, heap_alloc_new w _⟩
/-- a nature that lies in memory -/
structure NC (W : World) (q : Nat) (k : Nat) : Prop where
  n : W.heap[q]? = some (.cells (ntA k) 166 (0, 0))
theorem NC.lt {W : World} {p k : Nat} (h : NC W p k) : p < W.heap.size := (Array.getElem?_eq_some_iff.1 h.n).1
theorem NC.below {W W' : World} {p k : Nat} (h : NC W p k) (hb : Below W.heap.size W W') : NC W' p k := ⟨by rw [hb.block p h.lt]; exact h.n⟩
theorem NC.f {W : World} {p k : Nat} (h : NC W p k) : p < W.heap.size ∧ W.cell? ⟨p, 0, none⟩ = some (.int .u8 (ltr k : Nat)) ∧ W.cell? ⟨p, 1, none⟩ = some (.string (unS k)) ∧ W.cell? ⟨p, 2, none⟩ = some (.bool (abv k)) ∧ W.cell? ⟨p, 3, none⟩ = some (.bool (phs k)) ∧ W.cell? ⟨p, 4, none⟩ = some (.bool (fou k)) := by
  refine ⟨h.lt, ?_, ?_, ?_, ?_, ?_⟩ <;> rw [cell_of_row W p _ _ _ (0, 0) h.n] <;> rfl
theorem nc_new (W : World) (k : Nat) : NC (W.alloc (.cells (ntA k) 166)) W.heap.size k := ⟨heap_alloc_new W _⟩
/-- has it nothing where its kind uses nothing? -/
def spF (x : Elm) : Bool := (fou x.k || (x.c.toList.isEmpty && x.d.toList.isEmpty)) && (phs x.k || x.ph == 0)
set_option maxRecDepth 100000 in
set_option maxHeartbeats 2000000 in
theorem spare_any (x : Elm) (w : World) (h : x.ok) :
    Calls Tryz.prog 110 #[elV x, natV x.k] w fun e w' => e = .returned (.bool (spF x)) ∧ Below w.heap.size w w' := by
  unfold elV natV
  have HB : Hid (∀ o1 o2, Below w.heap.size w ((w.alloc o1).alloc o2)) := fun o1 o2 => ((Below.refl _ _).alloc (Nat.le_refl _) _).alloc (by simp) _
  go_enter Tryz.func110, Tryz.ntmps110
  go_wp2_with fail
  all_goals go_ret
  all_goals refine ⟨retb ?_, HB.out _ _⟩
  all_goals simp_all [spF]
/-- has it a name of its kind, and nodes? -/
def naF (x : Elm) : Bool := (nmK x.n != 0) && (nmK x.n == x.k) && ndF x.a && ndF x.b && (!fou x.k || (ndF x.c && ndF x.d))
set_option maxRecDepth 100000 in
set_option maxHeartbeats 2000000 in
theorem named_any (x : Elm) (w : World) (h : x.ok) :
    Calls Tryz.prog 109 #[elV x, natV x.k] w fun e w' => e = .returned (.bool (naF x)) ∧ Below w.heap.size w w' := by
  unfold elV natV
  have E0 : Hid (EC w ((w.alloc (.cells (elA x) 96)).alloc (.cells (ntA x.k) 166)) w.heap.size x) := (ec_new w x).al _
  have N0 : Hid (NC ((w.alloc (.cells (elA x) 96)).alloc (.cells (ntA x.k) 166)) (w.heap.size + 1) x.k) := by have := nc_new (w.alloc (.cells (elA x) 96)) x.k; rwa [al_size] at this
  go_enter Tryz.func109, Tryz.ntmps109
  go_wp2_with (first
    | (go_at_call 155; (with_reducible refine (name_any x.n _ h.n).mono ?_); rintro e w1 ⟨rfl, hb⟩; (have E1 : Hid _ := E0.out.below hb); (have N1 : Hid _ := N0.out.below hb); (obtain ⟨l1, c10, c11, c12, c13, c14, c15, c16, c17⟩ := E1.out.f); (obtain ⟨m1, n10, n11, n12, n13, n14⟩ := N1.out.f); clear hb E0 N0)
    | (go_at_call 156; (with_reducible refine (node_any x.a _ h.a).mono ?_); rintro e w2 ⟨rfl, hb⟩; (have E2 : Hid _ := E1.out.below hb); (have N2 : Hid _ := N1.out.below hb); (obtain ⟨l2, c20, c21, c22, c23, c24, c25, c26, c27⟩ := E2.out.f); (obtain ⟨m2, n20, n21, n22, n23, n24⟩ := N2.out.f); clear hb E1 N1 c10 c11 c12 c13 c14 c15 c16 c17 n10 n11 n12 n13 n14)
    | (go_at_call 156; (with_reducible refine (node_any x.b _ h.b).mono ?_); rintro e w3 ⟨rfl, hb⟩; (have E3 : Hid _ := E2.out.below hb); (have N3 : Hid _ := N2.out.below hb); (obtain ⟨l3, c30, c31, c32, c33, c34, c35, c36, c37⟩ := E3.out.f); (obtain ⟨m3, n30, n31, n32, n33, n34⟩ := N3.out.f); clear hb E2 N2 c20 c21 c22 c23 c24 c25 c26 c27 n20 n21 n22 n23 n24)
    | (go_at_call 156; (with_reducible refine (node_any x.c _ h.c).mono ?_); rintro e w4 ⟨rfl, hb⟩; (have E4 : Hid _ := E3.out.below hb); (obtain ⟨l4, c40, c41, c42, c43, c44, c45, c46, c47⟩ := E4.out.f); clear hb E3 N3 c30 c31 c32 c33 c34 c35 c36 c37 n30 n31 n32 n33 n34)
    | (go_at_call 156; (with_reducible refine (node_any x.d _ h.d).mono ?_); rintro e w5 ⟨rfl, hb⟩; (have E5 : Hid _ := E4.out.below hb); clear hb E4 c40 c41 c42 c43 c44 c45 c46 c47))
  all_goals go_ret
  all_goals refine ⟨retb ?_, ?_⟩
  all_goals first | exact E1.out.bel | exact E2.out.bel | exact E3.out.bel | exact E4.out.bel | exact E5.out.bel | (simp_all [naF]; done) | (simp_all [naF]; omega) | (simp_all [naF]; intro _; omega)
end Go.Proofs.YtmpkcioeodlbcaaGreatDoor
namespace Go.Proofs.YtmpkcioeodlbcaaGreatDoor
open Fl RowKit
set_option linter.unusedVariables false
/-- is a real above nought? -/
def posV (v : Nat) : Bool := decide (0 < plc v)
/-- what is wrong with an element -/
def chkI (x : Elm) : Int := if ltr x.k = 0 then 2 else if naF x = false then 8 else if (x.a.toList == x.b.toList) = true ∨ spF x = false then 2 else if 2 < kdB x.v then 5 else if abv x.k = true ∧ posV x.v = false then 2 else 0
theorem kd_fin {v : Nat} (h : ¬ 2 < kdB v) : nan v = false := by
  cases hn : nan v
  · rfl
  · rw [kd_4 hn] at h; omega
theorem leq_zero {v : Nat} (h : nan v = false) : (FloatKind.f64.format.order v 0 == some .lt || FloatKind.f64.format.order v 0 == some .eq) = !posV v := by
  rw [order_lt h nan_zero, order_eqb h nan_zero, plc_zero]
  unfold posV
  rw [Bool.eq_iff_iff]; simp; omega
theorem leq_iff {v : Nat} (h : nan v = false) : posV v = false ↔ FloatKind.f64.format.order v 0 = some .lt ∨ FloatKind.f64.format.order v 0 = some .eq := by
  have := leq_zero h
  cases hp : posV v
  · rw [hp] at this; simpa using this
  · rw [hp] at this; simpa using this
theorem named_w (x : Elm) (w : World) (h : x.ok) :
    Calls Tryz.prog 109 #[.agg #[.int .u8 (x.k : Int), .string x.n, .string x.a, .string x.b, .string x.c, .string x.d, .float .f64 x.v, .int .i64 x.ph], .agg #[.int .u8 (ltr x.k : Nat), .string (unS x.k), .bool (abv x.k), .bool (phs x.k), .bool (fou x.k)]] w fun e w' => e = .returned (.bool (naF x)) ∧ Below w.heap.size w w' := named_any x w h
theorem spare_w (x : Elm) (w : World) (h : x.ok) :
    Calls Tryz.prog 110 #[.agg #[.int .u8 (x.k : Int), .string x.n, .string x.a, .string x.b, .string x.c, .string x.d, .float .f64 x.v, .int .i64 x.ph], .agg #[.int .u8 (ltr x.k : Nat), .string (unS x.k), .bool (abv x.k), .bool (phs x.k), .bool (fou x.k)]] w fun e w' => e = .returned (.bool (spF x)) ∧ Below w.heap.size w w' := spare_any x w h
set_option maxRecDepth 100000 in
set_option maxHeartbeats 2000000 in
theorem check_any (x : Elm) (w : World) (h : x.ok) :
    Calls Tryz.prog 81 #[elV x] w fun e w' => e = .returned (.int .i64 (chkI x)) ∧ Below w.heap.size w w' := by
  have E0 : Hid (EC w (w.alloc (.cells (elA x) 96)) w.heap.size x) := ec_new w x
  by_cases hl : ltr x.k = 0
  · have hk0 : x.k = 0 ∨ 8 < x.k := by
      rcases (show x.k = 1 ∨ x.k = 2 ∨ x.k = 3 ∨ x.k = 4 ∨ x.k = 5 ∨ x.k = 6 ∨ x.k = 7 ∨ x.k = 8 ∨ (x.k = 0 ∨ 8 < x.k) from by omega) with q | q | q | q | q | q | q | q | q
      all_goals first | exact q | (rw [q] at hl; exact absurd hl (by decide))
    obtain ⟨e1, e2, e3, e4, e5⟩ := nat_none hk0
    have hn : natV x.k = .agg #[.int .u8 0, .string ⟨#[]⟩, .bool false, .bool false, .bool false] := by unfold natV; rw [e1, e2, e3, e4, e5]; rfl
    have hc : chkI x = 2 := by unfold chkI; rw [if_pos hl]
    rw [hc]
    have HN : Hid _ := hn
    clear e1 e2 e3 e4 e5 hk0 hn hc hl
    unfold elV
    go_enter Tryz.func81, Tryz.ntmps81
    go_wp2_with (first
      | (go_at_call 108; (with_reducible refine (nature_any x.k _).mono ?_); rintro e w1 ⟨rfl, hb⟩; (have E1 : Hid _ := E0.out.below hb); (rw [HN.out]); clear hb E0))
    go_ret
    exact ⟨rfl, (E1.out.al _).bel⟩
  · have hl2 : (((ltr x.k : Nat) : Int) == 0) = false := by rw [beq_eq_false_iff_ne]; omega
    have HL : Hid (¬ ltr x.k = 0) := hl
    clear hl
    have hkd : ∀ W, Calls Tryz.prog 111 #[.float .f64 x.v] W fun e w' => e = .returned (.int .i64 (kdB x.v)) ∧ w' = W := fun W => kind_any x.v W h.v
    have HK : Hid (∀ W, Calls Tryz.prog 111 #[.float .f64 x.v] W fun e w' => e = .returned (.int .i64 (kdB x.v)) ∧ w' = W) := hkd
    clear hkd
    have hz : ¬ 2 < kdB x.v → (posV x.v = false ↔ FloatKind.f64.format.order x.v 0 = some .lt ∨ FloatKind.f64.format.order x.v 0 = some .eq) := fun q => leq_iff (kd_fin q)
    have HZ : Hid _ := hz
    clear hz
    unfold elV
    go_enter Tryz.func81, Tryz.ntmps81
    go_wp2_with (first
      | (go_at_call 108; (with_reducible refine (nature_any x.k _).mono ?_); rintro e w1 ⟨rfl, hb⟩; (have E1 : Hid _ := (E0.out.below hb).al (.cells (ntA x.k) 166)); (have N1 : Hid _ := nc_new w1 x.k); (obtain ⟨l1, c10, c11, c12, c13, c14, c15, c16, c17⟩ := (E0.out.below hb).f); unfold natV; clear hb E0)
      | (go_at_call 109; (with_reducible refine (named_w x _ h).mono ?_); rintro e w2 ⟨rfl, hb⟩; (have E2 : Hid _ := E1.out.below hb); (have N2 : Hid _ := N1.out.below hb); (obtain ⟨l2, c20, c21, c22, c23, c24, c25, c26, c27⟩ := E2.out.f); (obtain ⟨m2, n20, n21, n22, n23, n24⟩ := N2.out.f); clear hb E1 N1 c10 c11 c12 c13 c14 c15 c16 c17)
      | (go_at_call 110; (with_reducible refine (spare_w x _ h).mono ?_); rintro e w3 ⟨rfl, hb⟩; (have E3 : Hid _ := E2.out.below hb); (have N3 : Hid _ := N2.out.below hb); (obtain ⟨l3, c30, c31, c32, c33, c34, c35, c36, c37⟩ := E3.out.f); (obtain ⟨m3, n30, n31, n32, n33, n34⟩ := N3.out.f); clear hb E2 N2 c20 c21 c22 c23 c24 c25 c26 c27 n20 n21 n22 n23 n24)
      | (go_at_call 111; (with_reducible refine (HK.out _).mono ?_); rintro e w4 ⟨rfl, rfl⟩))
    all_goals go_ret
    all_goals refine ⟨ret1 ?_, ?_⟩
    all_goals (have hl := HL.out)
    all_goals first | exact E2.out.bel | exact E3.out.bel | (unfold chkI; have hz := HZ.out; clear HL HZ HK; simp_all; done) | (unfold chkI; have hz := HZ.out; clear HL HZ HK; (repeat' split) <;> simp_all <;> omega)
end Go.Proofs.YtmpkcioeodlbcaaGreatDoor
namespace Go.Proofs.YtmpkcioeodlbcaaGreatDoor
open Fl RowKit
set_option linter.unusedVariables false
def rwA (k : Nat) : Array Value := #[.int .u8 ((rk k : Nat) : Int), .int .u8 (ltr k : Nat), .string (unS k), .bool (abv k), .bool (phs k), .bool (fou k)]
/-- a row of the table that lies in memory -/
structure RC (W : World) (q : Nat) (k : Nat) : Prop where
  n : W.heap[q]? = some (.cells (rwA k) 173 (0, 0))
theorem RC.lt {W : World} {p k : Nat} (h : RC W p k) : p < W.heap.size := (Array.getElem?_eq_some_iff.1 h.n).1
theorem RC.below {W W' : World} {p k : Nat} (h : RC W p k) (hb : Below W.heap.size W W') : RC W' p k := ⟨by rw [hb.block p h.lt]; exact h.n⟩
theorem RC.f {W : World} {p k : Nat} (h : RC W p k) : p < W.heap.size ∧ W.cell? ⟨p, 3, none⟩ = some (.bool (abv k)) ∧ W.cell? ⟨p, 4, none⟩ = some (.bool (phs k)) ∧ W.cell? ⟨p, 5, none⟩ = some (.bool (fou k)) := by
  refine ⟨h.lt, ?_, ?_, ?_⟩ <;> rw [cell_of_row W p _ _ _ (0, 0) h.n] <;> rfl
end Go.Proofs.YtmpkcioeodlbcaaGreatDoor
namespace Go.Proofs.YtmpkcioeodlbcaaGreatDoor
open Fl RowKit
set_option linter.unusedVariables false
@[go_sem] theorem run_store_flt {P : Program} (w : World) (a : Addr) (m : Mode) (k : FloatKind) (b : Nat) : (store a (.float k b) m).run P w = stored P w a (.float k b) m := run_store P w a _ m rfl
@[go_sem] theorem run_eq00 (w : World) : Sem.run Tryz.prog (Op.equalIn 9999 31 (.float .f64 0) (.float .f64 0)) w = .ok true w := by kernel_rfl
theorem cells_8 {W : World} {p : Nat} {a b c d e f g h : Value} {t : TypeId} (hb : W.heap[p]? = some (.cells #[a, b, c, d, e, f, g, h] t (0, 0))) : W.cell? ⟨p, 0, none⟩ = some a ∧ W.cell? ⟨p, 1, none⟩ = some b ∧ W.cell? ⟨p, 2, none⟩ = some c ∧ W.cell? ⟨p, 3, none⟩ = some d ∧ W.cell? ⟨p, 4, none⟩ = some e ∧ W.cell? ⟨p, 5, none⟩ = some f ∧ W.cell? ⟨p, 6, none⟩ = some g ∧ W.cell? ⟨p, 7, none⟩ = some h := by
  refine ⟨?_, ?_, ?_, ?_, ?_, ?_, ?_, ?_⟩ <;> rw [cell_of_row W p _ _ _ (0, 0) hb] <;> rfl
/-- eight cells written -/
def set8 (w : World) (p : Nat) (a b c d e f g h : Value) : World := (((((((w.setCell ⟨p, 0, none⟩ a).setCell ⟨p, 1, none⟩ b).setCell ⟨p, 2, none⟩ c).setCell ⟨p, 3, none⟩ d).setCell ⟨p, 4, none⟩ e).setCell ⟨p, 5, none⟩ f).setCell ⟨p, 6, none⟩ g).setCell ⟨p, 7, none⟩ h
theorem below_set8 {n p : Nat} {w w' : World} (h : Below n w w') (hp : n ≤ p) (x0 x1 x2 x3 x4 x5 x6 x7 : Value) : Below n w (set8 w' p x0 x1 x2 x3 x4 x5 x6 x7) := by
  have h0 := h.setCell (p := ⟨p, 0, none⟩) hp x0
  have h1 := h0.setCell (p := ⟨p, 1, none⟩) hp x1
  have h2 := h1.setCell (p := ⟨p, 2, none⟩) hp x2
  have h3 := h2.setCell (p := ⟨p, 3, none⟩) hp x3
  have h4 := h3.setCell (p := ⟨p, 4, none⟩) hp x4
  have h5 := h4.setCell (p := ⟨p, 5, none⟩) hp x5
  have h6 := h5.setCell (p := ⟨p, 6, none⟩) hp x6
  exact h6.setCell (p := ⟨p, 7, none⟩) hp x7
end Go.Proofs.YtmpkcioeodlbcaaGreatDoor
namespace Go.Proofs.YtmpkcioeodlbcaaGreatDoor
open Go.Maps Go.RowKit Joins Deep
set_option linter.unusedVariables false
set_option maxRecDepth 100000
/-- what Parse says of a word -/
def PaC (s : ByteArray) : Prop := ∀ W : World, Calls Tryz.prog 193 #[.string s] W fun e w' => e = .returned (.tuple #[.float .f64 (paW s), .agg #[.int .i64 (paE s), .int .i64 (paA s)]]) ∧ Below W.heap.size W w'
theorem paC (s : ByteArray) : PaC s := fun W => Parse_any s W
theorem readTwo_w (w : World) (b n c : Nat) (ws : List ByteArray) (s0 s1 s2 s3 : ByteArray) (r : List ByteArray) (hws : ws = s0 :: s1 :: s2 :: s3 :: r) (hn : 4 ≤ n) (h : Wd w b ws) :
    Calls Tryz.prog 147 #[.slice (some ⟨b, 0, none⟩) n c] w fun e w' => e = .returned (.tuple #[elN 0 s0 s1 s2 ⟨#[]⟩ ⟨#[]⟩ (paW s3) 0, .int .i64 (paE s3)]) ∧ Below w.heap.size w w' := by
  subst hws
  exact readTwo_by w b n c s0 s1 s2 s3 _ _ _ hn (h 0 _ rfl) (h 1 _ rfl) (h 2 _ rfl) (h 3 _ rfl) (paC s3)
theorem readFour_w (w : World) (b n c : Nat) (ws : List ByteArray) (s0 s1 s2 s3 s4 s5 : ByteArray) (r : List ByteArray) (hws : ws = s0 :: s1 :: s2 :: s3 :: s4 :: s5 :: r) (hn : 6 ≤ n) (h : Wd w b ws) :
    Calls Tryz.prog 151 #[.slice (some ⟨b, 0, none⟩) n c] w fun e w' => e = .returned (.tuple #[elN 0 s0 s1 s2 s3 s4 (paW s5) 0, .int .i64 (paE s5)]) ∧ Below w.heap.size w w' := by
  subst hws
  exact readFour_by w b n c s0 s1 s2 s3 s4 s5 _ _ _ hn (h 0 _ rfl) (h 1 _ rfl) (h 2 _ rfl) (h 3 _ rfl) (h 4 _ rfl) (h 5 _ rfl) (paC s5)
/-- a source's line -/
def srE (n : Nat) (s3 s4 : ByteArray) : Int := if paE s3 ≠ 0 ∨ n = 4 then paE s3 else if phO s4 = true then 0 else 2
def srP (n : Nat) (s3 s4 : ByteArray) : Int := if paE s3 ≠ 0 ∨ n = 4 then 0 else if phO s4 = true then phI s4 else 0
theorem zer8 {w w1 : World} (hb : Below (w.alloc (.cells #[.int .u8 0, .string ⟨#[]⟩, .string ⟨#[]⟩, .string ⟨#[]⟩, .string ⟨#[]⟩, .string ⟨#[]⟩, .float .f64 0, .int .i64 0] 96)).heap.size (w.alloc (.cells #[.int .u8 0, .string ⟨#[]⟩, .string ⟨#[]⟩, .string ⟨#[]⟩, .string ⟨#[]⟩, .string ⟨#[]⟩, .float .f64 0, .int .i64 0] 96)) w1) : w1.heap[w.heap.size]? = some (.cells #[.int .u8 0, .string ⟨#[]⟩, .string ⟨#[]⟩, .string ⟨#[]⟩, .string ⟨#[]⟩, .string ⟨#[]⟩, .float .f64 0, .int .i64 0] 96 (0, 0)) ∧ w.heap.size < w1.heap.size ∧ Below w.heap.size w w1 := by
  have h := (hb.block w.heap.size (by simp)).trans (heap_alloc_new w _)
  exact ⟨h, (Array.getElem?_eq_some_iff.1 h).1, undralloc hb⟩
theorem src_st {w w1 : World} (s0 s1 s2 : ByteArray) (x : Nat) (hb : Below (w.alloc (.cells #[.int .u8 0, .string ⟨#[]⟩, .string ⟨#[]⟩, .string ⟨#[]⟩, .string ⟨#[]⟩, .string ⟨#[]⟩, .float .f64 0, .int .i64 0] 96)).heap.size (w.alloc (.cells #[.int .u8 0, .string ⟨#[]⟩, .string ⟨#[]⟩, .string ⟨#[]⟩, .string ⟨#[]⟩, .string ⟨#[]⟩, .float .f64 0, .int .i64 0] 96)) w1) : ∃ wz, w1.alloc (.cells #[.int .u8 0, .string s0, .string s1, .string s2, .string ⟨#[]⟩, .string ⟨#[]⟩, .float .f64 x, .int .i64 0] 96) = wz ∧ w.heap.size < w1.heap.size ∧ (¬ w.heap.size = w1.heap.size) ∧ (¬ w1.heap.size = w.heap.size) ∧
    (wz.cell? ⟨w.heap.size, 0, none⟩ = some (.int .u8 0) ∧ wz.cell? ⟨w.heap.size, 1, none⟩ = some (.string ⟨#[]⟩) ∧ wz.cell? ⟨w.heap.size, 2, none⟩ = some (.string ⟨#[]⟩) ∧ wz.cell? ⟨w.heap.size, 3, none⟩ = some (.string ⟨#[]⟩) ∧ wz.cell? ⟨w.heap.size, 4, none⟩ = some (.string ⟨#[]⟩) ∧ wz.cell? ⟨w.heap.size, 5, none⟩ = some (.string ⟨#[]⟩) ∧ wz.cell? ⟨w.heap.size, 6, none⟩ = some (.float .f64 0) ∧ wz.cell? ⟨w.heap.size, 7, none⟩ = some (.int .i64 0)) ∧
    (wz.frozen? ⟨w.heap.size, 0, none⟩ = false ∧ wz.frozen? ⟨w.heap.size, 1, none⟩ = false ∧ wz.frozen? ⟨w.heap.size, 2, none⟩ = false ∧ wz.frozen? ⟨w.heap.size, 3, none⟩ = false ∧ wz.frozen? ⟨w.heap.size, 4, none⟩ = false ∧ wz.frozen? ⟨w.heap.size, 5, none⟩ = false ∧ wz.frozen? ⟨w.heap.size, 6, none⟩ = false ∧ wz.frozen? ⟨w.heap.size, 7, none⟩ = false) ∧
    (wz.cell? ⟨w1.heap.size, 0, none⟩ = some (.int .u8 0) ∧ wz.cell? ⟨w1.heap.size, 1, none⟩ = some (.string s0) ∧ wz.cell? ⟨w1.heap.size, 2, none⟩ = some (.string s1) ∧ wz.cell? ⟨w1.heap.size, 3, none⟩ = some (.string s2) ∧ wz.cell? ⟨w1.heap.size, 4, none⟩ = some (.string ⟨#[]⟩) ∧ wz.cell? ⟨w1.heap.size, 5, none⟩ = some (.string ⟨#[]⟩) ∧ wz.cell? ⟨w1.heap.size, 6, none⟩ = some (.float .f64 x) ∧ wz.cell? ⟨w1.heap.size, 7, none⟩ = some (.int .i64 0)) ∧
    (wz.frozen? ⟨w1.heap.size, 0, none⟩ = false ∧ wz.frozen? ⟨w1.heap.size, 1, none⟩ = false ∧ wz.frozen? ⟨w1.heap.size, 2, none⟩ = false ∧ wz.frozen? ⟨w1.heap.size, 3, none⟩ = false ∧ wz.frozen? ⟨w1.heap.size, 4, none⟩ = false ∧ wz.frozen? ⟨w1.heap.size, 5, none⟩ = false ∧ wz.frozen? ⟨w1.heap.size, 6, none⟩ = false ∧ wz.frozen? ⟨w1.heap.size, 7, none⟩ = false) ∧
    Hid (wz.heap[w.heap.size]? = some (.cells #[.int .u8 0, .string ⟨#[]⟩, .string ⟨#[]⟩, .string ⟨#[]⟩, .string ⟨#[]⟩, .string ⟨#[]⟩, .float .f64 0, .int .i64 0] 96 (0, 0)) ∧ wz.heap[w1.heap.size]? = some (.cells #[.int .u8 0, .string s0, .string s1, .string s2, .string ⟨#[]⟩, .string ⟨#[]⟩, .float .f64 x, .int .i64 0] 96 (0, 0))) ∧ Hid (Below w.heap.size w wz) := by
  obtain ⟨h1, hlt, hB⟩ := zer8 hb
  obtain ⟨wz, hwz⟩ : ∃ wz, w1.alloc (.cells #[.int .u8 0, .string s0, .string s1, .string s2, .string ⟨#[]⟩, .string ⟨#[]⟩, .float .f64 x, .int .i64 0] 96) = wz := ⟨_, rfl⟩
  have k1 : wz.heap[w.heap.size]? = some (.cells #[.int .u8 0, .string ⟨#[]⟩, .string ⟨#[]⟩, .string ⟨#[]⟩, .string ⟨#[]⟩, .string ⟨#[]⟩, .float .f64 0, .int .i64 0] 96 (0, 0)) := by rw [← hwz]; exact (Below.heap_alloc _ _ _ hlt).trans h1
  have k2 : wz.heap[w1.heap.size]? = some (.cells #[.int .u8 0, .string s0, .string s1, .string s2, .string ⟨#[]⟩, .string ⟨#[]⟩, .float .f64 x, .int .i64 0] 96 (0, 0)) := by rw [← hwz]; exact heap_alloc_new _ _
  exact ⟨wz, hwz, hlt, by omega, by omega, (eight k1).1, (eight k1).2, (eight k2).1, (eight k2).2, ⟨k1, k2⟩, by rw [← hwz]; exact hB.alloc hB.size _⟩
theorem ph_st {w0 wz w2 : World} {p q : Nat} (s0 s1 s2 : ByteArray) (x : Nat) (h1 : wz.heap[p]? = some (.cells #[.int .u8 0, .string ⟨#[]⟩, .string ⟨#[]⟩, .string ⟨#[]⟩, .string ⟨#[]⟩, .string ⟨#[]⟩, .float .f64 0, .int .i64 0] 96 (0, 0))) (h2 : wz.heap[q]? = some (.cells #[.int .u8 0, .string s0, .string s1, .string s2, .string ⟨#[]⟩, .string ⟨#[]⟩, .float .f64 x, .int .i64 0] 96 (0, 0))) (hpq : ¬ p = q) (hp : w0.heap.size ≤ q) (hB : Below w0.heap.size w0 wz) (hb : Below (wz.setCell ⟨q, 7, none⟩ (.int .i64 0)).heap.size (wz.setCell ⟨q, 7, none⟩ (.int .i64 0)) w2) :
    (w2.cell? ⟨p, 0, none⟩ = some (.int .u8 0) ∧ w2.cell? ⟨p, 1, none⟩ = some (.string ⟨#[]⟩) ∧ w2.cell? ⟨p, 2, none⟩ = some (.string ⟨#[]⟩) ∧ w2.cell? ⟨p, 3, none⟩ = some (.string ⟨#[]⟩) ∧ w2.cell? ⟨p, 4, none⟩ = some (.string ⟨#[]⟩) ∧ w2.cell? ⟨p, 5, none⟩ = some (.string ⟨#[]⟩) ∧ w2.cell? ⟨p, 6, none⟩ = some (.float .f64 0) ∧ w2.cell? ⟨p, 7, none⟩ = some (.int .i64 0)) ∧ (w2.frozen? ⟨p, 0, none⟩ = false ∧ w2.frozen? ⟨p, 1, none⟩ = false ∧ w2.frozen? ⟨p, 2, none⟩ = false ∧ w2.frozen? ⟨p, 3, none⟩ = false ∧ w2.frozen? ⟨p, 4, none⟩ = false ∧ w2.frozen? ⟨p, 5, none⟩ = false ∧ w2.frozen? ⟨p, 6, none⟩ = false ∧ w2.frozen? ⟨p, 7, none⟩ = false) ∧ (w2.cell? ⟨q, 0, none⟩ = some (.int .u8 0) ∧ w2.cell? ⟨q, 1, none⟩ = some (.string s0) ∧ w2.cell? ⟨q, 2, none⟩ = some (.string s1) ∧ w2.cell? ⟨q, 3, none⟩ = some (.string s2) ∧ w2.cell? ⟨q, 4, none⟩ = some (.string ⟨#[]⟩) ∧ w2.cell? ⟨q, 5, none⟩ = some (.string ⟨#[]⟩) ∧ w2.cell? ⟨q, 6, none⟩ = some (.float .f64 x) ∧ w2.cell? ⟨q, 7, none⟩ = some (.int .i64 0)) ∧ (w2.frozen? ⟨q, 0, none⟩ = false ∧ w2.frozen? ⟨q, 1, none⟩ = false ∧ w2.frozen? ⟨q, 2, none⟩ = false ∧ w2.frozen? ⟨q, 3, none⟩ = false ∧ w2.frozen? ⟨q, 4, none⟩ = false ∧ w2.frozen? ⟨q, 5, none⟩ = false ∧ w2.frozen? ⟨q, 6, none⟩ = false ∧ w2.frozen? ⟨q, 7, none⟩ = false) ∧ Hid (w2.heap[p]? = some (.cells #[.int .u8 0, .string ⟨#[]⟩, .string ⟨#[]⟩, .string ⟨#[]⟩, .string ⟨#[]⟩, .string ⟨#[]⟩, .float .f64 0, .int .i64 0] 96 (0, 0)) ∧ w2.heap[q]? = some (.cells #[.int .u8 0, .string s0, .string s1, .string s2, .string ⟨#[]⟩, .string ⟨#[]⟩, .float .f64 x, .int .i64 0] 96 (0, 0))) ∧ Hid (Below w0.heap.size w0 w2) := by
  have a1 : (wz.setCell ⟨q, 7, none⟩ (.int .i64 0)).heap[p]? = some (.cells #[.int .u8 0, .string ⟨#[]⟩, .string ⟨#[]⟩, .string ⟨#[]⟩, .string ⟨#[]⟩, .string ⟨#[]⟩, .float .f64 0, .int .i64 0] 96 (0, 0)) := (Below.heap_setCell _ ⟨q, 7, none⟩ _ _ (by simpa using hpq)).trans h1
  have a2 : (wz.setCell ⟨q, 7, none⟩ (.int .i64 0)).heap[q]? = some (.cells #[.int .u8 0, .string s0, .string s1, .string s2, .string ⟨#[]⟩, .string ⟨#[]⟩, .float .f64 x, .int .i64 0] 96 (0, 0)) := heap_setCell_same _ q 7 _ _ _ h2
  have k1 := (hb.block _ (Array.getElem?_eq_some_iff.1 a1).1).trans a1
  have k2 := (hb.block _ (Array.getElem?_eq_some_iff.1 a2).1).trans a2
  have hB2 : Below w0.heap.size w0 (wz.setCell ⟨q, 7, none⟩ (.int .i64 0)) := hB.setCell (p := ⟨q, 7, none⟩) hp _
  exact ⟨(eight k1).1, (eight k1).2, (eight k2).1, (eight k2).2, ⟨k1, k2⟩, hB2.trans (hb.mono hB2.size)⟩
set_option maxHeartbeats 4000000 in
theorem readSource_w (w : World) (b n c : Nat) (ws : List ByteArray) (s0 s1 s2 s3 s4 : ByteArray) (r : List ByteArray) (hws : ws = s0 :: s1 :: s2 :: s3 :: r) (h5 : n = 5 → ws[4]? = some s4) (hn : n = 4 ∨ n = 5) (h : Wd w b ws) (hw : Wow w) (hs : s4.size ≤ 65536) :
    Calls Tryz.prog 149 #[.slice (some ⟨b, 0, none⟩) n c] w fun e w' => e = .returned (.tuple #[elN 0 s0 s1 s2 ⟨#[]⟩ ⟨#[]⟩ (paW s3) (srP n s3 s4), .int .i64 (srE n s3 s4)]) ∧ Below w.heap.size w w' := by
  have hR : Hid (∀ W, Below w.heap.size w W → Calls Tryz.prog 147 #[.slice (some ⟨b, 0, none⟩) n c] W fun e w' => e = .returned (.tuple #[elN 0 s0 s1 s2 ⟨#[]⟩ ⟨#[]⟩ (paW s3) 0, .int .i64 (paE s3)]) ∧ Below W.heap.size W w') := fun W hB => readTwo_w W b n c ws s0 s1 s2 s3 r hws (by omega) (h.below hB)
  have HB0 : Hid (∀ a b c d e f g i t, Below w.heap.size w (w.alloc (.cells #[a, b, c, d, e, f, g, i] t))) := fun _ _ _ _ _ _ _ _ _ => (Below.refl _ _).alloc (Nat.le_refl _) _
  obtain ⟨E, hE⟩ : ∃ E, E = paE s3 := ⟨_, rfl⟩
  by_cases hq : paE s3 ≠ 0 ∨ n = 4
  · have e1 : srE n s3 s4 = E := by unfold srE; rw [if_pos hq, hE]
    have e2 : srP n s3 s4 = 0 := by unfold srP; rw [if_pos hq]
    rw [e1, e2]
    rw [← hE] at hR hq
    have hc : (E != 0) = true ∨ ((E != 0) = false ∧ n = 4) := by
      by_cases q : E = 0
      · right; exact ⟨by simp [q], by rcases hq with h | h; exact absurd q h; exact h⟩
      · left; simp [q]
    clear hq e1 e2 hE h hws h5 hw hs
    unfold elN at hR ⊢
    rcases hc with hc | ⟨hc, hc4⟩
    · go_enter Tryz.func149, Tryz.ntmps149
      go_wp2_with (first
        | (go_at_call 147; (with_reducible refine (hR.out _ (HB0.out _ _ _ _ _ _ _ _ _)).mono ?_); rintro e w1 ⟨rfl, hb⟩; (obtain ⟨wz, hwz, hlt, hne1, hne2, ⟨d0, d1, d2, d3, d4, d5, d6, d7⟩, ⟨f0, f1, f2, f3, f4, f5, f6, f7⟩, ⟨e0, e1, e2, e3, e4, e5, e6, e7⟩, ⟨g0, g1, g2, g3, g4, g5, g6, g7⟩, HZ, HBZ⟩ := src_st s0 s1 s2 (paW s3) hb); clear hb))
      have hS : ∀ v, (wz.setCell ⟨w1.heap.size, 7, none⟩ v).heap[w.heap.size]? = _ := fun v => (Below.heap_setCell _ ⟨w1.heap.size, 7, none⟩ v _ (by simpa using hne1)).trans HZ.out.1
      have Z := cells_8 (st8_blk (hS (.int .i64 0)) (.int .u8 0) (.string s0) (.string s1) (.string s2) (.string ⟨#[]⟩) (.string ⟨#[]⟩) (.float .f64 (paW s3)) (.int .i64 0))
      unfold st8 at Z
      obtain ⟨z0, z1, z2, z3, z4, z5, z6, z7⟩ := Z
      refine bodyPost_ret (by simp [results, Tryz.results149, go_sem, z0, z1, z2, z3, z4, z5, z6, z7]; try rfl) rfl ?_
      exact ⟨rfl, below_set8 (HBZ.out.setCell (p := ⟨w1.heap.size, 7, none⟩) (by simp only; omega) _) (Nat.le_refl _) _ _ _ _ _ _ _ _⟩
    · subst hc4
      go_enter Tryz.func149, Tryz.ntmps149
      go_wp2_with (first
        | (go_at_call 147; (with_reducible refine (hR.out _ (HB0.out _ _ _ _ _ _ _ _ _)).mono ?_); rintro e w1 ⟨rfl, hb⟩; (obtain ⟨wz, hwz, hlt, hne1, hne2, ⟨d0, d1, d2, d3, d4, d5, d6, d7⟩, ⟨f0, f1, f2, f3, f4, f5, f6, f7⟩, ⟨e0, e1, e2, e3, e4, e5, e6, e7⟩, ⟨g0, g1, g2, g3, g4, g5, g6, g7⟩, HZ, HBZ⟩ := src_st s0 s1 s2 (paW s3) hb); clear hb))
      have hS : ∀ v, (wz.setCell ⟨w1.heap.size, 7, none⟩ v).heap[w.heap.size]? = _ := fun v => (Below.heap_setCell _ ⟨w1.heap.size, 7, none⟩ v _ (by simpa using hne1)).trans HZ.out.1
      have Z := cells_8 (st8_blk (hS (.int .i64 0)) (.int .u8 0) (.string s0) (.string s1) (.string s2) (.string ⟨#[]⟩) (.string ⟨#[]⟩) (.float .f64 (paW s3)) (.int .i64 0))
      unfold st8 at Z
      obtain ⟨z0, z1, z2, z3, z4, z5, z6, z7⟩ := Z
      refine bodyPost_ret (by simp [results, Tryz.results149, go_sem, z0, z1, z2, z3, z4, z5, z6, z7]; try rfl) rfl ?_
      exact ⟨rfl, below_set8 (HBZ.out.setCell (p := ⟨w1.heap.size, 7, none⟩) (by simp only; omega) _) (Nat.le_refl _) _ _ _ _ _ _ _ _⟩

  · have hE0 : E = 0 := by rw [hE]; exact Classical.byContradiction fun q => hq (.inl q)
    have hn5 : n = 5 := by rcases hn with h | h; exact absurd (.inr h) hq; exact h
    have e1 : srE n s3 s4 = if phO s4 = true then 0 else 2 := by unfold srE; rw [if_neg hq]
    have e2 : srP n s3 s4 = if phO s4 = true then phI s4 else 0 := by unfold srP; rw [if_neg hq]
    rw [e1, e2]
    rw [← hE, hE0] at hR
    have c4w := h 4 s4 (h5 hn5)
    have hbw := World.block_lt_of_cell? w _ c4w
    have hbw : b < w.heap.size := hbw
    have HP : Hid (∀ W, Below w.heap.size w W → Calls Tryz.prog 195 #[.string s4] W fun e w' => ∃ x, e = .returned (.tuple #[.int .i64 x, .bool (phO s4)]) ∧ (phO s4 = true → x = phI s4) ∧ Below W.heap.size W w') := fun W hB => phase_any s4 W (hw.kept hB) hs
    have HC4 : Hid (∀ W, Below w.heap.size w W → W.cell? ⟨b, 4, none⟩ = some (.string s4)) := fun W hB => (hB.cell (p := ⟨b, 4, none⟩) hbw).trans c4w
    clear hq e1 e2 hE h hws h5 hw hs c4w hn
    subst hn5 hE0
    unfold elN at hR ⊢
    cases hph : phO s4
    · rw [hph] at HP
      clear hph
      go_enter Tryz.func149, Tryz.ntmps149
      go_wp2_with (first
        | (go_at_call 147; (with_reducible refine (hR.out _ (HB0.out _ _ _ _ _ _ _ _ _)).mono ?_); rintro e w1 ⟨rfl, hb⟩; (obtain ⟨wz, hwz, hlt, hne1, hne2, ⟨d0, d1, d2, d3, d4, d5, d6, d7⟩, ⟨f0, f1, f2, f3, f4, f5, f6, f7⟩, ⟨e0, e1, e2, e3, e4, e5, e6, e7⟩, ⟨g0, g1, g2, g3, g4, g5, g6, g7⟩, HZ, HBZ⟩ := src_st s0 s1 s2 (paW s3) hb); (have c4 := HC4.out wz HBZ.out); (have hbn : ¬ b = w1.heap.size := by omega); (have hbn2 : ¬ w1.heap.size = b := by omega); (have hbn3 : ¬ b = w.heap.size := by omega); clear hb)
        | (go_at_call 195; (with_reducible refine (HP.out _ (HBZ.out.setCell (p := ⟨w1.heap.size, 7, none⟩) (Nat.le_of_lt hlt) _)).mono ?_); rintro e w2 ⟨x, rfl, hx, hb⟩; (have HX : Hid _ := hx); clear d0 d1 d2 d3 d4 d5 d6 d7 f0 f1 f2 f3 f4 f5 f6 f7 e0 e1 e2 e3 e4 e5 e6 e7 g0 g1 g2 g3 g4 g5 g6 g7 hx; (obtain ⟨⟨d0, d1, d2, d3, d4, d5, d6, d7⟩, ⟨f0, f1, f2, f3, f4, f5, f6, f7⟩, ⟨e0, e1, e2, e3, e4, e5, e6, e7⟩, ⟨g0, g1, g2, g3, g4, g5, g6, g7⟩, HZ2, HBZ2⟩ := ph_st s0 s1 s2 (paW s3) HZ.out.1 HZ.out.2 hne1 (Nat.le_of_lt hlt) HBZ.out hb); clear hb))
      have Z := cells_8 (st8_blk HZ2.out.1 (.int .u8 0) (.string s0) (.string s1) (.string s2) (.string ⟨#[]⟩) (.string ⟨#[]⟩) (.float .f64 (paW s3)) (.int .i64 0))
      unfold st8 at Z
      obtain ⟨z0, z1, z2, z3, z4, z5, z6, z7⟩ := Z
      refine bodyPost_ret (by simp [results, Tryz.results149, go_sem, z0, z1, z2, z3, z4, z5, z6, z7]; try rfl) rfl ?_
      exact ⟨rfl, below_set8 HBZ2.out (Nat.le_refl _) _ _ _ _ _ _ _ _⟩
    · rw [hph] at HP
      clear hph
      go_enter Tryz.func149, Tryz.ntmps149
      go_wp2_with (first
        | (go_at_call 147; (with_reducible refine (hR.out _ (HB0.out _ _ _ _ _ _ _ _ _)).mono ?_); rintro e w1 ⟨rfl, hb⟩; (obtain ⟨wz, hwz, hlt, hne1, hne2, ⟨d0, d1, d2, d3, d4, d5, d6, d7⟩, ⟨f0, f1, f2, f3, f4, f5, f6, f7⟩, ⟨e0, e1, e2, e3, e4, e5, e6, e7⟩, ⟨g0, g1, g2, g3, g4, g5, g6, g7⟩, HZ, HBZ⟩ := src_st s0 s1 s2 (paW s3) hb); (have c4 := HC4.out wz HBZ.out); (have hbn : ¬ b = w1.heap.size := by omega); (have hbn2 : ¬ w1.heap.size = b := by omega); (have hbn3 : ¬ b = w.heap.size := by omega); clear hb)
        | (go_at_call 195; (with_reducible refine (HP.out _ (HBZ.out.setCell (p := ⟨w1.heap.size, 7, none⟩) (Nat.le_of_lt hlt) _)).mono ?_); rintro e w2 ⟨x, rfl, hx, hb⟩; (have HX : Hid _ := hx); clear d0 d1 d2 d3 d4 d5 d6 d7 f0 f1 f2 f3 f4 f5 f6 f7 e0 e1 e2 e3 e4 e5 e6 e7 g0 g1 g2 g3 g4 g5 g6 g7 hx; (obtain ⟨⟨d0, d1, d2, d3, d4, d5, d6, d7⟩, ⟨f0, f1, f2, f3, f4, f5, f6, f7⟩, ⟨e0, e1, e2, e3, e4, e5, e6, e7⟩, ⟨g0, g1, g2, g3, g4, g5, g6, g7⟩, HZ2, HBZ2⟩ := ph_st s0 s1 s2 (paW s3) HZ.out.1 HZ.out.2 hne1 (Nat.le_of_lt hlt) HBZ.out hb); clear hb))
      have hS : ∀ v, (w2.setCell ⟨w1.heap.size, 7, none⟩ v).heap[w.heap.size]? = _ := fun v => (Below.heap_setCell _ ⟨w1.heap.size, 7, none⟩ v _ (by simpa using hne1)).trans HZ2.out.1
      have Z := cells_8 (st8_blk (hS (.int .i64 x)) (.int .u8 0) (.string s0) (.string s1) (.string s2) (.string ⟨#[]⟩) (.string ⟨#[]⟩) (.float .f64 (paW s3)) (.int .i64 x))
      unfold st8 at Z
      obtain ⟨z0, z1, z2, z3, z4, z5, z6, z7⟩ := Z
      refine bodyPost_ret (by simp [results, Tryz.results149, go_sem, z0, z1, z2, z3, z4, z5, z6, z7]; try rfl) rfl ?_
      refine ⟨?_, below_set8 (HBZ2.out.setCell (p := ⟨w1.heap.size, 7, none⟩) (by simp only; omega) _) (Nat.le_refl _) _ _ _ _ _ _ _ _⟩
      rw [HX.out (by simp)]
end Go.Proofs.YtmpkcioeodlbcaaGreatDoor
