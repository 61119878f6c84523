/-
  The walk of ValueOwn.
-/
import Derived.Test.YtbmoilgiifondaaElp
import Derived.Deep.Cut
import Derived.Deep.DeepCutAuto
namespace Go.Proofs.Ytbmoilgiifondaa
open Fl RowKit
set_option linter.unusedVariables false

theorem oin_cells {w W : World} {x : Elm} (hb : Below (w.heap.size + 1) (w.alloc (.cells #[.int .u8 (x.k : Int), .string x.n, .string x.a, .string x.b, .string x.c, .string x.d, .int .u64 (x.v : Int), .int .i64 x.ph] 32)) W) :
    w.heap.size < W.heap.size ∧ W.cell? ⟨w.heap.size, 0, none⟩ = some (.int .u8 (x.k : Int)) ∧ W.cell? ⟨w.heap.size, 1, none⟩ = some (.string x.n) ∧ W.cell? ⟨w.heap.size, 2, none⟩ = some (.string x.a) ∧ W.cell? ⟨w.heap.size, 3, none⟩ = some (.string x.b) ∧ W.cell? ⟨w.heap.size, 4, none⟩ = some (.string x.c) ∧ W.cell? ⟨w.heap.size, 5, none⟩ = some (.string x.d) ∧ W.cell? ⟨w.heap.size, 6, none⟩ = some (.int .u64 (x.v : Int)) ∧ W.cell? ⟨w.heap.size, 7, none⟩ = some (.int .i64 x.ph) := by
  have h : W.heap[w.heap.size]? = some (.cells #[.int .u8 (x.k : Int), .string x.n, .string x.a, .string x.b, .string x.c, .string x.d, .int .u64 (x.v : Int), .int .i64 x.ph] 32 (0, 0)) := by
    rw [hb.block _ (by omega)]; exact heap_alloc_new w _
  exact ⟨(Array.getElem?_eq_some_iff.1 h).1, cells_8 h⟩
theorem ocheck_w (x : Elm) (w : World) (h : x.ok) : Calls Try.prog 19 #[.agg #[.int .u8 (x.k : Int), .string x.n, .string x.a, .string x.b, .string x.c, .string x.d, .float .f64 x.v, .int .i64 x.ph]] w fun e w' => e = .returned (.int .i64 (chkI x)) ∧ Below w.heap.size w w' := check_any x w h
theorem oname {x : Elm} (h : x.ok) (hc : nmK x.n = x.k) (hk : x.k ≠ 0) (w : World) : Calls Try.prog 8 #[.string x.n] w fun e w' => e = .returned (.tuple #[.int .u8 (x.k : Int), .bool true]) ∧ Below w.heap.size w w' := by
  have := name_any x.n w h.n
  rw [hc, show (x.k != 0) = true from by simp [hk]] at this
  exact this
theorem oof {x : Elm} (h1 : 1 ≤ x.k) (h8 : x.k ≤ 8) (w : World) : Calls Try.prog 10 #[.int .u8 (ltr x.k : Nat)] w fun e w' => e = .returned (.tuple #[.int .u8 (x.k : Int), .bool true]) ∧ Below w.heap.size w w' := by
  have := of_any (ltr x.k) w (ltr_lt _)
  rw [of_ltr h1 h8, show (x.k != 0) = true from by simp; omega] at this
  exact this
theorem onode {s : ByteArray} (hs : s.size ≤ 140737488351232) (h : ndF s = true) (w : World) : Calls Try.prog 12 #[.string s] w fun e w' => e = .returned (.bool true) ∧ Below w.heap.size w w' := by
  have := node_any s w hs; rw [h] at this; exact this
theorem ocheck1 {x : Elm} (h : x.ok) (hc : chkI x = 0) {v : Nat} (hv : v < 18446744073709551616) (w : World) : Calls Try.prog 19 #[.agg #[.int .u8 (x.k : Int), .string x.n, .string x.a, .string x.b, .string x.c, .string x.d, .float .f64 v, .int .i64 x.ph]] w fun e w' => e = .returned (.int .i64 (wantI x.k v)) ∧ Below w.heap.size w w' := by
  have := check_any ⟨x.k, x.n, x.a, x.b, x.c, x.d, v, x.ph⟩ w ⟨h.k, h.n, h.a, h.b, h.c, h.d, hv⟩
  rw [own1 hc] at this
  exact this
theorem EC.fz {w W : World} {p : Nat} {x : Elm} (h : EC w W p x) : W.frozen? ⟨p, 0, none⟩ = false ∧ W.frozen? ⟨p, 1, none⟩ = false ∧ W.frozen? ⟨p, 2, none⟩ = false ∧ W.frozen? ⟨p, 3, none⟩ = false ∧ W.frozen? ⟨p, 4, none⟩ = false ∧ W.frozen? ⟨p, 5, none⟩ = false ∧ W.frozen? ⟨p, 6, none⟩ = false ∧ W.frozen? ⟨p, 7, none⟩ = false :=
  have k := fun j => frozen_of_row W p j _ _ h.e
  ⟨k 0, k 1, k 2, k 3, k 4, k 5, k 6, k 7⟩
theorem oset_other {w V : World} {p q : Nat} {x : Elm} (h : EC w V p x) (hpq : p ≠ q) (hq : w.heap.size ≤ q) (j : Nat) (u : Value) : EC w (V.setCell ⟨q, j, none⟩ u) p x :=
  ⟨h.bel.setCell (p := ⟨q, j, none⟩) hq u, by rw [Below.heap_setCell _ _ _ _ hpq]; exact h.e⟩
theorem oset8_other {w V : World} {p q : Nat} {x : Elm} (h : EC w V p x) (hpq : p ≠ q) (hq : w.heap.size ≤ q) (a b c d e f g i : Value) : EC w (set8 V q a b c d e f g i) p x :=
  oset_other (oset_other (oset_other (oset_other (oset_other (oset_other (oset_other (oset_other h hpq hq 0 a) hpq hq 1 b) hpq hq 2 c) hpq hq 3 d) hpq hq 4 e) hpq hq 5 f) hpq hq 6 g) hpq hq 7 i
theorem oset8_me {w V : World} {q : Nat} {x y : Elm} (h : EC w V q y) (hq : w.heap.size ≤ q) : EC w (set8 V q (.int .u8 (x.k : Int)) (.string x.n) (.string x.a) (.string x.b) (.string x.c) (.string x.d) (.float .f64 x.v) (.int .i64 x.ph)) q x :=
  ⟨below_set8 h.bel hq _ _ _ _ _ _ _ _, set8_blk (t := 35) h.e _ _ _ _ _ _ _ _⟩
theorem own_c2 {w V : World} {p q : Nat} {x y : Elm} (hE : EC w V p x) (hF : EC w V q y) (hpq : p ≠ q ∧ w.heap.size ≤ q) (s : ByteArray) : EC w ((set8 V q (.int .u8 (x.k : Int)) (.string x.n) (.string x.a) (.string x.b) (.string x.c) (.string x.d) (.float .f64 x.v) (.int .i64 x.ph)).setCell ⟨q, 1, none⟩ (.string s)) p x ∧ EC w ((set8 V q (.int .u8 (x.k : Int)) (.string x.n) (.string x.a) (.string x.b) (.string x.c) (.string x.d) (.float .f64 x.v) (.int .i64 x.ph)).setCell ⟨q, 1, none⟩ (.string s)) q ⟨x.k, s, x.a, x.b, x.c, x.d, x.v, x.ph⟩ := by
  have e0 : EC w (set8 V q (.int .u8 (x.k : Int)) (.string x.n) (.string x.a) (.string x.b) (.string x.c) (.string x.d) (.float .f64 x.v) (.int .i64 x.ph)) p x := oset8_other hE hpq.1 hpq.2 _ _ _ _ _ _ _ _
  have f0 : EC w (set8 V q (.int .u8 (x.k : Int)) (.string x.n) (.string x.a) (.string x.b) (.string x.c) (.string x.d) (.float .f64 x.v) (.int .i64 x.ph)) q x := oset8_me hF hpq.2
  have e1 := oset_other e0 hpq.1 hpq.2 1 (.string s)
  have f1 : EC w _ q ⟨x.k, s, x.a, x.b, x.c, x.d, x.v, x.ph⟩ := ⟨f0.bel.setCell (p := ⟨q, 1, none⟩) hpq.2 (.string s), heap_setCell_same _ q 1 _ _ (.string s) f0.e⟩
  exact ⟨e1, f1⟩
theorem own_c3 {w V : World} {p q : Nat} {x y : Elm} (hE : EC w V p x) (hF : EC w V q y) (hpq : p ≠ q ∧ w.heap.size ≤ q) (P Q : ByteArray) : EC w (((set8 V q (.int .u8 (x.k : Int)) (.string x.n) (.string x.a) (.string x.b) (.string x.c) (.string x.d) (.float .f64 x.v) (.int .i64 x.ph)).setCell ⟨q, 2, none⟩ (.string P)).setCell ⟨q, 3, none⟩ (.string Q)) p x ∧ EC w (((set8 V q (.int .u8 (x.k : Int)) (.string x.n) (.string x.a) (.string x.b) (.string x.c) (.string x.d) (.float .f64 x.v) (.int .i64 x.ph)).setCell ⟨q, 2, none⟩ (.string P)).setCell ⟨q, 3, none⟩ (.string Q)) q ⟨x.k, x.n, P, Q, x.c, x.d, x.v, x.ph⟩ := by
  have e0 : EC w (set8 V q (.int .u8 (x.k : Int)) (.string x.n) (.string x.a) (.string x.b) (.string x.c) (.string x.d) (.float .f64 x.v) (.int .i64 x.ph)) p x := oset8_other hE hpq.1 hpq.2 _ _ _ _ _ _ _ _
  have f0 : EC w (set8 V q (.int .u8 (x.k : Int)) (.string x.n) (.string x.a) (.string x.b) (.string x.c) (.string x.d) (.float .f64 x.v) (.int .i64 x.ph)) q x := oset8_me hF hpq.2
  have e1 := oset_other e0 hpq.1 hpq.2 2 (.string P)
  have f1 : EC w _ q ⟨x.k, x.n, P, x.b, x.c, x.d, x.v, x.ph⟩ := ⟨f0.bel.setCell (p := ⟨q, 2, none⟩) hpq.2 (.string P), heap_setCell_same _ q 2 _ _ (.string P) f0.e⟩
  have e2 := oset_other e1 hpq.1 hpq.2 3 (.string Q)
  have f2 : EC w _ q ⟨x.k, x.n, P, Q, x.c, x.d, x.v, x.ph⟩ := ⟨f1.bel.setCell (p := ⟨q, 3, none⟩) hpq.2 (.string Q), heap_setCell_same _ q 3 _ _ (.string Q) f1.e⟩
  exact ⟨e2, f2⟩
theorem own_c4 {w V : World} {p q : Nat} {x y : Elm} (hE : EC w V p x) (hF : EC w V q y) (hpq : p ≠ q ∧ w.heap.size ≤ q) (P Q : ByteArray) : EC w (((set8 V q (.int .u8 (x.k : Int)) (.string x.n) (.string x.a) (.string x.b) (.string x.c) (.string x.d) (.float .f64 x.v) (.int .i64 x.ph)).setCell ⟨q, 4, none⟩ (.string P)).setCell ⟨q, 5, none⟩ (.string Q)) p x ∧ EC w (((set8 V q (.int .u8 (x.k : Int)) (.string x.n) (.string x.a) (.string x.b) (.string x.c) (.string x.d) (.float .f64 x.v) (.int .i64 x.ph)).setCell ⟨q, 4, none⟩ (.string P)).setCell ⟨q, 5, none⟩ (.string Q)) q ⟨x.k, x.n, x.a, x.b, P, Q, x.v, x.ph⟩ := by
  have e0 : EC w (set8 V q (.int .u8 (x.k : Int)) (.string x.n) (.string x.a) (.string x.b) (.string x.c) (.string x.d) (.float .f64 x.v) (.int .i64 x.ph)) p x := oset8_other hE hpq.1 hpq.2 _ _ _ _ _ _ _ _
  have f0 : EC w (set8 V q (.int .u8 (x.k : Int)) (.string x.n) (.string x.a) (.string x.b) (.string x.c) (.string x.d) (.float .f64 x.v) (.int .i64 x.ph)) q x := oset8_me hF hpq.2
  have e1 := oset_other e0 hpq.1 hpq.2 4 (.string P)
  have f1 : EC w _ q ⟨x.k, x.n, x.a, x.b, P, x.d, x.v, x.ph⟩ := ⟨f0.bel.setCell (p := ⟨q, 4, none⟩) hpq.2 (.string P), heap_setCell_same _ q 4 _ _ (.string P) f0.e⟩
  have e2 := oset_other e1 hpq.1 hpq.2 5 (.string Q)
  have f2 : EC w _ q ⟨x.k, x.n, x.a, x.b, P, Q, x.v, x.ph⟩ := ⟨f1.bel.setCell (p := ⟨q, 5, none⟩) hpq.2 (.string Q), heap_setCell_same _ q 5 _ _ (.string Q) f1.e⟩
  exact ⟨e2, f2⟩
theorem own_c5 {w V : World} {p q : Nat} {x y : Elm} (hE : EC w V p x) (hF : EC w V q y) (hpq : p ≠ q ∧ w.heap.size ≤ q) (ph : Int) : EC w ((set8 V q (.int .u8 (x.k : Int)) (.string x.n) (.string x.a) (.string x.b) (.string x.c) (.string x.d) (.float .f64 x.v) (.int .i64 x.ph)).setCell ⟨q, 7, none⟩ (.int .i64 ph)) p x ∧ EC w ((set8 V q (.int .u8 (x.k : Int)) (.string x.n) (.string x.a) (.string x.b) (.string x.c) (.string x.d) (.float .f64 x.v) (.int .i64 x.ph)).setCell ⟨q, 7, none⟩ (.int .i64 ph)) q ⟨x.k, x.n, x.a, x.b, x.c, x.d, x.v, ph⟩ := by
  have e0 : EC w (set8 V q (.int .u8 (x.k : Int)) (.string x.n) (.string x.a) (.string x.b) (.string x.c) (.string x.d) (.float .f64 x.v) (.int .i64 x.ph)) p x := oset8_other hE hpq.1 hpq.2 _ _ _ _ _ _ _ _
  have f0 : EC w (set8 V q (.int .u8 (x.k : Int)) (.string x.n) (.string x.a) (.string x.b) (.string x.c) (.string x.d) (.float .f64 x.v) (.int .i64 x.ph)) q x := oset8_me hF hpq.2
  have e1 := oset_other e0 hpq.1 hpq.2 7 (.int .i64 ph)
  have f1 : EC w _ q ⟨x.k, x.n, x.a, x.b, x.c, x.d, x.v, ph⟩ := ⟨f0.bel.setCell (p := ⟨q, 7, none⟩) hpq.2 (.int .i64 ph), heap_setCell_same _ q 7 _ _ (.int .i64 ph) f0.e⟩
  exact ⟨e1, f1⟩
theorem ocheck2 {x : Elm} (h : x.ok) {s : ByteArray} (hs : s.size ≤ 140737488351232) (w : World) : Calls Try.prog 19 #[.agg #[.int .u8 (x.k : Int), .string s, .string x.a, .string x.b, .string x.c, .string x.d, .float .f64 x.v, .int .i64 x.ph]] w fun e w' => e = .returned (.int .i64 (chkI ⟨x.k, s, x.a, x.b, x.c, x.d, x.v, x.ph⟩)) ∧ Below w.heap.size w w' := check_any ⟨x.k, s, x.a, x.b, x.c, x.d, x.v, x.ph⟩ w ⟨h.k, hs, h.a, h.b, h.c, h.d, h.v⟩
theorem ocheck3 {x : Elm} (h : x.ok) {P Q : ByteArray} (hP : P.size ≤ 140737488351232) (hQ : Q.size ≤ 140737488351232) (w : World) : Calls Try.prog 19 #[.agg #[.int .u8 (x.k : Int), .string x.n, .string P, .string Q, .string x.c, .string x.d, .float .f64 x.v, .int .i64 x.ph]] w fun e w' => e = .returned (.int .i64 (chkI ⟨x.k, x.n, P, Q, x.c, x.d, x.v, x.ph⟩)) ∧ Below w.heap.size w w' := check_any ⟨x.k, x.n, P, Q, x.c, x.d, x.v, x.ph⟩ w ⟨h.k, h.n, hP, hQ, h.c, h.d, h.v⟩
theorem ocheck4 {x : Elm} (h : x.ok) {P Q : ByteArray} (hP : P.size ≤ 140737488351232) (hQ : Q.size ≤ 140737488351232) (w : World) : Calls Try.prog 19 #[.agg #[.int .u8 (x.k : Int), .string x.n, .string x.a, .string x.b, .string P, .string Q, .float .f64 x.v, .int .i64 x.ph]] w fun e w' => e = .returned (.int .i64 (chkI ⟨x.k, x.n, x.a, x.b, P, Q, x.v, x.ph⟩)) ∧ Below w.heap.size w w' := check_any ⟨x.k, x.n, x.a, x.b, P, Q, x.v, x.ph⟩ w ⟨h.k, h.n, h.a, h.b, hP, hQ, h.v⟩
theorem ocheck5 {x : Elm} (h : x.ok)  (w : World) {ph : Int} : Calls Try.prog 19 #[.agg #[.int .u8 (x.k : Int), .string x.n, .string x.a, .string x.b, .string x.c, .string x.d, .float .f64 x.v, .int .i64 ph]] w fun e w' => e = .returned (.int .i64 (chkI ⟨x.k, x.n, x.a, x.b, x.c, x.d, x.v, ph⟩)) ∧ Below w.heap.size w w' := check_any ⟨x.k, x.n, x.a, x.b, x.c, x.d, x.v, ph⟩ w ⟨h.k, h.n, h.a, h.b, h.c, h.d, h.v⟩
theorem odr {w w' : World} (h : Below w.drew.heap.size w.drew w') : Below w.heap.size w w' := (Below.refl _ w).drew.trans h
theorem EC.dr {w W : World} {p : Nat} {x : Elm} (h : EC w W p x) : EC w W.drew p x := ⟨h.bel.drew, h.e⟩
theorem bale' {w w' : World} (h : Below w.heap.size w w') (o : Obj) : Below w.heap.size w (w'.alloc o) := h.alloc h.size _
theorem ec_at {w W : World} {x : Elm} (h : Below w.heap.size w W) (o : Obj) : EC w ((W.alloc o).alloc (.cells (elA x) 35)) (W.heap.size + 1) x :=
  ⟨(h.alloc h.size _).alloc (by simp; have := h.size; omega) _, by have := heap_alloc_new (W.alloc o) (.cells (elA x) 35); rwa [al_size] at this⟩
set_option maxRecDepth 100000 in
set_option maxHeartbeats 8000000 in
theorem own_walk (w : World) (x : Elm) (hx : x.ok) (s : ByteArray) (hs : s.size ≤ 140737488351232) (P : ByteArray) (hP : P.size ≤ 140737488351232) (Q : ByteArray) (hQ : Q.size ≤ 140737488351232) (v : Nat) (hv : v < 18446744073709551616) (ph : Int) (hph : -9223372036854775808 ≤ ph ∧ ph ≤ 9223372036854775807) :
    Calls Try.prog 5 #[.agg #[.int .u8 (x.k : Int), .string x.n, .string x.a, .string x.b, .string x.c, .string x.d, .int .u64 (x.v : Int), .int .i64 x.ph], .string s, .string P, .string Q, .int .u64 (v : Int), .int .i64 ph] w fun e w' => e = .returned (.bool true) ∧ Below w.heap.size w w' := by
  have HP : Hid (-9223372036854775808 ≤ ph ∧ ph ≤ 9223372036854775807) := hph
  clear hph
  go_enter Try.func5, Try.ntmps5
  go_upto_region 3 with (first
    | (go_at_call 23; (with_reducible refine (awake13 _).mono ?_); rintro e w1 ⟨rfl, hb⟩; (rw [al_size] at hb); (have B1 : Hid (Below w.heap.size w w1) := below_up hb); (obtain ⟨l1, c10, c11, c12, c13, c14, c15, c16, c17⟩ := oin_cells hb); clear hb)
    | (go_at_call 18; (with_reducible refine (element_eq x _).mono ?_); rintro e w2 ⟨rfl, hw⟩; subst w2; unfold elV))
  have Eb : EC w (((w1.alloc (.cells #[.int .u8 (x.k : Int), .string x.n, .string x.a, .string x.b, .string x.c, .string x.d, .int .u64 (x.v : Int), .int .i64 x.ph] 32)).alloc (.cells #[.int .u8 (x.k : Int), .string x.n, .string x.a, .string x.b, .string x.c, .string x.d, .float .f64 x.v, .int .i64 x.ph] 35)).alloc (.cells #[.int .u8 (x.k : Int), .string x.n, .string x.a, .string x.b, .string x.c, .string x.d, .float .f64 x.v, .int .i64 x.ph] 35)).drew (w1.heap.size + 1 + 1) x := by
    have := ec_at (x := x) (bale' B1.out (.cells #[.int .u8 (x.k : Int), .string x.n, .string x.a, .string x.b, .string x.c, .string x.d, .int .u64 (x.v : Int), .int .i64 x.ph] 32)) (.cells #[.int .u8 (x.k : Int), .string x.n, .string x.a, .string x.b, .string x.c, .string x.d, .float .f64 x.v, .int .i64 x.ph] 35)
    rw [al_size] at this
    exact this.dr
  have Hp : Hid (w.heap.size ≤ w1.heap.size) := B1.out.size
  obtain ⟨V0, hV0⟩ : ∃ V0, V0 = (((w1.alloc (.cells #[.int .u8 (x.k : Int), .string x.n, .string x.a, .string x.b, .string x.c, .string x.d, .int .u64 (x.v : Int), .int .i64 x.ph] 32)).alloc (.cells #[.int .u8 (x.k : Int), .string x.n, .string x.a, .string x.b, .string x.c, .string x.d, .float .f64 x.v, .int .i64 x.ph] 35)).alloc (.cells #[.int .u8 (x.k : Int), .string x.n, .string x.a, .string x.b, .string x.c, .string x.d, .float .f64 x.v, .int .i64 x.ph] 35)).drew := ⟨_, rfl⟩
  rw [← hV0] at Eb ⊢
  obtain ⟨p, hp⟩ : ∃ p, p = w1.heap.size + 1 + 1 := ⟨_, rfl⟩
  rw [← hp] at Eb ⊢
  clear hV0 hp c10 c11 c12 c13 c14 c15 c16 c17 l1 B1
  have E0 := Eb
  clear Eb
  obtain ⟨l0, c00, c01, c02, c03, c04, c05, c06, c07⟩ := E0.f
  by_cases hc : chkI x = 0
  · obtain ⟨n1, n2, n3, n4, n5, n6, n7⟩ := name_of hc
    have HC : Hid (chkI x = 0) := hc
    obtain ⟨-, -, na, -⟩ := chk0 hc
    have g1 : (chkI x != 0) = false := by simp [hc]
    have N1 : Hid (nmK x.n = x.k ∧ x.k ≠ 0) := ⟨n1, by omega⟩
    clear n1 hc
    go_upto_region 7 with (first
      | (go_at_call 19; (with_reducible refine (ocheck_w x V0 hx).mono ?_); rintro e V1 ⟨rfl, hb⟩; (have E1 : EC w V1 p x := E0.below hb); (obtain ⟨l1, c10, c11, c12, c13, c14, c15, c16, c17⟩ := E1.f); clear hb c00 c01 c02 c03 c04 c05 c06 c07)
      | (go_at_call 8; (with_reducible refine (oname hx N1.out.1 N1.out.2 V1).mono ?_); rintro e V2 ⟨rfl, hb⟩; (have E2 : EC w V2 p x := E1.below hb); (obtain ⟨l2, c20, c21, c22, c23, c24, c25, c26, c27⟩ := E2.f); clear hb c10 c11 c12 c13 c14 c15 c16 c17)
      | (go_at_call 14; (with_reducible refine (letter_any x.k V2).mono ?_); rintro e V3 ⟨rfl, hb⟩; (have E3 : EC w V3 p x := E2.below hb); (obtain ⟨l3, c30, c31, c32, c33, c34, c35, c36, c37⟩ := E3.f); clear hb c20 c21 c22 c23 c24 c25 c26 c27)
      | (go_at_call 10; (with_reducible refine (oof n2 n3 V3).mono ?_); rintro e V4 ⟨rfl, hb⟩; (have E4 : EC w V4 p x := E3.below hb); (obtain ⟨l4, c40, c41, c42, c43, c44, c45, c46, c47⟩ := E4.f); clear hb c30 c31 c32 c33 c34 c35 c36 c37))
    have hg0 : 0 < x.n.size := by omega
    have hg := byt_get hg0
    rw [n4] at hg
    have hg1 : (0 : Int) < (x.n.size : Int) := by omega
    go_cut [92] from 47 to 92 (fun a V => a = .bool false ∧ EC w V p x)
    case first =>
      go_region_held_law (fun V => V.cell? ⟨p, 0, none⟩ = some (.int .u8 (x.k : Int)) ∧ V.cell? ⟨p, 1, none⟩ = some (.string x.n) ∧ V.cell? ⟨p, 2, none⟩ = some (.string x.a) ∧ V.cell? ⟨p, 3, none⟩ = some (.string x.b) ∧ V.cell? ⟨p, 4, none⟩ = some (.string x.c) ∧ V.cell? ⟨p, 5, none⟩ = some (.string x.d) ∧ V.cell? ⟨p, 6, none⟩ = some (.float .f64 x.v) ∧ V.cell? ⟨p, 7, none⟩ = some (.int .i64 x.ph))
        (first | with_reducible exact E4.f.2 | with_reducible exact E4.dr.f.2 | with_reducible exact E5.f.2 | with_reducible exact E6.f.2 | with_reducible exact E7.f.2 | go_keep)
        (first
        | (go_at_call 14; (with_reducible refine (letter_any x.k _).mono ?_); rintro e V5 ⟨rfl, hb⟩; (have E5 : EC w V5 p x := E4.below (by first | exact hb | exact odr hb)); clear hb)
        | (go_at_call 12; (with_reducible refine (onode hx.a n6 _).mono ?_); rintro e V6 ⟨rfl, hb⟩; (have E6 : EC w V6 p x := E5.below (by first | exact hb | exact odr hb)); clear hb)
        | (go_at_call 12; (with_reducible refine (onode hx.b n7 _).mono ?_); rintro e V7 ⟨rfl, hb⟩; (have E7 : EC w V7 p x := E6.below (by first | exact hb | exact odr hb)); clear hb))
      all_goals go_wp2_with fail
      all_goals go_meet
      all_goals exact ⟨rfl, E7⟩
    case rest =>
      obtain ⟨rfl, E8⟩ := hcut
      clear c40 c41 c42 c43 c44 c45 c46 c47 E0 E1 E2 E3 E4 l0 l1 l2 l3 l4 hg hg1 hg0 n4 n5 n6 n7 na g1
      obtain ⟨l8, c80, c81, c82, c83, c84, c85, c86, c87⟩ := E8.f
      go_upto_region 10 with fail
      go_cut [20] from 95 to 102 (fun a V => a = .bool (phs x.k) ∧ EC w V p x)
      case first =>
        by_cases h4 : x.k = 4
        · have q4 : ((x.k : Int) == 4) = true := by simp; omega
          go_wp2_with fail
          go_meet
          case rel => exact ⟨by rw [phs_of]; simp [h4], E8⟩
        · have q4 : ((x.k : Int) == 4) = false := by simp; omega
          by_cases h5 : x.k = 5
          · have q5 : ((x.k : Int) == 5) = true := by simp; omega
            go_wp2_with fail
            go_meet
            case rel => exact ⟨by rw [phs_of]; simp [h5], E8⟩
          · have q5 : ((x.k : Int) == 5) = false := by simp; omega
            go_wp2_with fail
            go_meet
            case rel => exact ⟨by rw [phs_of]; simp [h4, h5], E8⟩
      case rest =>
        obtain ⟨rfl, E9⟩ := hcut
        clear E8 c80 c81 c82 c83 c84 c85 c86 c87 l8
        obtain ⟨l9, c90, c91, c92, c93, c94, c95, c96, c97⟩ := E9.f
        go_upto_region 11 with fail
        go_cut [21] from 103 to 110 (fun a V => a = .bool (fou x.k) ∧ EC w V p x)
        case first =>
          by_cases h4 : x.k = 6
          · have q4 : ((x.k : Int) == 6) = true := by simp; omega
            go_wp2_with fail
            go_meet
            case rel => exact ⟨by rw [fou_of]; simp [h4], E9⟩
          · have q4 : ((x.k : Int) == 6) = false := by simp; omega
            by_cases h5 : x.k = 7
            · have q5 : ((x.k : Int) == 7) = true := by simp; omega
              go_wp2_with fail
              go_meet
              case rel => exact ⟨by rw [fou_of]; simp [h5], E9⟩
            · have q5 : ((x.k : Int) == 7) = false := by simp; omega
              go_wp2_with fail
              go_meet
              case rel => exact ⟨by rw [fou_of]; simp [h4, h5], E9⟩
        case rest =>
          obtain ⟨rfl, E10⟩ := hcut
          clear E9 c90 c91 c92 c93 c94 c95 c96 c97 l9
          obtain ⟨l10, c100, c101, c102, c103, c104, c105, c106, c107⟩ := E10.f
          go_upto_region 12 with fail
          go_cut [22] from 111 to 118 (fun a V => a = .bool (fnB v) ∧ EC w V p x)
          case first =>
            have HF : Hid (fnB v = (!ifB v && (FloatKind.f64.format.order v v == some .eq))) := fn_of v
            cases hi : ifB v
            · go_wp2_with (first | (go_at_call 25; (with_reducible refine (isinf_any v _ hv).mono ?_); rintro e V9 ⟨rfl, hw⟩; subst V9; rw [hi]))
              go_meet
              case rel => exact ⟨by rw [HF.out, hi]; rfl, E10⟩
            · go_wp2_with (first | (go_at_call 25; (with_reducible refine (isinf_any v _ hv).mono ?_); rintro e V9 ⟨rfl, hw⟩; subst V9; rw [hi]))
              go_meet
              case rel => exact ⟨by rw [HF.out, hi]; rfl, E10⟩
          case rest =>
            obtain ⟨rfl, E11⟩ := hcut
            clear E10 c100 c101 c102 c103 c104 c105 c106 c107 l10
            obtain ⟨l11, c110, c111, c112, c113, c114, c115, c116, c117⟩ := E11.f
            go_upto_if 123 with fail
            have E12 : EC w (wc.alloc (.cells #[.int .u8 (x.k : Int), .string x.n, .string x.a, .string x.b, .string x.c, .string x.d, .float .f64 v, .int .i64 x.ph] 35)) p x := E11.al _
            have F12 : EC w (wc.alloc (.cells #[.int .u8 (x.k : Int), .string x.n, .string x.a, .string x.b, .string x.c, .string x.d, .float .f64 v, .int .i64 x.ph] 35)) wc.heap.size ⟨x.k, x.n, x.a, x.b, x.c, x.d, v, x.ph⟩ := ⟨E12.bel, heap_alloc_new wc _⟩
            have hq : Hid (p ≠ wc.heap.size ∧ w.heap.size ≤ wc.heap.size) := ⟨by omega, E11.bel.size⟩
            obtain ⟨V12, hV12⟩ : ∃ V12, V12 = wc.alloc (.cells #[.int .u8 (x.k : Int), .string x.n, .string x.a, .string x.b, .string x.c, .string x.d, .float .f64 v, .int .i64 x.ph] 35) := ⟨_, rfl⟩
            rw [← hV12] at E12 F12 ⊢
            obtain ⟨q, hqe⟩ : ∃ q, q = wc.heap.size := ⟨_, rfl⟩
            rw [← hqe] at F12 hq ⊢
            clear hV12 hqe E11 c110 c111 c112 c113 c114 c115 c116 c117 l11
            go_cut [20, 21, 22, 24] from 122 to 134 (fun b1 b2 b3 a V => b1 = .bool (phs x.k) ∧ b2 = .bool (fou x.k) ∧ b3 = .bool (fnB v) ∧ a = .int .i64 (wantI x.k v) ∧ EC w V p x ∧ EC w V q ⟨x.k, x.n, x.a, x.b, x.c, x.d, v, x.ph⟩)
            case first =>
              have ha := abv_of n2 n3
              cases hf : fnB v
              · have hw : wantI x.k v = 5 := by unfold wantI; rw [if_pos]; unfold fnB at hf; simpa using hf
                go_wp2_with fail
                go_meet
                case rel => exact ⟨rfl, rfl, by simp only [hf], by rw [hw], E12, F12⟩
              · have hk : ¬ 2 < kdB v := by unfold fnB at hf; simpa using hf
                have hz := gt_zero (kd_fin hk)
                have hw : wantI x.k v = if abv x.k = true ∧ posV v = false then 2 else 0 := by unfold wantI; rw [if_neg hk]
                cases hs1 : phs x.k
                · cases hs2 : fou x.k
                  · rw [hs1, hs2] at ha
                    cases hp : posV v
                    · rw [hp] at hz
                      have hw2 : wantI x.k v = 2 := by rw [hw, if_pos ⟨ha, hp⟩]
                      go_wp2_with fail
                      go_meet
                      case rel => exact ⟨(by first | rfl | simp only [hf] | simp only [hs1] | simp only [hs2]), (by first | rfl | simp only [hf] | simp only [hs1] | simp only [hs2]), (by first | rfl | simp only [hf] | simp only [hs1] | simp only [hs2]), by rw [hw2], E12, F12⟩
                    · rw [hp] at hz
                      have hw2 : wantI x.k v = 0 := by rw [hw, if_neg (by rw [hp]; simp)]
                      go_wp2_with fail
                      go_meet
                      case rel => exact ⟨(by first | rfl | simp only [hf] | simp only [hs1] | simp only [hs2]), (by first | rfl | simp only [hf] | simp only [hs1] | simp only [hs2]), (by first | rfl | simp only [hf] | simp only [hs1] | simp only [hs2]), by rw [hw2], E12, F12⟩
                  · rw [hs1, hs2] at ha
                    have hw2 : wantI x.k v = 0 := by rw [hw, if_neg (by rw [ha]; simp)]
                    go_wp2_with fail
                    go_meet
                    case rel => exact ⟨(by first | rfl | simp only [hf] | simp only [hs1] | simp only [hs2]), (by first | rfl | simp only [hf] | simp only [hs1] | simp only [hs2]), (by first | rfl | simp only [hf] | simp only [hs1] | simp only [hs2]), by rw [hw2], E12, F12⟩
                · rw [hs1] at ha
                  have hw2 : wantI x.k v = 0 := by rw [hw, if_neg (by rw [ha]; simp)]
                  go_wp2_with fail
                  go_meet
                  case rel => exact ⟨(by first | rfl | simp only [hf] | simp only [hs1] | simp only [hs2]), (by first | rfl | simp only [hf] | simp only [hs1] | simp only [hs2]), (by first | rfl | simp only [hf] | simp only [hs1] | simp only [hs2]), by rw [hw2], E12, F12⟩
            case rest =>
              obtain ⟨rfl, rfl, rfl, rfl, E13, F13⟩ := hcut
              clear E12 F12
              obtain ⟨l13, c130, c131, c132, c133, c134, c135, c136, c137⟩ := E13.f
              obtain ⟨m13, d130, d131, d132, d133, d134, d135, d136, d137⟩ := F13.f
              have gw : (wantI x.k v != wantI x.k v) = false := by simp
              have hpq := hq.out.1
              have hqp : q ≠ p := fun e => hpq e.symm
              go_upto_region 24 with (first
                | (go_at_call 19; (with_reducible refine (ocheck1 hx HC.out hv wc).mono ?_); rintro e V14 ⟨rfl, hb⟩; (have E14 := E13.below hb); (have F14 := F13.below hb); (obtain ⟨l14, c140, c141, c142, c143, c144, c145, c146, c147⟩ := E14.f); (obtain ⟨m14, d140, d141, d142, d143, d144, d145, d146, d147⟩ := F14.f); (obtain ⟨z140, z141, z142, z143, z144, z145, z146, z147⟩ := F14.fz); clear hb c130 c131 c132 c133 c134 c135 c136 c137 d130 d131 d132 d133 d134 d135 d136 d137))
              have C14 := own_c2 E14 F14 hq.out s
              obtain ⟨E15, F15⟩ := C14
              obtain ⟨V15, hV15⟩ : ∃ V15, V15 = (set8 V14 q (.int .u8 (x.k : Int)) (.string x.n) (.string x.a) (.string x.b) (.string x.c) (.string x.d) (.float .f64 x.v) (.int .i64 x.ph)).setCell ⟨q, 1, none⟩ (.string s) := ⟨_, rfl⟩
              rw [← hV15] at E15 F15
              unfold set8 at hV15
              rw [← hV15]
              clear hV15 E13 F13 E14 F14 c140 c141 c142 c143 c144 c145 c146 c147 d140 d141 d142 d143 d144 d145 d146 d147 z140 z141 z142 z143 z144 z145 z146 z147
              obtain ⟨l15, c150, c151, c152, c153, c154, c155, c156, c157⟩ := E15.f
              obtain ⟨m15, d150, d151, d152, d153, d154, d155, d156, d157⟩ := F15.f
              go_upto_region 25 with (first
                | (go_at_call 8; (with_reducible refine (name_any s V15 hs).mono ?_); rintro e V16 ⟨rfl, hb⟩; (have E16 := E15.below hb); (have F16 := F15.below hb); (obtain ⟨l16, c160, c161, c162, c163, c164, c165, c166, c167⟩ := E16.f); (obtain ⟨m16, d160, d161, d162, d163, d164, d165, d166, d167⟩ := F16.f); clear hb c150 c151 c152 c153 c154 c155 c156 c157 d150 d151 d152 d153 d154 d155 d156 d157 E15 F15))
              have G := own2 HC.out s
              go_cut [25, 26, 157] from 142 to 157 (fun _ _ a V => a = .bool false ∧ EC w V p x ∧ EC w V q ⟨x.k, s, x.a, x.b, x.c, x.d, x.v, x.ph⟩)
              case first =>
                cases h1 : (nmK s != 0)
                · rw [h1] at G
                  simp only [Bool.false_and] at G
                  go_wp2_with (first | (go_at_call 19; (with_reducible refine (ocheck2 hx hs V16).mono ?_); rintro e Va ⟨rfl, hb⟩; (have Ea := E16.below hb); (have Fa := F16.below hb); (obtain ⟨la, ka0, ka1, ka2, ka3, ka4, ka5, ka6, ka7⟩ := Ea.f); clear hb))
                  go_meet
                  case rel => exact ⟨rfl, Ea, Fa⟩
                · cases h2 : (nmK s == x.k)
                  · have h3 : ((nmK s : Int) == (x.k : Int)) = false := by rw [natCast_beq]; exact h2
                    rw [h1, h2] at G
                    simp only [Bool.true_and] at G
                    go_wp2_with (first | (go_at_call 19; (with_reducible refine (ocheck2 hx hs V16).mono ?_); rintro e Va ⟨rfl, hb⟩; (have Ea := E16.below hb); (have Fa := F16.below hb); (obtain ⟨la, ka0, ka1, ka2, ka3, ka4, ka5, ka6, ka7⟩ := Ea.f); clear hb))
                    go_meet
                    case rel => exact ⟨rfl, Ea, Fa⟩
                  · have h3 : ((nmK s : Int) == (x.k : Int)) = true := by rw [natCast_beq]; exact h2
                    rw [h1, h2] at G
                    simp only [Bool.true_and] at G
                    go_wp2_with (first | (go_at_call 19; (with_reducible refine (ocheck2 hx hs V16).mono ?_); rintro e Va ⟨rfl, hb⟩; (have Ea := E16.below hb); (have Fa := F16.below hb); (obtain ⟨la, ka0, ka1, ka2, ka3, ka4, ka5, ka6, ka7⟩ := Ea.f); clear hb))
                    go_meet
                    case rel => exact ⟨rfl, Ea, Fa⟩
              case rest =>
                obtain ⟨rfl, E17, F17⟩ := hcut
                clear E16 F16 c160 c161 c162 c163 c164 c165 c166 c167 d160 d161 d162 d163 d164 d165 d166 d167 G
                obtain ⟨l17, c170, c171, c172, c173, c174, c175, c176, c177⟩ := E17.f
                obtain ⟨m17, d170, d171, d172, d173, d174, d175, d176, d177⟩ := F17.f
                obtain ⟨z170, z171, z172, z173, z174, z175, z176, z177⟩ := F17.fz
                go_upto_region 29 with fail
                obtain ⟨E18, F18⟩ := own_c3 E17 F17 hq.out P Q
                obtain ⟨V18, hV18⟩ : ∃ V18, V18 = (((set8 wc q (.int .u8 (x.k : Int)) (.string x.n) (.string x.a) (.string x.b) (.string x.c) (.string x.d) (.float .f64 x.v) (.int .i64 x.ph)).setCell ⟨q, 2, none⟩ (.string P)).setCell ⟨q, 3, none⟩ (.string Q)) := ⟨_, rfl⟩
                rw [← hV18] at E18 F18
                unfold set8 at hV18
                rw [← hV18]
                clear hV18 E17 F17 c170 c171 c172 c173 c174 c175 c176 c177 d170 d171 d172 d173 d174 d175 d176 d177 z170 z171 z172 z173 z174 z175 z176 z177
                obtain ⟨l18, c180, c181, c182, c183, c184, c185, c186, c187⟩ := E18.f
                obtain ⟨m18, d180, d181, d182, d183, d184, d185, d186, d187⟩ := F18.f
                have G := own3 HC.out P Q
                simp only [bne] at G
                go_cut [177] from 163 to 177 (fun a V => a = .bool false ∧ EC w V p x ∧ EC w V q ⟨x.k, x.n, P, Q, x.c, x.d, x.v, x.ph⟩)
                case first =>
                  cases h1 : ndF P
                  · rw [h1] at G
                    simp only [Bool.false_and] at G
                    go_wp2_with (first
                      | (go_at_call 19; (with_reducible refine (ocheck3 hx hP hQ V18).mono ?_); rintro e Va ⟨rfl, hb⟩; (have Ea := E18.below hb); (have Fa := F18.below hb); (obtain ⟨la, ka0, ka1, ka2, ka3, ka4, ka5, ka6, ka7⟩ := Ea.f); clear hb)
                      | (go_at_call 12; (with_reducible refine (node_any P Va hP).mono ?_); rintro e Vb ⟨rfl, hb⟩; (have Eb := Ea.below hb); (have Fb := Fa.below hb); clear hb)
                      | (go_at_call 12; (with_reducible refine (node_any Q Vb hQ).mono ?_); rintro e Vc ⟨rfl, hb⟩; (have Ec := Eb.below hb); (have Fc := Fb.below hb); clear hb))
                    go_meet
                    case rel => first | exact ⟨rfl, Ec, Fc⟩ | exact ⟨rfl, Eb, Fb⟩ | exact ⟨rfl, Ea, Fa⟩
                  · cases h2 : ndF Q
                    · rw [h1, h2] at G
                      simp only [Bool.true_and, Bool.false_and] at G
                      go_wp2_with (first
                        | (go_at_call 19; (with_reducible refine (ocheck3 hx hP hQ V18).mono ?_); rintro e Va ⟨rfl, hb⟩; (have Ea := E18.below hb); (have Fa := F18.below hb); (obtain ⟨la, ka0, ka1, ka2, ka3, ka4, ka5, ka6, ka7⟩ := Ea.f); clear hb)
                        | (go_at_call 12; (with_reducible refine (node_any P Va hP).mono ?_); rintro e Vb ⟨rfl, hb⟩; (have Eb := Ea.below hb); (have Fb := Fa.below hb); clear hb)
                        | (go_at_call 12; (with_reducible refine (node_any Q Vb hQ).mono ?_); rintro e Vc ⟨rfl, hb⟩; (have Ec := Eb.below hb); (have Fc := Fb.below hb); clear hb))
                      go_meet
                      case rel => first | exact ⟨rfl, Ec, Fc⟩ | exact ⟨rfl, Eb, Fb⟩ | exact ⟨rfl, Ea, Fa⟩
                    · cases h3 : (P.toList == Q.toList)
                      · rw [h1, h2, h3] at G
                        simp only [Bool.true_and, Bool.not_false] at G
                        go_wp2_with (first
                          | (go_at_call 19; (with_reducible refine (ocheck3 hx hP hQ V18).mono ?_); rintro e Va ⟨rfl, hb⟩; (have Ea := E18.below hb); (have Fa := F18.below hb); (obtain ⟨la, ka0, ka1, ka2, ka3, ka4, ka5, ka6, ka7⟩ := Ea.f); clear hb)
                          | (go_at_call 12; (with_reducible refine (node_any P Va hP).mono ?_); rintro e Vb ⟨rfl, hb⟩; (have Eb := Ea.below hb); (have Fb := Fa.below hb); clear hb)
                          | (go_at_call 12; (with_reducible refine (node_any Q Vb hQ).mono ?_); rintro e Vc ⟨rfl, hb⟩; (have Ec := Eb.below hb); (have Fc := Fb.below hb); clear hb))
                        go_meet
                        case rel => first | exact ⟨rfl, Ec, Fc⟩ | exact ⟨rfl, Eb, Fb⟩ | exact ⟨rfl, Ea, Fa⟩
                      · rw [h1, h2, h3] at G
                        simp only [Bool.true_and, Bool.not_true] at G
                        go_wp2_with (first
                          | (go_at_call 19; (with_reducible refine (ocheck3 hx hP hQ V18).mono ?_); rintro e Va ⟨rfl, hb⟩; (have Ea := E18.below hb); (have Fa := F18.below hb); (obtain ⟨la, ka0, ka1, ka2, ka3, ka4, ka5, ka6, ka7⟩ := Ea.f); clear hb)
                          | (go_at_call 12; (with_reducible refine (node_any P Va hP).mono ?_); rintro e Vb ⟨rfl, hb⟩; (have Eb := Ea.below hb); (have Fb := Fa.below hb); clear hb)
                          | (go_at_call 12; (with_reducible refine (node_any Q Vb hQ).mono ?_); rintro e Vc ⟨rfl, hb⟩; (have Ec := Eb.below hb); (have Fc := Fb.below hb); clear hb))
                        go_meet
                        case rel => first | exact ⟨rfl, Ec, Fc⟩ | exact ⟨rfl, Eb, Fb⟩ | exact ⟨rfl, Ea, Fa⟩
                case rest =>
                  obtain ⟨rfl, E19, F19⟩ := hcut
                  clear E18 F18 c180 c181 c182 c183 c184 c185 c186 c187 d180 d181 d182 d183 d184 d185 d186 d187 G
                  obtain ⟨l19, c190, c191, c192, c193, c194, c195, c196, c197⟩ := E19.f
                  obtain ⟨m19, d190, d191, d192, d193, d194, d195, d196, d197⟩ := F19.f
                  obtain ⟨z190, z191, z192, z193, z194, z195, z196, z197⟩ := F19.fz
                  go_upto_region 33 with fail
                  obtain ⟨E20, F20⟩ := own_c4 E19 F19 hq.out P Q
                  obtain ⟨V20, hV20⟩ : ∃ V20, V20 = (((set8 wc q (.int .u8 (x.k : Int)) (.string x.n) (.string x.a) (.string x.b) (.string x.c) (.string x.d) (.float .f64 x.v) (.int .i64 x.ph)).setCell ⟨q, 4, none⟩ (.string P)).setCell ⟨q, 5, none⟩ (.string Q)) := ⟨_, rfl⟩
                  rw [← hV20] at E20 F20
                  unfold set8 at hV20
                  rw [← hV20]
                  clear hV20 E19 F19 c190 c191 c192 c193 c194 c195 c196 c197 d190 d191 d192 d193 d194 d195 d196 d197 z190 z191 z192 z193 z194 z195 z196 z197
                  obtain ⟨l20, c200, c201, c202, c203, c204, c205, c206, c207⟩ := E20.f
                  obtain ⟨m20, d200, d201, d202, d203, d204, d205, d206, d207⟩ := F20.f
                  have G := own4 HC.out P Q
                  go_cut [21, 207] from 183 to 207 (fun b a V => b = .bool (fou x.k) ∧ a = .bool false ∧ EC w V p x ∧ EC w V q ⟨x.k, x.n, x.a, x.b, P, Q, x.v, x.ph⟩)
                  case first =>
                    cases h0 : fou x.k
                    · rw [h0] at G
                      simp only [Bool.false_and, Bool.not_false, Bool.true_and, Bool.false_or] at G
                      cases h1 : P.toList.isEmpty
                      · rw [h1] at G
                        simp only [Bool.false_and] at G
                        go_wp2_with (first
                          | (go_at_call 19; (with_reducible refine (ocheck4 hx hP hQ V20).mono ?_); rintro e Va ⟨rfl, hb⟩; (have Ea := E20.below hb); (have Fa := F20.below hb); (obtain ⟨la, ka0, ka1, ka2, ka3, ka4, ka5, ka6, ka7⟩ := Ea.f); clear hb)
                          | (go_at_call 12; (with_reducible refine (node_any P Va hP).mono ?_); rintro e Vb ⟨rfl, hb⟩; (have Eb := Ea.below hb); (have Fb := Fa.below hb); clear hb)
                          | (go_at_call 12; (with_reducible refine (node_any Q Vb hQ).mono ?_); rintro e Vc ⟨rfl, hb⟩; (have Ec := Eb.below hb); (have Fc := Fb.below hb); clear hb))
                        go_meet
                        case rel => first | exact ⟨by rw [h0], rfl, Ec, Fc⟩ | exact ⟨by rw [h0], rfl, Eb, Fb⟩ | exact ⟨by rw [h0], rfl, Ea, Fa⟩
                      · cases h2 : Q.toList.isEmpty
                        · rw [h1, h2] at G
                          simp only [Bool.true_and] at G
                          go_wp2_with (first
                            | (go_at_call 19; (with_reducible refine (ocheck4 hx hP hQ V20).mono ?_); rintro e Va ⟨rfl, hb⟩; (have Ea := E20.below hb); (have Fa := F20.below hb); (obtain ⟨la, ka0, ka1, ka2, ka3, ka4, ka5, ka6, ka7⟩ := Ea.f); clear hb)
                            | (go_at_call 12; (with_reducible refine (node_any P Va hP).mono ?_); rintro e Vb ⟨rfl, hb⟩; (have Eb := Ea.below hb); (have Fb := Fa.below hb); clear hb)
                            | (go_at_call 12; (with_reducible refine (node_any Q Vb hQ).mono ?_); rintro e Vc ⟨rfl, hb⟩; (have Ec := Eb.below hb); (have Fc := Fb.below hb); clear hb))
                          go_meet
                          case rel => first | exact ⟨by rw [h0], rfl, Ec, Fc⟩ | exact ⟨by rw [h0], rfl, Eb, Fb⟩ | exact ⟨by rw [h0], rfl, Ea, Fa⟩
                        · rw [h1, h2] at G
                          simp only [Bool.true_and] at G
                          go_wp2_with (first
                            | (go_at_call 19; (with_reducible refine (ocheck4 hx hP hQ V20).mono ?_); rintro e Va ⟨rfl, hb⟩; (have Ea := E20.below hb); (have Fa := F20.below hb); (obtain ⟨la, ka0, ka1, ka2, ka3, ka4, ka5, ka6, ka7⟩ := Ea.f); clear hb)
                            | (go_at_call 12; (with_reducible refine (node_any P Va hP).mono ?_); rintro e Vb ⟨rfl, hb⟩; (have Eb := Ea.below hb); (have Fb := Fa.below hb); clear hb)
                            | (go_at_call 12; (with_reducible refine (node_any Q Vb hQ).mono ?_); rintro e Vc ⟨rfl, hb⟩; (have Ec := Eb.below hb); (have Fc := Fb.below hb); clear hb))
                          go_meet
                          case rel => first | exact ⟨by rw [h0], rfl, Ec, Fc⟩ | exact ⟨by rw [h0], rfl, Eb, Fb⟩ | exact ⟨by rw [h0], rfl, Ea, Fa⟩
                    · rw [h0] at G
                      simp only [Bool.not_true, Bool.true_and, Bool.false_and, Bool.or_false] at G
                      cases h1 : ndF P
                      · rw [h1] at G
                        simp only [Bool.false_and] at G
                        go_wp2_with (first
                          | (go_at_call 19; (with_reducible refine (ocheck4 hx hP hQ V20).mono ?_); rintro e Va ⟨rfl, hb⟩; (have Ea := E20.below hb); (have Fa := F20.below hb); (obtain ⟨la, ka0, ka1, ka2, ka3, ka4, ka5, ka6, ka7⟩ := Ea.f); clear hb)
                          | (go_at_call 12; (with_reducible refine (node_any P Va hP).mono ?_); rintro e Vb ⟨rfl, hb⟩; (have Eb := Ea.below hb); (have Fb := Fa.below hb); clear hb)
                          | (go_at_call 12; (with_reducible refine (node_any Q Vb hQ).mono ?_); rintro e Vc ⟨rfl, hb⟩; (have Ec := Eb.below hb); (have Fc := Fb.below hb); clear hb))
                        go_meet
                        case rel => first | exact ⟨by rw [h0], rfl, Ec, Fc⟩ | exact ⟨by rw [h0], rfl, Eb, Fb⟩ | exact ⟨by rw [h0], rfl, Ea, Fa⟩
                      · cases h2 : ndF Q
                        · rw [h1, h2] at G
                          simp only [Bool.true_and] at G
                          go_wp2_with (first
                            | (go_at_call 19; (with_reducible refine (ocheck4 hx hP hQ V20).mono ?_); rintro e Va ⟨rfl, hb⟩; (have Ea := E20.below hb); (have Fa := F20.below hb); (obtain ⟨la, ka0, ka1, ka2, ka3, ka4, ka5, ka6, ka7⟩ := Ea.f); clear hb)
                            | (go_at_call 12; (with_reducible refine (node_any P Va hP).mono ?_); rintro e Vb ⟨rfl, hb⟩; (have Eb := Ea.below hb); (have Fb := Fa.below hb); clear hb)
                            | (go_at_call 12; (with_reducible refine (node_any Q Vb hQ).mono ?_); rintro e Vc ⟨rfl, hb⟩; (have Ec := Eb.below hb); (have Fc := Fb.below hb); clear hb))
                          go_meet
                          case rel => first | exact ⟨by rw [h0], rfl, Ec, Fc⟩ | exact ⟨by rw [h0], rfl, Eb, Fb⟩ | exact ⟨by rw [h0], rfl, Ea, Fa⟩
                        · rw [h1, h2] at G
                          simp only [Bool.true_and] at G
                          go_wp2_with (first
                            | (go_at_call 19; (with_reducible refine (ocheck4 hx hP hQ V20).mono ?_); rintro e Va ⟨rfl, hb⟩; (have Ea := E20.below hb); (have Fa := F20.below hb); (obtain ⟨la, ka0, ka1, ka2, ka3, ka4, ka5, ka6, ka7⟩ := Ea.f); clear hb)
                            | (go_at_call 12; (with_reducible refine (node_any P Va hP).mono ?_); rintro e Vb ⟨rfl, hb⟩; (have Eb := Ea.below hb); (have Fb := Fa.below hb); clear hb)
                            | (go_at_call 12; (with_reducible refine (node_any Q Vb hQ).mono ?_); rintro e Vc ⟨rfl, hb⟩; (have Ec := Eb.below hb); (have Fc := Fb.below hb); clear hb))
                          go_meet
                          case rel => first | exact ⟨by rw [h0], rfl, Ec, Fc⟩ | exact ⟨by rw [h0], rfl, Eb, Fb⟩ | exact ⟨by rw [h0], rfl, Ea, Fa⟩
                  case rest =>
                    obtain ⟨rfl, rfl, E21, F21⟩ := hcut
                    clear E20 F20 c200 c201 c202 c203 c204 c205 c206 c207 d200 d201 d202 d203 d204 d205 d206 d207 G
                    obtain ⟨l21, c210, c211, c212, c213, c214, c215, c216, c217⟩ := E21.f
                    obtain ⟨m21, d210, d211, d212, d213, d214, d215, d216, d217⟩ := F21.f
                    obtain ⟨z210, z211, z212, z213, z214, z215, z216, z217⟩ := F21.fz
                    go_upto_region 37 with fail
                    obtain ⟨E22, F22⟩ := own_c5 E21 F21 hq.out ph
                    obtain ⟨V22, hV22⟩ : ∃ V22, V22 = ((set8 wc q (.int .u8 (x.k : Int)) (.string x.n) (.string x.a) (.string x.b) (.string x.c) (.string x.d) (.float .f64 x.v) (.int .i64 x.ph)).setCell ⟨q, 7, none⟩ (.int .i64 ph)) := ⟨_, rfl⟩
                    rw [← hV22] at E22 F22
                    unfold set8 at hV22
                    rw [← hV22]
                    clear hV22 E21 F21 c210 c211 c212 c213 c214 c215 c216 c217 d210 d211 d212 d213 d214 d215 d216 d217 z210 z211 z212 z213 z214 z215 z216 z217
                    obtain ⟨l22, c220, c221, c222, c223, c224, c225, c226, c227⟩ := E22.f
                    obtain ⟨m22, d220, d221, d222, d223, d224, d225, d226, d227⟩ := F22.f
                    have G := own5 HC.out ph
                    cases h1 : phs x.k
                    · cases h2 : (ph == 0)
                      · rw [h1, h2] at G
                        simp only [Bool.false_or] at G
                        go_wp2_with (first
                          | (go_at_call 19; (with_reducible refine (ocheck5 hx V22 (ph := ph)).mono ?_); rintro e Va ⟨rfl, hb⟩; (have Ea := E22.below hb); (have Fa := F22.below hb); (obtain ⟨la, ka0, ka1, ka2, ka3, ka4, ka5, ka6, ka7⟩ := Ea.f); clear hb))
                        go_ret
                        exact ⟨rfl, Ea.bel⟩
                      · rw [h1, h2] at G
                        simp only [Bool.false_or] at G
                        go_wp2_with (first
                          | (go_at_call 19; (with_reducible refine (ocheck5 hx V22 (ph := ph)).mono ?_); rintro e Va ⟨rfl, hb⟩; (have Ea := E22.below hb); (have Fa := F22.below hb); (obtain ⟨la, ka0, ka1, ka2, ka3, ka4, ka5, ka6, ka7⟩ := Ea.f); clear hb))
                        go_ret
                        exact ⟨rfl, Ea.bel⟩
                    · rw [h1] at G
                      simp only [Bool.true_or] at G
                      go_wp2_with (first
                        | (go_at_call 19; (with_reducible refine (ocheck5 hx V22 (ph := ph)).mono ?_); rintro e Va ⟨rfl, hb⟩; (have Ea := E22.below hb); (have Fa := F22.below hb); (obtain ⟨la, ka0, ka1, ka2, ka3, ka4, ka5, ka6, ka7⟩ := Ea.f); clear hb))
                      go_ret
                      exact ⟨rfl, Ea.bel⟩
  · have g1 : (chkI x != 0) = true := by simp [hc]
    clear hc
    go_wp2_with (first | (go_at_call 19; (with_reducible refine (ocheck_w x V0 hx).mono ?_); rintro e V1 ⟨rfl, hb⟩; (have E1 : EC w V1 p x := E0.below hb); (obtain ⟨l1, c10, c11, c12, c13, c14, c15, c16, c17⟩ := E1.f); clear hb c00 c01 c02 c03 c04 c05 c06 c07))
    go_ret
    exact ⟨rfl, E1.bel⟩
end Go.Proofs.Ytbmoilgiifondaa
