/-
  The walk of ValueChecks.
-/
import Derived.Test.YtbmoilgiifondaaElk
import Derived.Test.YtbmoilgiifondaaElh
import Derived.Deep.Cut
import Derived.Deep.DeepCutAuto
namespace Go.Proofs.Ytbmoilgiifondaa
open Fl RowKit
set_option linter.unusedVariables false

theorem bal {w w' : World} (h : Below w.heap.size w w') (o : Obj) : Below w.heap.size w (w'.alloc o) := h.alloc h.size _
theorem at_dr {w : World} {p : Nat} {o : Obj} (h : w.heap[p]? = some o) : w.drew.heap[p]? = some o := h
theorem at_new {w : World} {p : Nat} {c : Array Value} {t : TypeId} (h : p = w.heap.size) : (w.alloc (.cells c t)).heap[p]? = some (.cells c t (0, 0)) := by rw [h]; exact heap_alloc_new w _
theorem at_old {w : World} {p : Nat} {o u : Obj} (h : w.heap[p]? = some u) : (w.alloc o).heap[p]? = some u := by
  have := (Array.getElem?_eq_some_iff.1 h).1
  rw [((Below.refl _ w).alloc (Nat.le_refl _) o).block p this]; exact h
theorem check_w (x : Elm) (w : World) (h : x.ok) : Calls Try.prog 19 #[.agg #[.int .u8 (x.k : Int), .string x.n, .string x.a, .string x.b, .string x.c, .string x.d, .float .f64 x.v, .int .i64 x.ph]] w fun e w' => e = .returned (.int .i64 (chkI x)) ∧ Below w.heap.size w w' := check_any x w h
theorem rcheck_w (x : Elm) (w : World) (h : x.ok) : Calls Try.prog 20 #[.agg #[.int .u8 (x.k : Int), .string x.n, .string x.a, .string x.b, .string x.c, .string x.d, .float .f64 x.v, .int .i64 x.ph]] w fun e w' => e = .returned (.int .i64 (chkI x)) ∧ Below w.heap.size w w' := rcheck_any x w h
theorem vsame_w (x y : Elm) (w : World) : Calls Try.prog 21 #[.agg #[.int .u8 (x.k : Int), .string x.n, .string x.a, .string x.b, .string x.c, .string x.d, .float .f64 x.v, .int .i64 x.ph], .agg #[.int .u8 (y.k : Int), .string y.n, .string y.a, .string y.b, .string y.c, .string y.d, .float .f64 y.v, .int .i64 y.ph]] w fun e w' => e = .returned (.bool (seF x y)) ∧ Below w.heap.size w w' := vsame_any x y w
theorem rvsame_w (x y : Elm) (w : World) : Calls Try.prog 22 #[.agg #[.int .u8 (x.k : Int), .string x.n, .string x.a, .string x.b, .string x.c, .string x.d, .float .f64 x.v, .int .i64 x.ph], .agg #[.int .u8 (y.k : Int), .string y.n, .string y.a, .string y.b, .string y.c, .string y.d, .float .f64 y.v, .int .i64 y.ph]] w fun e w' => e = .returned (.bool (seF x y)) ∧ Below w.heap.size w w' := rvsame_any x y w
theorem smB_self (v : Nat) : smB v v = true := by unfold smB; cases nan v <;> simp
theorem seF_self (x : Elm) : seF x x = true := by simp [seF, smB_self]
theorem undr {w w' : World} (h : Below w.drew.heap.size w.drew w') : Below w.heap.size w w' := (Below.refl _ w).drew.trans h
theorem EC.drew {w W : World} {p : Nat} {x : Elm} (h : EC w W p x) : EC w W.drew p x := ⟨h.bel.drew, h.e⟩
theorem s_of {w W : World} {p q : Nat} {x y : Elm} (h : EC w W p x) (h2 : EC w W q y) : (W.cell? ⟨p, 0, none⟩ = some (.int .u8 (x.k : Int)) ∧ W.cell? ⟨p, 1, none⟩ = some (.string x.n) ∧ W.cell? ⟨p, 2, none⟩ = some (.string x.a) ∧ W.cell? ⟨p, 3, none⟩ = some (.string x.b) ∧ W.cell? ⟨p, 4, none⟩ = some (.string x.c) ∧ W.cell? ⟨p, 5, none⟩ = some (.string x.d) ∧ W.cell? ⟨p, 6, none⟩ = some (.float .f64 x.v) ∧ W.cell? ⟨p, 7, none⟩ = some (.int .i64 x.ph)) ∧ (W.cell? ⟨q, 0, none⟩ = some (.int .u8 (y.k : Int)) ∧ W.cell? ⟨q, 1, none⟩ = some (.string y.n) ∧ W.cell? ⟨q, 2, none⟩ = some (.string y.a) ∧ W.cell? ⟨q, 3, none⟩ = some (.string y.b) ∧ W.cell? ⟨q, 4, none⟩ = some (.string y.c) ∧ W.cell? ⟨q, 5, none⟩ = some (.string y.d) ∧ W.cell? ⟨q, 6, none⟩ = some (.float .f64 y.v) ∧ W.cell? ⟨q, 7, none⟩ = some (.int .i64 y.ph)) := ⟨h.f.2, h2.f.2⟩
set_option maxRecDepth 100000 in
set_option maxHeartbeats 4000000 in
theorem checks_walk (w : World) (x : Elm) (hx : x.ok) (y : Elm) (hy : y.ok) :
    Calls Try.prog 4 #[.agg #[.int .u8 (x.k : Int), .string x.n, .string x.a, .string x.b, .string x.c, .string x.d, .int .u64 (x.v : Int), .int .i64 x.ph], .agg #[.int .u8 (y.k : Int), .string y.n, .string y.a, .string y.b, .string y.c, .string y.d, .int .u64 (y.v : Int), .int .i64 y.ph]] w fun e w' => e = .returned (.bool true) ∧ Below w.heap.size w w' := by
  go_enter Try.func4, Try.ntmps4
  go_wp2_with fail
  go_cut [5, 6] (fun px py wc => ∃ p q : Nat, px = .pointer (some ⟨p, 0, none⟩) ∧ py = .pointer (some ⟨q, 0, none⟩) ∧ EC w wc p x ∧ EC w wc q y)
  case first =>
    go_region_held_law (fun V => V.cell? ⟨w.heap.size, 0, none⟩ = some (.int .u8 (x.k : Int)) ∧ V.cell? ⟨w.heap.size, 1, none⟩ = some (.string x.n) ∧ V.cell? ⟨w.heap.size, 2, none⟩ = some (.string x.a) ∧ V.cell? ⟨w.heap.size, 3, none⟩ = some (.string x.b) ∧ V.cell? ⟨w.heap.size, 4, none⟩ = some (.string x.c) ∧ V.cell? ⟨w.heap.size, 5, none⟩ = some (.string x.d) ∧ V.cell? ⟨w.heap.size, 6, none⟩ = some (.int .u64 (x.v : Int)) ∧ V.cell? ⟨w.heap.size, 7, none⟩ = some (.int .i64 x.ph) ∧ V.cell? ⟨w.heap.size + 1, 0, none⟩ = some (.int .u8 (y.k : Int)) ∧ V.cell? ⟨w.heap.size + 1, 1, none⟩ = some (.string y.n) ∧ V.cell? ⟨w.heap.size + 1, 2, none⟩ = some (.string y.a) ∧ V.cell? ⟨w.heap.size + 1, 3, none⟩ = some (.string y.b) ∧ V.cell? ⟨w.heap.size + 1, 4, none⟩ = some (.string y.c) ∧ V.cell? ⟨w.heap.size + 1, 5, none⟩ = some (.string y.d) ∧ V.cell? ⟨w.heap.size + 1, 6, none⟩ = some (.int .u64 (y.v : Int)) ∧ V.cell? ⟨w.heap.size + 1, 7, none⟩ = some (.int .i64 y.ph))
      (first | (simp [go_sem]; done) | go_keep)
      (first
        | (go_at_call 18; (with_reducible refine (element_eq x _).mono ?_); rintro e w1 ⟨rfl, rfl⟩; unfold elV)
        | (go_at_call 18; (with_reducible refine (element_eq y _).mono ?_); rintro e w1 ⟨rfl, rfl⟩; unfold elV))
    all_goals rename_i hHeld
    all_goals clear hHeld
    all_goals go_wp2_with fail
    all_goals go_meet
    all_goals refine ⟨_, _, rfl, rfl, ⟨?_, ?_⟩, ⟨?_, ?_⟩⟩
    all_goals (try unfold elA)
    all_goals (repeat first | with_reducible exact Below.refl _ _ | with_reducible refine bal ?_ _ | with_reducible refine Below.drew ?_ | (with_reducible refine at_new ?_; simp; done) | with_reducible refine at_old ?_ | with_reducible refine at_dr ?_)
  case rest =>
    obtain ⟨p, q, rfl, rfl, X0, Y0⟩ := hcut
    have g1 : (chkI x == chkI x) = true := by simp
    have g2 : (seF x y == seF x y) = true := by simp
    have g3 := seF_self x
    go_wp2_with fail
    go_region_held_law (fun V => (V.cell? ⟨p, 0, none⟩ = some (.int .u8 (x.k : Int)) ∧ V.cell? ⟨p, 1, none⟩ = some (.string x.n) ∧ V.cell? ⟨p, 2, none⟩ = some (.string x.a) ∧ V.cell? ⟨p, 3, none⟩ = some (.string x.b) ∧ V.cell? ⟨p, 4, none⟩ = some (.string x.c) ∧ V.cell? ⟨p, 5, none⟩ = some (.string x.d) ∧ V.cell? ⟨p, 6, none⟩ = some (.float .f64 x.v) ∧ V.cell? ⟨p, 7, none⟩ = some (.int .i64 x.ph)) ∧ (V.cell? ⟨q, 0, none⟩ = some (.int .u8 (y.k : Int)) ∧ V.cell? ⟨q, 1, none⟩ = some (.string y.n) ∧ V.cell? ⟨q, 2, none⟩ = some (.string y.a) ∧ V.cell? ⟨q, 3, none⟩ = some (.string y.b) ∧ V.cell? ⟨q, 4, none⟩ = some (.string y.c) ∧ V.cell? ⟨q, 5, none⟩ = some (.string y.d) ∧ V.cell? ⟨q, 6, none⟩ = some (.float .f64 y.v) ∧ V.cell? ⟨q, 7, none⟩ = some (.int .i64 y.ph)))
      (first | with_reducible exact s_of X5 Y5 | with_reducible exact s_of X4 Y4 | with_reducible exact s_of X3 Y3 | with_reducible exact s_of X2 Y2 | with_reducible exact s_of X1 Y1 | with_reducible exact s_of X0 Y0 | with_reducible exact s_of X0.drew Y0.drew | with_reducible exact s_of X1.drew Y1.drew | with_reducible exact s_of X2.drew Y2.drew | with_reducible exact s_of X3.drew Y3.drew | with_reducible exact s_of X4.drew Y4.drew | with_reducible exact s_of X5.drew Y5.drew | go_keep)
      (first | (go_at_call 19; (with_reducible refine (check_w x _ hx).mono ?_); rintro e w1 ⟨rfl, hb⟩; (have X1 := X0.below (w := w) (by first | exact hb | exact undr hb)); (have Y1 := Y0.below (w := w) (by first | exact hb | exact undr hb)); clear hb) | (go_at_call 20; (with_reducible refine (rcheck_w x _ hx).mono ?_); rintro e w2 ⟨rfl, hb⟩; (have X2 := X1.below (w := w) (by first | exact hb | exact undr hb)); (have Y2 := Y1.below (w := w) (by first | exact hb | exact undr hb)); clear hb) | (go_at_call 21; (with_reducible refine (vsame_w x y _).mono ?_); rintro e w3 ⟨rfl, hb⟩; (have X3 := X2.below (w := w) (by first | exact hb | exact undr hb)); (have Y3 := Y2.below (w := w) (by first | exact hb | exact undr hb)); clear hb) | (go_at_call 22; (with_reducible refine (rvsame_w x y _).mono ?_); rintro e w4 ⟨rfl, hb⟩; (have X4 := X3.below (w := w) (by first | exact hb | exact undr hb)); (have Y4 := Y3.below (w := w) (by first | exact hb | exact undr hb)); clear hb) | (go_at_call 21; (with_reducible refine (vsame_w x x _).mono ?_); rintro e w5 ⟨rfl, hb⟩; (have X5 := X4.below (w := w) (by first | exact hb | exact undr hb)); (have Y5 := Y4.below (w := w) (by first | exact hb | exact undr hb)); clear hb))
    rename_i hHeld
    clear hHeld
    go_wp2_with fail
    go_ret
    exact ⟨rfl, X5.bel⟩
end Go.Proofs.Ytbmoilgiifondaa
