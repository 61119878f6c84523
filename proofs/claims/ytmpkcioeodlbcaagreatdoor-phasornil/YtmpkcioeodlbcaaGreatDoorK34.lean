/-
  Several texts in one: Me Mg Mw Mva Mp Sta Stb.
-/
import Derived.Test.YtmpkcioeodlbcaaGreatDoorK33
import Derived.Test.YtmpkcioeodlbcaaGreatDoorK32
import Derived.Deep.SlicePairs
import Derived.OpenShut
import Derived.SizedLaws
namespace Go.Proofs.YtmpkcioeodlbcaaGreatDoor
open Fl RowKit
@[go_sem] theorem run_fieldM (a b : Int) (o : Option Addr) (l c : Nat) (w : World) : Sem.run Tryz.prog (Instr.field 120 (.agg #[.int .i64 a, .int .i64 b, .slice o l c]) 2) w = .ok (.slice o l c) w := by kernel_rfl
theorem v3_at (w : World) {p : Nat} (a b c : Value) (t : TypeId) (hp : w.heap.size = p) : V3 p a b c (w.alloc (.cells #[a, b, c] t)) := by subst hp; exact v3_new w a b c t
theorem mb_of {R C : Nat} {n : Nat} (hR : R ≤ 64) (hC : C ≤ 64) (hn : n = R * C) : mb (R : Int) (C : Int) n = true := decide_eq_true ⟨by omega, by omega, by omega, by omega, by rw [hn, Int.natCast_mul]⟩
theorem Mx.mb {w : World} {R C c : Nat} {A : Option Addr} {F : Nat → Cn} {xs : List Cw} (h : Mx w R C A c F xs) : mb (R : Int) (C : Int) (R * C) = true := mb_of h.hR h.hC rfl
theorem small {n : Nat} (h : n ≤ 4096) : n ≤ 1000000000000000 := by omega
section one
variable {w : World} {R C c : Nat} {A : Option Addr} {F : Nat → Cn} {xs : List Cw} (h : Mx w R C A c F xs)
include h
end one
end Go.Proofs.YtmpkcioeodlbcaaGreatDoor
namespace Go.Proofs.YtmpkcioeodlbcaaGreatDoor
open Fl RowKit
theorem mcheck (R C : Int) (A : Option Addr) (n c : Nat) (w : World) (hn : n ≤ 1000000000000000) : Calls Tryz.prog 126 #[.agg #[.int .i64 R, .int .i64 C, .slice A n c]] w fun e w' => e = .returned (.int .i64 (if mb R C n then 0 else 4)) ∧ Below w.heap.size w w' := by
  cases hm : mb R C n
  all_goals
    go_enter Tryz.func126, Tryz.ntmps126
    go_wp2_with (go_at_call 165; (refine (mayBe_any _ _ _ _ _ _ hn).mono ?_); (rintro e w' ⟨rfl, rfl⟩); (rw [hm]))
    go_ret
    exact ⟨rfl, ba (bal _ _) _⟩
section none
variable {R C : Int} {A : Option Addr} {n c : Nat} {w : World} (hn : n ≤ 1000000000000000) (hm : mb R C n = false)
include hn hm
end none
section arg
variable {R C : Int} {A : Option Addr} {n c : Nat} {w : World} (hn : n ≤ 1000000000000000) (hm : mb R C n = true)
include hn hm
end arg
end Go.Proofs.YtmpkcioeodlbcaaGreatDoor
namespace Go.Proofs.YtmpkcioeodlbcaaGreatDoor
open Fl RowKit
theorem Rw.set3 {w : World} {b n p : Nat} {v : Value} {zs : List Cw} (h : Rw w b v n zs) (hp : p < b) (x y z : Value) : Rw (Go.Proofs.YtmpkcioeodlbcaaGreatDoor.set3 w p x y z) b v n zs :=
  ⟨h.len, own_at h.own (fun q hq => set3_block (by have := (h.own.lt q hq).1; omega))⟩
end Go.Proofs.YtmpkcioeodlbcaaGreatDoor
namespace Go.Proofs.YtmpkcioeodlbcaaGreatDoor
open Fl RowKit
def x1 : Cw := (4607182418800017408, 0)
def x2 : Cw := (4611686018427387904, 0)
def x3 : Cw := (4613937818241073152, 0)
def x4 : Cw := (4616189618054758400, 0)
def x0 : Cw := (0, 0)
end Go.Proofs.YtmpkcioeodlbcaaGreatDoor
namespace Go.Proofs.YtmpkcioeodlbcaaGreatDoor
open Fl RowKit
theorem V3.drew {p : Nat} {a b c : Value} {w : World} (h : V3 p a b c w) : V3 p a b c w.drew := h.drewN 1
end Go.Proofs.YtmpkcioeodlbcaaGreatDoor
namespace Go.Proofs.YtmpkcioeodlbcaaGreatDoor
open Fl RowKit
theorem hidS {p : Prop} (h : p) : Hid p := h
theorem finZ_of {Z : Cn} {r : Cw} (h : repz Z r) : finZ r = finC Z := finC_of h
/-- what a function value of two numbers answers -/
def Op2 (F : FuncId) (op : Cn → Cn → Cn) : Prop := ∀ (W : World) (x y : Cw), okz x → okz y → Calls Tryz.prog F #[.complex .f64 x.1 x.2, .complex .f64 y.1 y.2] W fun e W' => ∃ (r : Cw) (m : Nat), e = .returned (.complex .f64 r.1 r.2) ∧ repz (op (anz x) (anz y)) r ∧ W' = W.drewN m
theorem op2_add : Op2 129 addZ := fun W x y hx hy => (add_any W (rep_ans hx.1) (rep_ans hx.2) (rep_ans hy.1) (rep_ans hy.2)).mono (by rintro e w' ⟨re, im, n, rfl, h1, h2, rfl⟩; exact ⟨(re, im), n, rfl, ⟨h1, h2⟩, rfl⟩)
theorem op2_sub : Op2 47 subZ := fun W x y hx hy => (sub_any W (rep_ans hx.1) (rep_ans hx.2) (rep_ans hy.1) (rep_ans hy.2)).mono (by rintro e w' ⟨re, im, n, rfl, h1, h2, rfl⟩; exact ⟨(re, im), n, rfl, ⟨h1, h2⟩, rfl⟩)
theorem ent2_add : Ent 129 := fun _ _ => by go_simp
theorem ent2_sub : Ent 47 := fun _ _ => by go_simp
end Go.Proofs.YtmpkcioeodlbcaaGreatDoor
namespace Go.Proofs.YtmpkcioeodlbcaaGreatDoor
open Fl RowKit
set_option linter.unusedVariables false
/-- an entry changed in place -/
theorem sput_any {F : FuncId} {op : Cn → Cn → Cn} (hE : Ent F) (hF : Op2 F op) {w : World} {p : Addr} {x y : Cw} (hx : okz x) (hy : okz y) (hc : w.cell? p = some (cx x)) (hf : w.frozen? p = false) (f : Bool) (hfin : finC (op (anz x) (anz y)) = f) :
    Calls Tryz.prog 255 #[.pointer (some p), .func (.func F) #[] #[], .complex .f64 y.1 y.2] w fun e w' => e = .returned (.int .i64 (if f = true then 0 else 6)) ∧ ∃ (r : Cw) (m : Nat), repz (op (anz x) (anz y)) r ∧ w' = (w.drewN m).setCell p (cx r) := by
  have HF := hidS (fun W => hF W x y hx hy)
  have HFI := hidS hfin
  have hfin2 := fun (r : Cw) (h : repz (op (anz x) (anz y)) r) => (finZ_of h).trans hfin
  have HF2 := hidS hfin2
  unfold cx at hc
  unfold Ent at hE
  clear hfin hfin2 hF
  cases f
  all_goals
    go_enter Tryz.func255, Tryz.ntmps255
    go_wp2_with (first
      | (go_at_call 59; (with_reducible refine (fin_any r.1 r.2 _ o1 o2).mono ?_); rintro e w' ⟨rfl, rfl⟩; (have hff := HF2.out r HR.out); (unfold finZ at hff); rw [hff])
      | ((refine (HF.out _).mono ?_); rintro e w1 ⟨r, m, rfl, hr, rfl⟩; (have HR := hidS hr); (obtain ⟨o1, o2⟩ := hr.ok); (have hrd : ((w.drewN m).setCell p (.complex .f64 r.1 r.2)).cell? p = some (.complex .f64 r.1 r.2) := World.cell?_setCell_same _ _ _ (show (w.drewN m).cell? p = some _ from hc)); clear hr))
    go_ret
    exact ⟨rfl, _, _, HR.out, _, rfl⟩
section no
variable {R C : Int} {n : Nat} {i j : Int} {y : Cw} {xs : List Cw} (hn : n ≤ 1000000000000000)
include hn
end no
section yes
variable {R C i j : Nat} {y : Cw} {xs : List Cw} (hR : R ≤ 64) (hC : C ≤ 64) (hi : i < R) (hj : j < C) (hy : okz y)
include hR hC hi hj hy
end yes
end Go.Proofs.YtmpkcioeodlbcaaGreatDoor
