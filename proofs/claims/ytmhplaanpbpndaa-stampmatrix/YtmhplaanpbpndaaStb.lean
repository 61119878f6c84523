/-
  stamp.Add and the document's Add: an entry of a matrix and a number together, in new memory.
-/
import Derived.Test.YtmhplaanpbpndaaBsc
namespace Go.Proofs.Ytmhplaanpbpndaa
open Fl RowKit

theorem hidS {p : Prop} (h : p) : Hid p := h
theorem finZ_of {Z : Cn} {r : Cw} (h : repz Z r) : finZ r = finC Z := finC_of h
theorem eql_slC (w : World) (a : Option Addr) (n c n' c' : Nat) : (binOp .eql 37 (.slice a n c) (.slice none n' c')).run Try.prog w = .ok (.bool a.isNone) w := Lib.run_eql_slice_nil w _ _ a n c n' c' Try.underlying37
/-- what a function value of two numbers answers -/
def Op2 (F : FuncId) (op : Cn → Cn → Cn) : Prop := ∀ (W : World) (x y : Cw), okz x → okz y → Calls Try.prog F #[.complex .f64 x.1 x.2, .complex .f64 y.1 y.2] W fun e W' => ∃ (r : Cw) (m : Nat), e = .returned (.complex .f64 r.1 r.2) ∧ repz (op (anz x) (anz y)) r ∧ W' = W.drewN m
theorem op2_add : Op2 94 addZ := fun W x y hx hy => (add_any W (rep_ans hx.1) (rep_ans hx.2) (rep_ans hy.1) (rep_ans hy.2)).mono (by rintro e w' ⟨re, im, n, rfl, h1, h2, rfl⟩; exact ⟨(re, im), n, rfl, ⟨h1, h2⟩, rfl⟩)
theorem op2_sub : Op2 95 subZ := fun W x y hx hy => (sub_any W (rep_ans hx.1) (rep_ans hx.2) (rep_ans hy.1) (rep_ans hy.2)).mono (by rintro e w' ⟨re, im, n, rfl, h1, h2, rfl⟩; exact ⟨(re, im), n, rfl, ⟨h1, h2⟩, rfl⟩)
theorem ent2_add : Ent 94 := fun _ _ => by go_simp
theorem ent2_sub : Ent 95 := fun _ _ => by go_simp
end Go.Proofs.Ytmhplaanpbpndaa
namespace Go.Proofs.Ytmhplaanpbpndaa
open Fl RowKit
set_option linter.unusedVariables false

/-- an entry changed in place -/
theorem sput_any {F : FuncId} {op : Cn → Cn → Cn} (hE : Ent F) (hF : Op2 F op) {w : World} {p : Addr} {x y : Cw} (hx : okz x) (hy : okz y) (hc : w.cell? p = some (cx x)) (hf : w.frozen? p = false) (f : Bool) (hfin : finC (op (anz x) (anz y)) = f) :
    Calls Try.prog 100 #[.pointer (some p), .func (.func F) #[] #[], .complex .f64 y.1 y.2] w fun e w' => e = .returned (.int .i64 (if f = true then 0 else 6)) ∧ ∃ (r : Cw) (m : Nat), repz (op (anz x) (anz y)) r ∧ w' = (w.drewN m).setCell p (cx r) := by
  have HF := hidS (fun W => hF W x y hx hy)
  have HFI := hidS hfin
  have hfin2 := fun (r : Cw) (h : repz (op (anz x) (anz y)) r) => (finZ_of h).trans hfin
  have HF2 := hidS hfin2
  unfold cx at hc
  unfold Ent at hE
  clear hfin hfin2 hF
  cases f
  all_goals
    go_enter Try.func100, Try.ntmps100
    go_wp2_with (first
      | (go_at_call 50; (with_reducible refine (fin_any r.1 r.2 _ o1 o2).mono ?_); rintro e w' ⟨rfl, rfl⟩; (have hff := HF2.out r HR.out); (unfold finZ at hff); rw [hff])
      | ((refine (HF.out _).mono ?_); rintro e w1 ⟨r, m, rfl, hr, rfl⟩; (have HR := hidS hr); (obtain ⟨o1, o2⟩ := hr.ok); (have hrd : ((w.drewN m).setCell p (.complex .f64 r.1 r.2)).cell? p = some (.complex .f64 r.1 r.2) := World.cell?_setCell_same _ _ _ (show (w.drewN m).cell? p = some _ from hc)); clear hr))
    go_ret
    exact ⟨rfl, _, _, HR.out, _, rfl⟩
/-- why a matrix cannot be added to -/
def sadE (R C : Int) (n : Nat) (i j : Int) (f : Bool) : Int := if mb R C n = false then 4 else if ¬ (0 ≤ i ∧ i < R ∧ 0 ≤ j ∧ j < C) then 2 else if f = false then 6 else 0
/-- what the call tells where nothing is refused -/
def sadF (k : Nat) (xs : List Cw) (y : Cw) (j : Nat) : Cn := if j = k then addZ (anz (zat xs k)) (anz y) else anz (zat xs j)
theorem repl_set {k : Nat} {xs : List Cw} {y r : Cw} (hx : okl xs) (hk : k < xs.length) (hr : repz (addZ (anz (zat xs k)) (anz y)) r) : repl (sadF k xs y) xs.length (xs.set k r) := by
  intro j hj
  unfold sadF
  by_cases e : j = k
  · subst e
    rw [if_pos rfl]
    have : zat (xs.set j r) j = r := by simp [zat, List.getD_eq_getElem?_getD, hj]
    rw [this]; exact hr
  · rw [if_neg e]
    have : zat (xs.set k r) j = zat xs j := by simp [zat, List.getD_eq_getElem?_getD, Ne.symm e]
    rw [this]; exact repz_anz (hx j)
/-- refused: a call that tells nothing -/
def SadNo (F : FuncId) (R C : Int) (n : Nat) (i j : Int) (y : Cw) (xs : List Cw) (E : Int) : Prop := ∀ (W : World) (A : Option Addr) (c : Nat), Src W A c n xs → Calls Try.prog F #[.agg #[.int .i64 R, .int .i64 C, .slice A n c], .int .i64 i, .int .i64 j, .complex .f64 y.1 y.2] W fun e w' => e = .returned (.tuple #[.agg #[.int .i64 0, .int .i64 0, .slice none 0 0], .int .i64 E]) ∧ Below W.heap.size W w'
/-- told: a new row -/
def SadYes (F : FuncId) (R C : Int) (n k : Nat) (i j : Int) (y : Cw) (xs : List Cw) : Prop := ∀ (W : World) (A : Option Addr) (c : Nat), Src W A c n xs → Calls Try.prog F #[.agg #[.int .i64 R, .int .i64 C, .slice A n c], .int .i64 i, .int .i64 j, .complex .f64 y.1 y.2] W fun e w' => ∃ g c', e = .returned (.tuple #[.agg #[.int .i64 R, .int .i64 C, .slice (some ⟨g, 0, none⟩) n c'], .int .i64 0]) ∧ ∃ zs, Hid (repl (sadF k xs y) n zs) ∧ Rw w' W.heap.size (.slice (some ⟨g, 0, none⟩) n c') n zs ∧ Below W.heap.size W w'
theorem v3_box (w : World) (R C : Int) (v : Value) : ∃ wA, wA = (w.alloc (.cells #[.int .i64 R, .int .i64 C, v] 39)).alloc (.cells #[.int .i64 0, .int .i64 0, .slice none 0 0] 39) ∧ V3 w.heap.size (.int .i64 R) (.int .i64 C) v wA ∧ V3 (w.heap.size + 1) (.int .i64 0) (.int .i64 0) (.slice none 0 0) wA ∧ Below w.heap.size w wA ∧ wA.heap.size = w.heap.size + 1 + 1 := by
  refine ⟨_, rfl, (v3_new w _ _ _ _).below (bal _ _), v3_at _ _ _ _ _ (size_al _ _), ba (bal _ _) _, by rw [size_al, size_al]⟩
theorem rw_set3 {w : World} {b n p g c : Nat} {zs : List Cw} (h : Rw w b (.slice (some ⟨g, 0, none⟩) n c) n zs) (hp : p ≠ g) (x y z : Value) : Rw (set3 w p x y z) b (.slice (some ⟨g, 0, none⟩) n c) n zs := ⟨h.len, own_at h.own (fun q hq => by
  have e : g = q := by simpa [Value.ownBlock] using hq
  subst e
  exact set3_block hp)⟩
section no
variable {R C : Int} {n : Nat} {i j : Int} {y : Cw} {xs : List Cw} (hn : n ≤ 1000000000000000)
include hn
end no
section yes
variable {R C i j : Nat} {y : Cw} {xs : List Cw} (hR : R ≤ 64) (hC : C ≤ 64) (hi : i < R) (hj : j < C) (hy : okz y)
include hR hC hi hj hy
end yes
end Go.Proofs.Ytmhplaanpbpndaa
