/-
  stamp.Add and the document's Add: an entry of a matrix and a number together, in new memory.
-/
import Derived.Test.YtpjpamdocfdibaaBsc
namespace Go.Proofs.Ytpjpamdocfdibaa
open Fl RowKit

theorem hidS {p : Prop} (h : p) : Hid p := h
theorem finZ_of {Z : Cn} {r : Cw} (h : repz Z r) : finZ r = finC Z := finC_of h
theorem eql_slC (w : World) (a : Option Addr) (n c n' c' : Nat) : (binOp .eql 37 (.slice a n c) (.slice none n' c')).run Try.prog w = .ok (.bool a.isNone) w := Lib.run_eql_slice_nil w _ _ a n c n' c' Try.underlying37
/-- what a function value of two numbers answers -/
def Op2 (F : FuncId) (op : Cn → Cn → Cn) : Prop := ∀ (W : World) (x y : Cw), okz x → okz y → Calls Try.prog F #[.complex .f64 x.1 x.2, .complex .f64 y.1 y.2] W fun e W' => ∃ (r : Cw) (m : Nat), e = .returned (.complex .f64 r.1 r.2) ∧ repz (op (anz x) (anz y)) r ∧ W' = W.drewN m
theorem op2_add : Op2 36 addZ := fun W x y hx hy => (add_any W (rep_ans hx.1) (rep_ans hx.2) (rep_ans hy.1) (rep_ans hy.2)).mono (by rintro e w' ⟨re, im, n, rfl, h1, h2, rfl⟩; exact ⟨(re, im), n, rfl, ⟨h1, h2⟩, rfl⟩)
theorem op2_sub : Op2 35 subZ := fun W x y hx hy => (sub_any W (rep_ans hx.1) (rep_ans hx.2) (rep_ans hy.1) (rep_ans hy.2)).mono (by rintro e w' ⟨re, im, n, rfl, h1, h2, rfl⟩; exact ⟨(re, im), n, rfl, ⟨h1, h2⟩, rfl⟩)
theorem ent2_add : Ent 36 := fun _ _ => by go_simp
theorem ent2_sub : Ent 35 := fun _ _ => by go_simp
end Go.Proofs.Ytpjpamdocfdibaa
