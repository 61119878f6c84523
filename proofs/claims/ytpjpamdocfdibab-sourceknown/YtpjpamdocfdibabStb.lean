/-
  stamp.put and stamp.Add; the document's Add.
-/
import Derived.Test.YtpjpamdocfdibabSta
namespace Go.Proofs.Ytpjpamdocfdibab
open Fl RowKit
set_option linter.unusedVariables false

/-- why a matrix cannot be added to -/
def sadE (R C : Int) (n : Nat) (i j : Int) (f : Bool) : Int := if mb R C n = false then 4 else if ¬ (0 ≤ i ∧ i < R ∧ 0 ≤ j ∧ j < C) then 2 else if f = false then 6 else 0
/-- what the call tells where nothing is refused -/
def sadF (k : Nat) (xs : List Cw) (y : Cw) (j : Nat) : Cn := if j = k then addZ (anz (zat xs k)) (anz y) else anz (zat xs j)
theorem repl_set {k : Nat} {xs : List Cw} {y r : Cw} (hx : okl xs) (hk : k < xs.length) (hr : repz (addZ (anz (zat xs k)) (anz y)) r) : repl (sadF k xs y) xs.length (xs.set k r) := by
  intro j hj
  unfold sadF
  by_cases e : j = k
  · subst e
    rw [if_pos rfl]
    have : zat (xs.set j r) j = r := by simp [zat, List.getD_eq_getElem?_getD, hj]
    rw [this]; exact hr
  · rw [if_neg e]
    have : zat (xs.set k r) j = zat xs j := by simp [zat, List.getD_eq_getElem?_getD, Ne.symm e]
    rw [this]; exact repz_anz (hx j)
/-- refused: a call that tells nothing -/
def SadNo (F : FuncId) (R C : Int) (n : Nat) (i j : Int) (y : Cw) (xs : List Cw) (E : Int) : Prop := ∀ (W : World) (A : Option Addr) (c : Nat), Src W A c n xs → Calls Try.prog F #[.agg #[.int .i64 R, .int .i64 C, .slice A n c], .int .i64 i, .int .i64 j, .complex .f64 y.1 y.2] W fun e w' => e = .returned (.tuple #[.agg #[.int .i64 0, .int .i64 0, .slice none 0 0], .int .i64 E]) ∧ Below W.heap.size W w'
/-- told: a new row -/
def SadYes (F : FuncId) (R C : Int) (n k : Nat) (i j : Int) (y : Cw) (xs : List Cw) : Prop := ∀ (W : World) (A : Option Addr) (c : Nat), Src W A c n xs → Calls Try.prog F #[.agg #[.int .i64 R, .int .i64 C, .slice A n c], .int .i64 i, .int .i64 j, .complex .f64 y.1 y.2] W fun e w' => ∃ g c', e = .returned (.tuple #[.agg #[.int .i64 R, .int .i64 C, .slice (some ⟨g, 0, none⟩) n c'], .int .i64 0]) ∧ ∃ zs, Hid (repl (sadF k xs y) n zs) ∧ Rw w' W.heap.size (.slice (some ⟨g, 0, none⟩) n c') n zs ∧ Below W.heap.size W w'
theorem rw_set3 {w : World} {b n p g c : Nat} {zs : List Cw} (h : Rw w b (.slice (some ⟨g, 0, none⟩) n c) n zs) (hp : p ≠ g) (x y z : Value) : Rw (set3 w p x y z) b (.slice (some ⟨g, 0, none⟩) n c) n zs := ⟨h.len, own_at h.own (fun q hq => by
  have e : g = q := by simpa [Value.ownBlock] using hq
  subst e
  exact set3_block hp)⟩
section no
variable {R C : Int} {n : Nat} {i j : Int} {y : Cw} {xs : List Cw} (hn : n ≤ 1000000000000000)
include hn
end no
section yes
variable {R C i j : Nat} {y : Cw} {xs : List Cw} (hR : R ≤ 64) (hC : C ≤ 64) (hi : i < R) (hj : j < C) (hy : okz y)
include hR hC hi hj hy
end yes
end Go.Proofs.Ytpjpamdocfdibab
