/-
  What the calls of package matrix hand back.
-/
import Derived.Test.YtgpjlobclcbniaaMd
namespace Go.Proofs.Ytgpjlobclcbniaa
open Fl RowKit

@[go_sem] theorem run_fieldM (a b : Int) (o : Option Addr) (l c : Nat) (w : World) : Sem.run Try.prog (Instr.field 35 (.agg #[.int .i64 a, .int .i64 b, .slice o l c]) 2) w = .ok (.slice o l c) w := by kernel_rfl
theorem v3_at (w : World) {p : Nat} (a b c : Value) (t : TypeId) (hp : w.heap.size = p) : V3 p a b c (w.alloc (.cells #[a, b, c] t)) := by subst hp; exact v3_new w a b c t
theorem mb_of {R C : Nat} {n : Nat} (hR : R ≤ 64) (hC : C ≤ 64) (hn : n = R * C) : mb (R : Int) (C : Int) n = true := decide_eq_true ⟨by omega, by omega, by omega, by omega, by rw [hn, Int.natCast_mul]⟩
theorem Mx.mb {w : World} {R C c : Nat} {A : Option Addr} {F : Nat → Cn} {xs : List Cw} (h : Mx w R C A c F xs) : mb (R : Int) (C : Int) (R * C) = true := mb_of h.hR h.hC rfl
theorem New.base {base base' n : Nat} {f : Nat → Cn} {zs : List Cw} {v : Value} {w : World} (h : New base f n zs v w) (hb : base' ≤ base) : New base' f n zs v w := ⟨h.len, h.rep, own_base h.own hb⟩
theorem New.ge {base n g c : Nat} {f : Nat → Cn} {zs : List Cw} {w : World} (h : New base f n zs (.slice (some ⟨g, 0, none⟩) n c) w) : base ≤ g := own_ge h.own rfl
theorem New.congr {base n : Nat} {f g : Nat → Cn} {zs : List Cw} {v : Value} {w : World} (h : New base f n zs v w) (e : ∀ j, j < n → f j = g j) : New base g n zs v w := ⟨h.len, repl_congr h.rep e, h.own⟩
theorem small {n : Nat} (h : n ≤ 4096) : n ≤ 1000000000000000 := by omega
theorem cell_al {w : World} {q : Addr} {v : Value} {o : Obj} (h : w.cell? q = some v) (hq : q.block < w.heap.size) : (w.alloc o).cell? q = some v := by rw [← h]; exact (bal w o).cell hq
section one
variable {w : World} {R C c : Nat} {A : Option Addr} {F : Nat → Cn} {xs : List Cw} (h : Mx w R C A c F xs)
include h
end one

end Go.Proofs.Ytgpjlobclcbniaa
