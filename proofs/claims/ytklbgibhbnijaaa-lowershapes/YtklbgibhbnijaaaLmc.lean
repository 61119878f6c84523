/-
  The statement LowerMirror's calls, of a matrix and its conjugate that are eliminated; what is refused.
-/
import Derived.Test.YtklbgibhbnijaaaLmb
import Derived.Test.YtklbgibhbnijaaaLka
import Derived.Test.YtklbgibhbnijaaaLkc
namespace Go.Proofs.Ytklbgibhbnijaaa
open Fl RowKit

theorem rw_rc {w : World} {b n c : Nat} {A : Option Addr} {zs : List Cw} (h : Rw w b (.slice A n c) n zs) : Rc w A zs := by
  obtain ⟨ao, cap, e, _, _, hr⟩ := own_rc h.len.symm h.own
  injection e with e1 e2 e3
  subst e1
  exact hr
theorem rw_cap {w : World} {b n c : Nat} {A : Option Addr} {zs : List Cw} (h : Rw w b (.slice A n c) n zs) : n ≤ c := (sq_rw h.own h.len).1
theorem absf9 (x : Nat) (w : World) (hx : x < 18446744073709551616) : Calls Try.prog 51 #[.float .f64 x] w fun e w' => e = .returned (.float .f64 (mg x)) ∧ w' = w := by
  have ha := andNot_sign x hx
  go_enter Try.func51, Try.ntmps51
  go_wp2
  go_ret
  exact ⟨retf (by simp), rfl⟩
/-- a matrix by its places -/
def mat9 (N : Nat) (f : Nat → Cw) (i j : Nat) : Cw := f (i * N + j)
theorem mat9_at {N : Nat} (f : Nat → Cw) : ∀ i j, i < N → j < N → mat9 N f i j = zat (ro (N * N) f) (i * N + j) := fun i j hi hj => by rw [ro_at _ (place_lt hi hj)]; rfl
/-- what Of hands back of a square matrix: a fault, or a Lower -/
theorem of_cases (N : Nat) (f : Nat → Cw) (hN : N ≤ 64) (hf : ∀ k, k < N * N → okz (f k)) :
    (∃ (E : Int) (a : Int), ¬ E = 0 ∧ (∀ (W : World) (A : Option Addr) (c : Nat), N * N ≤ c → Rc W A (ro (N * N) f) → Calls Try.prog 14 #[.agg #[.int .i64 N, .int .i64 N, .slice A (N * N) c]] W fun e w' => e = .returned (.tuple #[.pointer none, .agg #[.int .i64 E, .int .i64 a]]) ∧ Below W.heap.size W w') ∧
      ((nff (ro (N * N) f) (N * N) < N * N ∧ E = 5 ∧ a = (nff (ro (N * N) f) (N * N) : Nat)) ∨ (nff (ro (N * N) f) (N * N) = N * N ∧ E = (elm N (mat9 N f) N).1.1 ∧ a = ((elm N (mat9 N f) N).1.2 : Nat)))) ∨
    (nff (ro (N * N) f) (N * N) = N * N ∧ (elm N (mat9 N f) N).1.1 = 0 ∧ ∀ (W : World) (A : Option Addr) (c : Nat), N * N ≤ c → Rc W A (ro (N * N) f) → Calls Try.prog 14 #[.agg #[.int .i64 N, .int .i64 N, .slice A (N * N) c]] W fun e w' => ∃ p gr go bl, e = .returned (.tuple #[.pointer (some ⟨p, 0, none⟩), .agg #[.int .i64 0, .int .i64 0]]) ∧ Lo w' W.heap.size p N gr go bl (elm N (mat9 N f) N).2.M (elm N (mat9 N f) N).2.o (elm N (mat9 N f) N).2.s ∧ Below W.heap.size W w') := by
  have hx := ro_ok hf
  have hl := ro_len (N * N) f
  by_cases h1 : nff (ro (N * N) f) (N * N) < N * N
  · refine .inl ⟨5, (nff (ro (N * N) f) (N * N) : Nat), by decide, fun W A c _ hc => ?_, .inl ⟨h1, rfl, rfl⟩⟩
    exact of_number N A c (ro (N * N) f) W hN hl hc hx h1
  · have h2 : nff (ro (N * N) f) (N * N) = N * N := by have := nff_le (ro (N * N) f) (N * N); omega
    by_cases h3 : (elm N (mat9 N f) N).1.1 = 0
    · refine .inr ⟨h2, h3, fun W A c hcap hc => ?_⟩
      refine (of_square N A c (ro (N * N) f) (mat9 N f) W hN hl hcap hc hx h2 (mat9_at f)).mono ?_
      rintro e w' ⟨_, k2, k3⟩
      obtain ⟨p, gr, go, bl, he, hL⟩ := k2 h3
      exact ⟨p, gr, go, bl, he, hL, k3⟩
    · refine .inl ⟨_, _, h3, fun W A c hcap hc => ?_, .inr ⟨h2, rfl, rfl⟩⟩
      refine (of_square N A c (ro (N * N) f) (mat9 N f) W hN hl hcap hc hx h2 (mat9_at f)).mono ?_
      rintro e w' ⟨k1, _, k3⟩
      exact ⟨k1 h3, k3⟩

end Go.Proofs.Ytklbgibhbnijaaa
