/-
  The law's awake: it hands back true and only lays new memory.
-/
import Derived.Test.YtgpjlobclcbniaaVk
namespace Go.Proofs.Ytgpjlobclcbniaa
open Fl RowKit

theorem rc1 {w : World} {B : Nat} {a : Cw} (h0 : w.cell? ⟨B, 0, none⟩ = some (.complex .f64 a.1 a.2)) (hB : B < w.heap.size) : Rc w (some ⟨B, 0, none⟩) [a] := by
  intro k hk
  refine ⟨B, 0, rfl, hB, ?_⟩
  match k, hk with
  | 0, _ => exact h0
theorem rc2 {w : World} {B : Nat} {a b : Cw} (h0 : w.cell? ⟨B, 0, none⟩ = some (.complex .f64 a.1 a.2)) (h1 : w.cell? ⟨B, 1, none⟩ = some (.complex .f64 b.1 b.2)) (hB : B < w.heap.size) : Rc w (some ⟨B, 0, none⟩) [a, b] := by
  intro k hk
  refine ⟨B, 0, rfl, hB, ?_⟩
  match k, hk with
  | 0, _ => exact h0
  | 1, _ => exact h1
theorem rc3 {w : World} {B : Nat} {a b c : Cw} (h0 : w.cell? ⟨B, 0, none⟩ = some (.complex .f64 a.1 a.2)) (h1 : w.cell? ⟨B, 1, none⟩ = some (.complex .f64 b.1 b.2)) (h2 : w.cell? ⟨B, 2, none⟩ = some (.complex .f64 c.1 c.2)) (hB : B < w.heap.size) : Rc w (some ⟨B, 0, none⟩) [a, b, c] := by
  intro k hk
  refine ⟨B, 0, rfl, hB, ?_⟩
  match k, hk with
  | 0, _ => exact h0
  | 1, _ => exact h1
  | 2, _ => exact h2
theorem al_at (W : World) (cs : Array Value) (t : TypeId) (B k : Nat) (hB : W.heap.size = B) : (W.alloc (.cells cs t)).cell? ⟨B, k, none⟩ = cs[k]? := by
  subst hB
  rw [cell_of_row _ W.heap.size k _ t (0, 0) (heap_alloc_new W _)]
theorem al_rc1 (W : World) (a : Cw) (t : TypeId) (B : Nat) (hB : W.heap.size = B) : Rc (W.alloc (.cells #[.complex .f64 a.1 a.2] t)) (some ⟨B, 0, none⟩) [a] :=
  rc1 (al_at W _ t B 0 hB) (by rw [size_al]; omega)
theorem al_rc2 (W : World) (a b : Cw) (t : TypeId) (B : Nat) (hB : W.heap.size = B) : Rc (W.alloc (.cells #[.complex .f64 a.1 a.2, .complex .f64 b.1 b.2] t)) (some ⟨B, 0, none⟩) [a, b] :=
  rc2 (al_at W _ t B 0 hB) (al_at W _ t B 1 hB) (by rw [size_al]; omega)
theorem al_rc3 (W : World) (a b c : Cw) (t : TypeId) (B : Nat) (hB : W.heap.size = B) : Rc (W.alloc (.cells #[.complex .f64 a.1 a.2, .complex .f64 b.1 b.2, .complex .f64 c.1 c.2] t)) (some ⟨B, 0, none⟩) [a, b, c] :=
  rc3 (al_at W _ t B 0 hB) (al_at W _ t B 1 hB) (al_at W _ t B 2 hB) (by rw [size_al]; omega)
theorem okl_nil : okl [] := fun k => by rw [zat_ge (Nat.zero_le _)]; exact ⟨by decide, by decide⟩
theorem ba {w a : World} (h : Below w.heap.size w a) (o : Obj) : Below w.heap.size w (a.alloc o) := h.alloc h.size o
theorem okl_cons {a : Cw} {l : List Cw} (h : okz a) (hl : okl l) : okl (a :: l) := by
  intro k
  match k with
  | 0 => exact h
  | k + 1 => exact hl k
theorem new_rc {base n : Nat} {f : Nat → Cn} {zs : List Cw} {g c : Nat} {w : World} (h : New base f n zs (.slice (some ⟨g, 0, none⟩) n c) w) : Rc w (some ⟨g, 0, none⟩) zs := by
  obtain ⟨ao, cap, hv, _, _, hr⟩ := own_rc h.len.symm h.own
  cases hv
  exact hr
theorem eq_word {o : Option Nat} {x c : Nat} (h : rep o x) (e : o = some c) (hn : nan c = false) : eqB x c = true := by
  rw [rep_is h e]
  unfold eqB
  rw [order_num hn]; rfl
def a1 : Cw := (4607182418800017408, 4607182418800017408)
def a2 : Cw := (4611686018427387904, 0)
def b1 : Cw := (4607182418800017408, 13830554455654793216)
def b2 : Cw := (0, 4613937818241073152)
def c1 : Cw := (4607182418800017408, 0)
def c2 : Cw := (0, 4607182418800017408)
def d1 : Cw := (4617315517961601024, 4617315517961601024)
def r1 : Cw := (4617315517961601024, 4618441417868443648)
def r2 : Cw := (4616189618054758400, 4617315517961601024)
theorem two_cases {P : Nat → Prop} (h0 : P 0) (h1 : P 1) : ∀ k, k < 2 → P k := fun k hk => by
  match k, hk with
  | 0, _ => exact h0
  | 1, _ => exact h1
theorem axpy_eq {zs : List Cw} (h : repl (dotF (fun X Y => addZ Y (mulZ (anz c2) X)) [c1, c2] [d1, d1]) 2 zs) : ∀ k, k < 2 → eqB (zat zs k).1 (zat [r1, r2] k).1 = true ∧ eqB (zat zs k).2 (zat [r1, r2] k).2 = true := by
  have h0 := h 0 (by omega)
  have h1 := h 1 (by omega)
  refine two_cases ⟨?_, ?_⟩ ⟨?_, ?_⟩
  · exact eq_word h0.1 (by kernel_rfl) (by kernel_rfl)
  · exact eq_word h0.2 (by kernel_rfl) (by kernel_rfl)
  · exact eq_word h1.1 (by kernel_rfl) (by kernel_rfl)
  · exact eq_word h1.2 (by kernel_rfl) (by kernel_rfl)
theorem dot_eq {s : Cw} (h : repz (sumZ (dotF mulZ [a1, a2] [b1, b2]) 2) s) : s = (4611686018427387904, 4618441417868443648) := Prod.ext (rep_is h.1 (by kernel_rfl)) (rep_is h.2 (by kernel_rfl))
theorem inner_eq {s : Cw} (h : repz (sumZ (dotF innZ [a1, a2] [b1, b2]) 2) s) : s = (0, 4616189618054758400) := Prod.ext (rep_is h.1 (by kernel_rfl)) (rep_is h.2 (by kernel_rfl))
theorem ok_a : okl [a1, a2] := okl_cons (by unfold okz a1; decide) (okl_cons (by unfold okz a2; decide) okl_nil)
theorem ok_b : okl [b1, b2] := okl_cons (by unfold okz b1; decide) (okl_cons (by unfold okz b2; decide) okl_nil)
theorem ok_c : okl [c1, c2] := okl_cons (by unfold okz c1; decide) (okl_cons (by unfold okz c2; decide) okl_nil)
theorem ok_d : okl [d1, d1] := okl_cons (by unfold okz d1; decide) (okl_cons (by unfold okz d1; decide) okl_nil)

theorem len_r : [r1, r2].length = 2 := rfl
end Go.Proofs.Ytgpjlobclcbniaa
