/-
  SolveKnown's calls: closed matrices and right sides.
-/
import Derived.Test.YtpaljgbhladceaaSls
import Derived.Test.YtpaljgbhladceaaSlv
namespace Go.Proofs.Ytpaljgbhladceaa
open Fl RowKit

abbrev zB : Cw := (0, 9110782046170513408)
abbrev zL : Cw := (103582791429521408, 0)
abbrev zH : Cw := (9110782046170513408, 0)
abbrev y0 : Cw := (0, 0)
def mB : Nat → Nat → Cw := fun _ _ => zB
def mL : Nat → Nat → Cw := fun _ _ => zL
def mN : Nat → Nat → Cw := fun _ _ => y0
def mS : Nat → Nat → Cw := M4 y1 y0 y1 y1
theorem ok1 {z : Cw} (h : okz z) : okl [z] := fun k => by
  match k with
  | 0 => exact h
  | k + 1 => rw [zat_ge (by simp)]; exact ⟨by decide, by decide⟩
theorem oknil : okl [] := fun k => by rw [zat_ge (by simp)]; exact ⟨by decide, by decide⟩
/-- what Of makes of a closed matrix -/
theorem of_kn (n : Nat) (xs : List Cw) (M : Nat → Nat → Cw) (s : Int) (hn : n ≤ 64) (hl : xs.length = n * n) (hx : okl xs) (hf : nff xs (n * n) = n * n) (hM : ∀ i j, i < n → j < n → M i j = zat xs (i * n + j)) (he : (elm n M n).1.1 = 0) (hs : (elm n M n).2.s = s) (W : World) (A : Option Addr) (c : Nat) (hc : n * n ≤ c) (hr : Rc W A xs) :
    Calls Try.prog 11 #[.agg #[.int .i64 n, .int .i64 n, .slice A (n * n) c]] W fun e w' => ∃ p, e = .returned (.tuple #[.pointer (some ⟨p, 0, none⟩), .agg #[.int .i64 0, .int .i64 0]]) ∧ Lhd w' (.pointer (some ⟨p, 0, none⟩)) n (elm n M n).2.M (elm n M n).2.o s ∧ Below W.heap.size W w' := by
  refine (of_square n A c xs M W hn hl hc hr hx hf hM).mono ?_
  rintro e w' ⟨_, h2, h3⟩
  obtain ⟨p, gr, go, bl, he', hL⟩ := h2 he
  refine ⟨p, he', ?_, h3⟩
  rw [← hs]
  exact hL.lh
theorem eok_kn {n : Nat} {xs : List Cw} {M : Nat → Nat → Cw} (hx : okl xs) (hf : nff xs (n * n) = n * n) (hM : ∀ i j, i < n → j < n → M i j = zat xs (i * n + j)) (he : (elm n M n).1.1 = 0) : Eok n (elm n M n).2 :=
  elm_eok (fun i j hi hj => by rw [hM i j hi hj]; exact hx _) (fun i j hi hj => by rw [hM i j hi hj]; exact finL_iff.1 (nff_fin hf) _ (place_lt hi hj)) n (Nat.le_refl _) he
theorem b_e : (elm 1 mB 1).1.1 = 0 := by kernel_rfl
theorem b_s : (elm 1 mB 1).2.s = 1 := by kernel_rfl
theorem b_f : nff [zB] (1 * 1) = 1 * 1 := by kernel_rfl
theorem b_ok : okl [zB] := ok1 ⟨by decide, by decide⟩
theorem b_m : ∀ i j, i < 1 → j < 1 → mB i j = zat [zB] (i * 1 + j) := fun i j hi hj => by rw [show i = 0 by omega, show j = 0 by omega]; rfl
theorem l_e : (elm 1 mL 1).1.1 = 0 := by kernel_rfl
theorem l_s : (elm 1 mL 1).2.s = 1 := by kernel_rfl
theorem l_f : nff [zL] (1 * 1) = 1 * 1 := by kernel_rfl
theorem l_ok : okl [zL] := ok1 ⟨by decide, by decide⟩
theorem l_m : ∀ i j, i < 1 → j < 1 → mL i j = zat [zL] (i * 1 + j) := fun i j hi hj => by rw [show i = 0 by omega, show j = 0 by omega]; rfl
theorem n_e : (elm 0 mN 0).1.1 = 0 := by kernel_rfl
theorem n_s : (elm 0 mN 0).2.s = 1 := by kernel_rfl
theorem n_f : nff [] (0 * 0) = 0 * 0 := by kernel_rfl
theorem s_e : (elm 2 mS 2).1.1 = 0 := by kernel_rfl
theorem s_s : (elm 2 mS 2).2.s = 1 := by kernel_rfl
theorem s_f : nff [y1, y0, y1, y1] (2 * 2) = 2 * 2 := by kernel_rfl
theorem s_ok : okl [y1, y0, y1, y1] := ok4 ⟨by decide, by decide⟩ ⟨by decide, by decide⟩ ⟨by decide, by decide⟩ ⟨by decide, by decide⟩
theorem s_m : ∀ i j, i < 2 → j < 2 → mS i j = zat [y1, y0, y1, y1] (i * 2 + j) := fun _ _ _ _ => rfl
def LB (w : World) (p : Nat) : Prop := Lhd w (.pointer (some ⟨p, 0, none⟩)) 1 (elm 1 mB 1).2.M (elm 1 mB 1).2.o 1
def LL (w : World) (p : Nat) : Prop := Lhd w (.pointer (some ⟨p, 0, none⟩)) 1 (elm 1 mL 1).2.M (elm 1 mL 1).2.o 1
def LN (w : World) (p : Nat) : Prop := Lhd w (.pointer (some ⟨p, 0, none⟩)) 0 (elm 0 mN 0).2.M (elm 0 mN 0).2.o 1
def LT (w : World) (p : Nat) : Prop := Lhd w (.pointer (some ⟨p, 0, none⟩)) 2 (elm 2 A2 2).2.M (elm 2 A2 2).2.o (-1)
def LS (w : World) (p : Nat) : Prop := Lhd w (.pointer (some ⟨p, 0, none⟩)) 2 (elm 2 mS 2).2.M (elm 2 mS 2).2.o 1
theorem LB.below {w w' : World} {p : Nat} (h : LB w p) (hb : Below w.heap.size w w') : LB w' p := Lhd.below h hb
theorem LL.below {w w' : World} {p : Nat} (h : LL w p) (hb : Below w.heap.size w w') : LL w' p := Lhd.below h hb
theorem LN.below {w w' : World} {p : Nat} (h : LN w p) (hb : Below w.heap.size w w') : LN w' p := Lhd.below h hb
theorem LT.below {w w' : World} {p : Nat} (h : LT w p) (hb : Below w.heap.size w w') : LT w' p := Lhd.below h hb
theorem LS.below {w w' : World} {p : Nat} (h : LS w p) (hb : Below w.heap.size w w') : LS w' p := Lhd.below h hb
section of
variable {W : World} {B : Nat}
theorem of_b (hc : Rc W (some ⟨B, 0, none⟩) [zB]) : Calls Try.prog 11 #[.agg #[.int .i64 1, .int .i64 1, .slice (some ⟨B, 0, none⟩) 1 1]] W fun e w' => ∃ p, e = .returned (.tuple #[.pointer (some ⟨p, 0, none⟩), .agg #[.int .i64 0, .int .i64 0]]) ∧ LB w' p ∧ Below W.heap.size W w' :=
  of_kn 1 [zB] mB 1 (by decide) rfl b_ok b_f b_m b_e b_s W _ 1 (by decide) hc
theorem of_l (hc : Rc W (some ⟨B, 0, none⟩) [zL]) : Calls Try.prog 11 #[.agg #[.int .i64 1, .int .i64 1, .slice (some ⟨B, 0, none⟩) 1 1]] W fun e w' => ∃ p, e = .returned (.tuple #[.pointer (some ⟨p, 0, none⟩), .agg #[.int .i64 0, .int .i64 0]]) ∧ LL w' p ∧ Below W.heap.size W w' :=
  of_kn 1 [zL] mL 1 (by decide) rfl l_ok l_f l_m l_e l_s W _ 1 (by decide) hc
theorem of_n (W : World) : Calls Try.prog 11 #[.agg #[.int .i64 0, .int .i64 0, .slice none 0 0]] W fun e w' => ∃ p, e = .returned (.tuple #[.pointer (some ⟨p, 0, none⟩), .agg #[.int .i64 0, .int .i64 0]]) ∧ LN w' p ∧ Below W.heap.size W w' :=
  of_kn 0 [] mN 1 (by decide) rfl oknil n_f (fun i j hi hj => absurd hi (by omega)) n_e n_s W none 0 (by decide) (Rc.nil _ _)
theorem of_s (hc : Rc W (some ⟨B, 0, none⟩) [y1, y0, y1, y1]) : Calls Try.prog 11 #[.agg #[.int .i64 2, .int .i64 2, .slice (some ⟨B, 0, none⟩) 4 4]] W fun e w' => ∃ p, e = .returned (.tuple #[.pointer (some ⟨p, 0, none⟩), .agg #[.int .i64 0, .int .i64 0]]) ∧ LS w' p ∧ Below W.heap.size W w' :=
  of_kn 2 [y1, y0, y1, y1] mS 1 (by decide) rfl s_ok s_f s_m s_e s_s W _ 4 (by decide) hc
end of
/-- the calls -/
theorem b_K : solK 1 (elm 1 mB 1).2.M (elm 1 mB 1).2.o [zL] = true := by kernel_rfl
theorem b_X : solX 1 (elm 1 mB 1).2.M (elm 1 mB 1).2.o [zL] 0 = (some 0, some 9223372036854775808) := by kernel_rfl
theorem b_D : detS (fun i => (elm 1 mB 1).2.M i i) 1 = ((0, 4607182418800017408), 1000) := by kernel_rfl
theorem l_K : solK 1 (elm 1 mL 1).2.M (elm 1 mL 1).2.o [zH] = false := by kernel_rfl
theorem s_K : trK 2 (elm 2 mS 2).2.M [(9214364837600034816, 0), (18437736874454810624, 0)] = false := by kernel_rfl
theorem b_rf : rfS 1 1 1 [zL] = 0 := by kernel_rfl
theorem l_rf : rfS 1 1 1 [zH] = 0 := by kernel_rfl
theorem s_rf : rfS 2 1 2 [(9214364837600034816, 0), (18437736874454810624, 0)] = 0 := by kernel_rfl
theorem t_rf3 : rfS 2 (-1) 3 [y0, y0, y0] = 4 := by kernel_rfl
theorem t_rfn : rfS 2 (-1) 2 [(9221120237041090561, 0), y1] = 5 := by kernel_rfl
theorem sol_b {w : World} {p B : Nat} (h : LB w p) (hc : Rc w (some ⟨B, 0, none⟩) [zL]) : Calls Try.prog 14 #[.pointer (some ⟨p, 0, none⟩), .slice (some ⟨B, 0, none⟩) 1 1] w fun e w' => ∃ g, e = .returned (.tuple #[.slice (some ⟨g, 0, none⟩) 1 1, .int .i64 0]) ∧ Rc w' (some ⟨g, 0, none⟩) [(0, 9223372036854775808)] ∧ Below w.heap.size w w' := by
  refine (sol_lit h rfl (by decide) hc l_ok b_rf (eok_kn b_ok b_f b_m b_e).ok (elm_in 1 (Nat.le_refl _) b_e).1 (fun _ => (0, 9223372036854775808)) b_K (fun j hj => by rw [show j = 0 by omega]; exact b_X)).mono ?_
  rintro e w' ⟨g, rfl, hr, hb⟩
  exact ⟨g, rfl, hr, hb⟩
theorem sol_l {w : World} {p B : Nat} (h : LL w p) (hc : Rc w (some ⟨B, 0, none⟩) [zH]) : Calls Try.prog 14 #[.pointer (some ⟨p, 0, none⟩), .slice (some ⟨B, 0, none⟩) 1 1] w fun e w' => e = .returned (.tuple #[.slice none 0 0, .int .i64 6]) ∧ Below w.heap.size w w' :=
  sol_over h rfl (by decide) hc (ok1 ⟨by decide, by decide⟩) l_rf (eok_kn l_ok l_f l_m l_e).ok (elm_in 1 (Nat.le_refl _) l_e).1 l_K
theorem sol_n {w : World} {p : Nat} (h : LN w p) : Calls Try.prog 14 #[.pointer (some ⟨p, 0, none⟩), .slice none 0 0] w fun e w' => ∃ g, e = .returned (.tuple #[.slice (some ⟨g, 0, none⟩) 0 0, .int .i64 0]) ∧ Below w.heap.size w w' := by
  refine (sol_lit (ao := none) (cap := 0) (xs := []) h rfl (by decide) (Rc.nil _ _) oknil rfl (fun i j hi hj => absurd hi (by omega)) (fun i hi => absurd hi (by omega)) (fun _ => (0, 0)) rfl (fun j hj => absurd hj (by omega))).mono ?_
  rintro e w' ⟨g, rfl, hr, hb⟩
  exact ⟨g, rfl, hb⟩
theorem sol_3 {w : World} {p B : Nat} (h : LT w p) (hc : Rc w (some ⟨B, 0, none⟩) [y0, y0, y0]) : Calls Try.prog 14 #[.pointer (some ⟨p, 0, none⟩), .slice (some ⟨B, 0, none⟩) 3 3] w fun e w' => e = .returned (.tuple #[.slice none 0 0, .int .i64 4]) ∧ Below w.heap.size w w' := by
  have := solve_err (cap := 3) h (l := 3) rfl (by decide) (by decide) hc (fun k => by match k with | 0 => exact ⟨by decide, by decide⟩ | 1 => exact ⟨by decide, by decide⟩ | 2 => exact ⟨by decide, by decide⟩ | k + 3 => rw [zat_ge (by simp)]; exact ⟨by decide, by decide⟩) (by rw [t_rf3]; decide)
  rw [t_rf3] at this
  exact this
theorem sol_nan {w : World} {p B : Nat} (h : LT w p) (hc : Rc w (some ⟨B, 0, none⟩) [(9221120237041090561, 0), y1]) : Calls Try.prog 14 #[.pointer (some ⟨p, 0, none⟩), .slice (some ⟨B, 0, none⟩) 2 2] w fun e w' => e = .returned (.tuple #[.slice none 0 0, .int .i64 5]) ∧ Below w.heap.size w w' := by
  have := solve_err (cap := 2) h (l := 2) rfl (by decide) (by decide) hc (fun k => by match k with | 0 => exact ⟨by decide, by decide⟩ | 1 => exact ⟨by decide, by decide⟩ | k + 2 => rw [zat_ge (by simp)]; exact ⟨by decide, by decide⟩) (by rw [t_rfn]; decide)
  rw [t_rfn] at this
  exact this
theorem tra_s {w : World} {p B : Nat} (h : LS w p) (hc : Rc w (some ⟨B, 0, none⟩) [(9214364837600034816, 0), (18437736874454810624, 0)]) : Calls Try.prog 28 #[.pointer (some ⟨p, 0, none⟩), .slice (some ⟨B, 0, none⟩) 2 2] w fun e w' => e = .returned (.tuple #[.slice none 0 0, .int .i64 6]) ∧ Below w.heap.size w w' :=
  tra_over h rfl (by decide) hc (fun k => by match k with | 0 => exact ⟨by decide, by decide⟩ | 1 => exact ⟨by decide, by decide⟩ | k + 2 => rw [zat_ge (by simp)]; exact ⟨by decide, by decide⟩) s_rf (eok_kn s_ok s_f s_m s_e).ok (elm_in 2 (Nat.le_refl _) s_e) s_K
theorem det_b {w : World} {p : Nat} (h : LB w p) : Calls Try.prog 29 #[.pointer (some ⟨p, 0, none⟩)] w fun e w' => e = .returned (.tuple #[.complex .f64 0 4607182418800017408, .int .i64 1000, .int .i64 0]) ∧ Below w.heap.size w w' := by
  refine (det_any h (by decide) (by decide) (pv_of (eok_kn b_ok b_f b_m b_e) (elm_piv 1 (Nat.le_refl _) b_e))).mono ?_
  rintro e w' ⟨rfl, hb⟩
  refine ⟨?_, hb⟩
  unfold detR
  rw [b_D]
  rfl
theorem det_n {w : World} {p : Nat} (h : LN w p) : Calls Try.prog 29 #[.pointer (some ⟨p, 0, none⟩)] w fun e w' => e = .returned (.tuple #[.complex .f64 4607182418800017408 0, .int .i64 0, .int .i64 0]) ∧ Below w.heap.size w w' := by
  refine (det_any h (by decide) (by decide) (fun k hk => absurd hk (by omega))).mono ?_
  rintro e w' ⟨rfl, hb⟩
  exact ⟨rfl, hb⟩

end Go.Proofs.Ytpaljgbhladceaa
