/-
  The statements' own awake: the document's examples.
-/
import Derived.Test.YtklbgibhbnijaaaSlq
import Derived.Test.YtklbgibhbnijaaaSlh
import Derived.Test.YtklbgibhbnijaaaLka
namespace Go.Proofs.Ytklbgibhbnijaaa
open Fl RowKit

theorem rep_lit {a x : Nat} (h : rep (some a) x) : x = a := by
  have := h.2
  unfold ans at this
  split at this
  · cases this
  · exact Option.some.inj this
theorem repz_lit {z x : Cw} (h : repz (some z.1, some z.2) x) : x = z := Prod.ext (rep_lit h.1) (rep_lit h.2)
section lit
variable {w : World} {v : Value} {n : Nat} {M : Nat → Nat → Cw} {o : Nat → Nat} {s : Int} (h : Lhd w v n M o s) {ao : Option Addr} {cap : Nat} {xs : List Cw} (hl : xs.length = n) (hn : n ≤ 64) (hc : Rc w ao xs) (hx : okl xs)
include h hl hn hc hx
theorem sol_lit (hE : rfS n s n xs = 0) (hM : okM n M) (ho : ∀ i, i < n → o i < n) (y : Nat → Cw) (hK : solK n M o xs = true) (hX : ∀ j, j < n → solX n M o xs j = (some (y j).1, some (y j).2)) :
    Calls Try.prog 27 #[v, .slice ao n cap] w fun e w' => ∃ g, e = .returned (.tuple #[.slice (some ⟨g, 0, none⟩) n n, .int .i64 0]) ∧ Rc w' (some ⟨g, 0, none⟩) (ro n y) ∧ Below w.heap.size w w' := by
  refine (solve_ok h hl (by omega) hn hc hx hE hM ho).mono ?_
  rintro e w' ⟨u, E, rfl, hG, hb⟩
  rcases hG with ⟨_, rfl, g, yy, rfl, h1, h2⟩ | ⟨h0, _, _⟩
  · have e : ro n yy = ro n y := ro_congr (fun j hj => repz_lit (by rw [← hX j hj]; exact h1 j hj))
    rw [e] at h2
    exact ⟨g, rfl, h2.rc, hb⟩
  · rw [hK] at h0; cases h0
theorem sol_over (hE : rfS n s n xs = 0) (hM : okM n M) (ho : ∀ i, i < n → o i < n) (hK : solK n M o xs = false) :
    Calls Try.prog 27 #[v, .slice ao n cap] w fun e w' => e = .returned (.tuple #[.slice none 0 0, .int .i64 6]) ∧ Below w.heap.size w w' := by
  refine (solve_ok h hl (by omega) hn hc hx hE hM ho).mono ?_
  rintro e w' ⟨u, E, rfl, hG, hb⟩
  rcases hG with ⟨h0, _⟩ | ⟨_, rfl, rfl⟩
  · rw [hK] at h0; cases h0
  · exact ⟨rfl, hb⟩
theorem tra_lit (hE : rfS n s n xs = 0) (hM : okM n M) (ho : inO n o) (y : Nat → Cw) (hK : trK n M xs = true) (hX : ∀ i, i < n → trZ n M xs i = (some (y (o i)).1, some (y (o i)).2)) (hS : ∀ j, j < n → ∃ i, i < n ∧ o i = j) :
    Calls Try.prog 53 #[v, .slice ao n cap] w fun e w' => ∃ g, e = .returned (.tuple #[.slice (some ⟨g, 0, none⟩) n n, .int .i64 0]) ∧ Rc w' (some ⟨g, 0, none⟩) (ro n y) ∧ Below w.heap.size w w' := by
  refine (trans_ok h hl hn hc hx hE hM ho).mono ?_
  rintro e w' ⟨u, E, rfl, hG, hb⟩
  rcases hG with ⟨_, rfl, g, yy, rfl, h1, h2⟩ | ⟨h0, _, _⟩
  · have e : ro n yy = ro n y := ro_congr (fun j hj => by
      obtain ⟨i, hi, rfl⟩ := hS j hj
      exact repz_lit (by rw [← hX i hi]; exact h1 i hi))
    rw [e] at h2
    exact ⟨g, rfl, h2.rc, hb⟩
  · rw [hK] at h0; cases h0
theorem tra_over (hE : rfS n s n xs = 0) (hM : okM n M) (ho : inO n o) (hK : trK n M xs = false) :
    Calls Try.prog 53 #[v, .slice ao n cap] w fun e w' => e = .returned (.tuple #[.slice none 0 0, .int .i64 6]) ∧ Below w.heap.size w w' := by
  refine (trans_ok h hl hn hc hx hE hM ho).mono ?_
  rintro e w' ⟨u, E, rfl, hG, hb⟩
  rcases hG with ⟨h0, _⟩ | ⟨_, rfl, rfl⟩
  · rw [hK] at h0; cases h0
  · exact ⟨rfl, hb⟩
end lit
/-- one value, as the statements' of lays it -/
theorem of10_any (n : Int) (A : Option Addr) (l c : Nat) (w : World) : Calls Try.prog 52 #[.int .i64 n, .slice A l c] w fun e w' => e = .returned (.agg #[.int .i64 n, .int .i64 n, .slice A l c]) ∧ Below w.heap.size w w' := by
  go_enter Try.func52, Try.ntmps52
  go_wp2
  refine bodyPost_ret (by simp [results, Try.results52, go_sem]; try rfl) rfl ?_
  exact ⟨rfl, bal _ _⟩
abbrev y2 : Cw := (4611686018427387904, 0)
abbrev y1 : Cw := (4607182418800017408, 0)
abbrev y4 : Cw := (4616189618054758400, 0)
abbrev y3 : Cw := (4613937818241073152, 0)
def A2 : Nat → Nat → Cw := M4 y2 y1 y4 y3
abbrev bB : List Cw := [(4617315517961601024, 0), (4622382067542392832, 0)]
theorem a2_e : (elm 2 A2 2).1.1 = 0 := by kernel_rfl
theorem a2_s : (elm 2 A2 2).2.s = -1 := by kernel_rfl
theorem a2_d : M4 y2 y1 y4 y3 = A2 := rfl
theorem a2_nf : nff [y2, y1, y4, y3] 4 = 4 := by kernel_rfl
theorem a2_ok : okl [y2, y1, y4, y3] := ok4 ⟨by decide, by decide⟩ ⟨by decide, by decide⟩ ⟨by decide, by decide⟩ ⟨by decide, by decide⟩
theorem a2_eok : Eok 2 (elm 2 A2 2).2 := elm_eok (fun i j hi hj => by rw [show A2 i j = zat [y2, y1, y4, y3] (i * 2 + j) from rfl]; exact a2_ok _) (fun i j hi hj => by rw [show A2 i j = zat [y2, y1, y4, y3] (i * 2 + j) from rfl]; exact finL_iff.1 (nff_fin a2_nf) (i * 2 + j) (by omega)) 2 (Nat.le_refl _) a2_e
theorem a2_in : inO 2 (elm 2 A2 2).2.o := elm_in 2 (Nat.le_refl _) a2_e
theorem a2_K : solK 2 (elm 2 A2 2).2.M (elm 2 A2 2).2.o bB = true := by kernel_rfl
theorem a2_T : trK 2 (elm 2 A2 2).2.M bB = true := by kernel_rfl
theorem a2_X0 : solX 2 (elm 2 A2 2).2.M (elm 2 A2 2).2.o bB 0 = (some 4611686018427387904, some 0) := by kernel_rfl
theorem a2_X1 : solX 2 (elm 2 A2 2).2.M (elm 2 A2 2).2.o bB 1 = (some 4607182418800017408, some 9223372036854775808) := by kernel_rfl
theorem a2_o0 : (elm 2 A2 2).2.o 0 = 1 := by kernel_rfl
theorem a2_o1 : (elm 2 A2 2).2.o 1 = 0 := by kernel_rfl
theorem a2_det : detS (fun i => (elm 2 A2 2).2.M i i) 2 = ((13830554455654793216, 0), 1) := by kernel_rfl
theorem a2_Z0 : trZ 2 (elm 2 A2 2).2.M bB 0 = (some 4620974692658839552, some 0) := by kernel_rfl
theorem a2_Z1 : trZ 2 (elm 2 A2 2).2.M bB 1 = (some 13847724429234143232, some 9223372036854775808) := by kernel_rfl
theorem a2_pv : pvOk 2 (fun i => (elm 2 A2 2).2.M i i) := by
  have e0 : (elm 2 A2 2).2.M 0 0 = (4616189618054758400, 0) := by kernel_rfl
  have e1 : (elm 2 A2 2).2.M 1 1 = (13826050856027422720, 0) := by kernel_rfl
  intro k hk
  match k, hk with
  | 0, _ => simp only; rw [e0]; exact ⟨⟨by decide, by decide⟩, by unfold fin; decide, by unfold fin; decide, by decide⟩
  | 1, _ => simp only; rw [e1]; exact ⟨⟨by decide, by decide⟩, by unfold fin; decide, by unfold fin; decide, by decide⟩
theorem b2_ok : okl bB := by
  intro k
  match k with
  | 0 => exact ⟨by decide, by decide⟩
  | 1 => exact ⟨by decide, by decide⟩
  | k + 2 => rw [zat_ge (by simp)]; exact ⟨by decide, by decide⟩
theorem b2_rf : rfS 2 (-1) 2 bB = 0 := by kernel_rfl
theorem b2_x (j : Nat) (h : j < 2) : solX 2 (elm 2 A2 2).2.M (elm 2 A2 2).2.o bB j = (some (zat [(4611686018427387904, 0), (4607182418800017408, 9223372036854775808)] j).1, some (zat [(4611686018427387904, 0), (4607182418800017408, 9223372036854775808)] j).2) := by
  match j, h with
  | 0, _ => exact a2_X0
  | 1, _ => exact a2_X1
theorem b2_z (i : Nat) (h : i < 2) : trZ 2 (elm 2 A2 2).2.M bB i = (some (zat [(13847724429234143232, 9223372036854775808), (4620974692658839552, 0)] ((elm 2 A2 2).2.o i)).1, some (zat [(13847724429234143232, 9223372036854775808), (4620974692658839552, 0)] ((elm 2 A2 2).2.o i)).2) := by
  match i, h with
  | 0, _ => rw [a2_o0]; exact a2_Z0
  | 1, _ => rw [a2_o1]; exact a2_Z1
theorem b2_sj (j : Nat) (h : j < 2) : ∃ i, i < 2 ∧ (elm 2 A2 2).2.o i = j := by
  match j, h with
  | 0, _ => exact ⟨1, by decide, a2_o1⟩
  | 1, _ => exact ⟨0, by decide, a2_o0⟩
theorem of_a2 {W : World} {B : Nat} (hc : Rc W (some ⟨B, 0, none⟩) [y2, y1, y4, y3]) :
    Calls Try.prog 14 #[.agg #[.int .i64 2, .int .i64 2, .slice (some ⟨B, 0, none⟩) 4 4]] W fun e w' => ∃ p, e = .returned (.tuple #[.pointer (some ⟨p, 0, none⟩), .agg #[.int .i64 0, .int .i64 0]]) ∧ Lhd w' (.pointer (some ⟨p, 0, none⟩)) 2 (elm 2 A2 2).2.M (elm 2 A2 2).2.o (-1) ∧ Below W.heap.size W w' := by
  refine (of2 (a := y2) (b := y1) (c := y4) (d := y3) hc a2_ok a2_nf).mono ?_
  rintro e w' ⟨_, h2, h3⟩
  rw [a2_d] at h2
  obtain ⟨p, gr, go, bl, he, hL⟩ := h2 a2_e
  refine ⟨p, he, ?_, h3⟩
  rw [← a2_s]
  exact hL.lh
theorem sol_a2 {w : World} {v : Value} {B : Nat} (h : Lhd w v 2 (elm 2 A2 2).2.M (elm 2 A2 2).2.o (-1)) (hc : Rc w (some ⟨B, 0, none⟩) bB) :
    Calls Try.prog 27 #[v, .slice (some ⟨B, 0, none⟩) 2 2] w fun e w' => ∃ g, e = .returned (.tuple #[.slice (some ⟨g, 0, none⟩) 2 2, .int .i64 0]) ∧ Rc w' (some ⟨g, 0, none⟩) (ro 2 (zat [(4611686018427387904, 0), (4607182418800017408, 9223372036854775808)])) ∧ Below w.heap.size w w' :=
  sol_lit h rfl (by decide) hc b2_ok b2_rf a2_eok.ok a2_in.1 _ a2_K b2_x
theorem tra_a2 {w : World} {v : Value} {B : Nat} (h : Lhd w v 2 (elm 2 A2 2).2.M (elm 2 A2 2).2.o (-1)) (hc : Rc w (some ⟨B, 0, none⟩) bB) :
    Calls Try.prog 53 #[v, .slice (some ⟨B, 0, none⟩) 2 2] w fun e w' => ∃ g, e = .returned (.tuple #[.slice (some ⟨g, 0, none⟩) 2 2, .int .i64 0]) ∧ Rc w' (some ⟨g, 0, none⟩) (ro 2 (zat [(13847724429234143232, 9223372036854775808), (4620974692658839552, 0)])) ∧ Below w.heap.size w w' :=
  tra_lit h rfl (by decide) hc b2_ok b2_rf a2_eok.ok a2_in _ a2_T b2_z b2_sj
theorem det_a2 {w : World} {v : Value} (h : Lhd w v 2 (elm 2 A2 2).2.M (elm 2 A2 2).2.o (-1)) :
    Calls Try.prog 54 #[v] w fun e w' => e = .returned (.tuple #[.complex .f64 4607182418800017408 9223372036854775808, .int .i64 1, .int .i64 0]) ∧ Below w.heap.size w w' := by
  refine (det_any h (by decide) (by decide) a2_pv).mono ?_
  rintro e w' ⟨rfl, hb⟩
  refine ⟨?_, hb⟩
  unfold detR
  rw [a2_det]
  rfl

end Go.Proofs.Ytklbgibhbnijaaa
