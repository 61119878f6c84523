/-
  The examples of chapter 9, each eliminated by the numbers alone.
-/
import Derived.Test.YtiddmcbecoopoaaLka
import Derived.Test.YtiddmcbecoopoaaWLMs
import Derived.Test.YtiddmcbecoopoaaLdt
import Derived.Laws.ComplexArith
namespace Go.Proofs.Ytiddmcbecoopoaa
open Fl RowKit

theorem okEA : okl [(4607182418800017408, 0), (4611686018427387904, 0), (4613937818241073152, 0), (4616189618054758400, 0)] := ok4 ⟨by decide, by decide⟩ ⟨by decide, by decide⟩ ⟨by decide, by decide⟩ ⟨by decide, by decide⟩
theorem nfEA : nff [(4607182418800017408, 0), (4611686018427387904, 0), (4613937818241073152, 0), (4616189618054758400, 0)] 4 = 4 := by kernel_rfl
theorem eEA : (elm 2 (M4 (4607182418800017408, 0) (4611686018427387904, 0) (4613937818241073152, 0) (4616189618054758400, 0)) 2).1.1 = 0 := by kernel_rfl
theorem sEA : (elm 2 (M4 (4607182418800017408, 0) (4611686018427387904, 0) (4613937818241073152, 0) (4616189618054758400, 0)) 2).2.s = -1 := by kernel_rfl
theorem oEA : ri 2 (elm 2 (M4 (4607182418800017408, 0) (4611686018427387904, 0) (4613937818241073152, 0) (4616189618054758400, 0)) 2).2.o = [1, 0] := by kernel_rfl
theorem of_EA {W : World} {B : Nat} (hc : Rc W (some ⟨B, 0, none⟩) [(4607182418800017408, 0), (4611686018427387904, 0), (4613937818241073152, 0), (4616189618054758400, 0)]) :
    Calls Try.prog 15 #[.agg #[.int .i64 2, .int .i64 2, .slice (some ⟨B, 0, none⟩) 4 4]] W fun e w' => ∃ p, e = .returned (.tuple #[.pointer (some ⟨p, 0, none⟩), .agg #[.int .i64 0, .int .i64 0]]) ∧ Lh w' p 2 (elm 2 (M4 (4607182418800017408, 0) (4611686018427387904, 0) (4613937818241073152, 0) (4616189618054758400, 0)) 2).2 ∧ Below W.heap.size W w' := by
  refine (of2 hc okEA nfEA).mono ?_
  rintro e w' ⟨_, h2, h3⟩
  obtain ⟨p, gr, go, bl, he, hL⟩ := h2 eEA
  exact ⟨p, he, ⟨_, gr, go, bl, hL⟩, h3⟩
theorem okEB : okl [(1905022642377719808, 0), (9110782046170513408, 0), (1905022642377719808, 0), (18334154083025289216, 9223372036854775808)] := ok4 ⟨by decide, by decide⟩ ⟨by decide, by decide⟩ ⟨by decide, by decide⟩ ⟨by decide, by decide⟩
theorem nfEB : nff [(1905022642377719808, 0), (9110782046170513408, 0), (1905022642377719808, 0), (18334154083025289216, 9223372036854775808)] 4 = 4 := by kernel_rfl
theorem eEB : (elm 2 (M4 (1905022642377719808, 0) (9110782046170513408, 0) (1905022642377719808, 0) (18334154083025289216, 9223372036854775808)) 2).1.1 = 0 := by kernel_rfl
theorem sEB : (elm 2 (M4 (1905022642377719808, 0) (9110782046170513408, 0) (1905022642377719808, 0) (18334154083025289216, 9223372036854775808)) 2).2.s = 1 := by kernel_rfl
theorem oEB : ri 2 (elm 2 (M4 (1905022642377719808, 0) (9110782046170513408, 0) (1905022642377719808, 0) (18334154083025289216, 9223372036854775808)) 2).2.o = [0, 1] := by kernel_rfl
theorem of_EB {W : World} {B : Nat} (hc : Rc W (some ⟨B, 0, none⟩) [(1905022642377719808, 0), (9110782046170513408, 0), (1905022642377719808, 0), (18334154083025289216, 9223372036854775808)]) :
    Calls Try.prog 15 #[.agg #[.int .i64 2, .int .i64 2, .slice (some ⟨B, 0, none⟩) 4 4]] W fun e w' => ∃ p, e = .returned (.tuple #[.pointer (some ⟨p, 0, none⟩), .agg #[.int .i64 0, .int .i64 0]]) ∧ Lh w' p 2 (elm 2 (M4 (1905022642377719808, 0) (9110782046170513408, 0) (1905022642377719808, 0) (18334154083025289216, 9223372036854775808)) 2).2 ∧ Below W.heap.size W w' := by
  refine (of2 hc okEB nfEB).mono ?_
  rintro e w' ⟨_, h2, h3⟩
  obtain ⟨p, gr, go, bl, he, hL⟩ := h2 eEB
  exact ⟨p, he, ⟨_, gr, go, bl, hL⟩, h3⟩
theorem okEC : okl [(0, 0), (4607182418800017408, 0), (0, 0), (4611686018427387904, 0)] := ok4 ⟨by decide, by decide⟩ ⟨by decide, by decide⟩ ⟨by decide, by decide⟩ ⟨by decide, by decide⟩
theorem nfEC : nff [(0, 0), (4607182418800017408, 0), (0, 0), (4611686018427387904, 0)] 4 = 4 := by kernel_rfl
theorem eEC : (elm 2 (M4 (0, 0) (4607182418800017408, 0) (0, 0) (4611686018427387904, 0)) 2).1 = (7, 0) := by kernel_rfl
theorem of_EC {W : World} {B : Nat} (hc : Rc W (some ⟨B, 0, none⟩) [(0, 0), (4607182418800017408, 0), (0, 0), (4611686018427387904, 0)]) :
    Calls Try.prog 15 #[.agg #[.int .i64 2, .int .i64 2, .slice (some ⟨B, 0, none⟩) 4 4]] W fun e w' => e = .returned (.tuple #[.pointer none, .agg #[.int .i64 7, .int .i64 0]]) ∧ Below W.heap.size W w' := by
  refine (of2 hc okEC nfEC).mono ?_
  rintro e w' ⟨h1, _, h3⟩
  rw [eEC] at h1
  exact ⟨h1 (by decide), h3⟩
theorem okED : okl [(4607182418800017408, 0), (4611686018427387904, 0), (4611686018427387904, 0), (4616189618054758400, 0)] := ok4 ⟨by decide, by decide⟩ ⟨by decide, by decide⟩ ⟨by decide, by decide⟩ ⟨by decide, by decide⟩
theorem nfED : nff [(4607182418800017408, 0), (4611686018427387904, 0), (4611686018427387904, 0), (4616189618054758400, 0)] 4 = 4 := by kernel_rfl
theorem eED : (elm 2 (M4 (4607182418800017408, 0) (4611686018427387904, 0) (4611686018427387904, 0) (4616189618054758400, 0)) 2).1 = (7, 1) := by kernel_rfl
theorem of_ED {W : World} {B : Nat} (hc : Rc W (some ⟨B, 0, none⟩) [(4607182418800017408, 0), (4611686018427387904, 0), (4611686018427387904, 0), (4616189618054758400, 0)]) :
    Calls Try.prog 15 #[.agg #[.int .i64 2, .int .i64 2, .slice (some ⟨B, 0, none⟩) 4 4]] W fun e w' => e = .returned (.tuple #[.pointer none, .agg #[.int .i64 7, .int .i64 1]]) ∧ Below W.heap.size W w' := by
  refine (of2 hc okED nfED).mono ?_
  rintro e w' ⟨h1, _, h3⟩
  rw [eED] at h1
  exact ⟨h1 (by decide), h3⟩
theorem okEE : okl [(4607182418800017408, 0), (9214364837600034816, 0), (13830554455654793216, 0), (9214364837600034816, 0)] := ok4 ⟨by decide, by decide⟩ ⟨by decide, by decide⟩ ⟨by decide, by decide⟩ ⟨by decide, by decide⟩
theorem nfEE : nff [(4607182418800017408, 0), (9214364837600034816, 0), (13830554455654793216, 0), (9214364837600034816, 0)] 4 = 4 := by kernel_rfl
theorem eEE : (elm 2 (M4 (4607182418800017408, 0) (9214364837600034816, 0) (13830554455654793216, 0) (9214364837600034816, 0)) 2).1 = (6, 0) := by kernel_rfl
theorem of_EE {W : World} {B : Nat} (hc : Rc W (some ⟨B, 0, none⟩) [(4607182418800017408, 0), (9214364837600034816, 0), (13830554455654793216, 0), (9214364837600034816, 0)]) :
    Calls Try.prog 15 #[.agg #[.int .i64 2, .int .i64 2, .slice (some ⟨B, 0, none⟩) 4 4]] W fun e w' => e = .returned (.tuple #[.pointer none, .agg #[.int .i64 6, .int .i64 0]]) ∧ Below W.heap.size W w' := by
  refine (of2 hc okEE nfEE).mono ?_
  rintro e w' ⟨h1, _, h3⟩
  rw [eEE] at h1
  exact ⟨h1 (by decide), h3⟩
def lEA : List Cw := ro 4 (flw 2 (lE (elm 2 (M4 (4607182418800017408, 0) (4611686018427387904, 0) (4613937818241073152, 0) (4616189618054758400, 0)) 2).2.M))
def uEA : List Cw := ro 4 (flw 2 (uE (elm 2 (M4 (4607182418800017408, 0) (4611686018427387904, 0) (4613937818241073152, 0) (4616189618054758400, 0)) 2).2.M))
def lEB : List Cw := ro 4 (flw 2 (lE (elm 2 (M4 (1905022642377719808, 0) (9110782046170513408, 0) (1905022642377719808, 0) (18334154083025289216, 9223372036854775808)) 2).2.M))
def uEB : List Cw := ro 4 (flw 2 (uE (elm 2 (M4 (1905022642377719808, 0) (9110782046170513408, 0) (1905022642377719808, 0) (18334154083025289216, 9223372036854775808)) 2).2.M))
theorem cm2 (t : TypeId) (w : World) : (binOp .mul t (.complex .f64 13835058055282163712 0) (.complex .f64 9110782046170513408 0)).run Try.prog w = .ok (.complex .f64 18338657682652659712 0) w := run_complex_mul w t 13835058055282163712 0 9110782046170513408 0 18338657682652659712 0 (by kernel_rfl)
theorem eqLA : ∀ k, k < 4 → eqB (zat lEA k).1 (zat [(4607182418800017408, 0), (0, 0), (4599676419421066581, 0), (4607182418800017408, 0)] k).1 = true ∧ eqB (zat lEA k).2 (zat [(4607182418800017408, 0), (0, 0), (4599676419421066581, 0), (4607182418800017408, 0)] k).2 = true := by
  intro k hk
  match k, hk with
  | 0, _ => exact ⟨by kernel_rfl, by kernel_rfl⟩
  | 1, _ => exact ⟨by kernel_rfl, by kernel_rfl⟩
  | 2, _ => exact ⟨by kernel_rfl, by kernel_rfl⟩
  | 3, _ => exact ⟨by kernel_rfl, by kernel_rfl⟩
theorem eqUA : ∀ k, k < 4 → eqB (zat uEA k).1 (zat [(4613937818241073152, 0), (4616189618054758400, 0), (0, 0), (4604180019048437078, 0)] k).1 = true ∧ eqB (zat uEA k).2 (zat [(4613937818241073152, 0), (4616189618054758400, 0), (0, 0), (4604180019048437078, 0)] k).2 = true := by
  intro k hk
  match k, hk with
  | 0, _ => exact ⟨by kernel_rfl, by kernel_rfl⟩
  | 1, _ => exact ⟨by kernel_rfl, by kernel_rfl⟩
  | 2, _ => exact ⟨by kernel_rfl, by kernel_rfl⟩
  | 3, _ => exact ⟨by kernel_rfl, by kernel_rfl⟩
theorem eqLB : ∀ k, k < 4 → eqB (zat lEB k).1 (zat [(4607182418800017408, 0), (0, 0), (4607182418800017408, 0), (4607182418800017408, 0)] k).1 = true ∧ eqB (zat lEB k).2 (zat [(4607182418800017408, 0), (0, 0), (4607182418800017408, 0), (4607182418800017408, 0)] k).2 = true := by
  intro k hk
  match k, hk with
  | 0, _ => exact ⟨by kernel_rfl, by kernel_rfl⟩
  | 1, _ => exact ⟨by kernel_rfl, by kernel_rfl⟩
  | 2, _ => exact ⟨by kernel_rfl, by kernel_rfl⟩
  | 3, _ => exact ⟨by kernel_rfl, by kernel_rfl⟩
theorem eqUB : ∀ k, k < 4 → eqB (zat uEB k).1 (zat [(1905022642377719808, 0), (9110782046170513408, 0), (0, 0), (18338657682652659712, 0)] k).1 = true ∧ eqB (zat uEB k).2 (zat [(1905022642377719808, 0), (9110782046170513408, 0), (0, 0), (18338657682652659712, 0)] k).2 = true := by
  intro k hk
  match k, hk with
  | 0, _ => exact ⟨by kernel_rfl, by kernel_rfl⟩
  | 1, _ => exact ⟨by kernel_rfl, by kernel_rfl⟩
  | 2, _ => exact ⟨by kernel_rfl, by kernel_rfl⟩
  | 3, _ => exact ⟨by kernel_rfl, by kernel_rfl⟩
def pA : List Cw := ro 2 (fun i => (elm 2 (M4 (4607182418800017408, 0) (4611686018427387904, 0) (4613937818241073152, 0) (4616189618054758400, 0)) 2).2.M i i)
theorem eqPA : ∀ k, k < 2 → eqB (zat pA k).1 (zat [(4613937818241073152, 0), (4604180019048437078, 0)] k).1 = true ∧ eqB (zat pA k).2 (zat [(4613937818241073152, 0), (4604180019048437078, 0)] k).2 = true := by
  intro k hk
  match k, hk with
  | 0, _ => exact ⟨by kernel_rfl, by kernel_rfl⟩
  | 1, _ => exact ⟨by kernel_rfl, by kernel_rfl⟩
theorem f4 : mulO 4599676419421066581 4616189618054758400 = some 4608683618675807573 := by kernel_rfl
theorem fD : subO 4611686018427387904 4608683618675807573 = some 4604180019048437078 := by kernel_rfl
theorem nBIG : Op.negFloat .f64 9110782046170513408 = 18334154083025289216 := by kernel_rfl
theorem n00 : Op.negFloat .f64 0 = 9223372036854775808 := by kernel_rfl
theorem ld600 (w : World) : Calls Try.prog 27 #[.float .f64 4607182418800017408, .int .i64 (-600)] w fun e w' => ∃ n, e = .returned (.float .f64 1905022642377719808) ∧ w' = w.drewN n := ldexp_hi 1023 0 474 1905022642377719808 w (by decide) (by decide) (by decide) (by decide) (by decide) (by kernel_rfl)
theorem ld1000 (w : World) : Calls Try.prog 27 #[.float .f64 4607182418800017408, .int .i64 1000] w fun e w' => ∃ n, e = .returned (.float .f64 9110782046170513408) ∧ w' = w.drewN n := ldexp_hi 1023 0 2074 9110782046170513408 w (by decide) (by decide) (by decide) (by decide) (by decide) (by kernel_rfl)
theorem ld1023 (w : World) : Calls Try.prog 27 #[.float .f64 4607182418800017408, .int .i64 1023] w fun e w' => ∃ n, e = .returned (.float .f64 9214364837600034816) ∧ w' = w.drewN n := ldexp_hi 1023 0 2097 9214364837600034816 w (by decide) (by decide) (by decide) (by decide) (by decide) (by kernel_rfl)

end Go.Proofs.Ytiddmcbecoopoaa
