/-
  SolveScales' walk: the calls of solve.
-/
import Derived.Test.YtklbgibhbnijaaaWsa
namespace Go.Proofs.Ytklbgibhbnijaaa
open Fl RowKit

/-- the number moved by a power of two -/
def shz (p : Int) (z : Cw) : Cw := (ldx z.1 p, ldx z.2 p)
/-- two columns side by side -/
def dd (b c : Nat → Cw) (k : Nat) : Cw := if k % 2 = 0 then b (k / 2) else c (k / 2)
theorem dd0 (b c : Nat → Cw) (i : Nat) : dd b c (2 * i) = b i := by unfold dd; rw [if_pos (by omega), show 2 * i / 2 = i by omega]
theorem dd1 (b c : Nat → Cw) (i : Nat) : dd b c (2 * i + 1) = c i := by unfold dd; rw [if_neg (by omega), show (2 * i + 1) / 2 = i by omega]
theorem shz_fin {h C : Nat} {z : Cw} (a : FX h C z) (k : Nat) (hh : 180 ≤ h) (hC : C ≤ 1800) (hk : 8 ≤ k) (hk2 : k ≤ 255) : okz (shz ((k : Int) - 128) z) ∧ finZ (shz ((k : Int) - 128) z) = true := by
  have g := a.ld k hh hC hk hk2
  refine ⟨⟨g.a.l', g.b.l'⟩, ?_⟩
  unfold finZ finB
  rw [Bool.and_eq_true]
  exact ⟨decide_eq_true g.a.s.2.1, decide_eq_true g.b.s.2.1⟩
section
variable {N T k : Nat} {f : Nat → Cw} {b : Nat → Cw} {p : Int} (hN : N ≤ 2) (hT : T = 2 * N) (hf : ∀ k, FX 1074 1083 (f k)) (h2 : nff (ro (N * N) f) (N * N) = N * N) (h3 : (elm N (mat9 N f) N).1.1 = 0) (hk : 8 ≤ k) (hk2 : k ≤ 255) (hp : p = (k : Int) - 128) (hb : ∀ i, FX 1074 1083 (b i))
include hN hT hf h2 h3 hk hk2 hp hb
theorem sc_con : ∃ x : Nat → Cw, (∀ i, i < N → FX 500 1263 (x i)) ∧
    (∀ (v : Value) (W : World) (A : Option Addr) (c : Nat), Lhd W v N (elm N (mat9 N f) N).2.M (elm N (mat9 N f) N).2.o (elm N (mat9 N f) N).2.s → Rc W A (ro N b) → Calls Try.prog 27 #[v, .slice A N c] W fun e w' => ∃ B d, e = .returned (.tuple #[.slice B N d, .int .i64 0]) ∧ Rc w' B (ro N x) ∧ Below W.heap.size W w') ∧
    (∀ (v : Value) (W : World) (A : Option Addr) (c : Nat), Lhd W v N (elm N (mat9 N f) N).2.M (elm N (mat9 N f) N).2.o (elm N (mat9 N f) N).2.s → Rc W A (ro N fun i => shz p (b i)) → Calls Try.prog 27 #[v, .slice A N c] W fun e w' => ∃ B d, e = .returned (.tuple #[.slice B N d, .int .i64 0]) ∧ Rc w' B (ro N fun i => shz p (x i)) ∧ Below W.heap.size W w') ∧
    (∀ (v : Value) (W : World) (A : Option Addr) (c : Nat), Lhd W v N (elm N (mat9 N f) N).2.M (elm N (mat9 N f) N).2.o (elm N (mat9 N f) N).2.s → T ≤ c → (A = none ∧ T = 0 ∨ ∃ g off, A = some ⟨g, off, none⟩) → Rc W A (ro T (dd b fun i => shz p (b i))) → Calls Try.prog 28 #[v, .agg #[.int .i64 N, .int .i64 2, .slice A T c]] W fun e w' => ∃ g, e = .returned (.tuple #[.agg #[.int .i64 N, .int .i64 2, .slice (some ⟨g, 0, none⟩) T T], .int .i64 0]) ∧ Rc w' (some ⟨g, 0, none⟩) (ro T (dd x fun i => shz p (x i))) ∧ Below W.heap.size W w') := by
  subst hp
  have hT' : T = N * 2 := by omega
  have hE : Eok N (elm N (mat9 N f) N).2 := elm_eok (mat_ok fun k _ => (hf k).okz) (mat_fin h2) N (Nat.le_refl _) h3
  have hO := elm_in N (Nat.le_refl _) h3
  have hs : ¬ (elm N (mat9 N f) N).2.s = 0 := by rcases hE.pm with e | e <;> rw [e] <;> decide
  have hb' : ∀ i, okz (shz ((k : Int) - 128) (b i)) ∧ finZ (shz ((k : Int) - 128) (b i)) = true := fun i => shz_fin (hb i) k (by decide) (by decide) hk hk2
  obtain ⟨x, x1, x2, x3, x4, k1, k2, k3⟩ := scales_num (M := mat9 N f) (b := b) (D := dd b fun i => shz ((k : Int) - 128) (b i)) hN (fun i j _ _ => hf _) h3 hk hk2 hb (fun i _ => dd0 _ _ i) (fun i _ => dd1 _ _ i)
  have hD : ∀ k', okz (dd b (fun i => shz ((k : Int) - 128) (b i)) k') ∧ finZ (dd b (fun i => shz ((k : Int) - 128) (b i)) k') = true := fun k' => by
    unfold dd
    split
    · exact ⟨(hb _).okz, (hb _).finZ⟩
    · exact hb' _
  refine ⟨x, x1, fun v W A c hL hR => ?_, fun v W A c hL hR => ?_, fun v W A c hL hc hA hR => ?_⟩
  · have hr : rfS N (elm N (mat9 N f) N).2.s N (ro N b) = 0 := by
      unfold rfS
      rw [if_neg hs, if_neg (by simp), if_pos (finL_iff.2 fun j hj => by rw [ro_at _ hj]; exact (hb j).finZ)]
    refine (solveC hL (ro_len _ _) (by omega) (by omega) hR (ro_ok fun k _ => (hb k).okz) hE.ok hO 0 (by unfold sE; rw [if_pos hr, if_pos k1])).mono ?_
    rintro e w' ⟨B, d, y, rfl, hy, hyr, hbl⟩
    refine ⟨B, d, rfl, ?_, hbl⟩
    rw [ro_congr (f := x) (g := y) (fun i hi => (x2 y hyr i hi).symm)]
    exact hy
  · have hr : rfS N (elm N (mat9 N f) N).2.s N (ro N fun i => shz ((k : Int) - 128) (b i)) = 0 := by
      unfold rfS
      rw [if_neg hs, if_neg (by simp), if_pos (finL_iff.2 fun j hj => by rw [ro_at _ hj]; exact (hb' j).2)]
    refine (solveC hL (ro_len _ _) (by omega) (by omega) hR (ro_ok fun k _ => (hb' k).1) hE.ok hO 0 (by unfold sE; rw [if_pos hr]; exact (if_pos k2).symm)).mono ?_
    rintro e w' ⟨B, d, y, rfl, hy, hyr, hbl⟩
    refine ⟨B, d, rfl, ?_, hbl⟩
    rw [ro_congr (f := fun i => shz ((k : Int) - 128) (x i)) (g := y) (fun i hi => (x3 y hyr i hi).symm)]
    exact hy
  · subst hT'
    refine (many_any hL hs (by omega) (by decide) hE.ok hO hc hA hR (fun k' _ => (hD k').1) (finL_iff.2 fun j hj => by rw [ro_at _ hj]; exact (hD j).2)).mono ?_
    rintro e w' ⟨h, hbl⟩
    rcases h with ⟨_, g, y, rfl, hyr, hy⟩ | ⟨⟨j, hj, hj2⟩, _⟩
    · refine ⟨g, rfl, ?_, hbl⟩
      rw [ro_congr (f := dd x fun i => shz ((k : Int) - 128) (x i)) (g := y) (fun i hi => ?_)]
      · exact hy.rc
      · have hi2 : i / 2 < N := by omega
        have := x4 y hyr (i / 2) hi2
        unfold dd
        by_cases e : i % 2 = 0
        · rw [if_pos e, ← this.1, show i / 2 * 2 = i by omega]
        · rw [if_neg e]
          have t := this.2
          rw [show i / 2 * 2 + 1 = i by omega] at t
          exact t.symm
    · rw [k3 j hj] at hj2; cases hj2
end

end Go.Proofs.Ytklbgibhbnijaaa
