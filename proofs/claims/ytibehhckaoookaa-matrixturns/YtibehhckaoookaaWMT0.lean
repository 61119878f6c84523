/-
  Small facts for MatrixTurns.
-/
import Derived.Test.YtibehhckaoookaaBnc
import Derived.Test.YtibehhckaoookaaMud
import Derived.Test.YtibehhckaoookaaMtm
import Derived.Deep.Cut
import Derived.Deep.DeepCutAuto
import Derived.Deep.CutBlock
import Derived.Deep.QuietTactic
import Derived.BigQuiet
namespace Go.Proofs.Ytibehhckaoookaa
open Fl RowKit

theorem mb_nat {R C : Int} {n : Nat} (h : mb R C n = true) : ∃ r s : Nat, R = (r : Int) ∧ C = (s : Int) ∧ r ≤ 64 ∧ s ≤ 64 ∧ n = r * s := by
  obtain ⟨h1, h2, h3, h4, h5⟩ := of_decide_eq_true h
  obtain ⟨r, rfl⟩ := Int.eq_ofNat_of_zero_le h1
  obtain ⟨s, rfl⟩ := Int.eq_ofNat_of_zero_le h3
  refine ⟨r, s, rfl, rfl, by omega, by omega, ?_⟩
  rw [← Int.natCast_mul] at h5
  exact Int.ofNat.inj h5
theorem rw_mx {w : World} {b r s c : Nat} {A : Option Addr} {xs : List Cw} (h : Rw w b (.slice A (r * s) c) (r * s) xs) (hr : r ≤ 64) (hs : s ≤ 64) (hx : okl xs) : Mx w r s A c (fun k => anz (zat xs k)) xs :=
  ⟨h.len, hr, hs, fun j _ => repz_anz (hx j), (rw_src h hx).sl⟩
theorem tr_tr {r s : Nat} (F : Nat → Cn) : ∀ k, k < r * s → flat s (fun j i => flat r (fun j i => F (i * s + j)) (i * r + j)) k = F k := by
  intro k hk
  have hs : 0 < s := by
    rcases Nat.eq_zero_or_pos s with h | h
    · rw [h, Nat.mul_zero] at hk; omega
    · exact h
  have h1 : k / s < r := (Nat.div_lt_iff_lt_mul hs).2 hk
  show flat r (fun j i => F (i * s + j)) (k % s * r + k / s) = F k
  rw [flat_at h1, Nat.mul_comm, Nat.div_add_mod]
theorem con_con {z : Cw} (h : okz z) : conZ (conZ (anz z)) = anz z := by
  show ((ans z.1, negA (negA (ans z.2))) : Cn) = anz z
  rw [negA_negA (rep_ans h.2).bd]; rfl
theorem swp_swp {a b x : Nat} : swp2 a b (swp2 a b x) = x := by
  unfold swp2
  by_cases h1 : x = a
  · rw [if_pos h1]
    by_cases h2 : b = a
    · rw [if_pos h2, h2, h1]
    · rw [if_neg h2, if_pos rfl, h1]
  · rw [if_neg h1]
    by_cases h2 : x = b
    · rw [if_pos h2, if_pos rfl, h2]
    · rw [if_neg h2, if_neg h1, if_neg h2]
theorem sw_tw {r s a b : Nat} (F : Nat → Cn) : ∀ k, k < r * s → flat s (fun i j => flat s (fun i j => F (swp2 a b i * s + j)) (swp2 a b i * s + j)) k = F k := by
  intro k hk
  have hs : 0 < s := by
    rcases Nat.eq_zero_or_pos s with h | h
    · rw [h, Nat.mul_zero] at hk; omega
    · exact h
  show flat s (fun i j => F (swp2 a b i * s + j)) (swp2 a b (k / s) * s + k % s) = F k
  rw [flat_at (Nat.mod_lt _ hs)]
  show F (swp2 a b (swp2 a b (k / s)) * s + k % s) = F k
  rw [swp_swp, Nat.mul_comm, Nat.div_add_mod]
theorem swap_zero {w : World} {i j : Int} (h : ¬ ((0 ≤ i ∧ i < (0 : Int)) ∧ 0 ≤ j ∧ j < (0 : Int))) : Calls Try.prog 14 #[.agg #[.int .i64 0, .int .i64 0, .slice none 0 0], .int .i64 i, .int .i64 j] w fun e w' => e = .returned (.tuple #[.agg #[.int .i64 0, .int .i64 0, .slice none 0 0], .int .i64 2]) ∧ Below w.heap.size w w' :=
  fswap_arg (n := 0) (by omega) (by decide) h
theorem conj_zero (w : World) : Calls Try.prog 13 #[.agg #[.int .i64 0, .int .i64 0, .slice none 0 0]] w fun e w' => ∃ g, e = .returned (.tuple #[.agg #[.int .i64 0, .int .i64 0, .slice (some ⟨g, 0, none⟩) 0 0], .int .i64 0]) ∧ Below w.heap.size w w' :=
  (mconj (mx_zero w)).mono (by rintro e w' ⟨g, zs, rfl, _, hb⟩; exact ⟨g, rfl, hb⟩)
theorem cell_k {w : World} {R C c g : Nat} {F : Nat → Cn} {zs : List Cw} (h : Mx w R C (some ⟨g, 0, none⟩) c F zs) {k : Nat} (hk : k < R * C) (q : Nat) : (w.drewN q).cell? ⟨g, k, none⟩ = some (cx (zat zs k)) := by
  obtain ⟨b, off, hA, _, hc⟩ := h.sl.rd k (by rw [h.len]; exact hk)
  cases hA
  rw [Nat.zero_add] at hc
  exact hc
theorem eqw_ord {x y : Cw} (h : equalW x y = true) : FloatKind.f64.format.order x.1 y.1 = some .eq ∧ FloatKind.f64.format.order x.2 y.2 = some .eq := by
  unfold equalW eqB at h
  rw [Bool.and_eq_true] at h
  exact ⟨eq_of_beq h.1, eq_of_beq h.2⟩
theorem prod_con {r s t : Nat} {xs ys : List Cw} (hx : okl xs) (hy : okl ys) : ∀ zp zq zr : List Cw,
    repl (flat t (fun i j => sumZ (fun k => mulZ (anz (zat xs (i * s + k))) (anz (zat ys (k * t + j)))) s)) (r * t) zp →
    repl (flat t (fun i j => sumZ (fun k => mulZ (conZ (anz (zat xs (i * s + k)))) (conZ (anz (zat ys (k * t + j))))) s)) (r * t) zq →
    repl (flat t (fun i j => conZ (flat t (fun i j => sumZ (fun k => mulZ (anz (zat xs (i * s + k))) (anz (zat ys (k * t + j)))) s) (i * t + j)))) (r * t) zr →
    ∀ k, k < r * t → nan (zat zp k).1 = false → nan (zat zp k).2 = false → equalW (zat zr k) (zat zq k) = true := by
  intro zp zq zr hp hq hr k hk n1 n2
  have h1 := hp k hk
  have h2 := hq k hk
  have h3 := hr k hk
  rw [flat_flat (f := fun k => conZ (flat t (fun i j => sumZ (fun k => mulZ (anz (zat xs (i * s + k))) (anz (zat ys (k * t + j)))) s) k)) k] at h3
  obtain ⟨e1, e2⟩ := sum_con (f := fun m => anz (zat xs (k / t * s + m))) (g := fun m => anz (zat ys (m * t + k % t))) s (fun m _ => (rep_ans (hx _).2).bd) (fun m _ => (rep_ans (hy _).2).bd)
  exact con_eq h1 h3 h2 e1 e2 n1 n2
theorem sums_any {w : World} {r s r' s' c c' d : Nat} {A A' D : Option Addr} {F G : Nat → Cn} {xs ys ts : List Cw} (MX : Mx w r s A c F xs) (MY : Mx w r' s' A' c' G ys) (MT : Mx w s r D d (flat r (fun j i => F (i * s + j))) ts) :
    Calls Try.prog 51 #[.agg #[.int .i64 r, .int .i64 s, .slice A (r * s) c], .agg #[.int .i64 r', .int .i64 s', .slice A' (r' * s') c'], .agg #[.int .i64 s, .int .i64 r, .slice D (s * r) d]] w fun e w' => e = .returned (.bool true) ∧ Below w.heap.size w w' := by
  by_cases h : r = r' ∧ s = s'
  · obtain ⟨rfl, rfl⟩ := h
    exact sums_same MX MY MT
  · exact sums_diff MX MY MT h

end Go.Proofs.Ytibehhckaoookaa
