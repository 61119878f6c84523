/-
  times and Product of gridworkref01: the product of two finite words as a number of 72 limbs.
-/
import Derived.Test.YtggnilfphnnpkaaWOf2
import Derived.Test.YtggnilfphnnpkaaTp
namespace Go.Proofs.Ytggnilfphnnpkaa
open Fl RowKit

theorem mulw (x y n : Nat) (h : x * y = n) (hn : n < 18446744073709551616) : IntKind.u64.wrap ((x : Int) * (y : Int)) = (n : Int) := by
  rw [IntKind.wrap_u64, ← Int.natCast_mul, h]; omega
theorem ret2uu {a b c d : Int} (h : a = b) (h2 : c = d) : Ending.returned (.tuple #[.int .u64 a, .int .u64 c]) = .returned (.tuple #[.int .u64 b, .int .u64 d]) := by rw [h, h2]
theorem times_math (a b c d : Nat) : (a * 4294967296 + b) * (c * 4294967296 + d) = a * c * 18446744073709551616 + (a * d + b * c) * 4294967296 + b * d := by
  rw [Nat.add_mul, Nat.mul_add, Nat.mul_add]
  have e1 : a * 4294967296 * (c * 4294967296) = a * c * 18446744073709551616 := by
    rw [Nat.mul_assoc, Nat.mul_left_comm 4294967296 c, ← Nat.mul_assoc, ← Nat.mul_assoc, Nat.mul_assoc (a * c)]
  have e2 : a * 4294967296 * d = a * d * 4294967296 := by rw [Nat.mul_right_comm]
  have e3 : b * (c * 4294967296) = b * c * 4294967296 := by rw [Nat.mul_assoc]
  rw [e1, e2, e3]; omega
set_option maxRecDepth 100000 in
theorem times_any (m n : Nat) (w : World) (hm : m < 9007199254740992) (hn : n < 9007199254740992) :
    Calls Try.prog 57 #[.int .u64 (m : Int), .int .u64 (n : Int)] w fun e w' => ∃ hi lo : Nat, e = .returned (.tuple #[.int .u64 (hi : Int), .int .u64 (lo : Int)]) ∧ hi * 18446744073709551616 + lo = m * n ∧ lo < 18446744073709551616 ∧ hi < 18446744073709551616 ∧ w' = w := by
  obtain ⟨a, b, hab, ha, hb⟩ : ∃ a b, m = a * 4294967296 + b ∧ a < 2097152 ∧ b < 4294967296 := ⟨m / 4294967296, m % 4294967296, by omega, by omega, by omega⟩
  obtain ⟨c, d, hcd, hc, hd⟩ : ∃ c d, n = c * 4294967296 + d ∧ c < 2097152 ∧ d < 4294967296 := ⟨n / 4294967296, n % 4294967296, by omega, by omega, by omega⟩
  have T := times_math a b c d
  rw [← hab, ← hcd] at T
  have r1 : (m : Int) / 4294967296 = (a : Int) := by omega
  have r2 : (m : Int) % 4294967296 = (b : Int) := by omega
  have r3 : (n : Int) / 4294967296 = (c : Int) := by omega
  have r4 : (n : Int) % 4294967296 = (d : Int) := by omega
  have p1 : b * d < 18446744073709551616 := Nat.mul_lt_mul'' hb hd
  have p2 : a * d < 2097152 * 4294967296 := Nat.mul_lt_mul'' ha hd
  have p3 : b * c < 4294967296 * 2097152 := Nat.mul_lt_mul'' hb hc
  have p4 : a * c < 2097152 * 2097152 := Nat.mul_lt_mul'' ha hc
  have q1 := mulw b d (b * d) rfl p1
  have q2 := mulw a d (a * d) rfl (by omega)
  have q3 := mulw b c (b * c) rfl (by omega)
  have q4 := mulw a c (a * c) rfl (by omega)
  generalize b * d = P at *
  generalize a * d = Q at *
  generalize b * c = R at *
  generalize a * c = S at *
  have HT : Hid (m * n = S * 18446744073709551616 + (Q + R) * 4294967296 + P) := T
  have s1 : IntKind.u64.wrap (((Q : Int) + (R : Int)) * 4294967296) = (((Q + R) * 4294967296 % 18446744073709551616 : Nat) : Int) := by rw [IntKind.wrap_u64]; omega
  have s2 : ((Q : Int) + (R : Int)) / 4294967296 = (((Q + R) / 4294967296 : Nat) : Int) := by omega
  have s3 : (Q + R) * 4294967296 = (Q + R) / 4294967296 * 18446744073709551616 + (Q + R) * 4294967296 % 18446744073709551616 := by omega
  have s4 : (Q + R) * 4294967296 % 18446744073709551616 < 18446744073709551616 := Nat.mod_lt _ (by omega)
  have s5 : (Q + R) / 4294967296 < 4194304 := by omega
  generalize (Q + R) * 4294967296 % 18446744073709551616 = U at *
  generalize (Q + R) / 4294967296 = V at *
  have HS : Hid ((Q + R) * 4294967296 = V * 18446744073709551616 + U) := s3
  clear T s3 hab hcd
  by_cases o : P + U < 18446744073709551616
  · go_enter Try.func57, Try.ntmps57
    go_wp2
    go_ret2
    exact ⟨S + V, P + U, ret2uu (by omega) (by omega), by rw [HT.out, HS.out]; omega, by omega, by omega, rfl⟩
  · obtain ⟨X, hX⟩ : ∃ X, P + U = 18446744073709551616 + X := ⟨P + U - 18446744073709551616, by omega⟩
    have s6 : IntKind.u64.wrap ((P : Int) + (U : Int)) = (X : Int) := by rw [IntKind.wrap_u64]; omega
    have s7 : X < P := by omega
    have HX : Hid (P + U = 18446744073709551616 + X) := hX
    clear hX o
    go_enter Try.func57, Try.ntmps57
    go_wp2
    go_ret2
    exact ⟨S + V + 1, X, ret2uu (by omega) rfl, by have := HX.out; rw [HT.out, HS.out]; omega, by omega, by omega, rfl⟩

def EP (v : Int) : Nat := emb (v * ((2 ^ 52 : Nat) : Int))
theorem prod_pow {a b : Nat} (ha : fin a) (hb : fin b) : 2 * (sig (mg a) * sig (mg b) * 2 ^ (52 + (ex (mg a) + ex (mg b)))) < MM := by
  have h1 := sig_lt (mg a)
  have h2 := sig_lt (mg b)
  have e1 := ex_le (mg a) ha
  have e2 := ex_le (mg b) hb
  have h3 : sig (mg a) * sig (mg b) < 9007199254740992 * 9007199254740992 := Nat.mul_lt_mul'' h1 h2
  have h4 : (9007199254740992 * 9007199254740992 : Nat) = 2 ^ 106 := by decide
  rw [h4] at h3
  have h5 : sig (mg a) * sig (mg b) * 2 ^ (52 + (ex (mg a) + ex (mg b))) < 2 ^ 106 * 2 ^ (52 + (ex (mg a) + ex (mg b))) := (Nat.mul_lt_mul_right (Nat.two_pow_pos _)).2 h3
  have h6 : 2 * (2 ^ 106 * 2 ^ (52 + (ex (mg a) + ex (mg b)))) ≤ MM := by
    rw [MM_pow, ← Nat.pow_add, Nat.mul_comm, ← Nat.pow_succ]; exact Nat.pow_le_pow_right (by omega) (by unfold KMM; omega)
  omega
theorem prod_val {a b : Nat} (ha : fin a) (hb : fin b) : EP (val a * val b) = if (ng a ^^ ng b) then (MM - sig (mg a) * sig (mg b) * 2 ^ (52 + (ex (mg a) + ex (mg b)))) % MM else sig (mg a) * sig (mg b) * 2 ^ (52 + (ex (mg a) + ex (mg b))) := by
  have hs := prod_pow ha hb
  have e : sz (mg a) * sz (mg b) * 2 ^ 52 = sig (mg a) * sig (mg b) * 2 ^ (52 + (ex (mg a) + ex (mg b))) := by
    unfold sz; rw [Nat.pow_add, Nat.pow_add, Nat.mul_comm (2 ^ 52)]
    rw [← Nat.mul_assoc (sig (mg a) * sig (mg b)), Nat.mul_mul_mul_comm]
  have hn : emb ((sz (mg a) * sz (mg b) * 2 ^ 52 : Nat) : Int) = sig (mg a) * sig (mg b) * 2 ^ (52 + (ex (mg a) + ex (mg b))) := by rw [e]; exact emb_nat (by omega)
  have hv : val a * val b * ((2 ^ 52 : Nat) : Int) = sgn (ng a ^^ ng b) (sz (mg a) * sz (mg b) * 2 ^ 52) := by rw [sgn_mul, sgn_xor]; rfl
  unfold EP
  rw [hv]
  unfold sgn
  cases (ng a ^^ ng b)
  · simp only [Bool.false_eq_true, if_false]; exact hn
  · simp only [if_true]; rw [← hn, emb_neg]
set_option maxRecDepth 100000 in
set_option maxHeartbeats 2000000 in
theorem product_any (a b : Nat) (w : World) (ha : a < 18446744073709551616) (hb : b < 18446744073709551616) (fa : fin a) (fb : fin b) :
    Calls Try.prog 39 #[.float .f64 a, .float .f64 b] w fun e w' => ∃ Z, e = .returned (.agg (lim Z)) ∧ okL Z ∧ Lv Z = EP (val a * val b) ∧ Below w.heap.size w w' := by
  have hv := prod_val fa fb
  have e1 := ex_le (mg a) fa
  have e2 := ex_le (mg b) fb
  have hs1 := sig_lt (mg a)
  have hs2 := sig_lt (mg b)
  have hA := Blk.fresh (w := w)
  have hbel := (Below.refl w.heap.size w).alloc (o := .cells Try.zeroCells54 54) (Nat.le_refl _)
  clear fa fb
  cases g1 : ng a
  · cases g2 : ng b
    · rw [g1, g2] at hv
      simp only [Bool.xor_false, Bool.false_eq_true, if_false] at hv
      go_enter Try.func39, Try.ntmps39
      go_wp2_with (first
        | (go_at_call 53; refine (taken_any _ _).mono ?_; rintro e w' ⟨rfl, rfl⟩)
        | (go_at_call 57; refine (times_any _ _ _ hs1 hs2).mono ?_; rintro e w' ⟨hi, lo, rfl, hprod, hlo, hhi, rfl⟩)
        | (go_at_call 54; refine (laid_p _ _ _ (52 + (ex (mg a) + ex (mg b))) _ (by omega) (by omega) (by assumption) (by assumption)).mono ?_; rintro e w1 ⟨Y, rfl, oY, vY, bY⟩; have hB := Blk.fresh (w := w1); have hA1 := hA.below bY; have hb1 := hbel.trans (bY.mono (by simp)); have hA2 := (hA1.old (.cells Try.zeroCells54 54)).rowOther w1.heap.size (lim Y) (by have := hA1.lt; omega))
        | (refine wpList_store_row rfl 54 (.tmp 11) (.tmp 33) rfl w1.heap.size (lim Y) rfl rfl 54 (lim zer) hB (infoL oY) (zsz oY) (lim_one _) ?_)
        | (go_at_call 55; refine (negative_any _ _ (by with_reducible assumption)).mono ?_; rintro e w' ⟨rfl, rfl⟩)
        | (refine wpList_load_row rfl 54 (.tmp 11) rfl w1.heap.size rfl 54 (lim Y) (0, 0) _ (hB.setRow _) Try.underlying54 rfl (infoL oY) ?_)
        | (refine wpList_store_row rfl 54 (.tmp 4) (.tmp 41) rfl w.heap.size (lim Y) rfl rfl 54 (lim zer) hA2 (infoL oY) (zsz oY) (lim_one _) ?_))
      refine bodyPost_ret (v := .agg (lim Y)) (results_cell_row Try.results39 _ _ w.heap.size 54 (lim Y) (0, 0) _ rfl (hA2.setRow Y) Try.underlying54 rfl (infoL oY)) rfl ?_
      refine ⟨Y, rfl, oY, by rw [vY, hprod, hv], ?_⟩
      have hsz := hb1.size
      exact below_setRow (below_setRow (hb1.alloc hsz _) _ _ hsz) _ _ (Nat.le_refl _)
    · rw [g1, g2] at hv
      simp only [Bool.false_xor, if_true] at hv
      go_enter Try.func39, Try.ntmps39
      go_wp2_with (first
        | (go_at_call 53; refine (taken_any _ _).mono ?_; rintro e w' ⟨rfl, rfl⟩)
        | (go_at_call 57; refine (times_any _ _ _ hs1 hs2).mono ?_; rintro e w' ⟨hi, lo, rfl, hprod, hlo, hhi, rfl⟩)
        | (go_at_call 54; refine (laid_p _ _ _ (52 + (ex (mg a) + ex (mg b))) _ (by omega) (by omega) (by assumption) (by assumption)).mono ?_; rintro e w1 ⟨Y, rfl, oY, vY, bY⟩; have hB := Blk.fresh (w := w1); have hA1 := hA.below bY; have hb1 := hbel.trans (bY.mono (by simp)); have hA2 := (hA1.old (.cells Try.zeroCells54 54)).rowOther w1.heap.size (lim Y) (by have := hA1.lt; omega))
        | (refine wpList_store_row rfl 54 (.tmp 11) (.tmp 33) rfl w1.heap.size (lim Y) rfl rfl 54 (lim zer) hB (infoL oY) (zsz oY) (lim_one _) ?_)
        | (go_at_call 55; refine (negative_any _ _ (by with_reducible assumption)).mono ?_; rintro e w' ⟨rfl, rfl⟩)
        | (refine wpList_load_row rfl 54 (.tmp 11) rfl w1.heap.size rfl 54 (lim Y) (0, 0) _ (hB.setRow _) Try.underlying54 rfl (infoL oY) ?_)
        | (go_at_call 56; refine (opp_any Y _ oY).mono ?_; rintro e w2 ⟨V, rfl, oV, vV, bV⟩; have hA3 := hA2.below bV)
        | (refine wpList_store_row rfl 54 (.tmp 4) (.tmp 40) rfl w.heap.size (lim V) rfl rfl 54 (lim zer) hA3 (infoL oV) (zsz oV) (lim_one _) ?_))
      refine bodyPost_ret (v := .agg (lim V)) (results_cell_row Try.results39 _ _ w.heap.size 54 (lim V) (0, 0) _ rfl (hA3.setRow V) Try.underlying54 rfl (infoL oV)) rfl ?_
      refine ⟨V, rfl, oV, by rw [vV, vY, hprod, hv], ?_⟩
      have hsz := hb1.size
      have hc := below_setRow (hb1.alloc hsz (.cells Try.zeroCells54 54)) w1.heap.size (lim Y) hsz
      exact below_setRow (hc.trans (bV.mono hc.size)) _ _ (Nat.le_refl _)
  · cases g2 : ng b
    · rw [g1, g2] at hv
      simp only [Bool.xor_false, if_true] at hv
      go_enter Try.func39, Try.ntmps39
      go_wp2_with (first
        | (go_at_call 53; refine (taken_any _ _).mono ?_; rintro e w' ⟨rfl, rfl⟩)
        | (go_at_call 57; refine (times_any _ _ _ hs1 hs2).mono ?_; rintro e w' ⟨hi, lo, rfl, hprod, hlo, hhi, rfl⟩)
        | (go_at_call 54; refine (laid_p _ _ _ (52 + (ex (mg a) + ex (mg b))) _ (by omega) (by omega) (by assumption) (by assumption)).mono ?_; rintro e w1 ⟨Y, rfl, oY, vY, bY⟩; have hB := Blk.fresh (w := w1); have hA1 := hA.below bY; have hb1 := hbel.trans (bY.mono (by simp)); have hA2 := (hA1.old (.cells Try.zeroCells54 54)).rowOther w1.heap.size (lim Y) (by have := hA1.lt; omega))
        | (refine wpList_store_row rfl 54 (.tmp 11) (.tmp 33) rfl w1.heap.size (lim Y) rfl rfl 54 (lim zer) hB (infoL oY) (zsz oY) (lim_one _) ?_)
        | (go_at_call 55; refine (negative_any _ _ (by with_reducible assumption)).mono ?_; rintro e w' ⟨rfl, rfl⟩)
        | (refine wpList_load_row rfl 54 (.tmp 11) rfl w1.heap.size rfl 54 (lim Y) (0, 0) _ (hB.setRow _) Try.underlying54 rfl (infoL oY) ?_)
        | (go_at_call 56; refine (opp_any Y _ oY).mono ?_; rintro e w2 ⟨V, rfl, oV, vV, bV⟩; have hA3 := hA2.below bV)
        | (refine wpList_store_row rfl 54 (.tmp 4) (.tmp 40) rfl w.heap.size (lim V) rfl rfl 54 (lim zer) hA3 (infoL oV) (zsz oV) (lim_one _) ?_))
      refine bodyPost_ret (v := .agg (lim V)) (results_cell_row Try.results39 _ _ w.heap.size 54 (lim V) (0, 0) _ rfl (hA3.setRow V) Try.underlying54 rfl (infoL oV)) rfl ?_
      refine ⟨V, rfl, oV, by rw [vV, vY, hprod, hv], ?_⟩
      have hsz := hb1.size
      have hc := below_setRow (hb1.alloc hsz (.cells Try.zeroCells54 54)) w1.heap.size (lim Y) hsz
      exact below_setRow (hc.trans (bV.mono hc.size)) _ _ (Nat.le_refl _)
    · rw [g1, g2] at hv
      simp only [Bool.xor_self, Bool.false_eq_true, if_false] at hv
      go_enter Try.func39, Try.ntmps39
      go_wp2_with (first
        | (go_at_call 53; refine (taken_any _ _).mono ?_; rintro e w' ⟨rfl, rfl⟩)
        | (go_at_call 57; refine (times_any _ _ _ hs1 hs2).mono ?_; rintro e w' ⟨hi, lo, rfl, hprod, hlo, hhi, rfl⟩)
        | (go_at_call 54; refine (laid_p _ _ _ (52 + (ex (mg a) + ex (mg b))) _ (by omega) (by omega) (by assumption) (by assumption)).mono ?_; rintro e w1 ⟨Y, rfl, oY, vY, bY⟩; have hB := Blk.fresh (w := w1); have hA1 := hA.below bY; have hb1 := hbel.trans (bY.mono (by simp)); have hA2 := (hA1.old (.cells Try.zeroCells54 54)).rowOther w1.heap.size (lim Y) (by have := hA1.lt; omega))
        | (refine wpList_store_row rfl 54 (.tmp 11) (.tmp 33) rfl w1.heap.size (lim Y) rfl rfl 54 (lim zer) hB (infoL oY) (zsz oY) (lim_one _) ?_)
        | (go_at_call 55; refine (negative_any _ _ (by with_reducible assumption)).mono ?_; rintro e w' ⟨rfl, rfl⟩)
        | (refine wpList_load_row rfl 54 (.tmp 11) rfl w1.heap.size rfl 54 (lim Y) (0, 0) _ (hB.setRow _) Try.underlying54 rfl (infoL oY) ?_)
        | (refine wpList_store_row rfl 54 (.tmp 4) (.tmp 41) rfl w.heap.size (lim Y) rfl rfl 54 (lim zer) hA2 (infoL oY) (zsz oY) (lim_one _) ?_))
      refine bodyPost_ret (v := .agg (lim Y)) (results_cell_row Try.results39 _ _ w.heap.size 54 (lim Y) (0, 0) _ rfl (hA2.setRow Y) Try.underlying54 rfl (infoL oY)) rfl ?_
      refine ⟨Y, rfl, oY, by rw [vY, hprod, hv], ?_⟩
      have hsz := hb1.size
      exact below_setRow (below_setRow (hb1.alloc hsz _) _ _ hsz) _ _ (Nat.le_refl _)

end Go.Proofs.Ytggnilfphnnpkaa
