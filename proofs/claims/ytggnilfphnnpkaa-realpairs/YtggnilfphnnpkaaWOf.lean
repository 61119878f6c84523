/-
  What taken, negative, laid, Of, times and Product of gridworkref01 hand back: whole numbers of two to the power -2200.
-/
import Derived.Test.YtggnilfphnnpkaaWEx
import Derived.Test.YtggnilfphnnpkaaOrder
import Derived.Deep.CutRange
import Derived.Deep.DeepCutAuto
namespace Go.Proofs.Ytggnilfphnnpkaa
open Fl RowKit

theorem ret2u {a b : Int} {c d : Int} (h : a = b) (h2 : c = d) : Ending.returned (.tuple #[.int .u64 a, .int .i64 c]) = .returned (.tuple #[.int .u64 b, .int .i64 d]) := by rw [h, h2]
set_option maxRecDepth 100000 in
theorem taken_any (x : Nat) (w : World) :
    Calls Try.prog 53 #[.float .f64 x] w fun e w' => e = .returned (.tuple #[.int .u64 ((sig (mg x) : Nat) : Int), .int .i64 (-1074 + ((ex (mg x) : Nat) : Int))]) ∧ w' = w := by
  have hr := rem_sign x
  have hl := mg_lt x
  by_cases h : mg x < 4503599627370496
  · have e1 : sig (mg x) = mg x := by unfold sig; rw [if_pos h]
    have e2 : ex (mg x) = 0 := by unfold ex; omega
    have E1 : Hid (sig (mg x) = mg x) := e1
    have E2 : Hid (ex (mg x) = 0) := e2
    clear e1 e2
    have t1 : ((mg x : Nat) : Int) / 4503599627370496 = 0 := by omega
    have t2 : ((mg x : Nat) : Int) % 4503599627370496 = ((mg x : Nat) : Int) := by omega
    go_enter Try.func53, Try.ntmps53
    go_wp2
    go_ret2
    exact ⟨ret2u (by rw [E1.out]; omega) (by rw [E2.out]; rfl), rfl⟩
  · have e1 : sig (mg x) = 4503599627370496 + mg x % 4503599627370496 := by unfold sig; rw [if_neg h]
    have e2 : ex (mg x) = mg x / 4503599627370496 - 1 := rfl
    have E1 : Hid (sig (mg x) = 4503599627370496 + mg x % 4503599627370496) := e1
    have E2 : Hid (ex (mg x) = mg x / 4503599627370496 - 1) := e2
    clear e1 e2
    have t1 : 1 ≤ ((mg x : Nat) : Int) / 4503599627370496 := by omega
    have t2 : ((mg x : Nat) : Int) / 4503599627370496 < 2048 := by omega
    go_enter Try.func53, Try.ntmps53
    go_wp2
    go_ret2
    exact ⟨ret2u (by rw [E1.out]; omega) (by rw [E2.out]; omega), rfl⟩
set_option maxRecDepth 100000 in
theorem negative_any (x : Nat) (w : World) (hx : x < 18446744073709551616) :
    Calls Try.prog 55 #[.float .f64 x] w fun e w' => e = .returned (.bool (ng x)) ∧ w' = w := by
  have hn : ((x : Int) / 9223372036854775808 == 1) = ng x := by unfold ng; rw [Bool.eq_iff_iff]; simp; omega
  go_enter Try.func55, Try.ntmps55
  go_wp2
  go_ret
  exact ⟨rfl, rfl⟩
theorem bset {B : Nat} {w w' : World} (h : Below B w w') (g k : Nat) (v : Value) (hg : B ≤ g) : Below B w (w'.setCell ⟨g, k, none⟩ v) := h.setCell hg v
theorem shl_parts (hi lo n : Nat) (hn : n < 64) (hl : lo < 18446744073709551616) (hh : hi < 18446744073709551616) :
    lo * 2 ^ n % 18446744073709551616 + (hi * 2 ^ n % 18446744073709551616 + lo / 2 ^ (64 - n)) * 18446744073709551616 + hi / 2 ^ (64 - n) * (18446744073709551616 * 18446744073709551616) = (hi * 18446744073709551616 + lo) * 2 ^ n ∧
    hi * 2 ^ n % 18446744073709551616 % 2 ^ n = 0 ∧ lo / 2 ^ (64 - n) < 2 ^ n ∧ hi * 2 ^ n % 18446744073709551616 + lo / 2 ^ (64 - n) < 18446744073709551616 ∧ hi / 2 ^ (64 - n) < 18446744073709551616 := by
  have hW : (18446744073709551616 : Nat) = 2 ^ (64 - n) * 2 ^ n := by rw [← Nat.pow_add, Nat.sub_add_cancel (by omega)]
  have hp : 0 < 2 ^ n := Nat.two_pow_pos _
  have hq : 0 < 2 ^ (64 - n) := Nat.two_pow_pos _
  have d : ∀ x : Nat, x * 2 ^ n / 18446744073709551616 = x / 2 ^ (64 - n) := by intro x; rw [hW]; exact Nat.mul_div_mul_right _ _ hp
  have r : ∀ x : Nat, x * 2 ^ n % 18446744073709551616 = x % 2 ^ (64 - n) * 2 ^ n := by intro x; rw [hW]; exact Nat.mul_mod_mul_right _ _ _
  have k1 := Nat.div_add_mod (lo * 2 ^ n) 18446744073709551616
  have k2 := Nat.div_add_mod (hi * 2 ^ n) 18446744073709551616
  rw [d] at k1 k2
  have b1 : lo / 2 ^ (64 - n) < 2 ^ n := (Nat.div_lt_iff_lt_mul hq).2 (by rw [Nat.mul_comm, ← hW]; exact hl)
  have b2 : hi / 2 ^ (64 - n) < 18446744073709551616 := Nat.lt_of_le_of_lt (Nat.div_le_self _ _) hh
  refine ⟨?_, by rw [r]; exact Nat.mul_mod_left _ _, b1, ?_, b2⟩
  · have e : (hi * 18446744073709551616 + lo) * 2 ^ n = hi * 2 ^ n * 18446744073709551616 + lo * 2 ^ n := by rw [Nat.add_mul, Nat.mul_right_comm]
    rw [e]
    generalize hi * 2 ^ n = A at *
    generalize lo * 2 ^ n = B at *
    generalize lo / 2 ^ (64 - n) = C at *
    generalize hi / 2 ^ (64 - n) = D at *
    omega
  · rw [r]
    have h3 : hi % 2 ^ (64 - n) + 1 ≤ 2 ^ (64 - n) := Nat.mod_lt _ hq
    have h4 := Nat.mul_le_mul_right (2 ^ n) h3
    rw [← hW, Nat.add_mul, Nat.one_mul] at h4
    omega
theorem or_parts (v y n : Nat) (hv : v < 18446744073709551616) (hy : y < 18446744073709551616) (h1 : v % 2 ^ n = 0) (h2 : y < 2 ^ n) : bits BinOp.or IntKind.u64 (v : Int) (y : Int) = ((v + y : Nat) : Int) := by
  have h := u64_or_nat v y hv hy
  rw [nat_join n v y h1 h2] at h; exact h
/-- three limbs beside each other -/
theorem Lv_three (k a b0 b c : Nat) (hk : k < 70) (ha : a < 18446744073709551616) (_ : b0 < 18446744073709551616) (hb : b < 18446744073709551616) (hc : c < 18446744073709551616) :
    okL ((((zer.set k a).set (k + 1) b0).set (k + 1) b).set (k + 2) c) ∧ Lv ((((zer.set k a).set (k + 1) b0).set (k + 1) b).set (k + 2) c) = (a + b * 18446744073709551616 + c * (18446744073709551616 * 18446744073709551616)) * WW ^ k := by
  have o1 := set_ok zer_ok k a (by omega) ha
  have o3 := set_ok o1 (k + 1) b (by omega) hb
  have o4 := set_ok o3 (k + 2) c (by omega) hc
  rw [List.set_set]
  refine ⟨o4, ?_⟩
  have g1 : (zer.set k a).getD (k + 1) 0 = 0 := by rw [set_get _ _ _ _ (by rw [zer_ok.len]; omega), if_neg (by omega), zer_get]
  have g2 : ((zer.set k a).set (k + 1) b).getD (k + 2) 0 = 0 := by rw [set_get _ _ _ _ (by rw [o1.len]; omega), if_neg (by omega), set_get _ _ _ _ (by rw [zer_ok.len]; omega), if_neg (by omega), zer_get]
  rw [Lv_set o3 (k + 2) c (by omega) g2, Lv_set o1 (k + 1) b (by omega) g1, Lv_set zer_ok k a (by omega) (zer_get k), Lv_zer, Nat.zero_add]
  have p1 : WW ^ (k + 1) = 18446744073709551616 * WW ^ k := by rw [Nat.pow_succ, Nat.mul_comm]; rfl
  have p2 : WW ^ (k + 2) = 18446744073709551616 * 18446744073709551616 * WW ^ k := by rw [Nat.pow_succ, p1, Nat.mul_comm, ← Nat.mul_assoc]; rfl
  rw [p1, p2, Nat.add_mul, Nat.add_mul, Nat.mul_assoc b, Nat.mul_assoc c]
theorem Lv_two (k a b : Nat) (hk : k < 70) (ha : a < 18446744073709551616) (hb : b < 18446744073709551616) :
    okL ((zer.set k a).set (k + 1) b) ∧ Lv ((zer.set k a).set (k + 1) b) = (a + b * 18446744073709551616) * WW ^ k := by
  have o1 := set_ok zer_ok k a (by omega) ha
  have o3 := set_ok o1 (k + 1) b (by omega) hb
  refine ⟨o3, ?_⟩
  have g1 : (zer.set k a).getD (k + 1) 0 = 0 := by rw [set_get _ _ _ _ (by rw [zer_ok.len]; omega), if_neg (by omega), zer_get]
  rw [Lv_set o1 (k + 1) b (by omega) g1, Lv_set zer_ok k a (by omega) (zer_get k), Lv_zer, Nat.zero_add]
  have p1 : WW ^ (k + 1) = 18446744073709551616 * WW ^ k := by rw [Nat.pow_succ, Nat.mul_comm]; rfl
  rw [p1, Nat.add_mul, Nat.mul_assoc b]
theorem pow_split (k n : Nat) : 2 ^ n * WW ^ k = 2 ^ (64 * k + n) := by
  have : WW = 2 ^ 64 := rfl
  rw [this, ← Nat.pow_mul, ← Nat.pow_add, Nat.add_comm]

set_option maxRecDepth 100000 in
set_option maxHeartbeats 1000000 in
theorem laid_any (hi lo k n : Nat) (w : World) (hk : k < 70) (hn : n < 64) (hl : lo < 18446744073709551616) (hh : hi < 18446744073709551616) :
    Calls Try.prog 54 #[.int .u64 (hi : Int), .int .u64 (lo : Int), .int .i64 ((64 * k + n : Nat) - 2200 : Int)] w fun e w' => ∃ Z, e = .returned (.agg (lim Z)) ∧ okL Z ∧ Lv Z = (hi * 18446744073709551616 + lo) * 2 ^ (64 * k + n) ∧ Below w.heap.size w w' := by
  have a1 : ((64 * k + n : Nat) : Int) / 64 = (k : Int) := by omega
  have a2 : ((64 * k + n : Nat) : Int) % 64 = (n : Int) := by omega
  have hp := pow_split k n
  have ha0 : 64 * k + n < 4608 := by omega
  generalize 64 * k + n = at0 at *
  have hA := (Blk.fresh (w := w)).old (.cells Try.zeroCells54 54)
  have hB := Blk.fresh (w := w.alloc (.cells Try.zeroCells54 54))
  have hbel := ((Below.refl w.heap.size w).alloc (o := .cells Try.zeroCells54 54) (Nat.le_refl _)).alloc (o := .cells Try.zeroCells54 54) (by simp)
  rw [World.size_alloc] at hB
  have HZ : ∀ Z, okL Z → (Try.prog.info? 54).map (·.size) = some (lim Z).size := by intro Z h; rw [lim_size, h.len]; exact infoE
  by_cases hn0 : n = 0
  · subst hn0
    obtain ⟨o1, o2⟩ := Lv_two k lo hi hk hl hh
    rw [Nat.pow_zero, Nat.one_mul] at hp
    go_enter Try.func54, Try.ntmps54
    go_upto_region 5 with fail
    obtain ⟨W, hW⟩ : ∃ W, W = (w.alloc (.cells Try.zeroCells54 54)).alloc (.cells Try.zeroCells54 54) := ⟨_, rfl⟩
    rw [← hW] at hA hB hbel ⊢
    clear hW
    have c0 := hB.cell k (by rw [zer_ok.len]; omega)
    have c1 := hB.cell (k + 1) (by rw [zer_ok.len]; omega)
    rw [zer_get] at c0 c1
    have f0 := fun j => hB.frozen j
    have e1 : IntKind.u64.wrap (lo : Int) = (lo : Int) := by rw [IntKind.wrap_u64]; omega
    have e2 : IntKind.u64.wrap (hi : Int) = (hi : Int) := by rw [IntKind.wrap_u64]; omega
    have L1 := (hB.set k lo).set (k + 1) hi
    have L2 := (hA.other (w.heap.size + 1) k (.int .u64 (lo : Int)) (by omega)).other (w.heap.size + 1) (k + 1) (.int .u64 (hi : Int)) (by omega)
    have L3 := bset (bset hbel (w.heap.size + 1) k (.int .u64 (lo : Int)) (Nat.le_succ _)) (w.heap.size + 1) (k + 1) (.int .u64 (hi : Int)) (Nat.le_succ _)
    generalize hZ : (zer.set k lo).set (k + 1) hi = Z at *
    clear hA hB hbel hZ
    go_upto_region 10 with fail
    go_wp2_with (first
      | (refine wpList_load_row rfl 54 (.tmp 7) rfl (w.heap.size + 1) rfl 54 (lim Z) (0, 0) _ L1 Try.underlying54 rfl (HZ Z o1) ?_)
      | (refine wpList_store_row rfl 54 _ _ rfl w.heap.size (lim Z) rfl rfl 54 (lim zer) L2 (HZ Z o1) (by rw [lim_size, lim_size, o1.len]; rfl) (lim_one _) ?_))
    refine bodyPost_ret (v := .agg (lim Z)) (results_cell_row Try.results54 _ _ w.heap.size 54 (lim Z) (0, 0) _ rfl (L2.setRow _) Try.underlying54 rfl (HZ Z o1)) rfl ?_
    exact ⟨_, rfl, o1, by rw [o2, hp, Nat.add_comm lo], below_setRow L3 _ _ (Nat.le_refl _)⟩
  · obtain ⟨m1, m2, m3, m4, m5⟩ := shl_parts hi lo n hn hl hh
    have hv0 : lo * 2 ^ n % 18446744073709551616 < 18446744073709551616 := Nat.mod_lt _ (by omega)
    have hv1 : hi * 2 ^ n % 18446744073709551616 < 18446744073709551616 := Nat.mod_lt _ (by omega)
    have hly : lo / 2 ^ (64 - n) < 18446744073709551616 := Nat.lt_of_le_of_lt (Nat.div_le_self _ _) hl
    have e1 : IntKind.u64.wrap ((lo : Int) * 2 ^ n) = ((lo * 2 ^ n % 18446744073709551616 : Nat) : Int) := by rw [IntKind.wrap_u64]; simp
    have e2 : IntKind.u64.wrap ((hi : Int) * 2 ^ n) = ((hi * 2 ^ n % 18446744073709551616 : Nat) : Int) := by rw [IntKind.wrap_u64]; simp
    have e3 := or_parts (hi * 2 ^ n % 18446744073709551616) (lo / 2 ^ (64 - n)) n hv1 hly m2 m3
    have e3' : ((lo / 2 ^ (64 - n) : Nat) : Int) = (lo : Int) / 2 ^ (64 - n) := by simp
    have e4 : (hi : Int) / 2 ^ (64 - n) = ((hi / 2 ^ (64 - n) : Nat) : Int) := by simp
    rw [e3'] at e3
    obtain ⟨o1, o2⟩ := Lv_three k _ (hi * 2 ^ n % 18446744073709551616) _ _ hk hv0 hv1 m4 m5
    rw [m1, Nat.mul_assoc, hp] at o2
    generalize lo * 2 ^ n % 18446744073709551616 = v0 at *
    generalize hi * 2 ^ n % 18446744073709551616 = v1 at *
    generalize v1 + lo / 2 ^ (64 - n) = v2 at *
    generalize hi / 2 ^ (64 - n) = v3 at *
    clear m1 m2 m3 e3' hp
    go_enter Try.func54, Try.ntmps54
    go_upto_region 5 with fail
    obtain ⟨W, hW⟩ : ∃ W, W = (w.alloc (.cells Try.zeroCells54 54)).alloc (.cells Try.zeroCells54 54) := ⟨_, rfl⟩
    rw [← hW] at hA hB hbel ⊢
    clear hW
    have c0 := hB.cell k (by rw [zer_ok.len]; omega)
    have c1 := hB.cell (k + 1) (by rw [zer_ok.len]; omega)
    have c2 := hB.cell (k + 2) (by rw [zer_ok.len]; omega)
    rw [zer_get] at c0 c1 c2
    have f0 := fun j => hB.frozen j
    have L1 := (((hB.set k v0).set (k + 1) v1).set (k + 1) v2).set (k + 2) v3
    have L2 := (((hA.other (w.heap.size + 1) k (.int .u64 (v0 : Int)) (by omega)).other (w.heap.size + 1) (k + 1) (.int .u64 (v1 : Int)) (by omega)).other (w.heap.size + 1) (k + 1) (.int .u64 (v2 : Int)) (by omega)).other (w.heap.size + 1) (k + 2) (.int .u64 (v3 : Int)) (by omega)
    have L3 := bset (bset (bset (bset hbel (w.heap.size + 1) k (.int .u64 (v0 : Int)) (Nat.le_succ _)) (w.heap.size + 1) (k + 1) (.int .u64 (v1 : Int)) (Nat.le_succ _)) (w.heap.size + 1) (k + 1) (.int .u64 (v2 : Int)) (Nat.le_succ _)) (w.heap.size + 1) (k + 2) (.int .u64 (v3 : Int)) (Nat.le_succ _)
    generalize hZ : (((zer.set k v0).set (k + 1) v1).set (k + 1) v2).set (k + 2) v3 = Z at *
    clear hA hB hbel hZ
    go_upto_region 10 with fail
    go_wp2_with (first
      | (refine wpList_load_row rfl 54 (.tmp 7) rfl (w.heap.size + 1) rfl 54 (lim Z) (0, 0) _ L1 Try.underlying54 rfl (HZ Z o1) ?_)
      | (refine wpList_store_row rfl 54 _ _ rfl w.heap.size (lim Z) rfl rfl 54 (lim zer) L2 (HZ Z o1) (by rw [lim_size, lim_size, o1.len]; rfl) (lim_one _) ?_))
    refine bodyPost_ret (v := .agg (lim Z)) (results_cell_row Try.results54 _ _ w.heap.size 54 (lim Z) (0, 0) _ rfl (L2.setRow _) Try.underlying54 rfl (HZ Z o1)) rfl ?_
    exact ⟨_, rfl, o1, o2, below_setRow L3 _ _ (Nat.le_refl _)⟩

end Go.Proofs.Ytggnilfphnnpkaa
