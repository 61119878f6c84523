/-
  Less, Below and bit of the given type Exact.
-/
import Derived.Test.YtggnilfphnnpkaaWAll
namespace Go.Proofs.Ytggnilfphnnpkaa
open Fl RowKit

theorem bdr {a b c : World} (h : Below a.heap.size a b) (k : Below (World.drew b).heap.size b.drew c) : Below a.heap.size a c := (Below.drew h).trans (k.mono h.size)
set_option maxRecDepth 100000 in
set_option maxHeartbeats 4000000 in
theorem less_any (X Y : List Nat) (w : World) (oX : okL X) (oY : okL Y) :
    Calls Try.prog 47 #[.agg (lim X), .agg (lim Y)] w fun e w' => ∃ Z, e = .returned (.agg (lim Z)) ∧ okL Z ∧ Lv Z = (Lv X + (MM - Lv Y) % MM) % MM ∧ Below w.heap.size w w' := by
  have hX := ((Blk.new w X).old (.cells (lim Y) 54)).old (.cells Try.zeroCells54 54)
  have hY := (Blk.new (w.alloc (.cells (lim X) 54)) Y).old (.cells Try.zeroCells54 54)
  have hZ := Blk.fresh (w := (w.alloc (.cells (lim X) 54)).alloc (.cells (lim Y) 54))
  have hbel := (((Below.refl w.heap.size w).alloc (o := .cells (lim X) 54) (Nat.le_refl _)).alloc (o := .cells (lim Y) 54) (by simp)).alloc (o := .cells Try.zeroCells54 54) (by simp; omega)
  rw [World.size_alloc] at hY
  rw [World.size_alloc, World.size_alloc] at hZ
  go_enter Try.func47, Try.ntmps47
  go_upto_region 1 with fail
  obtain ⟨W, hW⟩ : ∃ W, W = ((w.alloc (.cells (lim X) 54)).alloc (.cells (lim Y) 54)).alloc (.cells Try.zeroCells54 54) := ⟨_, rfl⟩
  rw [← hW] at hX hY hZ hbel ⊢
  clear hW
  refine wp_region_any (by kernel_rfl) ?_
  change wpAny _ _ _ _ _ _ _ (World.drew _)
  refine wpAny_ready (rs := [0, 1]) (by kernel_rfl) (by simp) ?_
  refine AllReady.cons rfl (fun K hK => ?_) (AllReady.cons rfl (fun K hK => ?_) AllReady.nil)
  · rw [if_pos (by rfl)]
    refine wp_load_row 54 (.tmp 2) rfl w.heap.size rfl 54 (lim X) (0, 0) _ (blk_drew hX) Try.underlying54 rfl (infoL oX) ?_
    refine hK _ _ ?_
    clear hK K
    refine wpAny_ready (rs := [1]) (by kernel_rfl) (by simp) ?_
    refine AllReady.cons rfl (fun K hK => ?_) AllReady.nil
    rw [if_pos (by rfl)]
    refine wp_load_row 54 (.tmp 3) rfl (w.heap.size + 1) rfl 54 (lim Y) (0, 0) _ (blk_drew hY) Try.underlying54 rfl (infoL oY) ?_
    refine hK _ _ ?_
    clear hK K
    refine wpAny_ready (rs := [2]) (by kernel_rfl) (by simp) ?_
    refine AllReady.cons rfl (fun K hK => ?_) AllReady.nil
    go_simp
    refine (opp_any Y _ oY).mono ?_
    rintro e w1 ⟨V, rfl, oV, vV, bV⟩
    have hXb := Blk.below (blk_drew hX) bV
    have hZb := Blk.below (blk_drew hZ) bV
    go_wp2_with fail
    refine wpAny_ready (rs := [3]) (by kernel_rfl) (by simp) ?_
    refine AllReady.cons rfl (fun K hK => ?_) AllReady.nil
    go_simp
    refine (plus_any X V _ oX oV).mono ?_
    rintro e w2 ⟨U, rfl, oU, vU, bU⟩
    have hZc := Blk.below hZb bU
    go_wp2_with fail
    refine wpAny_ready (rs := [4]) (by kernel_rfl) (by simp) ?_
    refine AllReady.cons rfl (fun K hK => ?_) AllReady.nil
    rw [if_pos (by rfl)]
    refine wp_store_row 54 (.tmp 4) (.tmp 8) rfl (w.heap.size + 1 + 1) (lim U) rfl rfl 54 (lim zer) hZc (infoL oU) (zsz oU) (lim_one _) ?_
    refine hK _ _ ?_
    clear hK K
    refine wpAny_done (by kernel_rfl) ?_ _
    go_wp2
    refine bodyPost_ret (v := .agg (lim U)) (results_cell_row Try.results47 _ _ (w.heap.size + 1 + 1) 54 (lim U) (0, 0) _ rfl (hZc.setRow U) Try.underlying54 rfl (infoL oU)) rfl ?_
    exact ⟨U, rfl, oU, by rw [vU, vV], below_setRow (bt (bdr hbel bV) bU) _ _ (by omega)⟩
  · rw [if_pos (by rfl)]
    refine wp_load_row 54 (.tmp 3) rfl (w.heap.size + 1) rfl 54 (lim Y) (0, 0) _ (blk_drew hY) Try.underlying54 rfl (infoL oY) ?_
    refine hK _ _ ?_
    clear hK K
    refine wpAny_ready (rs := [0, 2]) (by kernel_rfl) (by simp) ?_
    refine AllReady.cons rfl (fun K hK => ?_) (AllReady.cons rfl (fun K hK => ?_) AllReady.nil)
    · rw [if_pos (by rfl)]
      refine wp_load_row 54 (.tmp 2) rfl w.heap.size rfl 54 (lim X) (0, 0) _ (blk_drew hX) Try.underlying54 rfl (infoL oX) ?_
      refine hK _ _ ?_
      clear hK K
      refine wpAny_ready (rs := [2]) (by kernel_rfl) (by simp) ?_
      refine AllReady.cons rfl (fun K hK => ?_) AllReady.nil
      go_simp
      refine (opp_any Y _ oY).mono ?_
      rintro e w1 ⟨V, rfl, oV, vV, bV⟩
      have hXb := Blk.below (blk_drew hX) bV
      have hZb := Blk.below (blk_drew hZ) bV
      go_wp2_with fail
      refine wpAny_ready (rs := [3]) (by kernel_rfl) (by simp) ?_
      refine AllReady.cons rfl (fun K hK => ?_) AllReady.nil
      go_simp
      refine (plus_any X V _ oX oV).mono ?_
      rintro e w2 ⟨U, rfl, oU, vU, bU⟩
      have hZc := Blk.below hZb bU
      go_wp2_with fail
      refine wpAny_ready (rs := [4]) (by kernel_rfl) (by simp) ?_
      refine AllReady.cons rfl (fun K hK => ?_) AllReady.nil
      rw [if_pos (by rfl)]
      refine wp_store_row 54 (.tmp 4) (.tmp 8) rfl (w.heap.size + 1 + 1) (lim U) rfl rfl 54 (lim zer) hZc (infoL oU) (zsz oU) (lim_one _) ?_
      refine hK _ _ ?_
      clear hK K
      refine wpAny_done (by kernel_rfl) ?_ _
      go_wp2
      refine bodyPost_ret (v := .agg (lim U)) (results_cell_row Try.results47 _ _ (w.heap.size + 1 + 1) 54 (lim U) (0, 0) _ rfl (hZc.setRow U) Try.underlying54 rfl (infoL oU)) rfl ?_
      exact ⟨U, rfl, oU, by rw [vU, vV], below_setRow (bt (bdr hbel bV) bU) _ _ (by omega)⟩
    · go_simp
      refine (opp_any Y _ oY).mono ?_
      rintro e w1 ⟨V, rfl, oV, vV, bV⟩
      have hXb := Blk.below (blk_drew hX) bV
      have hZb := Blk.below (blk_drew hZ) bV
      go_wp2_with fail
      refine wpAny_ready (rs := [0]) (by kernel_rfl) (by simp) ?_
      refine AllReady.cons rfl (fun K hK => ?_) AllReady.nil
      rw [if_pos (by rfl)]
      refine wp_load_row 54 (.tmp 2) rfl w.heap.size rfl 54 (lim X) (0, 0) _ hXb Try.underlying54 rfl (infoL oX) ?_
      refine hK _ _ ?_
      clear hK K
      refine wpAny_ready (rs := [3]) (by kernel_rfl) (by simp) ?_
      refine AllReady.cons rfl (fun K hK => ?_) AllReady.nil
      go_simp
      refine (plus_any X V _ oX oV).mono ?_
      rintro e w2 ⟨U, rfl, oU, vU, bU⟩
      have hZc := Blk.below hZb bU
      go_wp2_with fail
      refine wpAny_ready (rs := [4]) (by kernel_rfl) (by simp) ?_
      refine AllReady.cons rfl (fun K hK => ?_) AllReady.nil
      rw [if_pos (by rfl)]
      refine wp_store_row 54 (.tmp 4) (.tmp 8) rfl (w.heap.size + 1 + 1) (lim U) rfl rfl 54 (lim zer) hZc (infoL oU) (zsz oU) (lim_one _) ?_
      refine hK _ _ ?_
      clear hK K
      refine wpAny_done (by kernel_rfl) ?_ _
      go_wp2
      refine bodyPost_ret (v := .agg (lim U)) (results_cell_row Try.results47 _ _ (w.heap.size + 1 + 1) 54 (lim U) (0, 0) _ rfl (hZc.setRow U) Try.underlying54 rfl (infoL oU)) rfl ?_
      exact ⟨U, rfl, oU, by rw [vU, vV], below_setRow (bt (bdr hbel bV) bU) _ _ (by omega)⟩

theorem lvf_at (f : Nat → Nat) (hf : ∀ i, f i < WW) : ∀ n k, k < n → lvf f n / WW ^ k % WW = f k := by
  intro n
  induction n with
  | zero => intro k hk; omega
  | succ n ih =>
    intro k hk
    rw [lvf]
    have hp : 0 < WW ^ k := Nat.pow_pos WW_pos
    rcases Nat.lt_or_ge k n with h | h
    · have e : f n * WW ^ n = WW ^ k * (f n * WW ^ (n - k - 1) * WW) := by
        have h1 : WW ^ n = WW ^ k * (WW ^ (n - k - 1) * WW) := by rw [← Nat.pow_succ, ← Nat.pow_add]; congr 1; omega
        rw [h1, Nat.mul_left_comm, Nat.mul_assoc]
      rw [e, Nat.add_mul_div_left _ _ hp, Nat.add_mul_mod_self_right]
      exact ih k h
    · have : k = n := by omega
      subst this
      rw [Nat.add_mul_div_right _ _ hp, Nat.div_eq_of_lt (lvf_lt f hf k), Nat.zero_add, Nat.mod_eq_of_lt (hf k)]
theorem Lv_bit {X : List Nat} (h : okL X) (k n : Nat) (hk : k < 72) (hn : n < 64) : Lv X / 2 ^ (64 * k + n) % 2 = X.getD k 0 / 2 ^ n % 2 := by
  have h1 := lvf_at _ h.lt 72 k hk
  have e : 2 ^ (64 * k + n) = WW ^ k * 2 ^ n := by rw [← pow_split, Nat.mul_comm]
  rw [e, ← Nat.div_div_eq_div_mul]
  have h2 := Nat.div_add_mod (Lv X / WW ^ k) WW
  have h3 : Lv X / WW ^ k % WW = X.getD k 0 := h1
  rw [h3] at h2
  have hW : WW = 2 ^ n * (2 ^ (63 - n) * 2) := by
    rw [← Nat.pow_succ, ← Nat.pow_add]; show 2 ^ 64 = _; congr 1; omega
  rw [← h2, hW, Nat.mul_assoc, Nat.mul_add_div (Nat.two_pow_pos n), Nat.mul_right_comm, Nat.add_comm, Nat.add_mul_mod_self_right]
theorem Lv_top {X : List Nat} (h : okL X) : (X.getD 71 0 / 9223372036854775808 = 1) ↔ MM ≤ 2 * Lv X := by
  have h1 := lvf_lt (fun i => X.getD i 0) h.lt 71
  have h2 := h.lt 71
  have e1 : Lv X = lvf (fun i => X.getD i 0) 71 + X.getD 71 0 * WW ^ 71 := rfl
  have e2 : MM = 18446744073709551616 * WW ^ 71 := by unfold MM; rw [Nat.pow_succ, Nat.mul_comm]; rfl
  rw [e1, e2]
  have hp : 0 < WW ^ 71 := Nat.pow_pos WW_pos
  generalize WW ^ 71 = P at *
  generalize lvf (fun i => X.getD i 0) 71 = l at *
  generalize X.getD 71 0 = x at *
  constructor
  · intro hx
    have h3 : 9223372036854775808 ≤ x := by omega
    have := Nat.mul_le_mul_right P h3
    omega
  · intro hx
    have h3 : 9223372036854775808 ≤ x := by
      rcases Nat.lt_or_ge x 9223372036854775808 with h4 | h4
      · have h5 := Nat.mul_le_mul_right P (Nat.succ_le_of_lt h4)
        rw [Nat.succ_mul] at h5
        omega
      · exact h4
    omega
set_option maxRecDepth 100000 in
theorem below_any (X : List Nat) (w : World) (oX : okL X) :
    Calls Try.prog 58 #[.agg (lim X)] w fun e w' => e = .returned (.bool (decide (MM ≤ 2 * Lv X))) ∧ Below w.heap.size w w' := by
  have hX := Blk.new w X
  have hb := (Below.refl w.heap.size w).alloc (o := .cells (lim X) 54) (Nat.le_refl _)
  have hc := hX.cell 71 (by rw [oX.len]; omega)
  have ht := Lv_top oX
  obtain ⟨x, hx⟩ : ∃ x, x = X.getD 71 0 := ⟨_, rfl⟩
  rw [← hx] at hc ht
  have hq : ((x : Int) / 9223372036854775808 == 1) = decide (MM ≤ 2 * Lv X) := by
    rw [Bool.eq_iff_iff, decide_eq_true_eq, ← ht]; simp; omega
  clear hx ht
  go_enter Try.func58, Try.ntmps58
  go_upto_region 1 with fail
  obtain ⟨W, hW⟩ : ∃ W, W = w.alloc (.cells (lim X) 54) := ⟨_, rfl⟩
  rw [← hW] at hX hb hc ⊢
  clear hW hX
  go_wp2
  go_ret
  exact ⟨rfl, hb⟩
set_option maxRecDepth 100000 in
theorem bit_any (X : List Nat) (i : Nat) (w : World) (oX : okL X) (hi : i < 4608) :
    Calls Try.prog 59 #[.agg (lim X), .int .i64 (i : Int)] w fun e w' => e = .returned (.int .u64 ((Lv X / 2 ^ i % 2 : Nat) : Int)) ∧ Below w.heap.size w w' := by
  have hX := Blk.new w X
  have hb := (Below.refl w.heap.size w).alloc (o := .cells (lim X) 54) (Nat.le_refl _)
  have hc := hX.cell (i / 64) (by rw [oX.len]; omega)
  have ht := Lv_bit oX (i / 64) (i % 64) (by omega) (Nat.mod_lt _ (by omega))
  rw [Nat.div_add_mod i 64] at ht
  have a1 : (i : Int) / 64 = ((i / 64 : Nat) : Int) := by omega
  have a2 : (i : Int) % 64 = ((i % 64 : Nat) : Int) := by omega
  have hk : i / 64 < 72 := by omega
  have hn : i % 64 < 64 := Nat.mod_lt _ (by omega)
  obtain ⟨x, hx⟩ : ∃ x, x = X.getD (i / 64) 0 := ⟨_, rfl⟩
  rw [← hx] at hc ht
  generalize i / 64 = k at *
  generalize i % 64 = n at *
  have HT : Hid (Lv X / 2 ^ i % 2 = x / 2 ^ n % 2) := ht
  clear hx ht
  go_enter Try.func59, Try.ntmps59
  go_upto_region 1 with fail
  obtain ⟨W, hW⟩ : ∃ W, W = w.alloc (.cells (lim X) 54) := ⟨_, rfl⟩
  rw [← hW] at hX hb hc ⊢
  clear hW hX
  go_wp2
  go_ret
  refine ⟨?_, hb⟩
  rw [HT.out]; simp
  exact Int.tmod_eq_emod_of_nonneg (Int.ediv_nonneg (by omega) (Int.le_of_lt (Int.pow_pos (by omega))))
theorem bit_neg (X : List Nat) (i : Int) (w : World) (hi : i < 0) :
    Calls Try.prog 59 #[.agg (lim X), .int .i64 i] w fun e w' => e = .returned (.int .u64 0) ∧ Below w.heap.size w w' := by
  have hb := (Below.refl w.heap.size w).alloc (o := .cells (lim X) 54) (Nat.le_refl _)
  go_enter Try.func59, Try.ntmps59
  go_wp2
  go_ret
  exact ⟨rfl, hb⟩

end Go.Proofs.Ytggnilfphnnpkaa
