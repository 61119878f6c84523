/-
  The walk of AdmitTwins.
-/
import Derived.Test.YtnmibhgfcepddaaWAC
namespace Go.Proofs.Ytnmibhgfcepddaa
open Fl RowKit
set_option linter.unusedVariables false

theorem ck_23 (v o : Nat) : ckK 2 v o = ckK 3 v o := rfl
theorem tw_1 (v o : Nat) : adK 3 v o = imK 2 v o := by unfold adK imK; rw [ck_23]; split <;> rfl
theorem tw_2 (v o : Nat) : imK 3 v o = adK 2 v o := by unfold adK imK; rw [ck_23]; split <;> rfl
theorem ckK_zero {k v o : Nat} (ha : abv k = true) (h : ckK k v o = 0) : fin o ∧ fin v ∧ posV o = true ∧ posV v = true := by
  unfold ckK at h
  by_cases hf : frI o = 0
  · rw [if_pos hf] at h
    obtain ⟨f1, f2⟩ := fr_zero hf
    unfold chV at h
    by_cases h4 : 2 < kdB v
    · rw [if_pos h4] at h; omega
    · rw [if_neg h4] at h
      by_cases h5 : abv k = true ∧ posV v = false
      · rw [if_pos h5] at h; omega
      · refine ⟨f1, kd_fin2 h4, f2, ?_⟩
        cases hp : posV v
        · exact absurd ⟨ha, hp⟩ h5
        · rfl
  · rw [if_neg hf] at h; exact absurd h hf
theorem div_ng {p q : Nat} (hn : nan p = false) (hp : ng p = false) (h : divO 4607182418800017408 p = some q) : ng q = false := by
  rcases kinds p with k | k | k
  · by_cases h0 : sig (mg p) = 0
    · unfold divO Ieee.Format.div at h
      rw [read_fin p k, h0, hp] at h
      cases h; decide
    · rw [div_gen (x := 4607182418800017408) (finB_iff.1 (by decide)) k h0, hp] at h
      cases h
      exact word_ng _ (nr_bd _ _)
  · unfold divO Ieee.Format.div at h
    rw [read_inf p k, hp] at h
    cases h; decide
  · rw [hn] at k; cases k
theorem not_lt0 {p : Nat} (hn : nan p = false) (hp : ng p = false) : ¬ FloatKind.f64.format.order p 0 = some .lt := by
  intro q
  have h := order_lt hn nan_zero
  rw [q, plc_zero] at h
  have h2 := of_decide_eq_true (h.symm.trans rfl : decide (plc p < 0) = true)
  unfold plc sgn at h2
  rw [hp] at h2; simp at h2; omega
theorem not_gt0 {p : Nat} (hn : nan p = false) (hp : ng p = true ∨ mg p = 0) : ¬ FloatKind.f64.format.order p 0 = some .gt := by
  intro q
  have h := order_gt hn nan_zero
  rw [q, plc_zero] at h
  have h2 := of_decide_eq_true (h.symm.trans rfl : decide (0 < plc p) = true)
  unfold plc sgn at h2
  rcases hp with hp | hp
  · rw [hp] at h2; simp at h2; omega
  · rw [hp] at h2; split at h2 <;> simp at h2
theorem prA_tw {o v : Nat} (h : fin o ∧ fin v ∧ posV o = true ∧ posV v = true) : (prA o v).1 = 0 ∧ ¬ FloatKind.f64.format.order (prA o v).2.1 0 = some .lt := by
  obtain ⟨h1, h2, h3, h4⟩ := h
  have hm := mW_ng h1 h2 (pos_ng h3).1 (pos_ng h4).1
  unfold prA toA
  split
  · exact ⟨rfl, not_lt0 hm.2.1 hm.1⟩
  · exact ⟨rfl, not_lt0 (by decide) (by decide)⟩
theorem ovA_tw {o v : Nat} (h : fin o ∧ fin v ∧ posV o = true ∧ posV v = true) : (ovA o v).1 = 0 ∧ ¬ FloatKind.f64.format.order (ovA o v).2.1 0 = some .gt := by
  obtain ⟨h1, h2, h3, h4⟩ := h
  have hm := mW_ng h1 h2 (pos_ng h3).1 (pos_ng h4).1
  have hd := dW_some hm.2.1
  have hg := div_ng hm.2.1 hm.1 hd
  have hb := dW_bd hm.2.1
  unfold ovA toA
  split
  · split
    · refine ⟨rfl, not_gt0 (by rw [nan_ngW hb.1]; exact hb.2) (.inl ?_)⟩
      rw [ng_ngW hb.1, hg]; rfl
    · exact ⟨rfl, not_gt0 (by decide) (.inr (by decide))⟩
  · exact ⟨rfl, not_gt0 (by decide) (.inr (by decide))⟩
theorem tw_p (v o : Nat) : (imK 2 v o).1 = 0 ∧ ¬ FloatKind.f64.format.order (imK 2 v o).2.1 0 = some .lt := by
  unfold imK
  by_cases hc : ckK 2 v o = 0
  · rw [if_pos hc]; exact prA_tw (ckK_zero rfl hc)
  · rw [if_neg hc]; exact ⟨rfl, not_lt0 (by show nan 0 = false; decide) (by show ng 0 = false; decide)⟩
theorem tw_r (v o : Nat) : (adK 2 v o).1 = 0 ∧ ¬ FloatKind.f64.format.order (adK 2 v o).2.1 0 = some .gt := by
  unfold adK
  by_cases hc : ckK 2 v o = 0
  · rw [if_pos hc]; exact ovA_tw (ckK_zero rfl hc)
  · rw [if_neg hc]; exact ⟨rfl, not_gt0 (by show nan 0 = false; decide) (.inr (by show mg 0 = 0; decide))⟩
theorem tw_x {a b : Nat} (v : Nat) (ha : frI a = 0) (hb : frI b = 0) : adK 8 v b = adK 1 v a := by
  have h8 : chV 8 v = chV 1 v := by unfold chV; rw [show abv 8 = abv 1 from rfl]
  unfold adK ckK
  rw [ha, hb, if_pos rfl, if_pos rfl, h8]
  by_cases h : chV 1 v = 0
  · rw [if_pos h, if_pos h, if_pos (Or.inr rfl), if_pos (Or.inl rfl)]
  · rw [if_neg h, if_neg h]
theorem of_v17 (k c v o : Nat) (hk : kSix k) (hc : UInt8.ofNat (ltr k) = UInt8.ofNat c) (hv : v < 18446744073709551616) (ho : o < 18446744073709551616) (x y : Nat) (e : Int) (hu : adK k v o = (x, y, e)) (w : World) :
    Calls Try.prog 10 #[.agg #[.int .u8 (k : Int), .string ⟨#[UInt8.ofNat c, 49]⟩, .string ⟨#[49]⟩, .string ⟨#[48]⟩, .string ⟨#[]⟩, .string ⟨#[]⟩, .float .f64 v, .int .i64 0], .float .f64 o] w fun E w' => E = .returned (.tuple #[.complex .f64 x y, .int .i64 e]) ∧ Below w.heap.size w w' := of_l k c v o hk hc hv ho _ hu w
theorem im_v17 (k c v o : Nat) (hk : kSix k) (hc : UInt8.ofNat (ltr k) = UInt8.ofNat c) (hv : v < 18446744073709551616) (ho : o < 18446744073709551616) (x y : Nat) (e : Int) (hu : imK k v o = (x, y, e)) (w : World) :
    Calls Try.prog 11 #[.agg #[.int .u8 (k : Int), .string ⟨#[UInt8.ofNat c, 49]⟩, .string ⟨#[49]⟩, .string ⟨#[48]⟩, .string ⟨#[]⟩, .string ⟨#[]⟩, .float .f64 v, .int .i64 0], .float .f64 o] w fun E w' => E = .returned (.tuple #[.complex .f64 x y, .int .i64 e]) ∧ Below w.heap.size w w' := im_l k c v o hk hc hv ho _ hu w
theorem fr_cases (o : Nat) : (¬ fin o) ∨ (fin o ∧ posV o = false) ∨ frI o = 0 := by
  by_cases hf : fin o
  · cases hp : posV o
    · exact .inr (.inl ⟨hf, rfl⟩)
    · refine .inr (.inr ?_)
      unfold frI; rw [finB_iff.2 hf, hp]; rfl
  · exact .inl hf
set_option maxRecDepth 100000 in
set_option maxHeartbeats 4000000 in
theorem twins_walk (v a b : Nat) (w : World) (hv : v < 18446744073709551616) (ha : a < 18446744073709551616) (hb : b < 18446744073709551616) :
    Calls Try.prog 5 #[.int .u64 (v : Int), .int .u64 (a : Int), .int .u64 (b : Int)] w fun e w' => e = .returned (.bool true) ∧ Below w.heap.size w w' := by
  have hp := tw_p v a
  have hr := tw_r v a
  have hxy : frI a = 0 → frI b = 0 → adK 8 v b = adK 1 v a := tw_x v
  obtain ⟨⟨p1, p2, pe⟩, hP⟩ : ∃ u, imK 2 v a = u := ⟨_, rfl⟩
  obtain ⟨⟨r1, r2, re⟩, hR⟩ : ∃ u, adK 2 v a = u := ⟨_, rfl⟩
  obtain ⟨⟨x1, x2, xe⟩, hX⟩ : ∃ u, adK 1 v a = u := ⟨_, rfl⟩
  obtain ⟨⟨y1, y2, ye⟩, hY⟩ : ∃ u, adK 8 v b = u := ⟨_, rfl⟩
  rw [hP] at hp
  rw [hR] at hr
  rw [hX, hY] at hxy
  obtain ⟨hp1, hp2⟩ := hp
  obtain ⟨hr1, hr2⟩ := hr
  simp only at hp1 hp2 hr1 hr2
  subst hp1 hr1
  have hp3 : (FloatKind.f64.format.order p2 0 == some .lt) = false := by simp [hp2]
  have hr3 : (FloatKind.f64.format.order r2 0 == some .gt) = false := by simp [hr2]
  clear hp2 hr2
  have k1 : Hid (∀ W, Calls Try.prog 11 #[.agg #[.int .u8 2, .string ⟨#[76, 49]⟩, .string ⟨#[49]⟩, .string ⟨#[48]⟩, .string ⟨#[]⟩, .string ⟨#[]⟩, .float .f64 v, .int .i64 0], .float .f64 a] W fun E w' => E = .returned (.tuple #[.complex .f64 0 p2, .int .i64 pe]) ∧ Below W.heap.size W w') := fun W => im_v17 2 76 v a (.inr (.inl rfl)) rfl hv ha _ _ _ hP W
  have k2 : Hid (∀ W, Calls Try.prog 10 #[.agg #[.int .u8 3, .string ⟨#[67, 49]⟩, .string ⟨#[49]⟩, .string ⟨#[48]⟩, .string ⟨#[]⟩, .string ⟨#[]⟩, .float .f64 v, .int .i64 0], .float .f64 a] W fun E w' => E = .returned (.tuple #[.complex .f64 0 p2, .int .i64 pe]) ∧ Below W.heap.size W w') := fun W => of_v17 3 67 v a (.inr (.inr (.inl rfl))) rfl hv ha _ _ _ ((tw_1 v a).trans hP) W
  have k3 : Hid (∀ W, Calls Try.prog 10 #[.agg #[.int .u8 2, .string ⟨#[76, 49]⟩, .string ⟨#[49]⟩, .string ⟨#[48]⟩, .string ⟨#[]⟩, .string ⟨#[]⟩, .float .f64 v, .int .i64 0], .float .f64 a] W fun E w' => E = .returned (.tuple #[.complex .f64 0 r2, .int .i64 re]) ∧ Below W.heap.size W w') := fun W => of_v17 2 76 v a (.inr (.inl rfl)) rfl hv ha _ _ _ hR W
  have k4 : Hid (∀ W, Calls Try.prog 11 #[.agg #[.int .u8 3, .string ⟨#[67, 49]⟩, .string ⟨#[49]⟩, .string ⟨#[48]⟩, .string ⟨#[]⟩, .string ⟨#[]⟩, .float .f64 v, .int .i64 0], .float .f64 a] W fun E w' => E = .returned (.tuple #[.complex .f64 0 r2, .int .i64 re]) ∧ Below W.heap.size W w') := fun W => im_v17 3 67 v a (.inr (.inr (.inl rfl))) rfl hv ha _ _ _ ((tw_2 v a).trans hR) W
  have k5 : Hid (∀ W, Calls Try.prog 10 #[.agg #[.int .u8 1, .string ⟨#[82, 49]⟩, .string ⟨#[49]⟩, .string ⟨#[48]⟩, .string ⟨#[]⟩, .string ⟨#[]⟩, .float .f64 v, .int .i64 0], .float .f64 a] W fun E w' => E = .returned (.tuple #[.complex .f64 x1 x2, .int .i64 xe]) ∧ Below W.heap.size W w') := fun W => of_v17 1 82 v a (.inl rfl) rfl hv ha _ _ _ hX W
  have k6 : Hid (∀ W, Calls Try.prog 10 #[.agg #[.int .u8 8, .string ⟨#[80, 49]⟩, .string ⟨#[49]⟩, .string ⟨#[48]⟩, .string ⟨#[]⟩, .string ⟨#[]⟩, .float .f64 v, .int .i64 0], .float .f64 b] W fun E w' => E = .returned (.tuple #[.complex .f64 y1 y2, .int .i64 ye]) ∧ Below W.heap.size W w') := fun W => of_v17 8 80 v b (.inr (.inr (.inr (.inr rfl)))) rfl hv hb _ _ _ hY W
  have B : Hid (Below w.heap.size w w) := Below.refl _ _
  clear hP hR hX hY hv ha hb
  rcases fr_cases a with qa | ⟨qa, qa2⟩ | qa
  case' inl => have s1 := sub_self_not qa; clear qa hxy
  case' inr.inl => have s1 := sub_self_fin qa; have s2 : ¬ FloatKind.f64.format.order a 0 = some .gt := fun q => by (rw [(gt_iff (fin_not_nan qa)).2 q] at qa2; cases qa2)
  case' inr.inl => clear qa qa2 hxy
  case' inr.inr => have s1 := sub_self_fin (fr_zero qa).1; have s2 := (gt_iff (fin_not_nan (fr_zero qa).1)).1 (fr_zero qa).2
  case' inr.inr => rcases fr_cases b with qb | ⟨qb, qb2⟩ | qb
  case' inr.inr.inl => have s3 := sub_self_not qb; clear qa qb hxy
  case' inr.inr.inr.inl => have s3 := sub_self_fin qb; have s4 : ¬ FloatKind.f64.format.order b 0 = some .gt := fun q => by (rw [(gt_iff (fin_not_nan qb)).2 q] at qb2; cases qb2)
  case' inr.inr.inr.inl => clear qa qb qb2 hxy
  case' inr.inr.inr.inr => have s3 := sub_self_fin (fr_zero qb).1; have s4 := (gt_iff (fin_not_nan (fr_zero qb).1)).1 (fr_zero qb).2
  case' inr.inr.inr.inr => have hq := hxy qa qb; simp only [Prod.mk.injEq] at hq; obtain ⟨rfl, rfl, rfl⟩ := hq; clear qa qb hxy
  all_goals
    go_enter Try.func5, Try.ntmps5
    go_wp2_with (first
      | (go_at_call 23; (with_reducible refine (of17_2 _ _).mono ?_); rintro E w2 ⟨rfl, hb⟩; (replace B : Hid (Below w.heap.size w w2) := by first | exact bt17 B.out hb | exact bt17 B.out (undrN hb)); clear hb)
      | (go_at_call 23; (with_reducible refine (of17_3 _ _).mono ?_); rintro E w2 ⟨rfl, hb⟩; (replace B : Hid (Below w.heap.size w w2) := by first | exact bt17 B.out hb | exact bt17 B.out (undrN hb)); clear hb)
      | (go_at_call 23; (with_reducible refine (of17_1 _ _).mono ?_); rintro E w2 ⟨rfl, hb⟩; (replace B : Hid (Below w.heap.size w w2) := by first | exact bt17 B.out hb | exact bt17 B.out (undrN hb)); clear hb)
      | (go_at_call 23; (with_reducible refine (of17_8 _ _).mono ?_); rintro E w2 ⟨rfl, hb⟩; (replace B : Hid (Below w.heap.size w w2) := by first | exact bt17 B.out hb | exact bt17 B.out (undrN hb)); clear hb)
      | (go_at_call 11; (with_reducible refine (k1.out _).mono ?_); rintro E w2 ⟨rfl, hb⟩; (replace B : Hid (Below w.heap.size w w2) := by first | exact bt17 B.out hb | exact bt17 B.out (undrN hb)); clear hb)
      | (go_at_call 10; (with_reducible refine (k2.out _).mono ?_); rintro E w2 ⟨rfl, hb⟩; (replace B : Hid (Below w.heap.size w w2) := by first | exact bt17 B.out hb | exact bt17 B.out (undrN hb)); clear hb)
      | (go_at_call 10; (with_reducible refine (k3.out _).mono ?_); rintro E w2 ⟨rfl, hb⟩; (replace B : Hid (Below w.heap.size w w2) := by first | exact bt17 B.out hb | exact bt17 B.out (undrN hb)); clear hb)
      | (go_at_call 11; (with_reducible refine (k4.out _).mono ?_); rintro E w2 ⟨rfl, hb⟩; (replace B : Hid (Below w.heap.size w w2) := by first | exact bt17 B.out hb | exact bt17 B.out (undrN hb)); clear hb)
      | (go_at_call 10; (with_reducible refine (k5.out _).mono ?_); rintro E w2 ⟨rfl, hb⟩; (replace B : Hid (Below w.heap.size w w2) := by first | exact bt17 B.out hb | exact bt17 B.out (undrN hb)); clear hb)
      | (go_at_call 10; (with_reducible refine (k6.out _).mono ?_); rintro E w2 ⟨rfl, hb⟩; (replace B : Hid (Below w.heap.size w w2) := by first | exact bt17 B.out hb | exact bt17 B.out (undrN hb)); clear hb)
      | (go_at_call 16; (with_reducible refine (lives17 _).mono ?_); rintro E w2 ⟨rfl, hb⟩; (replace B : Hid (Below w.heap.size w w2) := by first | exact bt17 B.out hb | exact bt17 B.out (undrN hb)); clear hb)
      | (go_at_call 17; (with_reducible refine (same_self _ _ _).mono ?_); rintro E w1 ⟨rfl, hw⟩; subst w1))
    go_ret
    exact ⟨rfl, by first | exact B.out | exact below_dN B.out _⟩
end Go.Proofs.Ytnmibhgfcepddaa
