/-
  Weights as natural numbers; the first of the greatest; what package pivot's finite and heaviest hand back.
-/
import Derived.Test.YtgpjlobclcbniaaVm
import Derived.Test.YtgpjlobclcbniaaVk
import Derived.Deep.RegionHeldLaw
namespace Go.Proofs.Ytgpjlobclcbniaa
open Fl RowKit

/-- the weight of a finite number, as a word -/
def wt (z : Cw) : Nat := nr (sz (mg z.1) + sz (mg z.2)) (-1074)
theorem wt_le (z : Cw) : wt z ≤ 9218868437227405312 := nr_lim _ _
theorem fin_nan {x : Nat} (h : finB x = true) : nan x = false := by
  have := fin_of h
  unfold Fl.fin at this
  unfold nan
  exact decide_eq_false (by omega)
theorem wt_siz {z : Cw} (hf : finZ z = true) : sizZ (anz z) = some (wt z) := by
  unfold finZ at hf
  rw [Bool.and_eq_true] at hf
  have a := fin_of hf.1
  have b := fin_of hf.2
  unfold sizZ anz
  rw [ans_num (fin_nan hf.1), ans_num (fin_nan hf.2)]
  exact add_pos a b
theorem wt_nan (z : Cw) : nan (wt z) = false := by
  have := wt_le z
  unfold nan mg
  exact decide_eq_false (by omega)
theorem ord_le {a b : Nat} (ha : a ≤ 9218868437227405312) (hb : b ≤ 9218868437227405312) : FloatKind.f64.format.order a b = some (compare (a : Int) (b : Int)) := by
  have p1 : plc a = a := by have := plc_mg a; rwa [show mg a = a from Nat.mod_eq_of_lt (by omega)] at this
  have p2 : plc b = b := by have := plc_mg b; rwa [show mg b = b from Nat.mod_eq_of_lt (by omega)] at this
  have n1 : nan a = false := by unfold nan mg; exact decide_eq_false (by omega)
  have n2 : nan b = false := by unfold nan mg; exact decide_eq_false (by omega)
  rw [f64_double, order_eq, n1, n2, p1, p2]
  rfl
theorem ord_gt {a b : Nat} (ha : a ≤ 9218868437227405312) (hb : b ≤ 9218868437227405312) (h : b < a) : FloatKind.f64.format.order a b = some .gt := by
  rw [ord_le ha hb, Int.compare_eq_gt.2 (by omega)]
theorem ord_ngt {a b : Nat} (ha : a ≤ 9218868437227405312) (hb : b ≤ 9218868437227405312) (h : ¬ b < a) : (FloatKind.f64.format.order a b == some .gt) = false := by
  rw [ord_le ha hb]
  have : ¬ compare (a : Int) (b : Int) = .gt := by rw [Int.compare_eq_gt]; omega
  cases h : compare (a : Int) (b : Int)
  · rfl
  · rfl
  · exact absurd h this
theorem wt_0 {z : Cw} (h : wt z = 0) : mg z.1 = 0 ∧ mg z.2 = 0 := by
  unfold wt at h
  have k1 := nr_mono (-1074) (show sz (mg z.1) ≤ sz (mg z.1) + sz (mg z.2) by omega)
  have k2 := nr_mono (-1074) (show sz (mg z.2) ≤ sz (mg z.1) + sz (mg z.2) by omega)
  have l1 : mg z.1 ≤ 9218868437227405312 ∨ 9218868437227405312 < mg z.1 := by omega
  have l2 : mg z.2 ≤ 9218868437227405312 ∨ 9218868437227405312 < mg z.2 := by omega
  have big : ∀ x, 9218868437227405312 ≤ x → nr (sz x) (-1074) = 9218868437227405312 := by
    intro x hx
    have := nr_mono (-1074) (sz_le hx)
    rw [nr_sz (Nat.le_refl _)] at this
    have := nr_lim (sz x) (-1074)
    omega
  constructor
  · rcases l1 with l1 | l1
    · rw [nr_sz l1] at k1; omega
    · rw [big _ (by omega)] at k1; omega
  · rcases l2 with l2 | l2
    · rw [nr_sz l2] at k2; omega
    · rw [big _ (by omega)] at k2; omega
theorem wt_z {z : Cw} (h1 : mg z.1 = 0) (h2 : mg z.2 = 0) : wt z = 0 := by
  unfold wt
  rw [h1, h2, sz_zero]
  have := nr_sz (show 0 ≤ 9218868437227405312 by omega)
  rw [sz_zero] at this
  exact this
/-- the first place of the greatest, and that -/
def fstG (f : Nat → Nat) : Nat → Nat × Nat
  | 0 => (0, 0)
  | k + 1 => if (fstG f k).2 < f k then (k, f k) else fstG f k
theorem fstG_le (f : Nat → Nat) (n : Nat) : ∀ j, j < n → f j ≤ (fstG f n).2 := by
  induction n with
  | zero => intro j hj; omega
  | succ n ih =>
    intro j hj
    unfold fstG
    by_cases e : j = n
    · subst e; split
      · exact Nat.le_refl _
      · omega
    · have := ih j (by omega)
      split
      · show f j ≤ f n; omega
      · exact this
theorem fstG_at (f : Nat → Nat) (n : Nat) : (fstG f n).2 = 0 ∧ (fstG f n).1 = 0 ∨ 0 < (fstG f n).2 ∧ (fstG f n).1 < n ∧ f (fstG f n).1 = (fstG f n).2 ∧ ∀ j, j < (fstG f n).1 → f j < (fstG f n).2 := by
  induction n with
  | zero => exact .inl ⟨rfl, rfl⟩
  | succ n ih =>
    unfold fstG
    split
    · refine .inr ⟨by show 0 < f n; omega, by show n < n + 1; omega, rfl, ?_⟩
      intro j hj
      have := fstG_le f n j hj
      show f j < f n
      omega
    · rcases ih with h | ⟨h1, h2, h3, h4⟩
      · exact .inl h
      · exact .inr ⟨h1, by omega, h3, h4⟩
theorem fstG_uniq {f : Nat → Nat} {n i : Nat} (hi : i < n) (hm : ∀ k, k < n → f k ≤ f i) (hb : ∀ k, k < i → ∃ j, j < n ∧ f k < f j) (h0 : 0 < (fstG f n).2) : (fstG f n).1 = i := by
  rcases fstG_at f n with ⟨h, _⟩ | ⟨_, h2, h3, h4⟩
  · omega
  · have e1 := hm _ h2
    have e2 := fstG_le f n i hi
    rcases Nat.lt_trichotomy (fstG f n).1 i with h | h | h
    · obtain ⟨j, hj, hlt⟩ := hb _ h
      have := fstG_le f n j hj
      omega
    · exact h
    · have := h4 i h; omega
theorem fstG_congr {f g : Nat → Nat} {n : Nat} (h : ∀ j, j < n → f j = g j) : fstG f n = fstG g n := by
  induction n with
  | zero => rfl
  | succ n ih =>
    unfold fstG
    rw [ih (fun j hj => h j (by omega)), h n (by omega)]
theorem fstG_lim {f : Nat → Nat} {M : Nat} (h : ∀ j, f j ≤ M) (n : Nat) : (fstG f n).2 ≤ M := by
  induction n with
  | zero => exact Nat.zero_le _
  | succ n ih =>
    unfold fstG
    split
    · exact h n
    · exact ih
def wts (xs : List Cw) (j : Nat) : Nat := wt (zat xs j)
/-- the heaviest of a list: its place, its weight -/
def hv (xs : List Cw) : Nat × Nat := fstG (wts xs) xs.length
theorem hv_lim (xs : List Cw) : (hv xs).2 ≤ 9218868437227405312 := fstG_lim (fun _ => wt_le _) _
theorem fin_walk {W : World} {x : Cw} (h : okz x) : Calls Try.prog 50 #[.complex .f64 x.1 x.2] W fun e w' => e = .returned (.bool (finZ x)) ∧ w' = W := (fin_any _ _ W h.1 h.2)

theorem pcnt_any (n : Int) (w : World) : Calls Try.prog 65 #[.int .i64 n] w fun e w' => e = .returned (.bool (decide (0 ≤ n ∧ n ≤ 64))) ∧ w' = w := by
  by_cases h1 : 0 ≤ n
  · by_cases h2 : n ≤ 64
    · rw [decide_eq_true (show 0 ≤ n ∧ n ≤ 64 from ⟨h1, h2⟩)]
      go_enter Try.func65, Try.ntmps65
      go_wp2
      go_ret
      exact ⟨rfl, rfl⟩
    · rw [decide_eq_false (show ¬ (0 ≤ n ∧ n ≤ 64) from fun h => h2 h.2)]
      go_enter Try.func65, Try.ntmps65
      go_wp2
      go_ret
      exact ⟨rfl, rfl⟩
  · rw [decide_eq_false (show ¬ (0 ≤ n ∧ n ≤ 64) from fun h => h1 h.1)]
    go_enter Try.func65, Try.ntmps65
    go_wp2
    go_ret
    exact ⟨rfl, rfl⟩
theorem pwithin_any (i n : Int) (w : World) : Calls Try.prog 42 #[.int .i64 i, .int .i64 n] w fun e w' => e = .returned (.bool (decide (0 ≤ i ∧ i < n))) ∧ w' = w := by
  by_cases h1 : 0 ≤ i
  · by_cases h2 : i < n
    · rw [decide_eq_true (show 0 ≤ i ∧ i < n from ⟨h1, h2⟩)]
      go_enter Try.func42, Try.ntmps42
      go_wp2
      go_ret
      exact ⟨rfl, rfl⟩
    · rw [decide_eq_false (show ¬ (0 ≤ i ∧ i < n) from fun h => h2 h.2)]
      go_enter Try.func42, Try.ntmps42
      go_wp2
      go_ret
      exact ⟨rfl, rfl⟩
  · rw [decide_eq_false (show ¬ (0 ≤ i ∧ i < n) from fun h => h1 h.1)]
    go_enter Try.func42, Try.ntmps42
    go_wp2
    go_ret
    exact ⟨rfl, rfl⟩
set_option maxHeartbeats 1000000 in
theorem pfin_any (ao : Option Addr) (cap : Nat) (xs : List Cw) (w : World) (hsz : xs.length * 16 ≤ 140737488355328) (hc : Rc w ao xs) (hx : okl xs) :
    Calls Try.prog 43 #[.slice ao xs.length cap] w fun e w' => e = .returned (.bool (finL xs xs.length)) ∧ w' = w := by
  go_enter Try.func43, Try.ntmps43
  go_wp2
  go_loopw [7] (fun i wr => ∃ (k : Nat), k ≤ xs.length ∧ i = .int .i64 k ∧ finL xs k = true ∧ wr = w) (fun i _ => xs.length - (intOf i).toNat)
  case atStart => exact ⟨0, Nat.zero_le _, rfl, rfl, rfl⟩
  case round =>
    obtain ⟨k, hk, rfl, hf, hw⟩ := hrel
    by_cases hlt : k < xs.length
    · obtain ⟨b, off, rfl, hb, hcx⟩ := hc k hlt
      rw [← hw] at hb hcx
      have HW : Hid (wr = w) := hw
      have F1 := @finL_lt xs k
      have F2 : finL xs (k + 1) = (finL xs k && finZ (zat xs k)) := rfl
      rw [hf, Bool.true_and] at F2
      have ho := hx k
      obtain ⟨x, hxe⟩ : ∃ x, x = zat xs k := ⟨_, rfl⟩
      rw [← hxe] at hcx F1 F2 ho
      unfold cx at hcx
      have G1 : Hid (finZ x = false → finL xs xs.length = false) := fun h => F1 h _ hlt
      have G2 : Hid (finL xs (k + 1) = finZ x) := F2
      clear hxe hc hf hw F1 F2 hx
      cases f1 : finZ x
      · go_wp2_with (go_at_call 50; (with_reducible refine (fin_walk ho).mono ?_); rintro e w' ⟨rfl, rfl⟩; rw [f1])
        go_ret
        exact ⟨by rw [G1.out f1]; rfl, HW.out⟩
      · go_wp2_with (go_at_call 50; (with_reducible refine (fin_walk ho).mono ?_); rintro e w' ⟨rfl, rfl⟩; rw [f1])
        exact ⟨⟨k + 1, by omega, by go_num, by rw [G2.out]; exact f1, HW.out⟩, by simp [intOf]; omega⟩
    · have e : k = xs.length := by omega
      subst e
      have HW : Hid (wr = w) := hw
      have HF : Hid (finL xs xs.length = true) := hf
      clear hx hc hf hw
      go_wp2
      go_ret
      exact ⟨by rw [HF.out]; rfl, HW.out⟩
theorem size1_wt {W : World} {x : Cw} (h : okz x) (hf : finZ x = true) : Calls Try.prog 35 #[.complex .f64 x.1 x.2] W fun e w' => ∃ n, e = .returned (.float .f64 (wt x)) ∧ w' = W.drewN n :=
  (size1_any W (repz_anz h).1 (repz_anz h).2).mono (by
    rintro e w' ⟨r, n, rfl, hr, rfl⟩
    exact ⟨n, by rw [rep_is hr (wt_siz hf)], rfl⟩)
theorem rsize1_wt {W : World} {x : Cw} (h : okz x) (hf : finZ x = true) : Calls Try.prog 47 #[.complex .f64 x.1 x.2] W fun e w' => ∃ n, e = .returned (.float .f64 (wt x)) ∧ w' = W.drewN n :=
  (rsize1_any W (repz_anz h).1 (repz_anz h).2).mono (by
    rintro e w' ⟨r, n, rfl, hr, rfl⟩
    exact ⟨n, by rw [rep_is hr (wt_siz hf)], rfl⟩)
set_option maxHeartbeats 1000000 in
theorem pheav_any (ao : Option Addr) (cap : Nat) (xs : List Cw) (w : World) (hsz : xs.length * 16 ≤ 140737488355328) (hc : Rc w ao xs) (hx : okl xs) (hfin : finL xs xs.length = true) :
    Calls Try.prog 44 #[.slice ao xs.length cap] w fun e w' => ∃ m, e = .returned (.tuple #[.int .i64 ((hv xs).1 : Nat), .float .f64 (hv xs).2]) ∧ w' = w.drewN m := by
  go_enter Try.func44, Try.ntmps44
  go_wp2
  go_loopw [4, 5, 11] (fun p g i wr => ∃ (k m a b : Nat), k ≤ xs.length ∧ i = .int .i64 k ∧ p = .int .i64 a ∧ g = .float .f64 b ∧ (a, b) = fstG (wts xs) k ∧ wr = w.drewN m) (fun _ _ i _ => xs.length - (intOf i).toNat)
  case atStart => exact ⟨0, 0, 0, 0, Nat.zero_le _, rfl, rfl, rfl, rfl, rfl⟩
  case round =>
    obtain ⟨k, n, a, b, hk, rfl, rfl, rfl, hs, hw⟩ := hrel
    by_cases hlt : k < xs.length
    · obtain ⟨q, off, rfl, hb, hcx⟩ := hc.drewN n k hlt
      rw [← hw] at hb hcx
      have HW : Hid (wr = w.drewN n) := hw
      have ho := hx k
      have hf := finL_at hfin k hlt
      have hbl : b ≤ 9218868437227405312 := by
        have := fstG_lim (fun j => wt_le (zat xs j)) k
        rw [show fstG (fun j => wt (zat xs j)) k = (a, b) from hs.symm] at this
        exact this
      have HS : Hid (fstG (wts xs) (k + 1) = if b < wt (zat xs k) then (k, wt (zat xs k)) else (a, b)) := by
        show (if (fstG (wts xs) k).2 < wts xs k then (k, wts xs k) else fstG (wts xs) k) = _
        rw [← hs]; rfl
      obtain ⟨x, hxe⟩ : ∃ x, x = zat xs k := ⟨_, rfl⟩
      rw [← hxe] at hcx ho hf HS
      unfold cx at hcx
      have hwl := wt_le x
      clear hxe hc hs hw hx hfin
      by_cases hgt : b < wt x
      · have hord := ord_gt hwl hbl hgt
        go_wp2_with (go_at_call 35; (with_reducible refine (size1_wt ho hf).mono ?_); rintro e w' ⟨m, rfl, rfl⟩)
        refine ⟨⟨k + 1, _, k, wt x, by omega, by go_num, rfl, rfl, by rw [HS.out, if_pos hgt], by rw [HW.out]; simp only [World.drewN_drewN]; rfl⟩, by simp [intOf]; omega⟩
      · have hord := ord_ngt hwl hbl hgt
        go_wp2_with (go_at_call 35; (with_reducible refine (size1_wt ho hf).mono ?_); rintro e w' ⟨m, rfl, rfl⟩)
        refine ⟨⟨k + 1, _, a, b, by omega, by go_num, rfl, rfl, by rw [HS.out, if_neg hgt], by rw [HW.out]; simp only [World.drewN_drewN]; rfl⟩, by simp [intOf]; omega⟩
    · have e : k = xs.length := by omega
      subst e
      have HW : Hid (wr = w.drewN n) := hw
      have HS : Hid ((a, b) = hv xs) := hs
      clear hx hc hfin hw hs
      go_wp2
      go_ret2
      exact ⟨n, by rw [← HS.out]; rfl, HW.out⟩

end Go.Proofs.Ytgpjlobclcbniaa
