/-
  Several texts in one: Xa Xb Ya Yb Yc Yd.
-/
import Derived.Test.YtmpkcioeodlbcaaGreatDoorK31
import Derived.Deep.RegionHeldLaw
import Derived.Test.YtmpkcioeodlbcaaGreatDoorK14
import Derived.Laws.CopyOwn
import Derived.RegionTactic
namespace Go.Proofs.YtmpkcioeodlbcaaGreatDoor
open Fl RowKit
/-- the weight of a finite number, as a word -/
def wt (z : Cw) : Nat := nr (sz (mg z.1) + sz (mg z.2)) (-1074)
theorem wt_le (z : Cw) : wt z ≤ 9218868437227405312 := nr_lim _ _
theorem fin_nan {x : Nat} (h : finB x = true) : nan x = false := by
  have := fin_of h
  unfold Fl.fin at this
  unfold nan
  exact decide_eq_false (by omega)
theorem wt_siz {z : Cw} (hf : finZ z = true) : sizZ (anz z) = some (wt z) := by
  unfold finZ at hf
  rw [Bool.and_eq_true] at hf
  have a := fin_of hf.1
  have b := fin_of hf.2
  unfold sizZ anz
  rw [ans_num (fin_nan hf.1), ans_num (fin_nan hf.2)]
  exact add_pos a b
theorem ord_le {a b : Nat} (ha : a ≤ 9218868437227405312) (hb : b ≤ 9218868437227405312) : FloatKind.f64.format.order a b = some (compare (a : Int) (b : Int)) := by
  have p1 : plc a = a := by have := plc_mg a; rwa [show mg a = a from Nat.mod_eq_of_lt (by omega)] at this
  have p2 : plc b = b := by have := plc_mg b; rwa [show mg b = b from Nat.mod_eq_of_lt (by omega)] at this
  have n1 : nan a = false := by unfold nan mg; exact decide_eq_false (by omega)
  have n2 : nan b = false := by unfold nan mg; exact decide_eq_false (by omega)
  rw [f64_double, order_eq, n1, n2, p1, p2]
  rfl
theorem ord_gt {a b : Nat} (ha : a ≤ 9218868437227405312) (hb : b ≤ 9218868437227405312) (h : b < a) : FloatKind.f64.format.order a b = some .gt := by
  rw [ord_le ha hb, Int.compare_eq_gt.2 (by omega)]
theorem ord_ngt {a b : Nat} (ha : a ≤ 9218868437227405312) (hb : b ≤ 9218868437227405312) (h : ¬ b < a) : (FloatKind.f64.format.order a b == some .gt) = false := by
  rw [ord_le ha hb]
  have : ¬ compare (a : Int) (b : Int) = .gt := by rw [Int.compare_eq_gt]; omega
  cases h : compare (a : Int) (b : Int)
  · rfl
  · rfl
  · exact absurd h this
/-- the first place of the greatest, and that -/
def fstG (f : Nat → Nat) : Nat → Nat × Nat
  | 0 => (0, 0)
  | k + 1 => if (fstG f k).2 < f k then (k, f k) else fstG f k
theorem fstG_le (f : Nat → Nat) (n : Nat) : ∀ j, j < n → f j ≤ (fstG f n).2 := by
  induction n with
  | zero => intro j hj; omega
  | succ n ih =>
    intro j hj
    unfold fstG
    by_cases e : j = n
    · subst e; split
      · exact Nat.le_refl _
      · omega
    · have := ih j (by omega)
      split
      · show f j ≤ f n; omega
      · exact this
theorem fstG_at (f : Nat → Nat) (n : Nat) : (fstG f n).2 = 0 ∧ (fstG f n).1 = 0 ∨ 0 < (fstG f n).2 ∧ (fstG f n).1 < n ∧ f (fstG f n).1 = (fstG f n).2 ∧ ∀ j, j < (fstG f n).1 → f j < (fstG f n).2 := by
  induction n with
  | zero => exact .inl ⟨rfl, rfl⟩
  | succ n ih =>
    unfold fstG
    split
    · refine .inr ⟨by show 0 < f n; omega, by show n < n + 1; omega, rfl, ?_⟩
      intro j hj
      have := fstG_le f n j hj
      show f j < f n
      omega
    · rcases ih with h | ⟨h1, h2, h3, h4⟩
      · exact .inl h
      · exact .inr ⟨h1, by omega, h3, h4⟩
theorem fstG_congr {f g : Nat → Nat} {n : Nat} (h : ∀ j, j < n → f j = g j) : fstG f n = fstG g n := by
  induction n with
  | zero => rfl
  | succ n ih =>
    unfold fstG
    rw [ih (fun j hj => h j (by omega)), h n (by omega)]
theorem fstG_lim {f : Nat → Nat} {M : Nat} (h : ∀ j, f j ≤ M) (n : Nat) : (fstG f n).2 ≤ M := by
  induction n with
  | zero => exact Nat.zero_le _
  | succ n ih =>
    unfold fstG
    split
    · exact h n
    · exact ih
def wts (xs : List Cw) (j : Nat) : Nat := wt (zat xs j)
/-- the heaviest of a list: its place, its weight -/
def hv (xs : List Cw) : Nat × Nat := fstG (wts xs) xs.length
theorem hv_lim (xs : List Cw) : (hv xs).2 ≤ 9218868437227405312 := fstG_lim (fun _ => wt_le _) _
theorem fin_walk {W : World} {x : Cw} (h : okz x) : Calls Tryz.prog 59 #[.complex .f64 x.1 x.2] W fun e w' => e = .returned (.bool (finZ x)) ∧ w' = W := (fin_any _ _ W h.1 h.2)

theorem pwithin_any (i n : Int) (w : World) : Calls Tryz.prog 212 #[.int .i64 i, .int .i64 n] w fun e w' => e = .returned (.bool (decide (0 ≤ i ∧ i < n))) ∧ w' = w := by
  by_cases h1 : 0 ≤ i
  · by_cases h2 : i < n
    · rw [decide_eq_true (show 0 ≤ i ∧ i < n from ⟨h1, h2⟩)]
      go_enter Tryz.func212, Tryz.ntmps212
      go_wp2
      go_ret
      exact ⟨rfl, rfl⟩
    · rw [decide_eq_false (show ¬ (0 ≤ i ∧ i < n) from fun h => h2 h.2)]
      go_enter Tryz.func212, Tryz.ntmps212
      go_wp2
      go_ret
      exact ⟨rfl, rfl⟩
  · rw [decide_eq_false (show ¬ (0 ≤ i ∧ i < n) from fun h => h1 h.1)]
    go_enter Tryz.func212, Tryz.ntmps212
    go_wp2
    go_ret
    exact ⟨rfl, rfl⟩
set_option maxHeartbeats 1000000 in
theorem pfin_any (ao : Option Addr) (cap : Nat) (xs : List Cw) (w : World) (hsz : xs.length * 16 ≤ 140737488355328) (hc : Rc w ao xs) (hx : okl xs) :
    Calls Tryz.prog 213 #[.slice ao xs.length cap] w fun e w' => e = .returned (.bool (finL xs xs.length)) ∧ w' = w := by
  go_enter Tryz.func213, Tryz.ntmps213
  go_wp2
  go_loopw [7] (fun i wr => ∃ (k : Nat), k ≤ xs.length ∧ i = .int .i64 k ∧ finL xs k = true ∧ wr = w) (fun i _ => xs.length - (intOf i).toNat)
  case atStart => exact ⟨0, Nat.zero_le _, rfl, rfl, rfl⟩
  case round =>
    obtain ⟨k, hk, rfl, hf, hw⟩ := hrel
    by_cases hlt : k < xs.length
    · obtain ⟨b, off, rfl, hb, hcx⟩ := hc k hlt
      rw [← hw] at hb hcx
      have HW : Hid (wr = w) := hw
      have F1 := @finL_lt xs k
      have F2 : finL xs (k + 1) = (finL xs k && finZ (zat xs k)) := rfl
      rw [hf, Bool.true_and] at F2
      have ho := hx k
      obtain ⟨x, hxe⟩ : ∃ x, x = zat xs k := ⟨_, rfl⟩
      rw [← hxe] at hcx F1 F2 ho
      unfold cx at hcx
      have G1 : Hid (finZ x = false → finL xs xs.length = false) := fun h => F1 h _ hlt
      have G2 : Hid (finL xs (k + 1) = finZ x) := F2
      clear hxe hc hf hw F1 F2 hx
      cases f1 : finZ x
      · go_wp2_with (go_at_call 59; (with_reducible refine (fin_walk ho).mono ?_); rintro e w' ⟨rfl, rfl⟩; rw [f1])
        go_ret
        exact ⟨by rw [G1.out f1]; rfl, HW.out⟩
      · go_wp2_with (go_at_call 59; (with_reducible refine (fin_walk ho).mono ?_); rintro e w' ⟨rfl, rfl⟩; rw [f1])
        exact ⟨⟨k + 1, by omega, by go_num, by rw [G2.out]; exact f1, HW.out⟩, by simp [intOf]; omega⟩
    · have e : k = xs.length := by omega
      subst e
      have HW : Hid (wr = w) := hw
      have HF : Hid (finL xs xs.length = true) := hf
      clear hx hc hf hw
      go_wp2
      go_ret
      exact ⟨by rw [HF.out]; rfl, HW.out⟩
theorem size1_wt {W : World} {x : Cw} (h : okz x) (hf : finZ x = true) : Calls Tryz.prog 130 #[.complex .f64 x.1 x.2] W fun e w' => ∃ n, e = .returned (.float .f64 (wt x)) ∧ w' = W.drewN n :=
  (size1_any W (repz_anz h).1 (repz_anz h).2).mono (by
    rintro e w' ⟨r, n, rfl, hr, rfl⟩
    exact ⟨n, by rw [rep_is hr (wt_siz hf)], rfl⟩)
set_option maxHeartbeats 1000000 in
theorem pheav_any (ao : Option Addr) (cap : Nat) (xs : List Cw) (w : World) (hsz : xs.length * 16 ≤ 140737488355328) (hc : Rc w ao xs) (hx : okl xs) (hfin : finL xs xs.length = true) :
    Calls Tryz.prog 214 #[.slice ao xs.length cap] w fun e w' => ∃ m, e = .returned (.tuple #[.int .i64 ((hv xs).1 : Nat), .float .f64 (hv xs).2]) ∧ w' = w.drewN m := by
  go_enter Tryz.func214, Tryz.ntmps214
  go_wp2
  go_loopw [4, 5, 11] (fun p g i wr => ∃ (k m a b : Nat), k ≤ xs.length ∧ i = .int .i64 k ∧ p = .int .i64 a ∧ g = .float .f64 b ∧ (a, b) = fstG (wts xs) k ∧ wr = w.drewN m) (fun _ _ i _ => xs.length - (intOf i).toNat)
  case atStart => exact ⟨0, 0, 0, 0, Nat.zero_le _, rfl, rfl, rfl, rfl, rfl⟩
  case round =>
    obtain ⟨k, n, a, b, hk, rfl, rfl, rfl, hs, hw⟩ := hrel
    by_cases hlt : k < xs.length
    · obtain ⟨q, off, rfl, hb, hcx⟩ := hc.drewN n k hlt
      rw [← hw] at hb hcx
      have HW : Hid (wr = w.drewN n) := hw
      have ho := hx k
      have hf := finL_at hfin k hlt
      have hbl : b ≤ 9218868437227405312 := by
        have := fstG_lim (fun j => wt_le (zat xs j)) k
        rw [show fstG (fun j => wt (zat xs j)) k = (a, b) from hs.symm] at this
        exact this
      have HS : Hid (fstG (wts xs) (k + 1) = if b < wt (zat xs k) then (k, wt (zat xs k)) else (a, b)) := by
        show (if (fstG (wts xs) k).2 < wts xs k then (k, wts xs k) else fstG (wts xs) k) = _
        rw [← hs]; rfl
      obtain ⟨x, hxe⟩ : ∃ x, x = zat xs k := ⟨_, rfl⟩
      rw [← hxe] at hcx ho hf HS
      unfold cx at hcx
      have hwl := wt_le x
      clear hxe hc hs hw hx hfin
      by_cases hgt : b < wt x
      · have hord := ord_gt hwl hbl hgt
        go_wp2_with (go_at_call 130; (with_reducible refine (size1_wt ho hf).mono ?_); rintro e w' ⟨m, rfl, rfl⟩)
        refine ⟨⟨k + 1, _, k, wt x, by omega, by go_num, rfl, rfl, by rw [HS.out, if_pos hgt], by rw [HW.out]; simp only [World.drewN_drewN]; rfl⟩, by simp [intOf]; omega⟩
      · have hord := ord_ngt hwl hbl hgt
        go_wp2_with (go_at_call 130; (with_reducible refine (size1_wt ho hf).mono ?_); rintro e w' ⟨m, rfl, rfl⟩)
        refine ⟨⟨k + 1, _, a, b, by omega, by go_num, rfl, rfl, by rw [HS.out, if_neg hgt], by rw [HW.out]; simp only [World.drewN_drewN]; rfl⟩, by simp [intOf]; omega⟩
    · have e : k = xs.length := by omega
      subst e
      have HW : Hid (wr = w.drewN n) := hw
      have HS : Hid ((a, b) = hv xs) := hs
      clear hx hc hfin hw hs
      go_wp2
      go_ret2
      exact ⟨n, by rw [← HS.out]; rfl, HW.out⟩

end Go.Proofs.YtmpkcioeodlbcaaGreatDoor
namespace Go.Proofs.YtmpkcioeodlbcaaGreatDoor
open Fl RowKit
def chE (xs : List Cw) (fr : Int) : Int :=
  if 64 < xs.length then 3 else if ¬ (0 ≤ fr ∧ fr < (xs.length : Int)) then 2 else if finL (xs.drop fr.toNat) (xs.length - fr.toNat) = false then 5 else if (hv (xs.drop fr.toNat)).2 = 0 then 7 else 0
def chI (xs : List Cw) (fr : Int) : Int := if chE xs fr = 0 then fr + ((hv (xs.drop fr.toNat)).1 : Nat) else 0
theorem chE_3 {xs : List Cw} {fr : Int} (h : 64 < xs.length) : chE xs fr = 3 := if_pos h
theorem chE_2 {xs : List Cw} {fr : Int} (h : ¬ 64 < xs.length) (h2 : ¬ (0 ≤ fr ∧ fr < (xs.length : Int))) : chE xs fr = 2 := by unfold chE; rw [if_neg h, if_pos h2]
theorem chE_5 {xs : List Cw} {f : Nat} (h : ¬ 64 < xs.length) (h2 : f < xs.length) (h3 : finL (xs.drop f) (xs.length - f) = false) : chE xs f = 5 := by
  unfold chE; rw [if_neg h, if_neg (by omega), Int.toNat_natCast, if_pos h3]
theorem chE_7 {xs : List Cw} {f : Nat} (h : ¬ 64 < xs.length) (h2 : f < xs.length) (h3 : finL (xs.drop f) (xs.length - f) = true) (h4 : (hv (xs.drop f)).2 = 0) : chE xs f = 7 := by
  unfold chE; rw [if_neg h, if_neg (by omega), Int.toNat_natCast, if_neg (by rw [h3]; decide), if_pos h4]
theorem chE_0 {xs : List Cw} {f : Nat} (h : ¬ 64 < xs.length) (h2 : f < xs.length) (h3 : finL (xs.drop f) (xs.length - f) = true) (h4 : ¬ (hv (xs.drop f)).2 = 0) : chE xs f = 0 := by
  unfold chE; rw [if_neg h, if_neg (by omega), Int.toNat_natCast, if_neg (by rw [h3]; decide), if_neg h4]
theorem chI_n {xs : List Cw} {fr : Int} (h : ¬ chE xs fr = 0) : chI xs fr = 0 := if_neg h
theorem chI_0 {xs : List Cw} {f : Nat} (h : chE xs f = 0) : chI xs f = ((f + (hv (xs.drop f)).1 : Nat) : Int) := by
  unfold chI; rw [if_pos h, Int.toNat_natCast]; omega
theorem zat_drop (xs : List Cw) (f k : Nat) : zat (xs.drop f) k = zat xs (f + k) := by
  unfold zat
  rw [List.getD_eq_getElem?_getD, List.getD_eq_getElem?_getD, List.getElem?_drop]
theorem okl_drop {xs : List Cw} (h : okl xs) (f : Nat) : okl (xs.drop f) := fun k => by rw [zat_drop]; exact h _
theorem rc_drop {w : World} {b off : Nat} {xs : List Cw} (h : Rc w (some ⟨b, off, none⟩) xs) (f : Nat) : Rc w (some ⟨b, off + f, none⟩) (xs.drop f) := by
  intro k hk
  rw [List.length_drop] at hk
  obtain ⟨b', off', h1, h2, h3⟩ := h (f + k) (by omega)
  cases h1
  exact ⟨b, off + f, rfl, h2, by rw [zat_drop, Nat.add_assoc]; exact h3⟩
theorem hv_lt (xs : List Cw) : (hv xs).1 ≤ xs.length := by
  rcases fstG_at (wts xs) xs.length with ⟨_, h⟩ | ⟨_, h, _⟩
  · unfold hv; omega
  · unfold hv; omega
theorem pfin_len {W : World} {ao : Option Addr} {n cap : Nat} {xs : List Cw} (hn : xs.length = n) (hsz : n ≤ 4096) (hc : Rc W ao xs) (hx : okl xs) :
    Calls Tryz.prog 213 #[.slice ao n cap] W fun e w' => e = .returned (.bool (finL xs n)) ∧ w' = W := by
  subst hn
  exact pfin_any ao cap xs W (by omega) hc hx
theorem pheav_len {W : World} {ao : Option Addr} {n cap : Nat} {xs : List Cw} (hn : xs.length = n) (hsz : n ≤ 4096) (hc : Rc W ao xs) (hx : okl xs) (hf : finL xs n = true) :
    Calls Tryz.prog 214 #[.slice ao n cap] W fun e w' => ∃ m, e = .returned (.tuple #[.int .i64 ((hv xs).1 : Nat), .float .f64 (hv xs).2]) ∧ w' = W.drewN m := by
  subst hn
  exact pheav_any ao cap xs W (by omega) hc hx hf
set_option maxHeartbeats 1000000 in
theorem choose_any (ao : Option Addr) (cap : Nat) (xs : List Cw) (fr : Int) (w : World) (hsz : xs.length * 16 ≤ 140737488355328) (hcap : xs.length ≤ cap) (hc : Rc w ao xs) (hx : okl xs) :
    Calls Tryz.prog 179 #[.slice ao xs.length cap, .int .i64 fr] w fun e w' => ∃ m, e = .returned (.tuple #[.int .i64 (chI xs fr), .int .i64 (chE xs fr)]) ∧ w' = w.drewN m := by
  by_cases h1 : 64 < xs.length
  · have e0 := chE_3 (fr := fr) h1
    rw [chI_n (by rw [e0]; decide), e0]
    clear hc hx
    go_enter Tryz.func179, Tryz.ntmps179
    go_wp2
    go_ret2
    exact ⟨0, rfl, rfl⟩
  by_cases h2 : 0 ≤ fr ∧ fr < (xs.length : Int)
  case neg =>
    have e0 := chE_2 h1 h2
    rw [chI_n (by rw [e0]; decide), e0]
    clear hc hx e0
    have hd := decide_eq_false h2
    clear h2
    go_enter Tryz.func179, Tryz.ntmps179
    go_wp2_with (go_at_call 212; (with_reducible refine (pwithin_any _ _ _).mono ?_); rintro e w' ⟨rfl, rfl⟩; rw [hd])
    go_ret2
    exact ⟨0, rfl, rfl⟩
  have hd := decide_eq_true h2
  obtain ⟨f, rfl⟩ : ∃ f : Nat, fr = f := ⟨fr.toNat, by omega⟩
  obtain ⟨b, off, rfl, hb, _⟩ := hc 0 (by omega)
  have hf : f < xs.length := by omega
  have hcd := rc_drop hc f
  have hxd := okl_drop hx f
  have hl : (xs.drop f).length = xs.length - f := List.length_drop
  have hhv := hv_lim (xs.drop f)
  have hhl := hv_lt (xs.drop f)
  rw [hl] at hhl
  have E5 := chE_5 h1 hf
  have E7 := chE_7 h1 hf
  have E0 := chE_0 h1 hf
  have I0 := chI_0 (xs := xs) (f := f)
  have In := chI_n (xs := xs) (fr := f)
  obtain ⟨ys, hys⟩ : ∃ ys, ys = xs.drop f := ⟨_, rfl⟩
  rw [← hys] at hcd hxd hl E5 E7 E0 I0 hhv hhl
  obtain ⟨n, hn⟩ : ∃ n, n = xs.length := ⟨_, rfl⟩
  rw [← hn] at h1 hsz hcap hd hl hhl hf E5 E7 E0 ⊢
  obtain ⟨E, hE⟩ : ∃ E, E = chE xs f := ⟨_, rfl⟩
  obtain ⟨I, hI⟩ : ∃ I, I = chI xs f := ⟨_, rfl⟩
  rw [← hE] at E5 E7 E0 I0 In
  rw [← hI] at I0 In
  rw [← hE, ← hI]
  have HL : Hid (ys.length = n - f) := hl
  clear hc hx hys hn hE hI hl h2
  cases h3 : finL ys (n - f)
  · have e5 := E5 h3
    subst e5
    have i0 := In (by decide)
    subst i0
    clear E5 E7 E0 I0 In
    go_enter Tryz.func179, Tryz.ntmps179
    go_wp2_with (first
      | (go_at_call 212; (with_reducible refine (pwithin_any _ _ _).mono ?_); rintro e w' ⟨rfl, rfl⟩; rw [hd])
      | (go_at_call 213; (with_reducible refine (pfin_len HL.out (by omega) hcd hxd).mono ?_); rintro e w' ⟨rfl, rfl⟩; rw [h3]))
    go_ret2
    exact ⟨0, rfl, rfl⟩
  · by_cases h4 : (hv ys).2 = 0
    · have e5 := E7 h3 h4
      subst e5
      have i0 := In (by decide)
      subst i0
      clear E5 E7 E0 I0 In
      have q0 : FloatKind.f64.format.order 0 0 = some .eq := by kernel_rfl
      go_enter Tryz.func179, Tryz.ntmps179
      go_wp2_with (first
        | (go_at_call 212; (with_reducible refine (pwithin_any _ _ _).mono ?_); rintro e w' ⟨rfl, rfl⟩; rw [hd])
        | (go_at_call 213; (with_reducible refine (pfin_len HL.out (by omega) hcd hxd).mono ?_); rintro e w' ⟨rfl, rfl⟩; rw [h3])
        | (go_at_call 214; (with_reducible refine (pheav_len HL.out (by omega) hcd hxd h3).mono ?_); rintro e w' ⟨m, rfl, rfl⟩; rw [h4]))
      go_ret2
      exact ⟨m, rfl, rfl⟩
    · have e5 := E0 h3 h4
      subst e5
      have i0 := I0 rfl
      subst i0
      clear E5 E7 E0 I0 In
      have q0 := ord_gt hhv (Nat.zero_le _) (by omega : 0 < (hv ys).2)
      go_enter Tryz.func179, Tryz.ntmps179
      go_wp2_with (first
        | (go_at_call 212; (with_reducible refine (pwithin_any _ _ _).mono ?_); rintro e w' ⟨rfl, rfl⟩; rw [hd])
        | (go_at_call 213; (with_reducible refine (pfin_len HL.out (by omega) hcd hxd).mono ?_); rintro e w' ⟨rfl, rfl⟩; rw [h3])
        | (go_at_call 214; (with_reducible refine (pheav_len HL.out (by omega) hcd hxd h3).mono ?_); rintro e w' ⟨m, rfl, rfl⟩))
      go_ret2
      exact ⟨m, by first | rfl | (congr 3; go_num), rfl⟩

end Go.Proofs.YtmpkcioeodlbcaaGreatDoor
namespace Go.Proofs.YtmpkcioeodlbcaaGreatDoor
open Fl RowKit
def iat (zs : List Int) (k : Nat) : Int := zs.getD k 0
theorem iat_lt {zs : List Int} {k : Nat} (h : k < zs.length) : zs[k]? = some (iat zs k) := by simp [iat, List.getD_eq_getElem?_getD, h]
end Go.Proofs.YtmpkcioeodlbcaaGreatDoor
namespace Go.Proofs.YtmpkcioeodlbcaaGreatDoor
open Fl RowKit
/-- two places exchanged -/
def sw (zs : List Int) (i j : Nat) : List Int := (zs.set i (iat zs j)).set j (iat zs i)
/-- counts -/
def cl (x : Int) : List Int → Nat
  | [] => 0
  | y :: l => (if y < x then 1 else 0) + cl x l
end Go.Proofs.YtmpkcioeodlbcaaGreatDoor
namespace Go.Proofs.YtmpkcioeodlbcaaGreatDoor
open Fl RowKit
def ci (z : Int) : Value := .int .i64 z
/-- what a list of integers in memory reads as -/
def Qi (w : World) (ao : Option Addr) (zs : List Int) : Prop :=
  ∀ k, k < zs.length → ∃ b off, ao = some ⟨b, off, none⟩ ∧ b < w.heap.size ∧ w.cell? ⟨b, off + k, none⟩ = some (.int .i64 (iat zs k))
theorem Qi.below {w w' : World} {ao : Option Addr} {zs : List Int} (h : Qi w ao zs) (hb : Below w.heap.size w w') : Qi w' ao zs := by
  intro k hk
  obtain ⟨b, off, h1, h2, h3⟩ := h k hk
  exact ⟨b, off, h1, Nat.lt_of_lt_of_le h2 hb.size, (hb.cell (by exact h2)).trans h3⟩
theorem Qi.drewN {w : World} {ao : Option Addr} {zs : List Int} (h : Qi w ao zs) (n : Nat) : Qi (w.drewN n) ao zs := h
theorem Tryz.infoI : (Tryz.prog.info? 3).map (fun i => (i.zero, i.size, i.bytes)) = some (some (.int .i64 0), 1, 8) := by kernel_rfl
theorem Tryz.infoIs : (Tryz.prog.info? 3).map (·.size) = some 1 := by kernel_rfl
/-- a row of integers that is owned -/
structure Ir (w : World) (b : Nat) (v : Value) (n : Nat) (zs : List Int) : Prop where
  len : zs.length = n
  own : w.ownsRow b 3 1 v n (zs.map ci)
theorem Ir.below {w w' : World} {b n : Nat} {v : Value} {zs : List Int} (h : Ir w b v n zs) (hb : Below w.heap.size w w') : Ir w' b v n zs := ⟨h.len, own_below h.own hb⟩
theorem Ir.drewN {w : World} {b n : Nat} {v : Value} {zs : List Int} (h : Ir w b v n zs) (m : Nat) : Ir (w.drewN m) b v n zs := ⟨h.len, h.own⟩
theorem Ir.base {w : World} {b b' n : Nat} {v : Value} {zs : List Int} (h : Ir w b v n zs) (hb : b' ≤ b) : Ir w b' v n zs := ⟨h.len, own_base h.own hb⟩
theorem Ir.qi {w : World} {b g n c : Nat} {zs : List Int} (h : Ir w b (.slice (some ⟨g, 0, none⟩) n c) n zs) : Qi w (some ⟨g, 0, none⟩) zs := by
  obtain ⟨rfl, h2⟩ := h
  intro k hk
  refine ⟨g, 0, rfl, (h2.lt g rfl).2, ?_⟩
  rw [Nat.zero_add, h2.cellAt k (by omega), List.getElem?_map, iat_lt hk]; rfl
theorem Ir.lt {w : World} {b n g c : Nat} {zs : List Int} (h : Ir w b (.slice (some ⟨g, 0, none⟩) n c) n zs) : b ≤ g ∧ g < w.heap.size := h.own.lt g rfl
theorem Ir.set {w : World} {b g n c : Nat} {zs : List Int} (h : Ir w b (.slice (some ⟨g, 0, none⟩) n c) n zs) (k : Nat) (v : Int) : Ir (w.setCell ⟨g, k, none⟩ (.int .i64 v)) b (.slice (some ⟨g, 0, none⟩) n c) n (zs.set k v) := by
  refine ⟨by simpa using h.len, ?_⟩
  have := (h.own.stored k (ci v)).1
  rw [← List.map_set] at this
  exact this

theorem hid_o {p : Prop} (h : p) : Hid p := h
end Go.Proofs.YtmpkcioeodlbcaaGreatDoor
namespace Go.Proofs.YtmpkcioeodlbcaaGreatDoor
open Fl RowKit
theorem splice_all {cur cs : List Value} (h : cur.length = cs.length) : splice cur 0 cs = cs := by
  unfold splice
  rw [List.take_zero, List.nil_append, Nat.zero_add, ← h, List.drop_length, List.append_nil]
theorem ir_of {w : World} {b g n : Nat} {zs : List Int} (hn : zs.length = n) (hm : n ≤ maxLen) (hb : b ≤ g) (h : w.heap[g]? = some (.cells (zs.map ci).toArray 3 (0, 0))) : Ir w b (.slice (some ⟨g, 0, none⟩) n n) n zs := by
  refine ⟨hn, by simp [hn], .inr ⟨g, n, _, rfl, hb, h, Nat.le_refl _, hm, by simp [hn], ?_⟩⟩
  rw [List.toList_toArray, Nat.mul_one]
  exact List.take_of_length_le (by simp [hn])
theorem src_at {w : World} {ao : Option Addr} {zs : List Int} (hc : Qi w ao zs) (h0 : 0 < (zs.map ci).length) : ∃ ad, ao = some ad ∧ ∀ j v, (zs.map ci)[j]? = some v → w.cell? (ad.add j) = some v := by
  rw [List.length_map] at h0
  obtain ⟨b, off, rfl, _, _⟩ := hc 0 h0
  refine ⟨_, rfl, fun j v hj => ?_⟩
  rw [List.getElem?_map] at hj
  by_cases hk : j < zs.length
  · rw [iat_lt hk] at hj
    cases hj
    obtain ⟨b', off', h1, _, h3⟩ := hc j hk
    cases h1
    unfold Addr.add
    split
    · rename_i e0
      rw [e0, Nat.add_zero] at h3
      rw [e0]; exact h3
    · exact h3
  · rw [List.getElem?_eq_none (by omega)] at hj; cases hj
theorem one_ci {zs : List Int} : ∀ v ∈ zs.map ci, v.oneCell' = true := by
  intro v hv
  obtain ⟨z, _, rfl⟩ := List.mem_map.1 hv
  rfl
theorem made_cur {w : World} {g n : Nat} {xs : List Value} (h : w.ownsRow g 3 1 (.slice (some ⟨g, 0, none⟩) n n) n xs) : ∃ cur : List Value, w.heap[g]? = some (.cells cur.toArray 3 (0, 0)) ∧ cur.length = n := by
  rcases h.2 with ⟨hv, _⟩ | ⟨g', cap, cur, hv, _, hg, _, _, hsz, _⟩
  · cases hv
  · cases hv
    exact ⟨cur.toList, by rw [hg], by rw [Array.length_toList, hsz, Nat.mul_one]⟩
end Go.Proofs.YtmpkcioeodlbcaaGreatDoor
