/-
  TwoProd of gridworkref01: the product, and the error that FMA tells.
-/
import Derived.Test.YtggnilfphnnpkaaWPair
namespace Go.Proofs.Ytggnilfphnnpkaa
open Fl RowKit

/-- the error of a product, as both packages tell it -/
def prE (a b : Nat) : Option Nat := (mulO a b).bind fun q => fmaO a b (Op.negFloat .f64 q)
theorem prE_some {a b q : Nat} (h : mulO a b = some q) : prE a b = fmaO a b (Op.negFloat .f64 q) := by unfold prE; rw [h]; rfl
theorem prE_of {a b p : Nat} (hp : rep (mulO a b) p) : prE a b = fmaO a b (Op.negFloat .f64 p) := by
  cases hm : mulO a b with
  | none =>
    have hn : ¬ fin a ∨ ¬ fin b := by
      by_cases fa : fin a
      · by_cases fb : fin b
        · rw [mul_eq fa fb] at hm; cases hm
        · exact .inr fb
      · exact .inl fa
    rw [(odd_none hn hp hp).1]; unfold prE; rw [hm]; rfl
  | some q => rw [hm] at hp; obtain rfl := (ans_some hp.2).2; exact prE_some hm
theorem prE_odd {a b : Nat} (h : ¬ fin a ∨ ¬ fin b) : prE a b = none := by
  cases hm : mulO a b with
  | none => unfold prE; rw [hm]; rfl
  | some q =>
    have hq : rep (mulO a b) q := ⟨(mul_bd hm).1, by rw [hm]; exact ans_num (mul_bd hm).2⟩
    rw [prE_of hq]; exact (odd_none h hq hq).1
theorem err_emb (a b p : Nat) : (EP (val a * val b) + (MM - EV (val p)) % MM) % MM = emb (EE a b p) := by
  unfold EP EV EE
  rw [emb_neg, emb_add, Int.sub_eq_add_neg]
set_option maxRecDepth 100000 in
set_option maxHeartbeats 2000000 in
theorem rtp_odd (a b : Nat) (w : World) (h : ¬ fin a ∨ ¬ fin b) :
    Calls Try.prog 23 #[.float .f64 a, .float .f64 b] w fun e w' => ∃ p r, e = .returned (.tuple #[.float .f64 p, .float .f64 r]) ∧ rep (mulO a b) p ∧ rep (prE a b) r ∧ Below w.heap.size w w' := by
  rw [prE_odd h]
  by_cases fa : fin a
  · have k1 := kd_fin fa
    have k2 := kd_nfin (x := b) (by rcases h with h | h; exact absurd fa h; exact h)
    have HO : Hid (¬ fin a ∨ ¬ fin b) := h
    clear fa h
    go_enter Try.func23, Try.ntmps23
    go_wp2_with (first
      | (go_at_call 16; refine (rkind_any _ _).mono ?_; rintro e w' ⟨rfl, rfl⟩)
      | (go_at_call 45; refine (odd_a _ _ _ HO.out).mono ?_; rintro e w' ⟨r, nr, rfl, hr, rfl⟩))
    go_ret2
    exact ⟨_, _, rfl, rep_mulV _ _ _, hr, below_drewN (Below.refl _ _) _⟩
  · have k1 := kd_nfin fa
    have HO : Hid (¬ fin a ∨ ¬ fin b) := h
    clear fa h
    go_enter Try.func23, Try.ntmps23
    go_wp2_with (first
      | (go_at_call 16; refine (rkind_any _ _).mono ?_; rintro e w' ⟨rfl, rfl⟩)
      | (go_at_call 45; refine (odd_a _ _ _ HO.out).mono ?_; rintro e w' ⟨r, nr, rfl, hr, rfl⟩))
    go_ret2
    exact ⟨_, _, rfl, rep_mulV _ _ _, hr, below_drewN (Below.refl _ _) _⟩
set_option maxRecDepth 100000 in
set_option maxHeartbeats 2000000 in
theorem rtp_inf (a b p : Nat) (w : World) (fa : fin a) (fb : fin b) (hp : mulO a b = some p) (fp : ¬ fin p) :
    Calls Try.prog 23 #[.float .f64 a, .float .f64 b] w fun e w' => ∃ p r, e = .returned (.tuple #[.float .f64 p, .float .f64 r]) ∧ rep (mulO a b) p ∧ rep (prE a b) r ∧ Below w.heap.size w w' := by
  have pl := (mul_bd hp).1
  have pn := (mul_bd hp).2
  have hpi : mg p = 9218868437227405312 := by unfold nan at pn; unfold fin at fp; simp at pn; omega
  have he : rep (prE a b) (Op.negFloat .f64 p) := by
    rw [prE_some hp, fma_inf fa fb pl hpi]
    refine ⟨neg_bd pl, ans_num ?_⟩
    unfold nan; rw [neg_mg pl, hpi]; simp
  have k1 := kd_fin fa
  have k2 := kd_fin fb
  have k3 := kd_nfin fp
  have mv := mulV_of hp
  have FA : Hid (fin a) := fa
  have FB : Hid (fin b) := fb
  have HP : Hid (mulO a b = some p) := hp
  have hP : rep (mulO a b) p := by rw [hp]; exact ⟨pl, ans_num pn⟩
  clear fa fb fp hpi pn pl hp
  go_enter Try.func23, Try.ntmps23
  go_wp2_with (first
    | (go_at_call 16; refine (rkind_any _ _).mono ?_; rintro e w' ⟨rfl, rfl⟩)
    | (go_at_call 45; refine (odd_b _ _ p _ FA.out FB.out HP.out).mono ?_; rintro e w' ⟨nr, rfl, rfl⟩))
  go_ret2
  exact ⟨_, _, rfl, hP, he, below_drewN (Below.refl _ _) _⟩
set_option maxRecDepth 100000 in
set_option maxHeartbeats 2000000 in
theorem rtp_fin (a b p : Nat) (w : World) (ha : a < 18446744073709551616) (hb : b < 18446744073709551616) (fa : fin a) (fb : fin b) (hp : mulO a b = some p) (fp : fin p) :
    Calls Try.prog 23 #[.float .f64 a, .float .f64 b] w fun e w' => ∃ p r, e = .returned (.tuple #[.float .f64 p, .float .f64 r]) ∧ rep (mulO a b) p ∧ rep (prE a b) r ∧ Below w.heap.size w w' := by
  obtain ⟨r, hf, hr1, hr2, hr3, hr4⟩ := fma_round fa fb hp fp
  have he : rep (prE a b) r := by
    rw [prE_some hp, hf]; exact ⟨(fma_bd hf).1, ans_num (fma_bd hf).2⟩
  have pl := (mul_bd hp).1
  have hP : rep (mulO a b) p := by rw [hp]; exact ⟨pl, ans_num (mul_bd hp).2⟩
  have k1 := kd_fin fa
  have k2 := kd_fin fb
  have k3 := kd_fin fp
  have mv := mulV_of hp
  have sv : ∀ W : World, subV W p p = 0 := by intro W; unfold subV fV; rw [sub_self fp]
  have FA : Hid (fin a) := fa
  have FB : Hid (fin b) := fb
  have FP : Hid (fin p) := fp
  have H1 : Hid (rung2 (EE a b p).natAbs < 9218868437227405312) := hr1
  have H2 : Hid (2 * (EE a b p).natAbs < MM) := hr2
  have H3 : Hid ((EE a b p).natAbs = 0 → r = 0) := hr3
  have H4 : Hid (0 < (EE a b p).natAbs → r = Ieee.double.word (decide (EE a b p < 0)) (rung2 (EE a b p).natAbs)) := hr4
  clear fa fb fp hp hf hr1 hr2 hr3 hr4
  go_enter Try.func23, Try.ntmps23
  go_wp2_with (first
    | (go_at_call 16; refine (rkind_any _ _).mono ?_; rintro e w' ⟨rfl, rfl⟩)
    | (go_at_call 39; refine (product_any _ _ _ ha hb FA.out FB.out).mono ?_; rintro e w1 ⟨X, rfl, oX, vX, b1⟩)
    | (go_at_call 37; refine (of_any _ _ pl FP.out).mono ?_; rintro e w2 ⟨Y, rfl, oY, vY, b2⟩)
    | (go_at_call 47; refine (less_any X Y _ oX oY).mono ?_; rintro e w3 ⟨Z, rfl, oZ, vZ, b3⟩)
    | (go_at_call 46; refine (round_any Z 0 (EE a b p) (EE a b p).natAbs (decide (EE a b p < 0)) _ rfl rfl oZ (by rw [vZ, vX, vY]; exact err_emb a b p) H2.out H1.out r H3.out H4.out).mono ?_; rintro e w4 ⟨rfl, b4⟩))
  go_ret2
  refine ⟨_, _, rfl, hP, he, ?_⟩
  exact bd (bt (bt (bd (Below.refl _ _) b1) b2) b3) b4
theorem rtp_any (a b : Nat) (w : World) (ha : a < 18446744073709551616) (hb : b < 18446744073709551616) :
    Calls Try.prog 23 #[.float .f64 a, .float .f64 b] w fun e w' => ∃ p r, e = .returned (.tuple #[.float .f64 p, .float .f64 r]) ∧ rep (mulO a b) p ∧ rep (prE a b) r ∧ Below w.heap.size w w' := by
  by_cases fa : fin a
  · by_cases fb : fin b
    · have hp := mul_eq fa fb
      generalize Ieee.double.nearest (ng a ^^ ng b) (sig (mg a) * sig (mg b)) (-1074 + (ex (mg a) : Int) + (-1074 + (ex (mg b) : Int))) = p at hp
      by_cases fp : fin p
      · exact rtp_fin a b p w ha hb fa fb hp fp
      · exact rtp_inf a b p w fa fb hp fp
    · exact rtp_odd a b w (.inr fb)
  · exact rtp_odd a b w (.inl fa)
theorem rep_smB {o : Option Nat} {x y : Nat} (hx : rep o x) (hy : rep o y) : smB x y = true := by
  have h : ans x = ans y := hx.2.trans hy.2.symm
  unfold smB
  cases h1 : nan x <;> cases h2 : nan y
  · rw [ans_num h1, ans_num h2] at h; simpa using h
  · rw [ans_num h1, ans_nan h2] at h; cases h
  · rw [ans_nan h1, ans_num h2] at h; cases h
  · rfl
set_option maxRecDepth 100000 in
set_option maxHeartbeats 2000000 in
theorem pairs_walk (x y : Nat) (w : World) (hx : x < 18446744073709551616) (hy : y < 18446744073709551616) :
    Calls Try.prog 4 #[.int .u64 (x : Int), .int .u64 (y : Int)] w fun e w' => e = .returned (.bool true) ∧ Below w.heap.size w w' := by
  go_enter Try.func4, Try.ntmps4
  go_wp2_with (first
    | (go_at_call 9; go_in)
    | (go_at_call 20; refine (twoSum_any _ _ _ hx hy).mono ?_; rintro e w1 ⟨s, r, n1, rfl, hs, hr, rfl⟩)
    | (go_at_call 21; refine (rtwoSum_any _ _ _ hx hy).mono ?_; rintro e w2 ⟨t, u, n2, rfl, ht, hu, rfl⟩; have q1 := rep_smB hs ht; have q2 := rep_smB hr hu)
    | (go_at_call 22; refine (twoProd_any _ _ _).mono ?_; rintro e w3 ⟨p, g, n3, rfl, hp, hg, rfl⟩; rw [← prE_of hp] at hg)
    | (go_at_call 23; refine (rtp_any _ _ _ hx hy).mono ?_; rintro e w4 ⟨q, h, rfl, hq, hh, b4⟩; have q3 := rep_smB hp hq; have q4 := rep_smB hg hh)
    | (go_at_call 14; refine (rsame_any _ _ _).mono ?_; rintro e w' ⟨rfl, rfl⟩))
  go_ret
  exact ⟨rfl, bd (Below.refl _ _) b4⟩

end Go.Proofs.Ytggnilfphnnpkaa
