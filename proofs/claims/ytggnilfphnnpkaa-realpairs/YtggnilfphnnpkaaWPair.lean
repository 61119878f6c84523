/-
  TwoSum, Odd and TwoProd of gridworkref01.
-/
import Derived.Test.YtggnilfphnnpkaaFmr
namespace Go.Proofs.Ytggnilfphnnpkaa
open Fl RowKit

theorem kd_fin {x : Nat} (h : fin x) : kdB x ≤ 2 := by
  have hn := fin_not_nan h
  unfold fin at h
  unfold kdB; rw [hn, if_neg (by simp), if_neg (by omega)]; split
  · omega
  · split <;> omega
theorem kd_nfin {x : Nat} (h : ¬ fin x) : 2 < kdB x := by
  unfold fin at h
  unfold kdB nan; split
  · omega
  · rename_i h2; rw [if_pos (by simp at h2; omega)]; omega
theorem word_self {x : Nat} (h : x < 18446744073709551616) : Ieee.double.word (ng x) (mg x) = x := by
  rw [word_if]; unfold ng mg
  rcases Nat.lt_or_ge x 9223372036854775808 with h1 | h1
  · have e : x / 9223372036854775808 = 0 := by omega
    rw [e]; simp; omega
  · have e : x / 9223372036854775808 = 1 := by omega
    rw [e]; simp; omega
theorem sub_self {p : Nat} (fp : fin p) : subO p p = some 0 := by
  unfold subO Ieee.Format.sub
  rw [read_fin p fp]
  show Option.map _ (Ieee.Datum.sum (.number (ng p) _ _) (.number (!ng p) _ _)) = _
  unfold Ieee.Datum.sum
  simp only [signed_eq, Option.map_some, sgn_not]
  rw [Int.add_right_neg, if_pos rfl]
  have : (ng p && !ng p) = false := by cases ng p <;> rfl
  rw [this]
  show some (Ieee.double.nearest false 0 _) = _
  unfold Ieee.Format.nearest; rw [if_pos rfl, word_if]; rfl
theorem fma_inf {a b p : Nat} (fa : fin a) (fb : fin b) (pl : p < 18446744073709551616) (hp : mg p = 9218868437227405312) : fmaO a b (Op.negFloat .f64 p) = some (Op.negFloat .f64 p) := by
  have hm : mg (Op.negFloat .f64 p) = 9218868437227405312 := by rw [neg_mg pl]; exact hp
  unfold fmaO Ieee.Format.fma
  rw [read_fin a fa, read_fin b fb, read_inf _ hm]
  show some (Ieee.double.write (.infinity _)) = _
  have := word_self (neg_bd pl)
  rw [hm] at this
  exact congrArg some this
theorem odd_none {a b p q : Nat} (h : ¬ fin a ∨ ¬ fin b) (hp : rep (mulO a b) p) (hq : rep (mulO a b) q) : fmaO a b (Op.negFloat .f64 p) = none ∧ subO q p = none := by
  cases hm : mulO a b with
  | none =>
    rw [hm] at hp hq
    have hn := ans_none hp.2
    refine ⟨?_, sub_nan (.inr hn)⟩
    unfold mulO Ieee.Format.mul at hm
    unfold fmaO Ieee.Format.fma
    cases hd : (Ieee.double.read a).product (Ieee.double.read b) with
    | none => rfl
    | some d => rw [hd] at hm; cases hm
  | some r =>
    rw [hm] at hp hq
    obtain rfl := (ans_some hp.2).2
    obtain rfl := (ans_some hq.2).2
    have hr := (mul_bd hm).1
    unfold mulO Ieee.Format.mul at hm
    unfold fmaO Ieee.Format.fma
    cases hd : (Ieee.double.read a).product (Ieee.double.read b) with
    | none => rw [hd] at hm; cases hm
    | some d =>
      rw [hd] at hm
      have hi : ∃ s, d = .infinity s := by
        have na : nan a = true ∨ mg a = 9218868437227405312 ∨ fin a := by unfold nan fin; simp; omega
        have nb : nan b = true ∨ mg b = 9218868437227405312 ∨ fin b := by unfold nan fin; simp; omega
        rcases na with na | na | na
        · rw [read_nan a na] at hd; cases hd
        · rcases nb with nb | nb | nb
          · rw [read_inf a na, read_nan b nb] at hd; cases hd
          · rw [read_inf a na, read_inf b nb] at hd
            exact ⟨_, (Option.some.inj hd).symm⟩
          · rw [read_inf a na, read_fin b nb] at hd
            unfold Ieee.Datum.product at hd
            simp only at hd
            split at hd
            · cases hd
            · exact ⟨_, (Option.some.inj hd).symm⟩
        · have nb' : ¬ fin b := by rcases h with h | h; exact absurd na h; exact h
          rcases nb with nb | nb | nb
          · rw [read_fin a na, read_nan b nb] at hd; cases hd
          · rw [read_fin a na, read_inf b nb] at hd
            unfold Ieee.Datum.product at hd
            simp only at hd
            split at hd
            · cases hd
            · exact ⟨_, (Option.some.inj hd).symm⟩
          · exact absurd nb nb'
      obtain ⟨s, rfl⟩ := hi
      have hw : Ieee.double.word s 9218868437227405312 = q := Option.some.inj hm
      have m1 : mg q = 9218868437227405312 := by rw [← hw]; exact word_mg s (by omega)
      have m2 : mg (Op.negFloat .f64 q) = 9218868437227405312 := by rw [neg_mg hr]; exact m1
      have n1 : ng q = s := by rw [← hw]; exact word_ng s (by omega)
      constructor
      · rw [read_inf _ m2, neg_ng hr, n1]
        show Option.map _ (Ieee.Datum.sum (.infinity s) (.infinity (!s))) = none
        cases s <;> rfl
      · unfold subO Ieee.Format.sub
        rw [read_inf _ m1]
        show Option.map _ (Ieee.Datum.sum (.infinity (ng q)) (.infinity (!ng q))) = none
        cases ng q <;> rfl

theorem rtwoSum_any (a b : Nat) (w : World) (ha : a < 18446744073709551616) (hb : b < 18446744073709551616) :
    Calls Try.prog 21 #[.float .f64 a, .float .f64 b] w fun e w' => ∃ s r n, e = .returned (.tuple #[.float .f64 s, .float .f64 r]) ∧ rep (tsS (ans a) (ans b)) s ∧ rep (tsE (ans a) (ans b)) r ∧ w' = w.drewN n := by
  go_enter Try.func21, Try.ntmps21
  go_wp2
  go_ret2
  have h1 := rep_ans ha
  have h2 := rep_ans hb
  refine ⟨_, _, _, rfl, rep_add h1 h2 _, ?_, rfl⟩
  exact rep_add (rep_sub h1 (rep_sub (rep_add h1 h2 _) (rep_sub (rep_add h1 h2 _) h1 _) _) _) (rep_sub h2 (rep_sub (rep_add h1 h2 _) h1 _) _) _

/-- Odd where a part isn't finite -/
theorem odd_a (a b : Nat) (w : World) (h : ¬ fin a ∨ ¬ fin b) :
    Calls Try.prog 45 #[.float .f64 a, .float .f64 b] w fun e w' => ∃ r n, e = .returned (.float .f64 r) ∧ rep none r ∧ w' = w.drewN n := by
  have key : ∀ W1 W2 W3 : World, rep none (subV W1 (mulV W2 a b) (mulV W3 a b)) := by
    intro W1 W2 W3
    have := rep_subV (mulV W2 a b) (mulV W3 a b) W1
    rw [(odd_none h (rep_mulV a b W3) (rep_mulV a b W2)).2] at this
    exact this
  by_cases fa : fin a
  · have k1 := kd_fin fa
    have k2 := kd_nfin (x := b) (by rcases h with h | h; exact absurd fa h; exact h)
    clear fa h
    go_enter Try.func45, Try.ntmps45
    go_wp2_with (first
      | (go_at_call 16; refine (rkind_any _ _).mono ?_; rintro e w' ⟨rfl, rfl⟩))
    go_ret
    first | exact ⟨_, _, rfl, key _ _ _, rfl⟩ | exact ⟨_, rfl, key _ _ _, _, rfl⟩
  · have k1 := kd_nfin fa
    clear fa h
    go_enter Try.func45, Try.ntmps45
    go_wp2_with (first
      | (go_at_call 16; refine (rkind_any _ _).mono ?_; rintro e w' ⟨rfl, rfl⟩))
    go_ret
    first | exact ⟨_, _, rfl, key _ _ _, rfl⟩ | exact ⟨_, rfl, key _ _ _, _, rfl⟩
/-- Odd where both parts are finite -/
theorem odd_b (a b p : Nat) (w : World) (fa : fin a) (fb : fin b) (hp : mulO a b = some p) :
    Calls Try.prog 45 #[.float .f64 a, .float .f64 b] w fun e w' => ∃ n, e = .returned (.float .f64 (Op.negFloat .f64 p)) ∧ w' = w.drewN n := by
  have k1 := kd_fin fa
  have k2 := kd_fin fb
  have mv := mulV_of hp
  clear fa fb
  go_enter Try.func45, Try.ntmps45
  go_wp2_with (first
    | (go_at_call 16; refine (rkind_any _ _).mono ?_; rintro e w' ⟨rfl, rfl⟩))
  go_ret
  exact ⟨_, rfl, rfl⟩

end Go.Proofs.Ytggnilfphnnpkaa
