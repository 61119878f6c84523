/-
  Short and Print of the package quantity: of a number that is told, of noughts, of what is not finite.
-/
import Derived.Test.YtjoncbfaajcioaaGreatDoorQpr
namespace Go.Proofs.YtjoncbfaajcioaaGreatDoor
open RowKit

def spRt (s e t : Nat) : Nat := 4 * s * 2 ^ (e - 1076) * 10 ^ gsN t
def spOt (e t : Nat) : Nat := 2 ^ (1076 - e) * 10 ^ gsP t
def spBt (s e t : Nat) : Nat := (if s = 4503599627370496 ∧ 0 < e then 1 else 2) * 2 ^ (e - 1076) * 10 ^ gsN t
def spAt (e t : Nat) : Nat := 2 * 2 ^ (e - 1076) * 10 ^ gsN t
/-- all that is to be looked at of one number and its text -/
def prC (x s e t D N : Nat) (l : List UInt8) : Bool :=
  decide (x < 18446744073709551616) && decide (Fl.sig (Fl.mg x) = s) && decide (Fl.ex (Fl.mg x) = e) && decide (0 < s) && decide (s < 9007199254740992) && decide (e ≤ 2046) && decide (e ≤ t) && decide (2 ^ (t + 1 - e) ≤ 2 * s) && decide (s < 2 ^ (t + 1 - e)) &&
  decide (shR (spOt e t * 10 ^ spn 2 (spRt s e t) (spOt e t)) (s % 2 == 0) 18 1 0 (spRt s e t) (spBt s e t) (spAt e t) = some (D, N)) && decide (D < 10000000000000000000) && decide (N ≤ 20) && decide (Fl.mg x < 9218868437227405312) &&
  decide (prL (Fl.ng x) (shT D) ((gsP t : Int) - gsN t + spn 2 (spRt s e t) (spOt e t) - 1 + (dgL 19 D).length - N) = l)
theorem Print_lit (x s e t D N : Nat) (l : List UInt8) (h : prC x s e t D N l = true) (w : World) (htab : Pw w) :
    Calls Tryz.prog 74 #[.float .f64 x] w fun r w' => r = .returned (.tuple #[.string (tx l), .int .i64 0]) ∧ Below w.heap.size w w' := by
  unfold prC at h
  simp only [Bool.and_eq_true, decide_eq_true_eq] at h
  obtain ⟨⟨⟨⟨⟨⟨⟨⟨⟨⟨⟨⟨⟨hx, hs⟩, he⟩, hs0⟩, hsb⟩, heb⟩, het⟩, h1⟩, h2⟩, hD⟩, hD2⟩, hN⟩, hf⟩, hl⟩ := h
  have hn : nbits s = t + 1 - e := nbits_eq h1 h2
  have hT : spT s e = t := by unfold spT; omega
  have e1 : spR s e = spRt s e t := by unfold spR spRt; rw [hT]
  have e2 : spO s e = spOt e t := by unfold spO spOt; rw [hT]
  have e3 : spB s e = spBt s e t := by unfold spB spBt; rw [hT]
  have e4 : spA s e = spAt e t := by unfold spA spAt; rw [hT]
  have hE : shE s e D N = (gsP t : Int) - gsN t + spn 2 (spRt s e t) (spOt e t) - 1 + (dgL 19 D).length - N := by unfold shE; rw [hT, e1, e2]
  have hSh := Short_any x s e D N hx w htab hs he hs0 hsb heb (by unfold shD; rw [e1, e2, e3, e4]; exact hD) hD2 hN hf
  have b1 := dgL_len 19 D
  have b2 := spn_le 2 (spRt s e t) (spOt e t)
  have b3 : t < 2100 := by have := nbits_le (m := s) (k := 53) (by omega); omega
  have b4 : gsP t ≤ 320 := by unfold gsP; omega
  have b5 : gsN t ≤ 330 := by unfold gsN; omega
  rw [← hl, ← hE]
  refine Print_by x hx (shT D) (shE s e D N) ?_ (by rw [hE]; omega) (by rw [hE]; omega) w htab hSh
  unfold shT; rw [List.length_take]; omega
theorem short_zero (x : Nat) (hx : x < 18446744073709551616) (hm : Fl.mg x = 0) (w : World) :
    Calls Tryz.prog 89 #[.float .f64 x] w fun r w' => r = .returned (.tuple #[.string (tx [48]), .int .i64 0, .int .i64 0]) ∧ Below w.heap.size w w' := by
  have hn : Fl.nan x = false := by unfold Fl.nan; rw [hm]; rfl
  have hz : (FloatKind.f64.format.order x 0 == some Ordering.eq) = true := by
    rw [Fl.order_eqb hn rfl]
    refine decide_eq_true ?_
    rw [show Fl.plc 0 = 0 from rfl]
    unfold Fl.plc Fl.sgn
    rw [hm]; split <;> rfl
  have hkd := fun W => Qk.kind_any x W hx
  have hk : Qk.kdB x = 0 := Qk.kd_0 hn hm
  rw [hk] at hkd
  clear hk
  go_enter Tryz.func89, Tryz.ntmps89
  go_wp2_with (go_at_call 55; (with_reducible refine (hkd _).mono ?_); rintro e0 w0 ⟨rfl, rfl⟩)
  go_ret3
  exact ⟨rfl, Below.refl _ _⟩
theorem print_zero (x : Nat) (hx : x < 18446744073709551616) (hm : Fl.mg x = 0) (w : World) (htab : Pw w) :
    Calls Tryz.prog 74 #[.float .f64 x] w fun r w' => r = .returned (.tuple #[.string (tx (prL (Fl.ng x) [48] 0)), .int .i64 0]) ∧ Below w.heap.size w w' :=
  Print_by x hx [48] 0 (by decide) (by decide) (by decide) w htab (short_zero x hx hm w)
theorem short_inf (x : Nat) (hx : x < 18446744073709551616) (hm : 9218868437227405312 ≤ Fl.mg x) (w : World) :
    Calls Tryz.prog 89 #[.float .f64 x] w fun r w' => r = .returned (.tuple #[.string ⟨#[]⟩, .int .i64 0, .int .i64 5]) ∧ w' = w := by
  have hkd := fun W => Qk.kind_any x W hx
  have hk : 2 < Qk.kdB x := by
    cases hn : Fl.nan x
    · rw [Qk.kd_3 hn (by have := Qk.not_nan hn; omega)]; decide
    · rw [Qk.kd_4 hn]; decide
  obtain ⟨kd, hkk⟩ : ∃ k, Qk.kdB x = k := ⟨_, rfl⟩
  rw [hkk] at hk hkd
  clear hkk
  go_enter Tryz.func89, Tryz.ntmps89
  go_wp2_with (go_at_call 55; (with_reducible refine (hkd _).mono ?_); rintro e0 w0 ⟨rfl, rfl⟩)
  go_ret3
  exact ⟨rfl, rfl⟩
theorem print_inf (x : Nat) (hx : x < 18446744073709551616) (hm : 9218868437227405312 ≤ Fl.mg x) (w : World) :
    Calls Tryz.prog 74 #[.float .f64 x] w fun r w' => r = .returned (.tuple #[.string ⟨#[]⟩, .int .i64 5]) ∧ w' = w := by
  have hSh := fun W => short_inf x hx hm W
  go_enter Tryz.func74, Tryz.ntmps74
  go_wp2_with (go_at_call 89; (with_reducible refine (hSh _).mono ?_); rintro e0 w1 ⟨rfl, rfl⟩)
  go_ret2
  exact ⟨rfl, rfl⟩

end Go.Proofs.YtjoncbfaajcioaaGreatDoor
