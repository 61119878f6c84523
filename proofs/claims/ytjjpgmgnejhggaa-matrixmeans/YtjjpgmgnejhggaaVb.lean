/-
  What placed and summed of package vector hand back.
-/
import Derived.Test.YtjjpgmgnejhggaaVa
namespace Go.Proofs.Ytjjpgmgnejhggaa
open Fl RowKit

theorem errV_0 {n : Nat} (h : n ≤ 65536) : errV n n = 0 := by unfold errV; rw [if_neg (by omega), if_neg (by omega)]
theorem errV_ok {a b : Nat} (h : errV a b = 0) : a = b ∧ a ≤ 65536 := by
  unfold errV at h
  by_cases h1 : 65536 < a ∨ 65536 < b
  · rw [if_pos h1] at h; omega
  · rw [if_neg h1] at h
    by_cases h2 : a = b
    · exact ⟨h2, by omega⟩
    · rw [if_pos h2] at h; omega
set_option maxHeartbeats 1000000 in
theorem summed_ok (F : FuncId) (caps : Array Value) (f : Cn → Cn → Cn) (ao bo : Option Addr) (ca cb : Nat) (xs ys : List Cw) (w : World) (hE : Ent F) (hF : Says2 w F caps f) (hl : ys.length = xs.length) (hm : xs.length ≤ 65536) (hc : Rc w ao xs) (hd : Rc w bo ys) (hx : okl xs) (hy : okl ys) :
    Calls Try.prog 117 #[.slice ao xs.length ca, .slice bo xs.length cb, .func (.func F) #[] caps] w fun e w' => ∃ (s : Cw) (m : Nat), e = .returned (.tuple #[cx s, .int .i64 0]) ∧ repz (sumZ (dotF f xs ys) xs.length) s ∧ w' = w.drewN m := by
  have he := errV_0 hm
  go_enter Try.func117, Try.ntmps117
  go_wp2_with (first
    | (go_at_call 119; refine (paired_any _ _ _ _ _ _ _ (by omega) (by omega)).mono ?_; rintro e w' ⟨rfl, hw'⟩; subst w'; rw [he]))
  go_loopw [9, 20] (fun sv i wr => ∃ (k m : Nat) (s : Cw), k ≤ xs.length ∧ i = .int .i64 k ∧ sv = .complex .f64 s.1 s.2 ∧ repz (sumZ (dotF f xs ys) k) s ∧ wr = w.drewN m) (fun _ i _ => xs.length - (intOf i).toNat)
  case atStart => exact ⟨0, 0, (0, 0), Nat.zero_le _, rfl, rfl, ⟨rep_0, rep_0⟩, rfl⟩
  case round =>
    obtain ⟨k, n, s, hk, rfl, rfl, hs, hw⟩ := hrel
    have hbel : Below w.heap.size w wr := by rw [hw]; exact below_drewN (Below.refl _ _) n
    by_cases hlt : k < xs.length
    · obtain ⟨b, off, rfl, hb, hcx⟩ := hc.below hbel k hlt
      obtain ⟨b2, off2, rfl, hb2, hcy⟩ := hd.below hbel k (by omega)
      have hox := hx k
      have hoy := hy k
      obtain ⟨x, hxe⟩ : ∃ x, x = zat xs k := ⟨_, rfl⟩
      obtain ⟨y, hye⟩ : ∃ y, y = zat ys k := ⟨_, rfl⟩
      rw [← hxe] at hcx hox
      rw [← hye] at hcy hoy
      have HX : Hid (x = zat xs k) := hxe
      have HY : Hid (y = zat ys k) := hye
      clear hxe hye hx hy hc hd
      unfold cx at hcx hcy
      have HF : Hid (Says2 w F caps f) := hF
      have HS : Hid (repz (sumZ (dotF f xs ys) k) s) := hs
      have HW : Hid (wr = w.drewN n) := hw
      unfold Ent at hE
      clear hF hs hw
      go_wp2_with (first
        | (go_at_call 54; refine (add_any _ HS.out.1 HS.out.2 hrz.1 hrz.2).mono ?_; rintro e w' ⟨re, im, m2, rfl, hre, him, rfl⟩)
        | (refine (HF.out x y _ hbel hox hoy).mono ?_; rintro e w' ⟨r, m, rfl, hrz, rfl⟩; unfold cx))
      go_roundw
      case rel =>
        refine ⟨k + 1, n + m + m2, (re, im), by omega, by go_num, rfl, ⟨?_, ?_⟩, by rw [HW.out]; simp [Nat.add_assoc]⟩
        · show rep (addZ (sumZ (dotF f xs ys) k) (dotF f xs ys k)).1 re
          unfold dotF; rw [← HX.out, ← HY.out]; exact hre
        · show rep (addZ (sumZ (dotF f xs ys) k) (dotF f xs ys k)).2 im
          unfold dotF; rw [← HX.out, ← HY.out]; exact him
      case measure => simp [intOf]; omega
    · have e : k = xs.length := by omega
      subst e
      clear hx hy hc hd hF
      go_wp2
      go_ret2
      first | exact ⟨s, n, rfl, hs, hw⟩ | exact ⟨s, n, rfl, hs, rfl⟩
theorem summed_err (fv : Value) (ao bo : Option Addr) (na nb ca cb : Nat) (w : World) (ha : na ≤ 1000000000000000) (hb : nb ≤ 1000000000000000) (he : ¬ errV na nb = 0) :
    Calls Try.prog 117 #[.slice ao na ca, .slice bo nb cb, fv] w fun e w' => e = .returned (.tuple #[.complex .f64 0 0, .int .i64 (errV na nb)]) ∧ w' = w := by
  obtain ⟨E, hE⟩ : ∃ E, E = errV na nb := ⟨_, rfl⟩
  rw [← hE] at he ⊢
  go_enter Try.func117, Try.ntmps117
  go_wp2_with (first
    | (go_at_call 119; refine (paired_any _ _ _ _ _ _ _ ha hb).mono ?_; rintro e w' ⟨rfl, hw'⟩; subst w'; rw [← hE]; clear hE))
  go_ret2
  exact ⟨rfl, rfl⟩

end Go.Proofs.Ytjjpgmgnejhggaa
