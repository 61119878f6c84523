/-
  What Dot and Inner of gridworkref06 hand back.
-/
import Derived.Test.YtlpfjaldmokdfaaVc
namespace Go.Proofs.Ytlpfjaldmokdfaa
open Fl RowKit

def innZ (X Y : Cn) : Cn := mulZ (conZ X) Y
set_option maxHeartbeats 2000000 in
theorem rvdot_ok (ao bo : Option Addr) (ca cb : Nat) (xs ys : List Cw) (w : World) (hl : ys.length = xs.length) (hm : xs.length ≤ 65536) (hc : Rc w ao xs) (hd : Rc w bo ys) (hx : okl xs) (hy : okl ys) :
    Calls Try.prog 18 #[.slice ao xs.length ca, .slice bo xs.length cb] w fun e w' => ∃ (s : Cw) (m : Nat), e = .returned (.tuple #[cx s, .int .i64 0]) ∧ repz (sumZ (dotF mulZ xs ys) xs.length) s ∧ w' = w.drewN m := by
  have he := errV_0 hm
  go_enter Try.func18, Try.ntmps18
  go_wp2_with (first
    | (go_at_call 56; refine (wrong_any _ _ _ _ _ _ _ (by omega) (by omega)).mono ?_; rintro e w' ⟨rfl, hw'⟩; subst w'; rw [he]))
  go_loopw [7, 8] (fun sv i wr => ∃ (k m : Nat) (s : Cw), k ≤ xs.length ∧ i = .int .i64 k ∧ sv = .complex .f64 s.1 s.2 ∧ repz (sumZ (dotF mulZ xs ys) k) s ∧ wr = w.drewN m) (fun _ i _ => xs.length - (intOf i).toNat)
  case atStart => exact ⟨0, 0, (0, 0), Nat.zero_le _, rfl, rfl, ⟨rep_0, rep_0⟩, rfl⟩
  case round =>
    obtain ⟨k, n, s, hk, rfl, rfl, hs, hw⟩ := hrel
    have hbel : Below w.heap.size w wr := by rw [hw]; exact below_drewN (Below.refl _ _) n
    by_cases hlt : k < xs.length
    · obtain ⟨b, off, rfl, hb, hcx⟩ := hc.below hbel k hlt
      obtain ⟨b2, off2, rfl, hb2, hcy⟩ := hd.below hbel k (by omega)
      have hox := repz_anz (hx k)
      have hoy := repz_anz (hy k)
      have HX : Hid (sumZ (dotF mulZ xs ys) (k + 1) = addZ (sumZ (dotF mulZ xs ys) k) (mulZ (anz (zat xs k)) (anz (zat ys k)))) := rfl
      obtain ⟨x, hxe⟩ : ∃ x, x = zat xs k := ⟨_, rfl⟩
      obtain ⟨y, hye⟩ : ∃ y, y = zat ys k := ⟨_, rfl⟩
      rw [← hxe] at hcx hox HX
      rw [← hye] at hcy hoy HX
      clear hxe hye hx hy hc hd
      unfold cx at hcx hcy
      have HW : Hid (wr = w.drewN n) := hw
      have o1 := hox.1
      have o2 := hox.2
      have o3 := hoy.1
      have o4 := hoy.2
      have s1 := hs.1
      have s2 := hs.2
      clear hox hoy hs hw hbel
      go_wp2
      go_region_held_law (fun W => W.cell? ⟨b, off + k, none⟩ = some (.complex .f64 x.1 x.2) ∧ W.cell? ⟨b2, off2 + k, none⟩ = some (.complex .f64 y.1 y.2)) (first | (with_reducible exact ⟨hcx, hcy⟩) | go_keep)
        (first
        | (go_at_call 59; (with_reducible refine (rmul_any _ o1 o2 o3 o4).mono ?_); rintro e w' ⟨pr, pi, m, rfl, hpr, hpi, rfl⟩)
        | (go_at_call 57; (with_reducible refine (radd_any _ s1 s2 hpr hpi).mono ?_); rintro e w' ⟨re, im, m2, rfl, hre, him, rfl⟩))
      go_wp2
      go_roundw
      case rel =>
        refine ⟨k + 1, _, (re, im), by omega, by go_num, rfl, ?_, by rw [HW.out]; simp only [World.drewN_drewN]; rfl⟩
        rw [HX.out]
        exact ⟨hre, him⟩
      case measure => simp [intOf]; omega
    · have e : k = xs.length := by omega
      subst e
      clear hx hy hc hd
      go_wp2
      go_ret2
      first | exact ⟨s, n, rfl, hs, hw⟩ | exact ⟨s, n, rfl, hs, rfl⟩
theorem rvdot_err (ao bo : Option Addr) (na nb ca cb : Nat) (w : World) (ha : na ≤ 1000000000000000) (hb : nb ≤ 1000000000000000) (he : ¬ errV na nb = 0) :
    Calls Try.prog 18 #[.slice ao na ca, .slice bo nb cb] w fun e w' => e = .returned (.tuple #[.complex .f64 0 0, .int .i64 (errV na nb)]) ∧ w' = w := by
  obtain ⟨E, hE⟩ : ∃ E, E = errV na nb := ⟨_, rfl⟩
  rw [← hE] at he ⊢
  go_enter Try.func18, Try.ntmps18
  go_wp2_with (first
    | (go_at_call 56; refine (wrong_any _ _ _ _ _ _ _ ha hb).mono ?_; rintro e w' ⟨rfl, hw'⟩; subst w'; rw [← hE]; clear hE))
  go_loopw [7, 8] (fun v i wr => v = .complex .f64 0 0 ∧ i = .int .i64 0 ∧ wr = w) (fun _ _ _ => 0)
  case atStart => exact ⟨rfl, rfl, rfl⟩
  case round =>
    obtain ⟨rfl, rfl, hw⟩ := hrel
    subst wr
    go_wp2
    go_ret2
    exact ⟨rfl, rfl⟩
set_option maxHeartbeats 2000000 in
theorem rvinner_ok (ao bo : Option Addr) (ca cb : Nat) (xs ys : List Cw) (w : World) (hl : ys.length = xs.length) (hm : xs.length ≤ 65536) (hc : Rc w ao xs) (hd : Rc w bo ys) (hx : okl xs) (hy : okl ys) :
    Calls Try.prog 19 #[.slice ao xs.length ca, .slice bo xs.length cb] w fun e w' => ∃ (s : Cw) (m : Nat), e = .returned (.tuple #[cx s, .int .i64 0]) ∧ repz (sumZ (dotF innZ xs ys) xs.length) s ∧ w' = w.drewN m := by
  have he := errV_0 hm
  go_enter Try.func19, Try.ntmps19
  go_wp2_with (first
    | (go_at_call 56; refine (wrong_any _ _ _ _ _ _ _ (by omega) (by omega)).mono ?_; rintro e w' ⟨rfl, hw'⟩; subst w'; rw [he]))
  go_loopw [7, 8] (fun sv i wr => ∃ (k m : Nat) (s : Cw), k ≤ xs.length ∧ i = .int .i64 k ∧ sv = .complex .f64 s.1 s.2 ∧ repz (sumZ (dotF innZ xs ys) k) s ∧ wr = w.drewN m) (fun _ i _ => xs.length - (intOf i).toNat)
  case atStart => exact ⟨0, 0, (0, 0), Nat.zero_le _, rfl, rfl, ⟨rep_0, rep_0⟩, rfl⟩
  case round =>
    obtain ⟨k, n, s, hk, rfl, rfl, hs, hw⟩ := hrel
    have hbel : Below w.heap.size w wr := by rw [hw]; exact below_drewN (Below.refl _ _) n
    by_cases hlt : k < xs.length
    · obtain ⟨b, off, rfl, hb, hcx⟩ := hc.below hbel k hlt
      obtain ⟨b2, off2, rfl, hb2, hcy⟩ := hd.below hbel k (by omega)
      have hox := repz_anz (hx k)
      have hoy := repz_anz (hy k)
      have HX : Hid (sumZ (dotF innZ xs ys) (k + 1) = addZ (sumZ (dotF innZ xs ys) k) (innZ (anz (zat xs k)) (anz (zat ys k)))) := rfl
      obtain ⟨x, hxe⟩ : ∃ x, x = zat xs k := ⟨_, rfl⟩
      obtain ⟨y, hye⟩ : ∃ y, y = zat ys k := ⟨_, rfl⟩
      rw [← hxe] at hcx hox HX
      rw [← hye] at hcy hoy HX
      clear hxe hye hx hy hc hd
      unfold cx at hcx hcy
      have HW : Hid (wr = w.drewN n) := hw
      have o1 := hox.1
      have o2 := hox.2
      have o3 := hoy.1
      have o4 := hoy.2
      have s1 := hs.1
      have s2 := hs.2
      clear hox hoy hs hw hbel
      go_wp2
      go_region_held_law (fun W => W.cell? ⟨b, off + k, none⟩ = some (.complex .f64 x.1 x.2) ∧ W.cell? ⟨b2, off2 + k, none⟩ = some (.complex .f64 y.1 y.2)) (first | (with_reducible exact ⟨hcx, hcy⟩) | go_keep)
        (first
        | (go_at_call 60; (with_reducible refine (rconj_any _ o1 o2).mono ?_); rintro e w' ⟨ci, rfl, hci, rfl⟩)
        | (go_at_call 59; (with_reducible refine (rmul_any _ o1 hci o3 o4).mono ?_); rintro e w' ⟨pr, pi, m, rfl, hpr, hpi, rfl⟩)
        | (go_at_call 57; (with_reducible refine (radd_any _ s1 s2 hpr hpi).mono ?_); rintro e w' ⟨re, im, m2, rfl, hre, him, rfl⟩))
      go_wp2
      go_roundw
      case rel =>
        refine ⟨k + 1, _, (re, im), by omega, by go_num, rfl, ?_, by rw [HW.out]; simp only [World.drewN_drewN]; rfl⟩
        rw [HX.out]
        exact ⟨hre, him⟩
      case measure => simp [intOf]; omega
    · have e : k = xs.length := by omega
      subst e
      clear hx hy hc hd
      go_wp2
      go_ret2
      first | exact ⟨s, n, rfl, hs, hw⟩ | exact ⟨s, n, rfl, hs, rfl⟩
theorem rvinner_err (ao bo : Option Addr) (na nb ca cb : Nat) (w : World) (ha : na ≤ 1000000000000000) (hb : nb ≤ 1000000000000000) (he : ¬ errV na nb = 0) :
    Calls Try.prog 19 #[.slice ao na ca, .slice bo nb cb] w fun e w' => e = .returned (.tuple #[.complex .f64 0 0, .int .i64 (errV na nb)]) ∧ w' = w := by
  obtain ⟨E, hE⟩ : ∃ E, E = errV na nb := ⟨_, rfl⟩
  rw [← hE] at he ⊢
  go_enter Try.func19, Try.ntmps19
  go_wp2_with (first
    | (go_at_call 56; refine (wrong_any _ _ _ _ _ _ _ ha hb).mono ?_; rintro e w' ⟨rfl, hw'⟩; subst w'; rw [← hE]; clear hE))
  go_loopw [7, 8] (fun v i wr => v = .complex .f64 0 0 ∧ i = .int .i64 0 ∧ wr = w) (fun _ _ _ => 0)
  case atStart => exact ⟨rfl, rfl, rfl⟩
  case round =>
    obtain ⟨rfl, rfl, hw⟩ := hrel
    subst wr
    go_wp2
    go_ret2
    exact ⟨rfl, rfl⟩

end Go.Proofs.Ytlpfjaldmokdfaa
