/-
  What Norm1 and NormMax of vector and of gridworkref06 hand back.
-/
import Derived.Test.YtjjpgmgnejhggaaVc
namespace Go.Proofs.Ytjjpgmgnejhggaa
open Fl RowKit

theorem rep_twin {O : Option Nat} {r r2 s : Nat} (h : rep O r) (h2 : rep O r2) (hg : (FloatKind.f64.format.order r s == some .gt) = true) : r = r2 := by
  obtain ⟨h3, h4⟩ := same_of h h2
  refine h4 ?_
  cases hn : nan r
  · rfl
  · rw [f64_double, order_eq, hn] at hg; cases hg
theorem nmx_step (xs : List Cw) (k : Nat) (hs : rep (some (nmx xs k)) (nmx xs k)) (r : Nat) (hr : rep (sizZ (anz (zat xs k))) r) : nmx xs (k + 1) = if FloatKind.f64.format.order r (nmx xs k) == some .gt then r else nmx xs k := by
  rw [ordA_of hr hs]
  show (if ordA (sizZ (anz (zat xs k))) (some (nmx xs k)) == some .gt then (sizZ (anz (zat xs k))).getD 0 else nmx xs k) = _
  cases h : (ordA (sizZ (anz (zat xs k))) (some (nmx xs k)) == some .gt)
  · rfl
  · simp only [if_true]
    cases h2 : sizZ (anz (zat xs k)) with
    | none => rw [h2] at h; cases h
    | some c => rw [rep_is hr h2]; rfl
set_option maxHeartbeats 1000000 in
theorem vnorm_any (ao : Option Addr) (cap : Nat) (xs : List Cw) (w : World) (hsz : xs.length * 16 ≤ 140737488355328) (hc : Rc w ao xs) (hx : okl xs) :
    Calls Try.prog 94 #[.slice ao xs.length cap] w fun e w' => ∃ s m, e = .returned (.float .f64 s) ∧ rep (nrm xs xs.length) s ∧ w' = w.drewN m := by
  go_enter Try.func94, Try.ntmps94
  go_wp2
  go_loopw [3, 8] (fun sv i wr => ∃ (k m s : Nat), k ≤ xs.length ∧ i = .int .i64 k ∧ sv = .float .f64 s ∧ rep (nrm xs k) s ∧ wr = w.drewN m) (fun _ i _ => xs.length - (intOf i).toNat)
  case atStart => exact ⟨0, 0, 0, Nat.zero_le _, rfl, rfl, rep_0, rfl⟩
  case round =>
    obtain ⟨k, n, s, hk, rfl, rfl, hs, hw⟩ := hrel
    by_cases hlt : k < xs.length
    · obtain ⟨b, off, rfl, hb, hcx⟩ := hc.drewN n k hlt
      rw [← hw] at hb hcx
      have hox := repz_anz (hx k)
      have HX : Hid (nrm xs (k + 1) = addA (nrm xs k) (sizZ (anz (zat xs k)))) := rfl
      obtain ⟨x, hxe⟩ : ∃ x, x = zat xs k := ⟨_, rfl⟩
      rw [← hxe] at hcx hox HX
      clear hxe hx hc
      unfold cx at hcx
      have HW : Hid (wr = w.drewN n) := hw
      have o1 := hox.1
      have o2 := hox.2
      clear hox hw
      go_wp2_with (go_at_call 114; (refine (size1_any _ o1 o2).mono ?_); rintro e w' ⟨r, m, rfl, hr, rfl⟩)
      go_roundw
      case rel =>
        refine ⟨k + 1, _, _, by omega, by go_num, rfl, ?_, by rw [HW.out]; simp only [World.drewN_drewN]; rfl⟩
        rw [HX.out]
        exact rep_add hs hr _
      case measure => simp [intOf]; omega
    · have e : k = xs.length := by omega
      subst e
      clear hx hc
      go_wp2
      go_ret
      first | exact ⟨s, n, rfl, hs, hw⟩ | exact ⟨s, n, rfl, hs, rfl⟩
end Go.Proofs.Ytjjpgmgnejhggaa
