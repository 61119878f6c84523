/-
  The law's lives: it hands back true and only lays new memory.
-/
import Derived.Test.YtgpjlobclcbniaaXb
import Derived.Test.YtgpjlobclcbniaaVw
namespace Go.Proofs.Ytgpjlobclcbniaa
open Fl RowKit

def lv1 : Cw := (4607182418800017408, 0)
def lv2 : Cw := (13837309855095848960, 4607182418800017408)
def lv3 : Cw := (0, 4616189618054758400)
theorem ok_lv : okl [lv1, lv2, lv3] := okl_cons (by unfold okz lv1; decide) (okl_cons (by unfold okz lv2; decide) (okl_cons (by unfold okz lv3; decide) okl_nil))
theorem choose_lv {W : World} {B : Nat} {fr : Int} (I : Int) (hI : chI [lv1, lv2, lv3] fr = I) (hE : chE [lv1, lv2, lv3] fr = 0) (h : Rc W (some ⟨B, 0, none⟩) [lv1, lv2, lv3]) :
    Calls Try.prog 11 #[.slice (some ⟨B, 0, none⟩) 3 3, .int .i64 fr] W fun e w' => ∃ m, e = .returned (.tuple #[.int .i64 I, .int .i64 0]) ∧ w' = W.drewN m :=
  (choose_any _ 3 [lv1, lv2, lv3] fr W (by decide) (by decide) h ok_lv).mono (by rintro e w' ⟨m, rfl, rfl⟩; rw [hI, hE]; exact ⟨m, rfl, rfl⟩)
theorem lv_0 : chI [lv1, lv2, lv3] 0 = 1 := by kernel_rfl
theorem lv_0e : chE [lv1, lv2, lv3] 0 = 0 := by kernel_rfl
theorem lv_2 : chI [lv1, lv2, lv3] 2 = 2 := by kernel_rfl
theorem lv_2e : chE [lv1, lv2, lv3] 2 = 0 := by kernel_rfl
set_option maxHeartbeats 1000000 in
theorem plives_any (w : World) : Calls Try.prog 13 #[] w fun e w' => e = .returned (.bool true) ∧ Below w.heap.size w w' := by
  go_enter Try.func13, Try.ntmps13
  go_wp2_with (first
    | (go_at_call 11; (with_reducible refine (choose_lv 1 lv_0 lv_0e ?h1).mono ?_); (case h1 => exact al_rc3 _ lv1 lv2 lv3 _ _ (by simp)); rintro e w1 ⟨m, rfl, rfl⟩)
    | (go_at_call 11; (with_reducible refine (choose_lv 2 lv_2 lv_2e ?h1).mono ?_); (case h1 => exact (al_rc3 _ lv1 lv2 lv3 _ _ (by simp)).drewN _); rintro e w1 ⟨m2, rfl, rfl⟩))
  go_ret
  exact ⟨rfl, below_drewN (ba (below_self _) _) _⟩

end Go.Proofs.Ytgpjlobclcbniaa
