/-
  The walk of TurnsKnown: it hands back true and only lays new memory.
-/
import Derived.Test.YtknhmleifofhaaaWTKnown
import Derived.Deep.QuietTactic
import Derived.BigQuiet
namespace Go.Proofs.Ytknhmleifofhaaa
open Fl RowKit

theorem nf6 : Op.negFloat .f64 0 = 9223372036854775808 := by kernel_rfl
theorem rl0 (w : World) : Calls Try.prog 23 #[.int .i64 0] w fun e w' => e = .returned (.complex .f64 4607182418800017408 0) ∧ w' = w := root_at 0 w (by decide) (by decide) (by kernel_rfl) (by kernel_rfl)
theorem rl1 (w : World) : Calls Try.prog 23 #[.int .i64 1] w fun e w' => e = .returned (.complex .f64 4606875505927962389 4598334089338226320) ∧ w' = w := root_at 1 w (by decide) (by decide) (by kernel_rfl) (by kernel_rfl)
theorem rl2 (w : World) : Calls Try.prog 23 #[.int .i64 2] w fun e w' => e = .returned (.complex .f64 4605975682916830378 4602678819172646912) ∧ w' = w := root_at 2 w (by decide) (by decide) (by kernel_rfl) (by kernel_rfl)
theorem rl3 (w : World) : Calls Try.prog 23 #[.int .i64 3] w fun e w' => e = .returned (.complex .f64 4604544271217802189 4604544271217802189) ∧ w' = w := root_at 3 w (by decide) (by decide) (by kernel_rfl) (by kernel_rfl)
theorem rl4 (w : World) : Calls Try.prog 23 #[.int .i64 4] w fun e w' => e = .returned (.complex .f64 4602678819172646912 4605975682916830378) ∧ w' = w := root_at 4 w (by decide) (by decide) (by kernel_rfl) (by kernel_rfl)
theorem rl5 (w : World) : Calls Try.prog 23 #[.int .i64 5] w fun e w' => e = .returned (.complex .f64 4598334089338226320 4606875505927962389) ∧ w' = w := root_at 5 w (by decide) (by decide) (by kernel_rfl) (by kernel_rfl)
theorem rl6 (w : World) : Calls Try.prog 23 #[.int .i64 6] w fun e w' => e = .returned (.complex .f64 0 4607182418800017408) ∧ w' = w := root_at 6 w (by decide) (by decide) (by kernel_rfl) (by kernel_rfl)
theorem rl7 (w : World) : Calls Try.prog 23 #[.int .i64 7] w fun e w' => e = .returned (.complex .f64 13821706126193002128 4606875505927962389) ∧ w' = w := root_at 7 w (by decide) (by decide) (by kernel_rfl) (by kernel_rfl)
theorem rp8 (w : World) : Calls Try.prog 23 #[.int .i64 8] w fun e w' => e = .returned (.complex .f64 13826050856027422720 4605975682916830378) ∧ w' = w := root_at 8 w (by decide) (by decide) (by kernel_rfl) (by kernel_rfl)
theorem rl9 (w : World) : Calls Try.prog 23 #[.int .i64 9] w fun e w' => e = .returned (.complex .f64 13827916308072577997 4604544271217802189) ∧ w' = w := root_at 9 w (by decide) (by decide) (by kernel_rfl) (by kernel_rfl)
theorem rl10 (w : World) : Calls Try.prog 23 #[.int .i64 10] w fun e w' => e = .returned (.complex .f64 13829347719771606186 4602678819172646912) ∧ w' = w := root_at 10 w (by decide) (by decide) (by kernel_rfl) (by kernel_rfl)
theorem rl11 (w : World) : Calls Try.prog 23 #[.int .i64 11] w fun e w' => e = .returned (.complex .f64 13830247542782738197 4598334089338226320) ∧ w' = w := root_at 11 w (by decide) (by decide) (by kernel_rfl) (by kernel_rfl)
theorem rl12 (w : World) : Calls Try.prog 23 #[.int .i64 12] w fun e w' => e = .returned (.complex .f64 13830554455654793216 0) ∧ w' = w := root_at 12 w (by decide) (by decide) (by kernel_rfl) (by kernel_rfl)

theorem rlm (w : World) : Calls Try.prog 23 #[.int .i64 (-9223372036854775808)] w fun e w' => e = .returned (.complex .f64 13826050856027422720 13829347719771606186) ∧ w' = w := root_at (-9223372036854775808) w (by decide) (by decide) (by kernel_rfl) (by kernel_rfl)
theorem rl8 (w : World) : Calls Try.prog 23 #[.int .i64 (-8)] w fun e w' => e = .returned (.complex .f64 13826050856027422720 13829347719771606186) ∧ w' = w := root_at (-8) w (by decide) (by decide) (by kernel_rfl) (by kernel_rfl)
def cO : Obj := .cells #[.float .f64 4607182418800017408, .float .f64 4606875505927962389, .float .f64 4605975682916830378, .float .f64 4604544271217802189, .float .f64 4602678819172646912, .float .f64 4598334089338226320, .float .f64 0] 56
theorem cO_0 (w : World) (n : Nat) : ((w.alloc cO).drewN n).cell? ⟨w.heap.size, 0, none⟩ = some (.float .f64 4607182418800017408) := by simp [cO, go_sem]
theorem cO_1 (w : World) (n : Nat) : ((w.alloc cO).drewN n).cell? ⟨w.heap.size, 1, none⟩ = some (.float .f64 4606875505927962389) := by simp [cO, go_sem]
theorem cO_2 (w : World) (n : Nat) : ((w.alloc cO).drewN n).cell? ⟨w.heap.size, 2, none⟩ = some (.float .f64 4605975682916830378) := by simp [cO, go_sem]
theorem cO_3 (w : World) (n : Nat) : ((w.alloc cO).drewN n).cell? ⟨w.heap.size, 3, none⟩ = some (.float .f64 4604544271217802189) := by simp [cO, go_sem]
theorem cO_4 (w : World) (n : Nat) : ((w.alloc cO).drewN n).cell? ⟨w.heap.size, 4, none⟩ = some (.float .f64 4602678819172646912) := by simp [cO, go_sem]
theorem cO_5 (w : World) (n : Nat) : ((w.alloc cO).drewN n).cell? ⟨w.heap.size, 5, none⟩ = some (.float .f64 4598334089338226320) := by simp [cO, go_sem]
theorem cO_6 (w : World) (n : Nat) : ((w.alloc cO).drewN n).cell? ⟨w.heap.size, 6, none⟩ = some (.float .f64 0) := by simp [cO, go_sem]

set_option maxRecDepth 100000 in
set_option maxHeartbeats 4000000 in
theorem tknown_walk (w : World) : Calls Try.prog 8 #[] w fun e w' => e = .returned (.bool true) ∧ Below w.heap.size w w' := by
  have o0 := oeq 0 (by decide)
  have o1 := oeq 4598334089338226320 (by decide)
  have o2 := oeq 4602678819172646912 (by decide)
  have o3 := oeq 4604544271217802189 (by decide)
  have o4 := oeq 4605975682916830378 (by decide)
  have o5 := oeq 4606875505927962389 (by decide)
  have o6 := oeq 4607182418800017408 (by decide)
  have o7 := oeq 13821706126193002128 (by decide)
  have o8 := oeq 13826050856027422720 (by decide)
  have o9 := oeq 13827916308072577997 (by decide)
  have o10 := oeq 13829347719771606186 (by decide)
  have o11 := oeq 13830247542782738197 (by decide)
  have o12 := oeq 13830554455654793216 (by decide)
  have oz : FloatKind.f64.format.order 0 9223372036854775808 = some .eq := by kernel_rfl
  have f0 := nf0
  have f1 := nf1
  have f2 := nf2
  have f3 := nf3
  have f4 := nf4
  have f5 := nf5
  have f6 := nf6
  go_enter Try.func8, Try.ntmps8
  go_wp2
  go_loopw [2] (fun kv wr => ∃ (k : Int) (n : Nat), 0 ≤ k ∧ k ≤ 7 ∧ kv = .int .i64 k ∧ wr = (w.alloc (.cells #[.float .f64 4607182418800017408, .float .f64 4606875505927962389, .float .f64 4605975682916830378, .float .f64 4604544271217802189, .float .f64 4602678819172646912, .float .f64 4598334089338226320, .float .f64 0] 56)).drewN n) (fun kv _ => 7 - (intOf kv).toNat)
  case atStart => exact ⟨0, 0, by omega, by omega, rfl, rfl⟩
  case round =>
    obtain ⟨k, n, hk0, hk, rfl, rfl⟩ := hrel
    have hk : k = 0 ∨ k = 1 ∨ k = 2 ∨ k = 3 ∨ k = 4 ∨ k = 5 ∨ k = 6 ∨ k = 7 := by omega
    clear hk0
    obtain ⟨W, hW⟩ : ∃ W, W = (w.alloc cO).drewN n := ⟨_, rfl⟩
    have hs : w.heap.size < W.heap.size := by rw [hW]; simp
    show Code.wp _ _ _ _ ((w.alloc cO).drewN n)
    have c0 := cO_0 w n
    have c1 := cO_1 w n
    have c2 := cO_2 w n
    have c3 := cO_3 w n
    have c4 := cO_4 w n
    have c5 := cO_5 w n
    have c6 := cO_6 w n
    rw [← hW] at c0 c1 c2 c3 c4 c5 c6 ⊢
    have HW : Hid (W = (w.alloc cO).drewN n) := hW
    clear hW
    rcases hk with rfl | rfl | rfl | rfl | rfl | rfl | rfl | rfl
    · go_wp2_with fail
      go_big_quiet (first | (go_at_call 23; (with_reducible exact Calls.quiet_of_same (rl0 _))) | (go_at_call 23; (with_reducible exact Calls.quiet_of_same (rl12 _))))
      go_wp2
      case roundEnd => exact ⟨⟨1, n + nq, by decide, by decide, rfl, by rw [HW.out, World.drewN_drewN]; rfl⟩, by simp [intOf]⟩
    · go_wp2_with fail
      go_big_quiet (first | (go_at_call 23; (with_reducible exact Calls.quiet_of_same (rl1 _))) | (go_at_call 23; (with_reducible exact Calls.quiet_of_same (rl11 _))))
      go_wp2
      case roundEnd => exact ⟨⟨2, n + nq, by decide, by decide, rfl, by rw [HW.out, World.drewN_drewN]; rfl⟩, by simp [intOf]⟩
    · go_wp2_with fail
      go_big_quiet (first | (go_at_call 23; (with_reducible exact Calls.quiet_of_same (rl2 _))) | (go_at_call 23; (with_reducible exact Calls.quiet_of_same (rl10 _))))
      go_wp2
      case roundEnd => exact ⟨⟨3, n + nq, by decide, by decide, rfl, by rw [HW.out, World.drewN_drewN]; rfl⟩, by simp [intOf]⟩
    · go_wp2_with fail
      go_big_quiet (first | (go_at_call 23; (with_reducible exact Calls.quiet_of_same (rl3 _))) | (go_at_call 23; (with_reducible exact Calls.quiet_of_same (rl9 _))))
      go_wp2
      case roundEnd => exact ⟨⟨4, n + nq, by decide, by decide, rfl, by rw [HW.out, World.drewN_drewN]; rfl⟩, by simp [intOf]⟩
    · go_wp2_with fail
      go_big_quiet (first | (go_at_call 23; (with_reducible exact Calls.quiet_of_same (rl4 _))) | (go_at_call 23; (with_reducible exact Calls.quiet_of_same (rp8 _))))
      go_wp2
      case roundEnd => exact ⟨⟨5, n + nq, by decide, by decide, rfl, by rw [HW.out, World.drewN_drewN]; rfl⟩, by simp [intOf]⟩
    · go_wp2_with fail
      go_big_quiet (first | (go_at_call 23; (with_reducible exact Calls.quiet_of_same (rl5 _))) | (go_at_call 23; (with_reducible exact Calls.quiet_of_same (rl7 _))))
      go_wp2
      case roundEnd => exact ⟨⟨6, n + nq, by decide, by decide, rfl, by rw [HW.out, World.drewN_drewN]; rfl⟩, by simp [intOf]⟩
    · go_wp2_with fail
      go_big_quiet (first | (go_at_call 23; (with_reducible exact Calls.quiet_of_same (rl6 _))) | (go_at_call 23; (with_reducible exact Calls.quiet_of_same (rl6 _))))
      go_wp2
      case roundEnd => exact ⟨⟨7, n + nq, by decide, by decide, rfl, by rw [HW.out, World.drewN_drewN]; rfl⟩, by simp [intOf]⟩
    · have hB : Below w.heap.size w W := by rw [HW.out]; exact below_drewN ((below_self w).alloc (Nat.le_refl _) _) _
      clear HW c0 c1 c2 c3 c4 c5 c6 hs
      have q1 := oeq 4622945017495814144 (by decide)
      go_wp2_with (first
        | (go_at_call 25; (with_reducible refine (phasor_at 6 _ (by decide) (by decide) (by decide) ph1 ph2).mono ?_); rintro e w' ⟨rfl, b1⟩)
        | (go_at_call 25; (with_reducible refine (phasor_at 12 _ (by decide) (by decide) (by decide) ph3 ph4).mono ?_); rintro e w' ⟨rfl, b2⟩)
        | (go_at_call 38; (with_reducible refine (cs_m0 _).mono ?_); rintro e w' ⟨rfl, rfl⟩)
        | (go_at_call 39; (with_reducible refine (nan_1 _).mono ?_); rintro e w' ⟨rfl, rfl⟩)
        | (go_at_call 40; (with_reducible refine (inf_m1 _).mono ?_); rintro e w' ⟨rfl, rfl⟩)
        | (go_at_call 22; (with_reducible refine (ksame_lit _ _ _).mono ?_); rintro e w' ⟨rfl, rfl⟩)
        | (go_at_call 31; (with_reducible refine (ksameR_lit _ _).mono ?_); rintro e w' ⟨rfl, rfl⟩)
        | (go_at_call 29; (with_reducible refine (angle_at _ (by decide) (by decide) n1 n2).mono ?_); rintro e w' ⟨n, rfl, rfl⟩)
        | (go_at_call 29; (with_reducible refine (angle_at _ (by decide) (by decide) n3 n4).mono ?_); rintro e w' ⟨n, rfl, rfl⟩)
        | (go_at_call 29; (with_reducible refine (angle_at _ (by decide) (by decide) n5 n6).mono ?_); rintro e w' ⟨n, rfl, rfl⟩)
        | (go_at_call 29; (with_reducible refine (angle_at _ (by decide) (by decide) n7 n8).mono ?_); rintro e w' ⟨n, rfl, rfl⟩)
        | (go_at_call 29; (with_reducible refine (angle_at _ (by decide) (by decide) n9 n10).mono ?_); rintro e w' ⟨n, rfl, rfl⟩)
        | (go_at_call 29; (with_reducible refine (angle_at _ (by decide) (by decide) n11 n12).mono ?_); rintro e w' ⟨n, rfl, rfl⟩)
        | (go_at_call 32; refine (awake_any _).mono ?_; rintro e w' ⟨rfl, b3⟩)
        | (go_at_call 23; (with_reducible refine (rlm _).mono ?_); rintro e w' ⟨rfl, rfl⟩)
        | (go_at_call 23; (with_reducible refine (rl8 _).mono ?_); rintro e w' ⟨rfl, rfl⟩))
      go_ret
      refine ⟨rfl, bt (bt (bt (bt hB b1) b2) ?_) b3⟩
      repeat first
        | exact below_self _
        | refine below_drewN ?_ _

end Go.Proofs.Ytknhmleifofhaaa
