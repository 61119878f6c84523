/-
  The walk of SourcePhasors.
-/
import Derived.Test.YtpjpamdocfdibaaSra
import Derived.Test.YtpjpamdocfdibaaBse
import Derived.Test.YtpjpamdocfdibaaElk
namespace Go.Proofs.Ytpjpamdocfdibaa
open Fl RowKit
set_option linter.unusedVariables false

/-- an element handed in, made, and laid -/
theorem ec_fourS (w : World) (x : Elm) (o1 o2 o3 : Obj) : EC w (((((w.alloc o1).alloc o2).alloc o3).alloc (.cells (elA x) 57))) (w.heap.size + 3) x := by
  have h := ec_new (((w.alloc o1).alloc o2).alloc o3) x
  have hs : (((w.alloc o1).alloc o2).alloc o3).heap.size = w.heap.size + 3 := by rw [al_size, al_size, al_size]
  rw [hs] at h
  have hb : Below w.heap.size w (((w.alloc o1).alloc o2).alloc o3) := (below_2 w o1 o2).alloc (by simp; omega) _
  exact ⟨hb.trans ((by rw [← hs]; exact h.bel : Below (w.heap.size + 3) _ _).mono (by omega)), h.e⟩
set_option maxHeartbeats 2000000 in
theorem sphasors_walk (w : World) (x : Elm) (hx : x.ok) (hp : x.phb) :
    Calls Try.prog 4 #[inV x] w fun e w' => e = .returned (.bool true) ∧ Below w.heap.size w w' := by
  have k1 := fun W => sphasor_any x W hx hp hx.v
  have k2 := fun W => rsphasor_any x W hx hp hx.v
  unfold elV at k1 k2
  have K1 : Hid _ := k1
  have K2 : Hid _ := k2
  clear k1 k2 hx hp
  unfold inV
  go_enter Try.func4, Try.ntmps4
  go_wp2_with (first
    | (go_at_call 21; (with_reducible refine (element_eq x _).mono ?_); rintro E w1 ⟨rfl, hw⟩; unfold elV)
    | (go_at_call 22; (with_reducible refine (K1.out _).mono ?_); rintro E w2 ⟨re, im, rfl, h1, h2, hb⟩; (have E1 : Hid (EC w w2 (w.heap.size + 3) x) := (by first | exact (ec_fourS w x _ _ _).below hb | exact ((ec_fourS w x _ _ _).dN (n := 1)).below hb)); clear hb hw; (obtain ⟨l1, c10, c11, c12, c13, c14, c15, c16, c17⟩ := E1.out.f))
    | (go_at_call 23; (with_reducible refine (K2.out _).mono ?_); rintro E w3 ⟨re', im', rfl, h3, h4, hb⟩; (have E2 : Hid (EC w w3 (w.heap.size + 3) x) := E1.out.below hb); clear hb E1 c10 c11 c12 c13 c14 c15 c16 c17; (obtain ⟨l2, c20, c21, c22, c23, c24, c25, c26, c27⟩ := E2.out.f))
    | (go_at_call 24; (with_reducible refine (ksame_true _ h1 h3 h2 h4).mono ?_); rintro E w4 ⟨rfl, hw4⟩; subst w4))
  all_goals go_ret
  all_goals first | exact ⟨rfl, E2.out.bel⟩ | simp_all
end Go.Proofs.Ytpjpamdocfdibaa
