/-
  What the function says that placed of package matrix hands to made.
-/
import Derived.Test.YtjjpgmgnejhggaaMc
namespace Go.Proofs.Ytjjpgmgnejhggaa
open Fl RowKit

section two
variable {w : World} {R C c B R' C' c' B' : Nat} {A A' : Option Addr} {F G : Nat → Cn} {xs ys : List Cw} (h : Mx w R C A c F xs) (hV : V3 B (.int .i64 R) (.int .i64 C) (.slice A (R * C) c) w) (h' : Mx w R' C' A' c' G ys) (hV' : V3 B' (.int .i64 R') (.int .i64 C') (.slice A' (R' * C') c') w)
include h hV h' hV'
set_option maxHeartbeats 1000000 in
theorem says_mplaced_add {Bf : Nat} (hBf : Bf < w.heap.size) (hcf : w.cell? ⟨Bf, 0, none⟩ = some (.func (.func 54) #[] #[])) (hr : R' = R) (hm : C' = C) : SaysE w 105 #[ptr Bf, ptr B, ptr B'] R C (fun i j => addZ (F (i * C + j)) (G (i * C + j))) := by
  subst hr hm
  intro i j W hi hj hb
  have M := h.below hb
  have M' := h'.below hb
  have v := hV.below hb
  have v' := hV'.below hb
  obtain ⟨_, c0, c1, c2, _, _, _⟩ := v
  obtain ⟨_, d0, d1, d2, _, _, _⟩ := v'
  have v := hV.below hb
  have v' := hV'.below hb
  have c3 := (hb.cell (p := ⟨Bf, 0, none⟩) hBf).trans hcf
  have hBW : Bf < W.heap.size := Nat.lt_of_lt_of_le hBf hb.size
  clear h hV h' hV' hb hcf
  show Calls Try.prog _ #[.int .i64 i, .int .i64 j, ptr Bf, ptr B, ptr B'] W _
  have hk := place_lt hi hj
  go_enter Try.func105, Try.ntmps105
  go_wp2_with fail
  go_region_held_law (fun V => V.cell? ⟨Bf, 0, none⟩ = some (.func (.func 54) #[] #[]) ∧ V.cell? ⟨B, 0, none⟩ = some (.int .i64 R') ∧ V.cell? ⟨B, 1, none⟩ = some (.int .i64 C') ∧ V.cell? ⟨B, 2, none⟩ = some (.slice A (R' * C') c) ∧ V.cell? ⟨B', 0, none⟩ = some (.int .i64 R') ∧ V.cell? ⟨B', 1, none⟩ = some (.int .i64 C') ∧ V.cell? ⟨B', 2, none⟩ = some (.slice A' (R' * C') c'))
    (first | with_reducible exact ⟨E0, E1.c0, E1.c1, E1.c2, E2.c0, E2.c1, E2.c2⟩ | with_reducible exact ⟨D0, D1.c0, D1.c1, D1.c2, D2.c0, D2.c1, D2.c2⟩ | go_keep)
    ((first
      | (go_at_call 71; (with_reducible refine (mat (M.below (by first | exact below_self _ | exact (below_self _).drew)) hi hj).mono ?_); rintro e w1 ⟨r1, rfl, ⟨p1, p2⟩, bb1⟩; have B1 : Below W.heap.size W w1 := (by first | exact bb1 | exact undrew bb1); have D1 := v.below B1; have D2 := v'.below B1; have D0 := (B1.cell (p := ⟨Bf, 0, none⟩) hBW).trans c3)
      | (go_at_call 71; (with_reducible refine (mat (M'.below (by first | exact B1 | exact B1.drew)) hi hj).mono ?_); rintro e w2 ⟨r2, rfl, ⟨p3, p4⟩, bb2⟩; have B12 : Below w1.heap.size w1 w2 := (by first | exact bb2 | exact undrew bb2); have E1 := D1.below B12; have E2 := D2.below B12; have E0 := (B12.cell (p := ⟨Bf, 0, none⟩) (Nat.lt_of_lt_of_le hBW B1.size)).trans D0; have BB := b_of B1 B12 B1.size)
      | (go_at_call 54; (with_reducible refine (add_any _ p1 p2 p3 p4).mono ?_); rintro e w3 ⟨re, im, m, rfl, hre, him, hw3⟩; subst w3)))
  go_wp2
  go_ret
  exact ⟨(re, im), rfl, ⟨hre, him⟩, by first | exact below_drewN BB _ | exact below_drewN BB.drew _⟩
set_option maxHeartbeats 1000000 in
theorem says_mplaced_sub {Bf : Nat} (hBf : Bf < w.heap.size) (hcf : w.cell? ⟨Bf, 0, none⟩ = some (.func (.func 62) #[] #[])) (hr : R' = R) (hm : C' = C) : SaysE w 105 #[ptr Bf, ptr B, ptr B'] R C (fun i j => subZ (F (i * C + j)) (G (i * C + j))) := by
  subst hr hm
  intro i j W hi hj hb
  have M := h.below hb
  have M' := h'.below hb
  have v := hV.below hb
  have v' := hV'.below hb
  obtain ⟨_, c0, c1, c2, _, _, _⟩ := v
  obtain ⟨_, d0, d1, d2, _, _, _⟩ := v'
  have v := hV.below hb
  have v' := hV'.below hb
  have c3 := (hb.cell (p := ⟨Bf, 0, none⟩) hBf).trans hcf
  have hBW : Bf < W.heap.size := Nat.lt_of_lt_of_le hBf hb.size
  clear h hV h' hV' hb hcf
  show Calls Try.prog _ #[.int .i64 i, .int .i64 j, ptr Bf, ptr B, ptr B'] W _
  have hk := place_lt hi hj
  go_enter Try.func105, Try.ntmps105
  go_wp2_with fail
  go_region_held_law (fun V => V.cell? ⟨Bf, 0, none⟩ = some (.func (.func 62) #[] #[]) ∧ V.cell? ⟨B, 0, none⟩ = some (.int .i64 R') ∧ V.cell? ⟨B, 1, none⟩ = some (.int .i64 C') ∧ V.cell? ⟨B, 2, none⟩ = some (.slice A (R' * C') c) ∧ V.cell? ⟨B', 0, none⟩ = some (.int .i64 R') ∧ V.cell? ⟨B', 1, none⟩ = some (.int .i64 C') ∧ V.cell? ⟨B', 2, none⟩ = some (.slice A' (R' * C') c'))
    (first | with_reducible exact ⟨E0, E1.c0, E1.c1, E1.c2, E2.c0, E2.c1, E2.c2⟩ | with_reducible exact ⟨D0, D1.c0, D1.c1, D1.c2, D2.c0, D2.c1, D2.c2⟩ | go_keep)
    ((first
      | (go_at_call 71; (with_reducible refine (mat (M.below (by first | exact below_self _ | exact (below_self _).drew)) hi hj).mono ?_); rintro e w1 ⟨r1, rfl, ⟨p1, p2⟩, bb1⟩; have B1 : Below W.heap.size W w1 := (by first | exact bb1 | exact undrew bb1); have D1 := v.below B1; have D2 := v'.below B1; have D0 := (B1.cell (p := ⟨Bf, 0, none⟩) hBW).trans c3)
      | (go_at_call 71; (with_reducible refine (mat (M'.below (by first | exact B1 | exact B1.drew)) hi hj).mono ?_); rintro e w2 ⟨r2, rfl, ⟨p3, p4⟩, bb2⟩; have B12 : Below w1.heap.size w1 w2 := (by first | exact bb2 | exact undrew bb2); have E1 := D1.below B12; have E2 := D2.below B12; have E0 := (B12.cell (p := ⟨Bf, 0, none⟩) (Nat.lt_of_lt_of_le hBW B1.size)).trans D0; have BB := b_of B1 B12 B1.size)
      | (go_at_call 62; (with_reducible refine (sub_any _ p1 p2 p3 p4).mono ?_); rintro e w3 ⟨re, im, m, rfl, hre, him, hw3⟩; subst w3)))
  go_wp2
  go_ret
  exact ⟨(re, im), rfl, ⟨hre, him⟩, by first | exact below_drewN BB _ | exact below_drewN BB.drew _⟩
end two

end Go.Proofs.Ytjjpgmgnejhggaa
