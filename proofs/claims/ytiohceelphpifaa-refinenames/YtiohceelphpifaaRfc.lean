/-
  What take of an account of package refine hands back.
-/
import Derived.Test.YtiohceelphpifaaRfb
namespace Go.Proofs.Ytiohceelphpifaa
open Fl RowKit

set_option maxHeartbeats 4000000 in
theorem take_any (b p gt ct gl cl nT nL : Nat) (T L : List Nat) (x y : Nat) (w : World) (hA : Acc b p gt ct gl cl T L w) (hT : T.length = nT) (hL : L.length = nL) (h1 : nT ≤ 1000000) (h2 : nL ≤ 1000000) :
    Calls Try.prog 57 #[.pointer (some ⟨p, 0, none⟩), .float .f64 x, .float .f64 y] w fun e w' => ∃ pr er, e = .returned (.tuple #[]) ∧ rep (mulO x y) pr ∧ rep (fmaO x y (Op.negFloat .f64 pr)) er ∧ AccUp b p gt gl T L (Op.negFloat .f64 pr) (Op.negFloat .f64 er) w w' := by
  obtain ⟨i0, hi, hz0, hz1, hz2⟩ := info_parts Try.infoF
  have c0 := hA.c0
  have c1 := hA.c1
  have fz := hA.fz
  have lt := hA.lt
  have ot := hA.ot
  have ol := hA.ol
  have gtl := own_lt ot
  have gll := own_lt ol
  have hge := hA.ge
  rw [hT] at c0 ot
  rw [hL] at c1 ol
  have d0 : ∀ k o, ((w.drewN k).alloc o).cell? ⟨p, 0, none⟩ = some (.slice (some ⟨gt, 0, none⟩) nT ct) := fun k o => (World.cell?_of_block (w := w.drewN k) (Below.heap_alloc _ _ _ lt)).trans c0
  have d1 : ∀ k o, ((w.drewN k).alloc o).cell? ⟨p, 1, none⟩ = some (.slice (some ⟨gl, 0, none⟩) nL cl) := fun k o => (World.cell?_of_block (w := w.drewN k) (Below.heap_alloc _ _ _ lt)).trans c1
  have e0 : ∀ k o o', (((w.drewN k).alloc o).alloc o').cell? ⟨p, 0, none⟩ = some (.slice (some ⟨gt, 0, none⟩) nT ct) := fun k o o' => (World.cell?_of_block (w := (w.drewN k).alloc o) (Below.heap_alloc _ _ _ (by simp; omega))).trans (d0 k o)
  have e1 : ∀ k o o', (((w.drewN k).alloc o).alloc o').cell? ⟨p, 1, none⟩ = some (.slice (some ⟨gl, 0, none⟩) nL cl) := fun k o o' => (World.cell?_of_block (w := (w.drewN k).alloc o) (Below.heap_alloc _ _ _ (by simp; omega))).trans (d1 k o)
  have HA := hid_o hA
  have HT := hid_o hT
  have HL := hid_o hL
  clear hA hT hL
  go_enter Try.func57, Try.ntmps57
  go_wp2_with (go_at_call 83; refine (twoProd_any _ _ _).mono ?_; rintro e w' ⟨pr, er, m, rfl, hp, he, rfl⟩)
  go_region_law (first
    | (refine step_append_lies _ (by rfl) _ _ 103 (by rfl) b 48 i0 (.float .f64 0) 1 8 Try.underlying103 hi hz0 hz1 hz2 (by rfl) (by decide) (.slice (some ⟨gt, 0, none⟩) nT ct) nT _ (by rfl) ((ownsRow_drewN ot _).alloc _) ⟨_, 0, none⟩ 1 1 [.float .f64 (Op.negFloat .f64 pr)] (by rfl) (by rfl) (fun j u hj => by match j, hj with | 0, hj => (simp at hj; subst hj; first | exact new_cell _ _ _ _ | exact ncell1 _ _ _ | exact ncell2 _ _ _ _ _ | exact ncell3 _ _ _ _ _)) (fun u hu => by simp at hu; subst hu; rfl) (by decide) (by unfold maxLen; omega) (by omega) (by first | omega | (simp; omega)) _ rfl ?_; intro g1 k1 w1 own1 grow1 at1 lt1; have M1 := mid_t HA.out ((below_drewN (Below.refl _ w) _).alloc (Nat.le_refl _) _) grow1 at1 (by rfl); have m0 := M1.c0; have m1 := M1.c1; have mz := M1.fz; have ml := M1.lt; have mo := M1.ol; rw [HT.out] at m0; rw [HL.out] at m1 mo; have n1 : ∀ o, (w1.alloc o).cell? ⟨p, 1, none⟩ = some (.slice (some ⟨gl, 0, none⟩) nL cl) := (fun o => (World.cell?_of_block (w := w1) (Below.heap_alloc _ _ _ ml)).trans m1); have HM := hid_o M1; clear M1)
    | (refine step_append_lies _ (by rfl) _ _ 103 (by rfl) b 48 i0 (.float .f64 0) 1 8 Try.underlying103 hi hz0 hz1 hz2 (by rfl) (by decide) (.slice (some ⟨gt, 0, none⟩) nT ct) nT _ (by rfl) (((ownsRow_drewN ot _).alloc _).alloc _) ⟨_, 0, none⟩ 1 1 [.float .f64 (Op.negFloat .f64 pr)] (by rfl) (by rfl) (fun j u hj => by match j, hj with | 0, hj => (simp at hj; subst hj; first | exact new_cell _ _ _ _ | exact ncell1 _ _ _ | exact ncell2 _ _ _ _ _ | exact ncell3 _ _ _ _ _)) (fun u hu => by simp at hu; subst hu; rfl) (by decide) (by unfold maxLen; omega) (by omega) (by first | omega | (simp; omega)) _ rfl ?_; intro g1 k1 w1 own1 grow1 at1 lt1; have M1 := mid_t HA.out (((below_drewN (Below.refl _ w) _).alloc (Nat.le_refl _) _).alloc (by simp) _) grow1 at1 (by rfl); have m0 := M1.c0; have m1 := M1.c1; have mz := M1.fz; have ml := M1.lt; have mo := M1.ol; rw [HT.out] at m0; rw [HL.out] at m1 mo; have n1 : ∀ o, (w1.alloc o).cell? ⟨p, 1, none⟩ = some (.slice (some ⟨gl, 0, none⟩) nL cl) := (fun o => (World.cell?_of_block (w := w1) (Below.heap_alloc _ _ _ ml)).trans m1); have HM := hid_o M1; clear M1; first | (have cl1 : w1.cell? ⟨w.heap.size + 1, 0, none⟩ = some (.float .f64 (Op.negFloat .f64 er)) := (grow1.cell_far ⟨w.heap.size + 1, 0, none⟩ (by simp <;> omega) (fun e => by have := Option.some.inj e; simp at this; omega)).trans (ncell2 _ _ _ _ _)) | (have cl1 : w1.cell? ⟨w.heap.size, 0, none⟩ = some (.float .f64 (Op.negFloat .f64 er)) := (grow1.cell_far ⟨w.heap.size, 0, none⟩ (by simp <;> omega) (fun e => by have := Option.some.inj e; simp at this; omega)).trans (ncell3 _ _ _ _ _)))
    | (refine step_append_lies _ (by rfl) _ _ 103 (by rfl) b 48 i0 (.float .f64 0) 1 8 Try.underlying103 hi hz0 hz1 hz2 (by rfl) (by decide) (.slice (some ⟨gl, 0, none⟩) nL cl) nL _ (by rfl) (mo.alloc _) ⟨_, 0, none⟩ 1 1 [.float .f64 (Op.negFloat .f64 er)] (by rfl) (by rfl) (fun j u hj => by match j, hj with | 0, hj => (simp at hj; subst hj; first | exact new_cell _ _ _ _ | exact ncell1 _ _ _ | exact ncell2 _ _ _ _ _ | exact ncell3 _ _ _ _ _)) (fun u hu => by simp at hu; subst hu; rfl) (by decide) (by unfold maxLen; omega) (by omega) (by first | omega | (simp; omega)) _ rfl ?_; intro g2 k2 w2 own2 grow2 at2 lt2; obtain ⟨z0, z1, zf, zl⟩ := mid_l HA.out HM.out (by rw [HT.out]; exact own1) ((Below.refl _ w1).alloc (Nat.le_refl _) _) grow2 at2 (by rfl); have HZ := hid_o (acc_up HA.out HM.out (by rw [HT.out]; exact own1) ((Below.refl _ w1).alloc (Nat.le_refl _) _) grow2 at2 (by rfl) (by rw [HL.out]; exact own2)); rw [HT.out] at z0 HZ; rw [HL.out] at z1 HZ)
    | (refine step_append_lies _ (by rfl) _ _ 103 (by rfl) b 48 i0 (.float .f64 0) 1 8 Try.underlying103 hi hz0 hz1 hz2 (by rfl) (by decide) (.slice (some ⟨gl, 0, none⟩) nL cl) nL _ (by rfl) mo ⟨_, 0, none⟩ 1 1 [.float .f64 (Op.negFloat .f64 er)] (by rfl) (by rfl) (fun j u hj => by match j, hj with | 0, hj => (simp at hj; subst hj; exact cl1)) (fun u hu => by simp at hu; subst hu; rfl) (by decide) (by unfold maxLen; omega) (by omega) (by first | omega | (simp; omega)) _ rfl ?_; intro g2 k2 w2 own2 grow2 at2 lt2; obtain ⟨z0, z1, zf, zl⟩ := mid_l HA.out HM.out (by rw [HT.out]; exact own1) (Below.refl _ w1) grow2 at2 (by rfl); have HZ := hid_o (acc_up HA.out HM.out (by rw [HT.out]; exact own1) (Below.refl _ w1) grow2 at2 (by rfl) (by rw [HL.out]; exact own2)); rw [HT.out] at z0 HZ; rw [HL.out] at z1 HZ))
  all_goals go_wp2
  all_goals go_end0
  all_goals exact ⟨pr, er, rfl, hp, he, HZ.out⟩
end Go.Proofs.Ytiohceelphpifaa
