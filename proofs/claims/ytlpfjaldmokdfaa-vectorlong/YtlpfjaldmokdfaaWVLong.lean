/-
  The walk of VectorLong: it hands back true and only lays new memory.
-/
import Derived.Test.YtlpfjaldmokdfaaVi
import Derived.Test.YtlpfjaldmokdfaaWVMirrorE
import Derived.Deep.RegionWith
namespace Go.Proofs.Ytlpfjaldmokdfaa
open Fl RowKit

def lw (k : Nat) : Cw := (fw ((k % 5 : Nat) : Int), 4607182418800017408)
theorem one_fw : 4607182418800017408 = fw 1 := by kernel_rfl
theorem lw_ok (k : Nat) : okz (lw k) := ⟨fw_lt _, by show 4607182418800017408 < _; decide⟩
theorem lw_is (k : Nat) : IsC (anz (lw k)) ((k % 5 : Nat) : Int) 1 := by
  unfold lw
  rw [one_fw]
  exact isC_fw (by omega) (by decide)
theorem long_dot {xs : List Cw} {n : Nat} (hn : n ≤ 65536) (h : ∀ j, j < n → ∃ k, zat xs j = lw k) : ∃ a b : Int, IsC (sumZ (zipF mulZ (fun j => anz (zat xs j)) (fun j => anz (zat xs j))) n) a b := by
  have pick : ∃ K : Nat → Nat, ∀ j, j < n → zat xs j = lw (K j) := ⟨fun j => if hj : j < n then Classical.choose (h j hj) else 0, fun j hj => by simp only [hj, dif_pos]; exact Classical.choose_spec (h j hj)⟩
  obtain ⟨K, hK⟩ := pick
  refine ⟨_, _, IsC.sum (M := 40) (a := fun j => ((K j % 5 : Nat) : Int) * ((K j % 5 : Nat) : Int) - 1 * 1) (b := fun j => ((K j % 5 : Nat) : Int) * 1 + 1 * ((K j % 5 : Nat) : Int)) (fun j hj => ?_) (fun j _ => ?_) (fun j _ => ?_) (by omega)⟩
  · unfold zipF
    simp only [hK j hj]
    exact (lw_is _).mul (lw_is _) (by omega) (by decide) (by omega) (by decide)
  · have := prod_bd (a := ((K j % 5 : Nat) : Int)) (b := ((K j % 5 : Nat) : Int)) (A := 4) (B := 4) (by omega) (by omega)
    omega
  · omega
theorem IsC.num {X : Cn} {a b : Int} {s t : Nat} (h : IsC X a b) (hs : repz X (s, t)) : nan s = false ∧ nan t = false := ⟨fin_not_nan (h.1.word hs.1).1, fin_not_nan (h.2.word hs.2).1⟩
theorem zat_drop (xs : List Cw) (k j : Nat) : zat (xs.drop k) j = zat xs (k + j) := by simp [zat, List.getD_eq_getElem?_getD]
theorem okl_drop {xs : List Cw} (h : okl xs) (k : Nat) : okl (xs.drop k) := fun j => by
  rw [zat_drop]; exact h _
theorem Lst.drew {w : World} {A : Option Addr} {n : Nat} {f : Nat → Cn} {zs : List Cw} (h : Lst w A n f zs) : Lst w.drew A n f zs := ⟨h.len, h.rep, h.rc⟩
theorem und1 {w w' : World} (h : Below w.drew.heap.size w.drew w') : Below w.heap.size w w' := ⟨h.os, h.tape, h.output, h.size, h.block⟩
theorem okl_take {xs : List Cw} (h : okl xs) (k : Nat) : okl (xs.take k) := fun j => by
  rcases Nat.lt_or_ge j (xs.take k).length with hj | hj
  · have : zat (xs.take k) j = zat xs j := by have : j < k := by simp at hj; omega
                                              simp [zat, List.getD_eq_getElem?_getD, this]
    rw [this]; exact h _
  · rw [zat_ge hj]; exact ⟨by decide, by decide⟩
theorem set_lw {zs : List Cw} {k : Nat} (h : ∀ j, j < k → zat zs j = lw j) (hk : k < zs.length) : ∀ j, j < k + 1 → zat (zs.set k (lw k)) j = lw j := by
  intro j hj
  by_cases e : j = k
  · subst e
    unfold zat; rw [List.getD_eq_getElem?_getD, List.getElem?_set_self hk]; rfl
  · have : zat (zs.set k (lw k)) j = zat zs j := by simp [zat, List.getD_eq_getElem?_getD, Ne.symm e]
    rw [this]; exact h j (by omega)
theorem lrdot_ok {n ca cb : Nat} {ao bo : Option Addr} {F G : Nat → Cn} {xs ys : List Cw} {w : World} (h : Lst w ao n F xs) (k : Lst w bo n G ys) (hm : n ≤ 65536) : Calls Try.prog 18 #[.slice ao n ca, .slice bo n cb] w fun e w' => ∃ (s t m : Nat), e = .returned (.tuple #[.complex .f64 s t, .int .i64 0]) ∧ repz (sumZ (zipF mulZ F G) n) (s, t) ∧ w' = w.drewN m := by
  have hx := h.okl
  have hy := k.okl
  obtain ⟨rfl, h2, h3⟩ := h
  obtain ⟨k1, k2, k3⟩ := k
  refine (rvdot_ok ao bo ca cb xs ys w k1 hm h3 k3 hx hy).mono ?_
  rintro e w' ⟨s, m, rfl, hs, rfl⟩
  rw [sumZ_congr (dotF_zip h2 k2)] at hs
  exact ⟨s.1, s.2, m, rfl, hs, rfl⟩
theorem eaxpy {na nb : Nat} {E : Int} (ao bo : Option Addr) (ca cb : Nat) (w : World) (ha : na ≤ 1000000000000000) (hb : nb ≤ 1000000000000000) (he : ¬ E = 0) (hE : E = errV na nb) (t : Cw) : Calls Try.prog 32 #[.complex .f64 t.1 t.2, .slice ao na ca, .slice bo nb cb] w fun e w' => e = .returned (.tuple #[.slice none 0 0, .int .i64 E]) ∧ Below w.heap.size w w' := by
  subst hE; exact vaxpy_err ao bo na nb ca cb w ha hb he t

theorem errL1 : (3 : Int) = errV 65537 65537 := by decide
theorem errL2 : (3 : Int) = errV 65537 0 := by decide
theorem errL3 : (3 : Int) = errV 0 65537 := by decide
theorem errL4 : (3 : Int) = errV 65537 65536 := by decide
theorem errL5 : (4 : Int) = errV 65536 65535 := by decide
set_option maxRecDepth 10000 in
set_option maxHeartbeats 8000000 in
theorem vlong_walk (w : World) : Calls Try.prog 5 #[] w fun e w' => e = .returned (.bool true) ∧ Below w.heap.size w w' := by
  obtain ⟨i0, hi, hz0, hz1, hz2⟩ := info_parts Try.infoC
  go_enter Try.func5, Try.ntmps5
  go_wp2_with (at_make; refine wpList_make_full _ rfl _ _ 23 rfl w.heap.size 29 i0 (.complex .f64 0 0) 1 Try.underlying23 hi hz0 hz1 _ _ _ _ 65537 rfl rfl rfl rfl (by rw [hz2]; omega) (by unfold maxLen; omega) (Nat.le_refl _) ?_; intro w1 hown hgrow)
  have hb0 : Below w.heap.size w w1 := (Below.refl _ _).grown hgrow (Nat.le_refl _) (by intro k hk; simp at hk)
  obtain ⟨z0, hz0l, hown⟩ : ∃ zs : List Cw, zs.length = 65537 ∧ w1.ownsRow w.heap.size 29 1 (.slice (some ⟨w.heap.size, 0, none⟩) 65537 65537) 65537 (zs.map cx) := ⟨List.replicate 65537 (0, 0), List.length_replicate, by rw [made_zeroC] at hown; exact hown⟩
  clear hgrow
  go_loopw [2] (fun i wr => ∃ (k : Nat) (zs : List Cw), k ≤ 65537 ∧ i = .int .i64 k ∧ zs.length = 65537 ∧ (∀ j, j < k → zat zs j = lw j) ∧ wr.ownsRow w.heap.size 29 1 (.slice (some ⟨w.heap.size, 0, none⟩) 65537 65537) 65537 (zs.map cx) ∧ Below w.heap.size w wr) (fun i _ => 65537 - (intOf i).toNat)
  case atStart => exact ⟨0, z0, Nat.zero_le _, rfl, hz0l, fun j hj => absurd hj (by omega), hown, hb0⟩
  case round =>
    obtain ⟨k, zs, hk, rfl, hlz, hzz, how, hbel⟩ := hrel
    clear hown hb0 hz0l z0
    by_cases hlt : k < 65537
    · have hcell := how.cellAt k (by simp; omega)
      have hfz := how.frozenAt k
      have hst : Hid ((wr.setCell ⟨w.heap.size, k, none⟩ (cx (lw k))).ownsRow w.heap.size 29 1 (.slice (some ⟨w.heap.size, 0, none⟩) 65537 65537) 65537 ((zs.map cx).set k (cx (lw k)))) := (how.stored k (cx (lw k))).1
      rw [List.getElem?_map, zat_lt (by omega)] at hcell
      obtain ⟨t, ht⟩ : ∃ t, t = zat zs k := ⟨_, rfl⟩
      rw [← ht] at hcell
      have HZ : Hid (∀ j, j < k → zat zs j = lw j) := hzz
      have hmod : (k : Int).tmod 5 = ((k % 5 : Nat) : Int) := by rw [Int.tmod_eq_emod_of_nonneg (by omega)]; omega
      have HB : Hid (Below w.heap.size w wr) := hbel
      have hlI : (k : Int) < 65537 := by omega
      have HL : Hid (k < 65537) := hlt
      have HLZ : Hid (zs.length = 65537) := hlz
      clear ht hzz how hbel hlt hk hlz
      go_wp2
      go_roundw
      case rel =>
        have hlt := HL.out
        have hlz := HLZ.out
        refine ⟨k + 1, zs.set k (lw k), by omega, by go_num, by simpa using hlz, set_lw HZ.out (by omega), ?_, ?_⟩
        · rw [List.map_set]; exact hst.out
        · exact HB.out.setCell (Nat.le_refl _) _
      case measure =>
        have hlt := HL.out
        simp [intOf]; omega
    · have e : k = 65537 := by omega
      subst e
      clear hlt
      obtain ⟨L, hL⟩ : ∃ L, L = zs := ⟨_, rfl⟩
      rw [← hL] at hlz hzz how
      clear hL zs
      have hok : okl L := fun j => by
        rcases Nat.lt_or_ge j 65537 with h | h
        · rw [hzz j h]; exact lw_ok j
        · rw [zat_ge (by omega)]; exact ⟨by decide, by decide⟩
      have RL : Rc wr (some ⟨w.heap.size, 0, none⟩) L := by
        obtain ⟨A, C, hv, _, _, hr⟩ := own_rc hlz.symm how
        rw [hlz] at hv
        cases hv
        exact hr
      have HD : Hid (∃ a b : Int, IsC (sumZ (zipF mulZ (fun j => anz (zat (L.drop 1) j)) (fun j => anz (zat (L.drop 1) j))) 65536) a b) := long_dot (Nat.le_refl _) (fun j hj => ⟨1 + j, by rw [zat_drop]; exact hzz _ (by omega)⟩)
      have l1 : Lst wr (some ⟨w.heap.size, 1, none⟩) 65536 (fun j => anz (zat (L.drop 1) j)) (L.drop 1) := lst_self (by rw [List.length_drop, hlz]) (okl_drop hok 1) (RL.drop 1)
      have l2 : Lst wr (some ⟨w.heap.size, 0, none⟩) 65536 (fun j => anz (zat (L.take 65536) j)) (L.take 65536) := lst_self (by rw [List.length_take, hlz]; rfl) (okl_take hok _) (RL.take _)
      have l0 : Lst wr (some ⟨w.heap.size, 0, none⟩) 65537 (fun j => anz (zat L j)) L := lst_self hlz hok RL
      clear hzz how RL hok hlz
      have BB := hbel
      clear hbel hown hk
      go_wp2
      go_region_held_law (fun _ => True) (trivial) ((go_at_call 11; (with_reducible refine (ladd_ok l1.drew l2.drew (by omega)).mono ?_); rintro e w2 ⟨g2, z2, rfl, LA, hb⟩; (replace hb := und1 hb); (replace l1 := l1.below hb); (replace l2 := l2.below hb); (replace l0 := l0.below hb); (replace BB := BB.trans (hb.mono BB.size)); clear hb LA))
      go_wp2_with (first
        | (go_at_call 11; (with_reducible refine (eadd (E := 3) _ _ _ _ _ (by omega) (by omega) (by decide) errL1).mono ?_); rintro e w' ⟨rfl, hw'⟩; subst w')
        | (go_at_call 12; (with_reducible refine (esub (E := 3) _ _ _ _ _ (by omega) (by omega) (by decide) errL2).mono ?_); rintro e w' ⟨rfl, hw'⟩; subst w')
        | (go_at_call 32; (refine (eaxpy (E := 3) none _ _ _ _ (by omega) (by omega) (by decide) errL3 (4607182418800017408, 0)).mono ?_); rintro e w3 ⟨rfl, hb⟩; (replace l1 := l1.below hb); (replace l0 := l0.below hb); (replace BB := BB.trans (hb.mono BB.size)); clear hb))
      go_region_held_law (fun _ => True) (trivial) ((go_at_call 13; (with_reducible refine (ldot_ok l1.drew l1.drew (by omega)).mono ?_); rintro e w' ⟨s1, s2, m1, rfl, hs, rfl⟩; (have HS : Hid (repz (sumZ (zipF mulZ (fun j => anz (zat (L.drop 1) j)) (fun j => anz (zat (L.drop 1) j))) 65536) (s1, s2)) := hs); clear hs))
      go_wp2_with (first
        | (go_at_call 14; (with_reducible refine (einner (E := 3) _ _ _ _ _ (by omega) (by omega) (by decide) errL4).mono ?_); rintro e w' ⟨rfl, rfl⟩))
      go_region_held_law (fun _ => True) (trivial) ((go_at_call 13; (with_reducible refine (edot (E := 4) _ _ _ _ _ (by omega) (by omega) (by decide) errL5).mono ?_); rintro e w' ⟨rfl, rfl⟩))
      go_wp2
      go_region_held_law (fun _ => True) (trivial) ((go_at_call 18; (refine (lrdot_ok (l1.drewN _) (l1.drewN _) (by omega)).mono ?_); rintro e w' ⟨t1, t2, m2, rfl, ht, rfl⟩; (have HT : Hid (repz (sumZ (zipF mulZ (fun j => anz (zat (L.drop 1) j)) (fun j => anz (zat (L.drop 1) j))) 65536) (t1, t2)) := ht); clear ht))
      have HQ : FloatKind.f64.format.order s1 t1 = some .eq ∧ FloatKind.f64.format.order s2 t2 = some .eq := by
        obtain ⟨a, b, hC⟩ := HD.out
        exact ⟨hC.1.order hC.1 HS.out.1 HT.out.1, hC.2.order hC.2 HS.out.2 HT.out.2⟩
      have q1 := HQ.1
      have q2 := HQ.2
      clear HQ
      go_wp2_with (first
        | (go_at_call 33; (refine (lscale_any (l0.drewN _) (by omega) (4611686018427387904, 0) (by unfold okz; decide)).mono ?_); rintro e w4 ⟨g4, z4, rfl, LS, hb⟩; (replace hb := und hb); (replace l0 := l0.below hb); (replace BB := BB.trans (hb.mono BB.size)); clear hb LS)
        | (go_at_call 15; (with_reducible refine (lconj_any l0 (by omega)).mono ?_); rintro e w5 ⟨g5, z5, rfl, LC, hb⟩; (replace BB := BB.trans (hb.mono BB.size)); clear hb LC l0)
        | (go_at_call 36; (with_reducible refine (awake_any _).mono ?_); rintro e w6 ⟨rfl, hb⟩; (replace BB := BB.trans (hb.mono BB.size)); clear hb))
      go_ret
      exact ⟨rfl, BB⟩
end Go.Proofs.Ytlpfjaldmokdfaa
