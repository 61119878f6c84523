/-
  What gridworkref08's Choose hands back: the same as pivot's.
-/
import Derived.Test.YtgpjlobclcbniaaXb
import Derived.Deep.QuietTactic
import Derived.BigQuiet
namespace Go.Proofs.Ytgpjlobclcbniaa
open Fl RowKit

theorem hid_of' {p : Prop} (h : p) : Hid p := h
theorem zero_wt {x : Cw} : (eqB x.1 0 && eqB x.2 0) = decide (wt x = 0) := by
  rw [eqB_zero, eqB_zero]
  unfold zeB
  by_cases h : wt x = 0
  · obtain ⟨a, b⟩ := wt_0 h
    rw [decide_eq_true a, decide_eq_true b, decide_eq_true h]; rfl
  · rw [decide_eq_false h]
    by_cases a : mg x.1 = 0
    · rw [decide_eq_true a, decide_eq_false (fun b => h (wt_z a b))]; rfl
    · rw [decide_eq_false a]; rfl
theorem rzero_wt {W : World} {x : Cw} : Calls Try.prog 46 #[.complex .f64 x.1 x.2] W fun e w' => e = .returned (.bool (decide (wt x = 0))) ∧ w' = W :=
  (rzero_any x.1 x.2 W).mono (by rintro e w' ⟨rfl, rfl⟩; exact ⟨by rw [zero_wt], rfl⟩)
theorem rfin_walk {W : World} {x : Cw} : Calls Try.prog 45 #[.complex .f64 x.1 x.2] W fun e w' => ∃ n, e = .returned (.bool (finZ x)) ∧ w' = W.drewN n := rfin_any x.1 x.2 W
/-- are all of the first k at most m? -/
def allLe (f : Nat → Nat) (m : Nat) : Nat → Bool
  | 0 => true
  | k + 1 => allLe f m k && decide (f k ≤ m)
theorem allLe_iff (f : Nat → Nat) (m : Nat) (n : Nat) : allLe f m n = true ↔ ∀ j, j < n → f j ≤ m := by
  induction n with
  | zero => exact ⟨fun _ j hj => by omega, fun _ => rfl⟩
  | succ n ih =>
    unfold allLe
    rw [Bool.and_eq_true, ih, decide_eq_true_eq]
    constructor
    · rintro ⟨a, b⟩ j hj
      by_cases e : j = n
      · subst e; exact b
      · exact a j (by omega)
    · intro h
      exact ⟨fun j hj => h j (by omega), h n (by omega)⟩
theorem fst_prefix {f : Nat → Nat} {j : Nat} : (decide ((fstG f (j + 1)).2 = 0)) = (decide ((fstG f j).2 = 0) && decide (f j = 0)) := by
  show (decide ((if (fstG f j).2 < f j then (j, f j) else fstG f j).2 = 0)) = _
  by_cases h : (fstG f j).2 < f j
  · rw [if_pos h]
    show decide (f j = 0) = _
    rw [decide_eq_false (show ¬ f j = 0 by omega), Bool.and_false]
  · rw [if_neg h]
    by_cases h0 : (fstG f j).2 = 0
    · rw [decide_eq_true h0, decide_eq_true (show f j = 0 by omega)]; rfl
    · rw [decide_eq_false h0]; rfl
set_option maxRecDepth 20000 in
set_option maxHeartbeats 4000000 in
theorem rchoose_in (b off n f : Nat) (cap : Nat) (ys : List Cw) (w : World) (h1 : n ≤ 64) (hf : f < n) (hb : b < w.heap.size) (hl : ys.length = n - f)
    (hc : ∀ j, j < n - f → w.cell? ⟨b, off + (f + j), none⟩ = some (cx (zat ys j))) (hx : okl ys) (I E : Int)
    (h5 : finL ys (n - f) = false → I = 0 ∧ E = 5) (h7 : finL ys (n - f) = true → (hv ys).2 = 0 → I = 0 ∧ E = 7) (h00 : finL ys (n - f) = true → ¬ (hv ys).2 = 0 → I = ((f + (hv ys).1 : Nat) : Int) ∧ E = 0) :
    Calls Try.prog 12 #[.slice (some ⟨b, off, none⟩) n cap, .int .i64 f] w fun e w' => ∃ m, e = .returned (.tuple #[.int .i64 I, .int .i64 E]) ∧ w' = w.drewN m := by
  obtain ⟨L, hL⟩ : ∃ L, L = n - f := ⟨_, rfl⟩
  rw [← hL] at hl hc h5 h7 h00
  have hnL : n = f + L := by omega
  clear hL
  subst hnL
  have H5 := hid_of' h5
  have H7 := hid_of' h7
  have H0 := hid_of' h00
  clear h5 h7 h00
  go_enter Try.func12, Try.ntmps12
  go_wp2
  go_loopw [6, 7] (fun z i wr => ∃ (j m : Nat), j ≤ L ∧ i = .int .i64 ((f : Int) + (j : Int)) ∧ z = .bool (decide ((fstG (wts ys) j).2 = 0)) ∧ finL ys j = true ∧ wr = w.drewN m) (fun _ i _ => f + L - (intOf i).toNat)
  case atStart => exact ⟨0, 0, Nat.zero_le _, rfl, rfl, rfl, rfl⟩
  case round =>
    obtain ⟨j, m, hj, rfl, rfl, hfj, hw⟩ := hrel
    by_cases hlt : j < L
    · have hcx := hc j hlt
      rw [show w.cell? ⟨b, off + (f + j), none⟩ = (w.drewN m).cell? ⟨b, off + (f + j), none⟩ from rfl, ← hw] at hcx
      have hb' : b < wr.heap.size := by rw [hw]; exact hb
      have ho := hx j
      have F1 := @finL_lt ys j
      have F2 : finL ys (j + 1) = (finL ys j && finZ (zat ys j)) := rfl
      rw [hfj, Bool.true_and] at F2
      have Z : (decide ((fstG (wts ys) (j + 1)).2 = 0)) = (decide ((fstG (wts ys) j).2 = 0) && decide (wt (zat ys j) = 0)) := fst_prefix
      obtain ⟨x, hxe⟩ : ∃ x, x = zat ys j := ⟨_, rfl⟩
      rw [← hxe] at hcx F1 F2 ho Z
      unfold cx at hcx
      have G1 : Hid (finZ x = false → finL ys L = false) := fun h => F1 h _ hlt
      have G2 : Hid (finL ys (j + 1) = finZ x) := F2
      have HZ := hid_of' Z
      have HW : Hid (wr = w.drewN m) := hw
      have HC := hid_of' hc
      have HX := hid_of' hx
      clear hxe hc hfj hw F1 F2 Z hx
      obtain ⟨z0, hz0⟩ : ∃ z0, z0 = decide ((fstG (wts ys) j).2 = 0) := ⟨_, rfl⟩
      rw [← hz0] at HZ ⊢
      clear hz0
      cases f1 : finZ x
      · go_wp2_with (go_at_call 45; (with_reducible refine rfin_walk.mono ?_); rintro e w' ⟨k, rfl, rfl⟩; rw [f1])
        go_ret2
        obtain ⟨rfl, rfl⟩ := H5.out (G1.out f1)
        exact ⟨_, rfl, by rw [HW.out]; simp only [World.drewN_drewN]; rfl⟩
      · cases z0
        · go_wp2_with (first
            | (go_at_call 45; (with_reducible refine rfin_walk.mono ?_); rintro e w' ⟨k, rfl, rfl⟩; rw [f1]))
          exact ⟨⟨j + 1, _, by omega, by go_num, by rw [HZ.out]; rfl, by rw [G2.out]; exact f1, by rw [HW.out]; simp only [World.drewN_drewN]; rfl⟩, by simp [intOf]; omega⟩
        · go_wp2_with (first
            | (go_at_call 45; (with_reducible refine rfin_walk.mono ?_); rintro e w' ⟨k, rfl, rfl⟩; rw [f1])
            | (go_at_call 46; (with_reducible refine rzero_wt.mono ?_); rintro e w' ⟨rfl, rfl⟩))
          exact ⟨⟨j + 1, _, by omega, by go_num, by rw [HZ.out, Bool.true_and], by rw [G2.out]; exact f1, by rw [HW.out]; simp only [World.drewN_drewN]; rfl⟩, by simp [intOf]; omega⟩
    · have e : j = L := by omega
      subst e
      have hp := fstG_at (wts ys) j
      have hle := fstG_le (wts ys) j
      have hv0 : hv ys = fstG (wts ys) j := by unfold hv; rw [hl]
      rw [← hv0] at hp hle
      rw [← hv0]
      have HF := hid_of' hfj
      have HW : Hid (wr = w.drewN m) := hw
      have HX := hid_of' hx
      have HC := hid_of' hc
      have hb' : b < wr.heap.size := by rw [hw]; exact hb
      clear hfj hw hv0 hx hc
      by_cases h0 : (hv ys).2 = 0
      · rw [decide_eq_true h0]
        obtain ⟨rfl, rfl⟩ := H7.out HF.out h0
        clear hp hle h0
        go_wp2
        go_ret2
        first | exact ⟨m, rfl, HW.out⟩ | exact ⟨rfl, m, HW.out⟩
      · rw [decide_eq_false h0]
        obtain ⟨_, p2, p3, p4⟩ := hp.resolve_left (fun h => h0 h.1)
        obtain ⟨rfl, rfl⟩ := H0.out HF.out h0
        clear H5 H7 H0
        obtain ⟨p, hpe⟩ : ∃ p, p = (hv ys).1 := ⟨_, rfl⟩
        rw [← hpe] at p2 p3 p4
        have HPE := hid_of' hpe
        have HLE : Hid (∀ a, a ≤ p → allLe (wts ys) (wts ys a) j = true → a = p) := by
          intro a ha hall
          by_cases e : a = p
          · exact e
          · have h1 := p4 a (by omega)
            have h2 := (allLe_iff _ _ _).1 hall p p2
            omega
        have HNE : Hid (∀ a, a ≤ p → allLe (wts ys) (wts ys a) j = false → a < p) := by
          intro a ha hall
          by_cases e : a = p
          · have : allLe (wts ys) (wts ys a) j = true := (allLe_iff _ _ _).2 (fun k hk => by rw [e, p3]; exact hle k hk)
            rw [this] at hall; cases hall
          · omega
        clear p3 p4 hle h0 hpe hp
        go_wp2
        go_loopw [8, 9, 10] (fun i _ _ wr2 => ∃ (a k : Nat), a ≤ p ∧ i = .int .i64 ((f : Int) + (a : Int)) ∧ wr2 = w.drewN k) (fun i _ _ _ => f + p + 1 - (intOf i).toNat)
        case atStart => exact ⟨0, m, Nat.zero_le _, rfl, HW.out⟩
        case round =>
          obtain ⟨a, k0, ha, rfl, hw2⟩ := hrel
          have hb2 : b < wr.heap.size := by rw [hw2]; exact hb
          have HW2 : Hid (wr = w.drewN k0) := hw2
          have haj : a < j := by omega
          have hcy := HC.out a haj
          have hoy := HX.out a
          have hfy := finL_at HF.out a haj
          obtain ⟨y, hye⟩ : ∃ y, y = zat ys a := ⟨_, rfl⟩
          have HY : Hid (wts ys a = wt y) := by rw [hye]; rfl
          rw [← hye] at hcy hoy hfy
          unfold cx at hcy
          clear hw2 hye
          go_wp2
          go_loopw [9, 10] (fun g i wr3 => ∃ (l k : Nat), l ≤ j ∧ i = .int .i64 ((f : Int) + (l : Int)) ∧ g = .bool (allLe (wts ys) (wt y) l) ∧ wr3 = w.drewN k) (fun _ i _ => f + j - (intOf i).toNat)
          case atStart => exact ⟨0, k0, Nat.zero_le _, rfl, rfl, HW2.out⟩
          case round =>
            obtain ⟨l, k, hl', rfl, rfl, hw3⟩ := hrel
            by_cases hlj : l < j
            · have hcx0 := HC.out l hlj
              have hox := HX.out l
              have hfx := finL_at HF.out l hlj
              have A1 : allLe (wts ys) (wt y) (l + 1) = (allLe (wts ys) (wt y) l && decide (wt (zat ys l) ≤ wt y)) := rfl
              obtain ⟨x, hxe⟩ : ∃ x, x = zat ys l := ⟨_, rfl⟩
              rw [← hxe] at hcx0 hox hfx A1
              unfold cx at hcx0
              have hcx : wr.cell? ⟨b, off + (f + l), none⟩ = some (.complex .f64 x.1 x.2) := by rw [hw3]; exact hcx0
              have hcy' : wr.cell? ⟨b, off + (f + a), none⟩ = some (.complex .f64 y.1 y.2) := by rw [hw3]; exact hcy
              have hb3 : b < wr.heap.size := by rw [hw3]; exact hb
              have HW3 : Hid (wr = w.drewN k) := hw3
              have lx := wt_le x
              have ly := wt_le y
              have HA := hid_of' A1
              have HCY := hid_of' hcy
              clear hxe hw3 A1 hcy hcx0
              obtain ⟨g0, hg0⟩ : ∃ g0, g0 = allLe (wts ys) (wt y) l := ⟨_, rfl⟩
              rw [← hg0] at HA ⊢
              clear hg0
              cases g0
              · go_wp2
                go_quiet (fail)
                all_goals
                  go_wp2
                  go_roundw
                  case rel => exact ⟨l + 1, _, by omega, by go_num, by rw [HA.out]; rfl, by rw [HW3.out]; simp only [World.drewN_drewN]; rfl⟩
                  case measure => simp [intOf]; omega
              · by_cases hgt : wt y < wt x
                · have hord := ord_gt lx ly hgt
                  go_wp2
                  go_region_held_law (fun W => W.cell? ⟨b, off + (f + l), none⟩ = some (.complex .f64 x.1 x.2) ∧ W.cell? ⟨b, off + (f + a), none⟩ = some (.complex .f64 y.1 y.2)) (first | (with_reducible exact ⟨hcx, hcy'⟩) | go_keep)
                    (first
                    | (go_at_call 47; (with_reducible refine (rsize1_wt hox hfx).mono ?_); rintro e w' ⟨m1, rfl, rfl⟩)
                    | (go_at_call 47; (with_reducible refine (rsize1_wt hoy hfy).mono ?_); rintro e w' ⟨m2, rfl, rfl⟩))
                  all_goals
                    go_wp2
                    go_roundw
                    case rel => exact ⟨l + 1, _, by omega, by go_num, by rw [HA.out, decide_eq_false (by omega)]; rfl, by rw [HW3.out]; simp only [World.drewN_drewN]; rfl⟩
                    case measure => simp [intOf]; omega
                · have hord := ord_ngt lx ly hgt
                  go_wp2
                  go_region_held_law (fun W => W.cell? ⟨b, off + (f + l), none⟩ = some (.complex .f64 x.1 x.2) ∧ W.cell? ⟨b, off + (f + a), none⟩ = some (.complex .f64 y.1 y.2)) (first | (with_reducible exact ⟨hcx, hcy'⟩) | go_keep)
                    (first
                    | (go_at_call 47; (with_reducible refine (rsize1_wt hox hfx).mono ?_); rintro e w' ⟨m1, rfl, rfl⟩)
                    | (go_at_call 47; (with_reducible refine (rsize1_wt hoy hfy).mono ?_); rintro e w' ⟨m2, rfl, rfl⟩))
                  all_goals
                    go_wp2
                    go_roundw
                    case rel => exact ⟨l + 1, _, by omega, by go_num, by rw [HA.out, decide_eq_true (by omega)]; rfl, by rw [HW3.out]; simp only [World.drewN_drewN]; rfl⟩
                    case measure => simp [intOf]; omega
            · have e : l = j := by omega
              subst e
              have N1 := HLE.out a ha
              have N2 := HNE.out a ha
              rw [HY.out] at N1 N2
              have HW3 : Hid (wr = w.drewN k) := hw3
              clear hw3 hcy
              cases hA : allLe (wts ys) (wt y) l
              · have ha2 := N2 hA
                clear N1 N2
                go_wp2
                go_roundw
                case rel => exact ⟨a + 1, _, by omega, by go_num, HW3.out⟩
                case measure => simp [intOf]; omega
              · have ha2 := N1 hA
                clear N1 N2
                go_wp2
                go_ret2
                have E1 := HPE.out
                first | exact ⟨k, by rw [← E1, ← ha2]; rfl, HW3.out⟩ | exact ⟨by rw [← E1, ← ha2]; rfl, k, HW3.out⟩

end Go.Proofs.Ytgpjlobclcbniaa
