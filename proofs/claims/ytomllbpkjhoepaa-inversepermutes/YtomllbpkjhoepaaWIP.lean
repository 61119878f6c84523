/-
  The walk of InversePermutes.
-/
import Derived.Test.YtomllbpkjhoepaaIpb
import Derived.Deep.RegionHeldLaw
import Derived.Deep.DeepCutAuto
import Derived.Deep.CutBlock
namespace Go.Proofs.Ytomllbpkjhoepaa
open Fl RowKit

theorem made_zeroI (n : Nat) : (madeCells (Value.int .i64 0).cells (n * 1)).toList = (ri n (fun _ => 0)).map ci := by
  apply List.ext_getElem?
  intro i
  simp only [madeCells, Array.toList_map, List.getElem?_map, Array.toList_range, Nat.mul_one, ri]
  by_cases h : i < n
  · simp [h, Value.cells, Nat.mod_one, ci]
  · simp [h]
theorem ir_cell {w : World} {b g n c : Nat} {o : Nat → Nat} (h : Ir w b (.slice (some ⟨g, 0, none⟩) n c) n (ri n o)) {j : Nat} (hj : j < n) : w.cell? ⟨g, j, none⟩ = some (.int .i64 (o j)) := by
  obtain ⟨b', o', e1, _, e3⟩ := h.qi j (by rw [ri_len]; exact hj)
  cases e1
  rw [Nat.zero_add, ri_at _ hj] at e3
  exact e3
theorem ir_set {w : World} {b g n c : Nat} {o : Nat → Nat} (h : Ir w b (.slice (some ⟨g, 0, none⟩) n c) n (ri n o)) (k v : Nat) : Ir (w.setCell ⟨g, k, none⟩ (.int .i64 (v : Int))) b (.slice (some ⟨g, 0, none⟩) n c) n (ri n (fun j => if j = k then v else o j)) := by
  have := h.set k (v : Int)
  rw [ri_set] at this
  exact this
/-- the four turns as words -/
def uw : Nat → Cw
  | 0 => (4607182418800017408, 0)
  | 1 => (0, 4607182418800017408)
  | 2 => (13830554455654793216, 0)
  | _ => (0, 13830554455654793216)
noncomputable def pk4 (x : Int) : Nat := Classical.choose (ppick_any x 4 (by decide) (by decide))
theorem pk4_lt (x : Int) : pk4 x < 4 := (Classical.choose_spec (ppick_any x 4 (by decide) (by decide))).1
theorem pk4_pick (x : Int) (w : World) : Calls Try.prog 20 #[.int .i64 x, .int .i64 4] w fun e w' => e = .returned (.int .i64 (pk4 x : Int)) ∧ w' = w := (Classical.choose_spec (ppick_any x 4 (by decide) (by decide))).2 w
theorem uw_ok (q : Nat) : okz (uw q) := by
  match q with
  | 0 => exact ⟨by decide, by decide⟩
  | 1 => exact ⟨by decide, by decide⟩
  | 2 => exact ⟨by decide, by decide⟩
  | _ + 3 => exact ⟨(by decide : (0 : Nat) < 18446744073709551616), (by decide : (13830554455654793216 : Nat) < 18446744073709551616)⟩
theorem uw_tv {q : Nat} (hq : q < 4) : eqZ (anz (uw q)) (tv (q + 1)) := by
  match q, hq with
  | 0, _ => exact eqZ_refl _
  | 1, _ => exact eqZ_refl _
  | 2, _ => exact eqZ_refl _
  | 3, _ => exact eqZ_refl _
theorem uw_con {q : Nat} (hq : q < 4) : eqZ (anz ((uw q).1, ngW (uw q).2)) (tv (qd 1 (q + 1))) := by
  match q, hq with
  | 0, _ => exact eqZ_of (by decide +kernel)
  | 1, _ => exact eqZ_of (by decide +kernel)
  | 2, _ => exact eqZ_of (by decide +kernel)
  | 3, _ => exact eqZ_of (by decide +kernel)
set_option maxHeartbeats 2000000 in
theorem unit_any (x : Int) (w : World) : Calls Try.prog 21 #[.int .i64 x] w fun e w' => e = .returned (.complex .f64 (uw (pk4 x)).1 (uw (pk4 x)).2) ∧ Below w.heap.size w w' := by
  have HP := hid_o (pk4_pick x)
  have hq := pk4_lt x
  obtain ⟨q, hqe⟩ : ∃ q, q = pk4 x := ⟨_, rfl⟩
  rw [← hqe] at HP hq ⊢
  clear hqe
  match q, hq with
  | 0, _ =>
    go_enter Try.func21, Try.ntmps21
    go_wp2_with (go_at_call 20; (with_reducible refine (HP.out _).mono ?_); rintro e w' ⟨rfl, rfl⟩)
    go_ret
    exact ⟨rfl, bal _ _⟩
  | 1, _ =>
    go_enter Try.func21, Try.ntmps21
    go_wp2_with (go_at_call 20; (with_reducible refine (HP.out _).mono ?_); rintro e w' ⟨rfl, rfl⟩)
    go_ret
    exact ⟨rfl, bal _ _⟩
  | 2, _ =>
    go_enter Try.func21, Try.ntmps21
    go_wp2_with (go_at_call 20; (with_reducible refine (HP.out _).mono ?_); rintro e w' ⟨rfl, rfl⟩)
    go_ret
    exact ⟨rfl, bal _ _⟩
  | 3, _ =>
    go_enter Try.func21, Try.ntmps21
    go_wp2_with (go_at_call 20; (with_reducible refine (HP.out _).mono ?_); rintro e w' ⟨rfl, rfl⟩)
    go_ret
    exact ⟨rfl, bal _ _⟩
theorem sw_fn1 (o : Nat → Nat) (j r q : Nat) : (if q = r then o j else if q = j then o r else o q) = swO o j r q := by
  unfold swO
  by_cases h1 : q = j
  · by_cases h2 : q = r
    · rw [if_pos h2, if_pos h1, ← h1, h2]
    · rw [if_neg h2, if_pos h1, if_pos h1]
  · by_cases h2 : q = r
    · rw [if_pos h2, if_neg h1, if_pos h2]
    · rw [if_neg h2, if_neg h1, if_neg h1, if_neg h2]
theorem sw_fn2 (o : Nat → Nat) (j r q : Nat) : (if q = j then o r else if q = r then o j else o q) = swO o j r q := rfl
theorem wr_mul {a b k : Nat} (ha : a ≤ 64) (hb : b ≤ 64) (hk : k = a * b) : IntKind.i64.wrap ((a : Int) * (b : Int)) = (k : Int) := by
  have := Nat.mul_le_mul ha hb
  rw [← Int.natCast_mul, ← hk, IntKind.wrap_i64]
  omega
theorem wr_add {a b k T : Nat} (hk : k = a + b) (h : k < T) (hT : T ≤ 4096) : IntKind.i64.wrap ((a : Int) + (b : Int)) = (k : Int) := by
  rw [IntKind.wrap_i64]
  omega
theorem ng_neg {x : Nat} (h : x < 18446744073709551616) : Op.negFloat .f64 x = ngW x := by
  unfold ngW
  split
  · exact neg_of_pos (by omega)
  · exact neg_of_neg (by omega) h
theorem crx11 : crX one1 one1 = one1 := by kernel_rfl
theorem cre11 : crE one1 one1 = 0 := by kernel_rfl
theorem cra11 : crA one1 one1 = 0 := by kernel_rfl
/-- a row's turn -/
noncomputable def tq (ys : List Int) (lb c : Nat) : Nat := pk4 (if c < lb then iat ys c else 0) + 1
theorem tq_lt (ys : List Int) (lb c : Nat) : 0 < tq ys lb c ∧ tq ys lb c < 5 := by have := pk4_lt (if c < lb then iat ys c else 0); unfold tq; omega
/-- the matrix and what is to be its inverse, the first q rows laid -/
def PF (n : Nat) (o : Nat → Nat) (ys : List Int) (lb q : Nat) (f : Nat → Cw) : Prop := ∀ r c, r < n → c < n → okz (f (r * n + c)) ∧ eqZ (anz (f (r * n + c))) (tv (if r < q then pmE o (tq ys lb) r c else 0))
def PB (n : Nat) (o : Nat → Nat) (ys : List Int) (lb q : Nat) (f : Nat → Cw) : Prop := ∀ r c, r < n → c < n → okz (f (r * n + c)) ∧ eqZ (anz (f (r * n + c))) (tv (if c < q ∧ r = o c then qd 1 (tq ys lb c) else 0))
theorem PF_0 (n : Nat) (o : Nat → Nat) (ys : List Int) (lb : Nat) : PF n o ys lb 0 (fun _ => (0, 0)) := fun r c _ _ => ⟨(⟨by decide, by decide⟩ : okz (0, 0)), by rw [if_neg (by omega)]; exact eqZ_refl _⟩
theorem PB_0 (n : Nat) (o : Nat → Nat) (ys : List Int) (lb : Nat) : PB n o ys lb 0 (fun _ => (0, 0)) := fun r c _ _ => ⟨(⟨by decide, by decide⟩ : okz (0, 0)), by rw [if_neg (by omega)]; exact eqZ_refl _⟩
theorem PF_s {n : Nat} {o : Nat → Nat} {ys : List Int} {lb q : Nat} {f : Nat → Cw} (h : PF n o ys lb q f) (hq : q < n) (ho : inO n o) {z : Cw} (hz : okz z) (he : eqZ (anz z) (tv (tq ys lb q))) : PF n o ys lb (q + 1) (upz f (q * n + o q) z) := by
  intro r c hr hc
  have hoq := ho.1 q hq
  by_cases e : r * n + c = q * n + o q
  · obtain ⟨rfl, rfl⟩ := pl_inj hc hoq e
    rw [upz_self, if_pos (by omega)]
    unfold pmE
    rw [if_pos rfl]
    exact ⟨hz, he⟩
  · rw [upz_ne _ _ e]
    have k := h r c hr hc
    by_cases h1 : r < q
    · rw [if_pos h1] at k; rw [if_pos (by omega)]; exact k
    · rw [if_neg h1] at k
      by_cases h2 : r = q
      · subst h2
        rw [if_pos (by omega)]
        unfold pmE
        rw [if_neg (fun e2 => e (by rw [e2]))]
        exact k
      · rw [if_neg (by omega)]; exact k
theorem PB_s {n : Nat} {o : Nat → Nat} {ys : List Int} {lb q : Nat} {f : Nat → Cw} (h : PB n o ys lb q f) (hq : q < n) (_ho : inO n o) {z : Cw} (hz : okz z) (he : eqZ (anz z) (tv (qd 1 (tq ys lb q)))) : PB n o ys lb (q + 1) (upz f (o q * n + q) z) := by
  intro r c hr hc
  by_cases e : r * n + c = o q * n + q
  · obtain ⟨rfl, rfl⟩ := pl_inj hc hq e
    rw [upz_self, if_pos ⟨by omega, rfl⟩]
    exact ⟨hz, he⟩
  · rw [upz_ne _ _ e]
    have k := h r c hr hc
    by_cases h1 : c < q ∧ r = o c
    · rw [if_pos h1] at k; rw [if_pos ⟨by omega, h1.2⟩]; exact k
    · rw [if_neg h1] at k
      rw [if_neg (fun h2 => ?_)]
      · exact k
      · by_cases h3 : c = q
        · subst h3; exact e (by rw [h2.2])
        · exact h1 ⟨by omega, h2.2⟩
set_option maxRecDepth 20000 in
set_option maxHeartbeats 8000000 in
theorem iper_walk (a : Int) (ao bo : Option Addr) (la ca lb cb : Nat) (xs ys : List Int) (w : World) (hla : xs.length = la) (hlb : ys.length = lb) (hsa : la ≤ 1000000000000000) (hsb : lb ≤ 1000000000000000) (hA : Qi w ao xs) (hB : Qi w bo ys) :
    Calls Try.prog 5 #[.int .i64 a, .slice ao la ca, .slice bo lb cb] w fun e w' => e = .returned (.bool true) ∧ Below w.heap.size w w' := by
  obtain ⟨i0, hi, hz0, hz1, hz2⟩ := info_parts Try.infoI
  obtain ⟨k0, ki, kz0, kz1, kz2⟩ := info_parts Try.infoC
  obtain ⟨m, hm64, hP⟩ := ppick_any a 64 (by decide) (by decide)
  obtain ⟨N, hNe⟩ : ∃ N, N = 1 + m := ⟨_, rfl⟩
  have hN0 : 0 < N := by omega
  have hN64 : N ≤ 64 := by omega
  have hNv : (1 : Int) + (m : Int) = (N : Int) := by omega
  have HP : Hid (∀ w, Calls Try.prog 20 #[.int .i64 a, .int .i64 64] w fun e w' => e = .returned (.int .i64 (m : Int)) ∧ w' = w) := hP
  have HA := hid_o hA
  have HB := hid_o hB
  clear hP hA hB hNe
  go_enter Try.func5, Try.ntmps5
  go_wp2_with (first
    | (go_at_call 20; (with_reducible refine (HP.out _).mono ?_); rintro e w' ⟨rfl, hw⟩; subst w')
    | (at_make; refine wpList_make_full _ rfl _ _ 50 rfl _ 3 i0 (.int .i64 0) 1 Try.underlying50 hi hz0 hz1 _ _ _ _ N rfl rfl rfl rfl (by rw [hz2]; omega) (by unfold maxLen; omega) (Nat.le_refl _) ?_; intro w1 hown hgrow; (have hB1 : Below w.heap.size w w1 := (Below.refl _ _).grown hgrow (Nat.le_refl _) (by intro k hk; simp at hk)); (have B1 := hid_o hB1); (rw [made_zeroI] at hown); (have R1 : Hid (Ir w1 w.heap.size (.slice (some ⟨w.heap.size, 0, none⟩) N N) N (ri N (fun _ => 0))) := ⟨ri_len _ _, hown⟩); clear hown hgrow hB1))
  go_loopw [8] (fun iv wr => ∃ i : Nat, i ≤ N ∧ iv = .int .i64 i ∧ Ir wr w.heap.size (.slice (some ⟨w.heap.size, 0, none⟩) N N) N (ri N (fun k => if k < i then k else 0)) ∧ Below w.heap.size w wr) (fun iv _ => N - (intOf iv).toNat)
  case atStart => exact ⟨0, Nat.zero_le _, rfl, by rw [ri_congr (g := fun _ => 0) (fun j _ => if_neg (by omega))]; exact R1.out, B1.out⟩
  case round =>
    clear R1 B1
    obtain ⟨i, hiN, rfl, hI, hbel⟩ := hrel
    by_cases hlt : i < N
    · have d1 := ir_cell hI hlt
      have fz := hI.own.frozenAt i
      have hl := hI.lt.2
      have HI := hid_o hI
      have HBE := hid_o hbel
      clear hI hbel
      go_wp2
      go_roundw
      case measure => first | (simp [intOf]; done) | (simp [intOf]; omega)
      case rel =>
        refine ⟨i + 1, by omega, by go_num, ?_, HBE.out.setCell (p := ⟨w.heap.size, i, none⟩) (Nat.le_refl _) _⟩
        have := ir_set HI.out i i
        rw [ri_congr (g := fun k => if k < i + 1 then k else 0) (fun j _ => ?_)] at this
        · exact this
        · by_cases e : j = i
          · rw [if_pos e, if_pos (by omega), e]
          · rw [if_neg e]
            by_cases c : j < i
            · rw [if_pos c, if_pos (by omega)]
            · rw [if_neg c, if_neg (by omega)]
    · have e : i = N := by omega
      subst e
      have HI2 : Hid (Ir wr w.heap.size (.slice (some ⟨w.heap.size, 0, none⟩) i i) i (ri i (fun k => k))) := by
        rw [ri_congr (g := fun k => if k < i then k else 0) (fun j hj => (if_pos hj).symm)]; exact hI
      have HBE := hid_o hbel
      clear hI hbel hlt hiN
      go_upto_block 2 with fail
      go_cut [9] (fun jv wc => ∃ o, inO i o ∧ Ir wc w.heap.size (.slice (some ⟨w.heap.size, 0, none⟩) i i) i (ri i o) ∧ Below w.heap.size w wc)
      case first =>
        go_wp2_with fail
        go_loopw [9] (fun jv wr => ∃ (k : Nat) (o : Nat → Nat), k ≤ la ∧ k ≤ 200 ∧ jv = .int .i64 k ∧ inO i o ∧ Ir wr w.heap.size (.slice (some ⟨w.heap.size, 0, none⟩) i i) i (ri i o) ∧ Below w.heap.size w wr) (fun jv _ => 200 - (intOf jv).toNat)
        case atStart => exact ⟨0, fun k => k, Nat.zero_le _, by omega, rfl, ⟨fun i hi => hi, fun i j _ _ e => e⟩, HI2.out, HBE.out⟩
        case round =>
          clear HI2 HBE
          obtain ⟨k, o, hkl, hk2, rfl, hin, hI, hbel⟩ := hrel
          have HIN := hid_o hin
          have HI := hid_o hI
          have HBE := hid_o hbel
          by_cases hk : k < la ∧ k < 200
          · obtain ⟨hk1, hk3⟩ := hk
            obtain ⟨b1, o1, rfl, hb1, hc1⟩ := (HA.out.below hbel) k (by rw [hla]; exact hk1)
            obtain ⟨x, hxe⟩ : ∃ x, x = iat xs k := ⟨_, rfl⟩
            rw [← hxe] at hc1
            obtain ⟨j, hj, pj⟩ := ppick_any x i hN0 (by omega)
            have HPJ := hid_o pj
            obtain ⟨r, hre⟩ : ∃ r, r = k % i := ⟨_, rfl⟩
            have hr : r < i := by rw [hre]; exact Nat.mod_lt _ hN0
            have hrem : Int.tmod (k : Int) (i : Int) = (r : Int) := by rw [hre]; exact (Int.ofNat_tmod k i).symm
            clear hxe hre hin hI hbel pj
            go_wp2
            go_cut [10, 11] (fun u v wc => u = .int .i64 (j : Int) ∧ v = .int .i64 (r : Int) ∧ wc = wr.drew)
            case first =>
              go_region_held_law (fun W => W.cell? ⟨b1, o1 + k, none⟩ = some (.int .i64 x)) (first | (with_reducible exact hc1) | go_keep)
                (first
                | (go_at_call 20; (with_reducible refine (HPJ.out _).mono ?_); rintro e w' ⟨rfl, hw⟩; subst w'))
              all_goals
                go_wp2_with fail
                go_meet
                case rel => exact ⟨rfl, rfl, rfl⟩
            case rest =>
              obtain ⟨rfl, rfl, rfl⟩ := hcut
              have c1 := ir_cell HI.out hj
              have c2 := ir_cell HI.out hr
              have f1 := HI.out.own.frozenAt j
              have f2 := HI.out.own.frozenAt r
              have hl := HI.out.lt.2
              have R1 : ∀ mm, Ir (((wr.drewN mm).setCell ⟨w.heap.size, j, none⟩ (.int .i64 (o r : Int))).setCell ⟨w.heap.size, r, none⟩ (.int .i64 (o j : Int))) w.heap.size (.slice (some ⟨w.heap.size, 0, none⟩) i i) i (ri i (swO o j r)) := fun mm => by
                have := ir_set (ir_set (HI.out.drewN mm) j (o r)) r (o j)
                rw [ri_congr (g := swO o j r) (fun q _ => sw_fn1 o j r q)] at this
                exact this
              have R2 : ∀ mm, Ir (((wr.drewN mm).setCell ⟨w.heap.size, r, none⟩ (.int .i64 (o j : Int))).setCell ⟨w.heap.size, j, none⟩ (.int .i64 (o r : Int))) w.heap.size (.slice (some ⟨w.heap.size, 0, none⟩) i i) i (ri i (swO o j r)) := fun mm => by
                have := ir_set (ir_set (HI.out.drewN mm) r (o j)) j (o r)
                rw [ri_congr (g := swO o j r) (fun q _ => sw_fn2 o j r q)] at this
                exact this
              have O : ∀ mm (p q : Nat) (u v : Value), Below w.heap.size w (((wr.drewN mm).setCell ⟨w.heap.size, p, none⟩ u).setCell ⟨w.heap.size, q, none⟩ v) := fun mm p q u v => ((below_drewN HBE.out mm).setCell (p := ⟨w.heap.size, p, none⟩) (Nat.le_refl _) u).setCell (p := ⟨w.heap.size, q, none⟩) (Nat.le_refl _) v
              have H1 := hid_o R1
              have H2 := hid_o R2
              have HO := hid_o O
              have HS := hid_o (swO_in HIN.out hj hr)
              obtain ⟨y1, hy1⟩ : ∃ y : Nat, y = o j := ⟨_, rfl⟩
              obtain ⟨y2, hy2⟩ : ∃ y : Nat, y = o r := ⟨_, rfl⟩
              rw [← hy1] at c1 H1 H2
              rw [← hy2] at c2 H1 H2
              clear R1 R2 O hrem hc1 hb1
              by_cases hjr : j = r
              · subst hjr
                have exy : y1 = y2 := hy1.trans hy2.symm
                subst exy
                have d1 : (wr.setCell ⟨w.heap.size, j, none⟩ (.int .i64 (y1 : Int))).cell? ⟨w.heap.size, j, none⟩ = some (.int .i64 (y1 : Int)) := World.cell?_setCell_same _ _ _ c1
                clear hy1 hy2
                go_wp2
                go_region
                all_goals
                  go_wp2
                  go_roundw
                  case measure => first | (simp [intOf]; done) | (simp [intOf]; omega)
                  case rel => exact ⟨k + 1, swO o j j, by omega, by omega, by go_num, HS.out, by first | exact H1.out 1 | exact H1.out 2, by first | exact HO.out 1 _ _ _ _ | exact HO.out 2 _ _ _ _⟩
              · have d1 : ∀ u, (wr.setCell ⟨w.heap.size, j, none⟩ u).cell? ⟨w.heap.size, r, none⟩ = some (.int .i64 (y2 : Int)) := fun u => by rw [World.cell?_setCell_other _ _ _ _ (by intro e; cases e; exact hjr rfl)]; exact c2
                have d2 : ∀ u, (wr.setCell ⟨w.heap.size, r, none⟩ u).cell? ⟨w.heap.size, j, none⟩ = some (.int .i64 (y1 : Int)) := fun u => by rw [World.cell?_setCell_other _ _ _ _ (by intro e; cases e; exact hjr rfl)]; exact c1
                clear hy1 hy2
                go_wp2
                go_region
                all_goals
                  go_wp2
                  go_roundw
                  case measure => first | (simp [intOf]; done) | (simp [intOf]; omega)
                  case rel => exact ⟨k + 1, swO o j r, by omega, by omega, by go_num, HS.out, by first | exact H1.out 1 | exact H2.out 1 | exact H1.out 2 | exact H2.out 2, by first | exact HO.out 1 _ _ _ _ | exact HO.out 2 _ _ _ _⟩
          · clear hin hI hbel
            by_cases hk1 : k < la
            · have hk3 : k = 200 := by omega
              subst hk3
              clear hk
              go_wp2
              go_meet
              case rel => exact ⟨o, HIN.out, HI.out, HBE.out⟩
            · clear hk
              go_wp2
              go_meet
              case rel => exact ⟨o, HIN.out, HI.out, HBE.out⟩
      case rest =>
        obtain ⟨o, hin, hI, hbel⟩ := hcut
        have HIN := hid_o hin
        have HI := hid_o hI
        have HBE := hid_o hbel
        have h4 := le_4096 hN64 hN64
        have hm := wrap_mul (i := i) (C := i) (by omega) (by omega)
        obtain ⟨T, hT⟩ : ∃ T, T = i * i := ⟨_, rfl⟩
        rw [← hT] at hm h4
        have HT := hid_o hT
        have q2 : k0.bytes * T ≤ 281474976710656 := by rw [kz2]; clear hm; omega
        have q3 : T ≤ maxLen := by unfold maxLen; clear hm; omega
        have H4 := hid_o h4
        clear hT hin hI hbel h4 HI2
        have st : Stg 0 := ⟨trivial⟩
        go_wp2_with (first
          | ((have _ := (st : Stg 0)); at_make; (refine wpList_make_full _ rfl _ _ 25 rfl _ 43 k0 (.complex .f64 0 0) 1 Try.underlying25 ki kz0 kz1 _ _ _ _ T rfl rfl (by first | rfl | exact hm) (by first | rfl | exact hm) q2 q3 (Nat.le_refl _) ?_); intro w3 hown hgrow; (have B3 : Hid (Below wc.heap.size wc w3) := (Below.refl _ _).grown hgrow (Nat.le_refl _) (by intro k hk; simp at hk)); (rw [made_zeroC, ro_zero] at hown); (have R3 : Hid (Rw w3 wc.heap.size (.slice (some ⟨wc.heap.size, 0, none⟩) T T) T (ro T (fun _ => (0, 0)))) := ⟨ro_len _ _, hown⟩); clear hown hgrow st; (have st : Stg 1 := ⟨trivial⟩))
          | ((have _ := (st : Stg 1)); at_make; (refine wpList_make_full _ rfl _ _ 25 rfl _ 43 k0 (.complex .f64 0 0) 1 Try.underlying25 ki kz0 kz1 _ _ _ _ T rfl rfl (by first | rfl | exact hm) (by first | rfl | exact hm) q2 q3 (Nat.le_refl _) ?_); intro w4 hown hgrow; (have B4 : Hid (Below (w3.alloc (.cells #[.int .i64 i, .int .i64 i, .slice (some ⟨wc.heap.size, 0, none⟩) T T] 28)).heap.size (w3.alloc (.cells #[.int .i64 i, .int .i64 i, .slice (some ⟨wc.heap.size, 0, none⟩) T T] 28)) w4) := (Below.refl _ _).grown hgrow (Nat.le_refl _) (by intro k hk; simp at hk)); (rw [made_zeroC, ro_zero] at hown); (have R4 : Hid (Rw w4 (w3.alloc (.cells #[.int .i64 i, .int .i64 i, .slice (some ⟨wc.heap.size, 0, none⟩) T T] 28)).heap.size (.slice (some ⟨(w3.alloc (.cells #[.int .i64 i, .int .i64 i, .slice (some ⟨wc.heap.size, 0, none⟩) T T] 28)).heap.size, 0, none⟩) T T) T (ro T (fun _ => (0, 0)))) := ⟨ro_len _ _, hown⟩); clear hown hgrow st))
        obtain ⟨wb, hwb⟩ : ∃ wb, wb = w3.alloc (.cells #[.int .i64 i, .int .i64 i, .slice (some ⟨wc.heap.size, 0, none⟩) T T] 28) := ⟨_, rfl⟩
        have Bb : Below w3.heap.size w3 wb := by rw [hwb]; exact bal _ _
        have VM0 : V3 w3.heap.size (.int .i64 i) (.int .i64 i) (.slice (some ⟨wc.heap.size, 0, none⟩) T T) wb := by rw [hwb]; exact v3_new _ _ _ _ _
        have hsb : wb.heap.size = w3.heap.size + 1 := by rw [hwb]; simp
        rw [← hwb] at B4 R4
        obtain ⟨wz, hwz⟩ : ∃ wz, wz = w4.alloc (.cells #[.int .i64 i, .int .i64 i, .slice (some ⟨w3.heap.size + 1, 0, none⟩) T T] 28) := ⟨_, rfl⟩
        have Bz : Below w4.heap.size w4 wz := by rw [hwz]; exact bal _ _
        have VB0 : V3 w4.heap.size (.int .i64 i) (.int .i64 i) (.slice (some ⟨w3.heap.size + 1, 0, none⟩) T T) wz := by rw [hwz]; exact v3_new _ _ _ _ _
        rw [← hwz]
        rw [hsb] at R4
        have C1 : Below wb.heap.size wb wz := bt B4.out Bz
        have C2 : Below w3.heap.size w3 wz := bt Bb C1
        have C3 : Below wc.heap.size wc wz := bt B3.out C2
        have ZI := hid_o (HI.out.below C3)
        have ZM : Hid (Rw wz w.heap.size (.slice (some ⟨wc.heap.size, 0, none⟩) T T) T (ro T (fun _ => (0, 0)))) := ⟨(R3.out.below C2).len, own_base (R3.out.below C2).own HBE.out.size⟩
        have ZB : Hid (Rw wz w.heap.size (.slice (some ⟨w3.heap.size + 1, 0, none⟩) T T) T (ro T (fun _ => (0, 0)))) := ⟨(R4.out.below Bz).len, own_base (R4.out.below Bz).own (by have := B3.out.size; have := HBE.out.size; omega)⟩
        have ZVM := hid_o (VM0.below C1)
        have ZVB := hid_o VB0
        have ZBE := hid_o (bt HBE.out C3)
        obtain ⟨gM, hgM⟩ : ∃ g, g = wc.heap.size := ⟨_, rfl⟩
        obtain ⟨pm, hpm⟩ : ∃ g, g = w3.heap.size := ⟨_, rfl⟩
        obtain ⟨gB, hgB⟩ : ∃ g, g = w3.heap.size + 1 := ⟨_, rfl⟩
        obtain ⟨pb, hpb⟩ : ∃ g, g = w4.heap.size := ⟨_, rfl⟩
        have HD : Hid (w.heap.size < gM ∧ gM < pm ∧ pm < gB ∧ gB < pb) := by
          have h1 := HI.out.lt.2
          have h2 := R3.out.lt.2
          have h3 := R4.out.lt.2
          show _ ∧ _ ∧ _ ∧ _
          omega
        rw [← hgM] at ZM ZVM ⊢
        rw [← hgB] at ZB ZVB ⊢
        rw [← hpm] at ZVM ⊢
        rw [← hpb] at ZVB ⊢
        clear hwb hwz hgM hpm hgB hpb hsb Bb Bz B3 B4 R3 R4 C1 C2 C3 VM0 VB0 HI HBE
        go_loopw [14] (fun qv wr => ∃ (q : Nat) (f bk : Nat → Cw), q ≤ i ∧ qv = .int .i64 q ∧ PF i o ys lb q f ∧ PB i o ys lb q bk ∧ Ir wr w.heap.size (.slice (some ⟨w.heap.size, 0, none⟩) i i) i (ri i o) ∧ Rw wr w.heap.size (.slice (some ⟨gM, 0, none⟩) T T) T (ro T f) ∧ Rw wr w.heap.size (.slice (some ⟨gB, 0, none⟩) T T) T (ro T bk) ∧ V3 pm (.int .i64 i) (.int .i64 i) (.slice (some ⟨gM, 0, none⟩) T T) wr ∧ V3 pb (.int .i64 i) (.int .i64 i) (.slice (some ⟨gB, 0, none⟩) T T) wr ∧ Below w.heap.size w wr) (fun qv _ => i - (intOf qv).toNat)
        case atStart => exact ⟨0, _, _, Nat.zero_le _, rfl, PF_0 _ _ _ _, PB_0 _ _ _ _, ZI.out, ZM.out, ZB.out, ZVM.out, ZVB.out, ZBE.out⟩
        case round =>
          clear ZI ZM ZB ZVM ZVB ZBE
          obtain ⟨q, f, bk, hqi, rfl, hf, hbk, hI, hM, hBk, hVM, hVB, hbel⟩ := hrel
          have HF := hid_o hf
          have HK := hid_o hbk
          have HI := hid_o hI
          have HM := hid_o hM
          have HBK := hid_o hBk
          have HVM := hid_o hVM
          have HVB := hid_o hVB
          have HBE := hid_o hbel
          clear hf hbk hI hM hBk hVM hVB hbel hm
          by_cases hlt : q < i
          · by_cases hqb : q < lb
            · obtain ⟨b2, o2, rfl, hb2, hc2⟩ := (HB.out.below HBE.out) q (by rw [hlb]; exact hqb)
              obtain ⟨x, hxe⟩ : ∃ x, x = iat ys q := ⟨_, rfl⟩
              have hTQ : tq ys lb q = pk4 x + 1 := by unfold tq; rw [if_pos hqb, hxe]
              rw [← hxe] at hc2
              have HTQ := hid_o hTQ
              clear hxe hTQ
              obtain ⟨z, hze⟩ : ∃ z : Cw, z = uw (pk4 x) := ⟨_, rfl⟩
              have hzok : okz z := by rw [hze]; exact uw_ok _
              have HZ1 : Hid (eqZ (anz z) (tv (tq ys lb q))) := by rw [hze, HTQ.out]; exact uw_tv (pk4_lt _)
              have HZ2 : Hid (eqZ (anz (z.1, ngW z.2)) (tv (qd 1 (tq ys lb q)))) := by rw [hze, HTQ.out]; exact uw_con (pk4_lt _)
              have HZK := hid_o hzok
              have HU := hid_o (fun W => unit_any x W)
              rw [← hze] at HU
              clear hze hzok
              go_wp2_with (go_at_call 21; (with_reducible refine (HU.out _).mono ?_); rintro e w5 ⟨rfl, hb⟩; (have B5 := hid_o hb); clear hb)
              have I5 := hid_o (HI.out.below B5.out)
              have M5 := hid_o (HM.out.below B5.out)
              have K5 := hid_o (HBK.out.below B5.out)
              have VM5 := hid_o (HVM.out.below B5.out)
              have VB5 := hid_o (HVB.out.below B5.out)
              have BE5 := hid_o (bt HBE.out B5.out)
              have hoq := HIN.out.1 q hlt
              obtain ⟨r, hre⟩ : ∃ r, r = o q := ⟨_, rfl⟩
              have HRE := hid_o hre
              have c1 := ir_cell I5.out hlt
              rw [← hre] at hoq c1
              have G : Hid (∀ mm, Ir ((w5.drewN mm).setCell ⟨gM, q * i + r, none⟩ (cx z)) w.heap.size (.slice (some ⟨w.heap.size, 0, none⟩) i i) i (ri i o) ∧ Rw ((w5.drewN mm).setCell ⟨gM, q * i + r, none⟩ (cx z)) w.heap.size (.slice (some ⟨gM, 0, none⟩) T T) T (ro T (upz f (q * i + r) z)) ∧ Rw ((w5.drewN mm).setCell ⟨gM, q * i + r, none⟩ (cx z)) w.heap.size (.slice (some ⟨gB, 0, none⟩) T T) T (ro T bk) ∧ V3 pm (.int .i64 i) (.int .i64 i) (.slice (some ⟨gM, 0, none⟩) T T) ((w5.drewN mm).setCell ⟨gM, q * i + r, none⟩ (cx z)) ∧ V3 pb (.int .i64 i) (.int .i64 i) (.slice (some ⟨gB, 0, none⟩) T T) ((w5.drewN mm).setCell ⟨gM, q * i + r, none⟩ (cx z)) ∧ Below w.heap.size w ((w5.drewN mm).setCell ⟨gM, q * i + r, none⟩ (cx z))) := fun mm => by
                have D := HD.out
                exact ⟨⟨ri_len _ _, own_at (I5.out.drewN mm).own (fun g hg => by cases hg; exact Below.heap_setCell _ _ _ _ (show w.heap.size ≠ gM by omega))⟩, rw_set (M5.out.drewN mm) (q * i + r) z, ⟨(K5.out.drewN mm).len, own_at (K5.out.drewN mm).own (fun g hg => by cases hg; exact Below.heap_setCell _ _ _ _ (show gB ≠ gM by omega))⟩, (VM5.out.drewN mm).other (q := ⟨gM, q * i + r, none⟩) (show gM ≠ pm by omega) _, (VB5.out.drewN mm).other (q := ⟨gM, q * i + r, none⟩) (show gM ≠ pb by omega) _, (below_drewN BE5.out mm).setCell (p := ⟨gM, q * i + r, none⟩) (show w.heap.size ≤ gM by omega) _⟩
              go_cut [110] (fun _v wc => Ir wc w.heap.size (.slice (some ⟨w.heap.size, 0, none⟩) i i) i (ri i o) ∧ Rw wc w.heap.size (.slice (some ⟨gM, 0, none⟩) T T) T (ro T (upz f (q * i + r) z)) ∧ Rw wc w.heap.size (.slice (some ⟨gB, 0, none⟩) T T) T (ro T bk) ∧ V3 pm (.int .i64 i) (.int .i64 i) (.slice (some ⟨gM, 0, none⟩) T T) wc ∧ V3 pb (.int .i64 i) (.int .i64 i) (.slice (some ⟨gB, 0, none⟩) T T) wc ∧ Below w.heap.size w wc)
              case first =>
                have hp := place_lt hlt hoq
                rw [← HT.out] at hp
                have d2 := rw_cell M5.out hp
                have fz := M5.out.own.frozenAt (q * i + r)
                have gl := M5.out.lt.2
                have v2 := VM5.out.c2
                have vl := VM5.out.lt
                obtain ⟨k1, hke⟩ : ∃ k1, k1 = q * i := ⟨_, rfl⟩
                obtain ⟨kp, hkp⟩ : ∃ kp, kp = q * i + r := ⟨_, rfl⟩
                have HKE := hid_o hkp
                rw [← hkp] at hp d2 fz
                rw [← hke] at hkp
                have e1 : IntKind.i64.wrap ((q : Int) * (i : Int)) = (k1 : Int) := wr_mul (by omega) hN64 hke
                have e2 : IntKind.i64.wrap ((k1 : Int) + (r : Int)) = (kp : Int) := wr_add hkp hp H4.out
                unfold cx at d2
                clear hke hre hkp
                go_region
                all_goals
                  go_wp2_with fail
                  go_meet
                  case rel => (rw [HKE.out]; exact G.out 1)
              case rest =>
                obtain ⟨g1, g2, g3, g4, g5, g6⟩ := hcut
                have I6 := hid_o g1
                have M6 := hid_o g2
                have K6 := hid_o g3
                have VM6 := hid_o g4
                have VB6 := hid_o g5
                have BE6 := hid_o g6
                clear g1 g2 g3 g4 g5 g6 G c1
                have c1 := ir_cell I6.out hlt
                rw [← HRE.out] at c1
                have hp := place_lt hoq hlt
                rw [← HT.out] at hp
                have d2 := rw_cell K6.out hp
                have fz := K6.out.own.frozenAt (r * i + q)
                have gl := K6.out.lt.2
                have v2 := VB6.out.c2
                have vl := VB6.out.lt
                have R : Hid (∀ mm, Ir ((wc.drewN mm).setCell ⟨gB, r * i + q, none⟩ (cx (z.1, ngW z.2))) w.heap.size (.slice (some ⟨w.heap.size, 0, none⟩) i i) i (ri i o) ∧ Rw ((wc.drewN mm).setCell ⟨gB, r * i + q, none⟩ (cx (z.1, ngW z.2))) w.heap.size (.slice (some ⟨gM, 0, none⟩) T T) T (ro T (upz f (q * i + r) z)) ∧ Rw ((wc.drewN mm).setCell ⟨gB, r * i + q, none⟩ (cx (z.1, ngW z.2))) w.heap.size (.slice (some ⟨gB, 0, none⟩) T T) T (ro T (upz bk (r * i + q) (z.1, ngW z.2))) ∧ V3 pm (.int .i64 i) (.int .i64 i) (.slice (some ⟨gM, 0, none⟩) T T) ((wc.drewN mm).setCell ⟨gB, r * i + q, none⟩ (cx (z.1, ngW z.2))) ∧ V3 pb (.int .i64 i) (.int .i64 i) (.slice (some ⟨gB, 0, none⟩) T T) ((wc.drewN mm).setCell ⟨gB, r * i + q, none⟩ (cx (z.1, ngW z.2))) ∧ Below w.heap.size w ((wc.drewN mm).setCell ⟨gB, r * i + q, none⟩ (cx (z.1, ngW z.2)))) := fun mm => by
                  have D := HD.out
                  exact ⟨⟨ri_len _ _, own_at (I6.out.drewN mm).own (fun g hg => by cases hg; exact Below.heap_setCell _ _ _ _ (show w.heap.size ≠ gB by omega))⟩, ⟨(M6.out.drewN mm).len, own_at (M6.out.drewN mm).own (fun g hg => by cases hg; exact Below.heap_setCell _ _ _ _ (show gM ≠ gB by omega))⟩, rw_set (K6.out.drewN mm) (r * i + q) _, (VM6.out.drewN mm).other (q := ⟨gB, r * i + q, none⟩) (show gB ≠ pm by omega) _, (VB6.out.drewN mm).other (q := ⟨gB, r * i + q, none⟩) (show gB ≠ pb by omega) _, (below_drewN BE6.out mm).setCell (p := ⟨gB, r * i + q, none⟩) (show w.heap.size ≤ gB by omega) _⟩
                obtain ⟨k1, hke⟩ : ∃ k1, k1 = r * i := ⟨_, rfl⟩
                obtain ⟨kp, hkp⟩ : ∃ kp, kp = r * i + q := ⟨_, rfl⟩
                have HKE := hid_o hkp
                rw [← hkp] at hp d2 fz
                rw [← hke] at hkp
                have e1 : IntKind.i64.wrap ((r : Int) * (i : Int)) = (k1 : Int) := wr_mul (by omega) hN64 hke
                have e2 : IntKind.i64.wrap ((k1 : Int) + (q : Int)) = (kp : Int) := wr_add hkp hp H4.out
                unfold cx at d2
                clear hke hre hkp
                have HNG := hid_o (ng_neg HZK.out.2)
                have HPF := hid_o (PF_s HF.out hlt HIN.out HZK.out HZ1.out)
                have HPB := hid_o (PB_s HK.out hlt HIN.out (⟨HZK.out.1, ngW_lt HZK.out.2⟩ : okz (z.1, ngW z.2)) HZ2.out)
                rw [← HRE.out] at HPF HPB
                go_wp2
                go_region
                all_goals
                  go_wp2
                  go_roundw
                  case measure => first | (simp [intOf]; done) | (simp [intOf]; omega)
                  case rel =>
                    (have RR := R.out 1)
                    exact ⟨q + 1, _, _, by omega, by go_num, HPF.out, HPB.out, by (rw [HKE.out, HNG.out]; exact RR.1), by (rw [HKE.out, HNG.out]; exact RR.2.1), by (rw [HKE.out, HNG.out]; exact RR.2.2.1), by (rw [HKE.out, HNG.out]; exact RR.2.2.2.1), by (rw [HKE.out, HNG.out]; exact RR.2.2.2.2.1), by (rw [HKE.out, HNG.out]; exact RR.2.2.2.2.2)⟩
            · have hTQ : tq ys lb q = pk4 0 + 1 := by unfold tq; rw [if_neg hqb]
              have HTQ := hid_o hTQ
              clear hTQ
              obtain ⟨z, hze⟩ : ∃ z : Cw, z = uw (pk4 0) := ⟨_, rfl⟩
              have hzok : okz z := by rw [hze]; exact uw_ok _
              have HZ1 : Hid (eqZ (anz z) (tv (tq ys lb q))) := by rw [hze, HTQ.out]; exact uw_tv (pk4_lt _)
              have HZ2 : Hid (eqZ (anz (z.1, ngW z.2)) (tv (qd 1 (tq ys lb q)))) := by rw [hze, HTQ.out]; exact uw_con (pk4_lt _)
              have HZK := hid_o hzok
              have HU := hid_o (fun W => unit_any 0 W)
              rw [← hze] at HU
              clear hze hzok
              go_wp2_with (go_at_call 21; (with_reducible refine (HU.out _).mono ?_); rintro e w5 ⟨rfl, hb⟩; (have B5 := hid_o hb); clear hb)
              have I5 := hid_o (HI.out.below B5.out)
              have M5 := hid_o (HM.out.below B5.out)
              have K5 := hid_o (HBK.out.below B5.out)
              have VM5 := hid_o (HVM.out.below B5.out)
              have VB5 := hid_o (HVB.out.below B5.out)
              have BE5 := hid_o (bt HBE.out B5.out)
              have hoq := HIN.out.1 q hlt
              obtain ⟨r, hre⟩ : ∃ r, r = o q := ⟨_, rfl⟩
              have HRE := hid_o hre
              have c1 := ir_cell I5.out hlt
              rw [← hre] at hoq c1
              have G : Hid (∀ mm, Ir ((w5.drewN mm).setCell ⟨gM, q * i + r, none⟩ (cx z)) w.heap.size (.slice (some ⟨w.heap.size, 0, none⟩) i i) i (ri i o) ∧ Rw ((w5.drewN mm).setCell ⟨gM, q * i + r, none⟩ (cx z)) w.heap.size (.slice (some ⟨gM, 0, none⟩) T T) T (ro T (upz f (q * i + r) z)) ∧ Rw ((w5.drewN mm).setCell ⟨gM, q * i + r, none⟩ (cx z)) w.heap.size (.slice (some ⟨gB, 0, none⟩) T T) T (ro T bk) ∧ V3 pm (.int .i64 i) (.int .i64 i) (.slice (some ⟨gM, 0, none⟩) T T) ((w5.drewN mm).setCell ⟨gM, q * i + r, none⟩ (cx z)) ∧ V3 pb (.int .i64 i) (.int .i64 i) (.slice (some ⟨gB, 0, none⟩) T T) ((w5.drewN mm).setCell ⟨gM, q * i + r, none⟩ (cx z)) ∧ Below w.heap.size w ((w5.drewN mm).setCell ⟨gM, q * i + r, none⟩ (cx z))) := fun mm => by
                have D := HD.out
                exact ⟨⟨ri_len _ _, own_at (I5.out.drewN mm).own (fun g hg => by cases hg; exact Below.heap_setCell _ _ _ _ (show w.heap.size ≠ gM by omega))⟩, rw_set (M5.out.drewN mm) (q * i + r) z, ⟨(K5.out.drewN mm).len, own_at (K5.out.drewN mm).own (fun g hg => by cases hg; exact Below.heap_setCell _ _ _ _ (show gB ≠ gM by omega))⟩, (VM5.out.drewN mm).other (q := ⟨gM, q * i + r, none⟩) (show gM ≠ pm by omega) _, (VB5.out.drewN mm).other (q := ⟨gM, q * i + r, none⟩) (show gM ≠ pb by omega) _, (below_drewN BE5.out mm).setCell (p := ⟨gM, q * i + r, none⟩) (show w.heap.size ≤ gM by omega) _⟩
              go_cut [110] (fun _v wc => Ir wc w.heap.size (.slice (some ⟨w.heap.size, 0, none⟩) i i) i (ri i o) ∧ Rw wc w.heap.size (.slice (some ⟨gM, 0, none⟩) T T) T (ro T (upz f (q * i + r) z)) ∧ Rw wc w.heap.size (.slice (some ⟨gB, 0, none⟩) T T) T (ro T bk) ∧ V3 pm (.int .i64 i) (.int .i64 i) (.slice (some ⟨gM, 0, none⟩) T T) wc ∧ V3 pb (.int .i64 i) (.int .i64 i) (.slice (some ⟨gB, 0, none⟩) T T) wc ∧ Below w.heap.size w wc)
              case first =>
                have hp := place_lt hlt hoq
                rw [← HT.out] at hp
                have d2 := rw_cell M5.out hp
                have fz := M5.out.own.frozenAt (q * i + r)
                have gl := M5.out.lt.2
                have v2 := VM5.out.c2
                have vl := VM5.out.lt
                obtain ⟨k1, hke⟩ : ∃ k1, k1 = q * i := ⟨_, rfl⟩
                obtain ⟨kp, hkp⟩ : ∃ kp, kp = q * i + r := ⟨_, rfl⟩
                have HKE := hid_o hkp
                rw [← hkp] at hp d2 fz
                rw [← hke] at hkp
                have e1 : IntKind.i64.wrap ((q : Int) * (i : Int)) = (k1 : Int) := wr_mul (by omega) hN64 hke
                have e2 : IntKind.i64.wrap ((k1 : Int) + (r : Int)) = (kp : Int) := wr_add hkp hp H4.out
                unfold cx at d2
                clear hke hre hkp
                go_region
                all_goals
                  go_wp2_with fail
                  go_meet
                  case rel => (rw [HKE.out]; exact G.out 1)
              case rest =>
                obtain ⟨g1, g2, g3, g4, g5, g6⟩ := hcut
                have I6 := hid_o g1
                have M6 := hid_o g2
                have K6 := hid_o g3
                have VM6 := hid_o g4
                have VB6 := hid_o g5
                have BE6 := hid_o g6
                clear g1 g2 g3 g4 g5 g6 G c1
                have c1 := ir_cell I6.out hlt
                rw [← HRE.out] at c1
                have hp := place_lt hoq hlt
                rw [← HT.out] at hp
                have d2 := rw_cell K6.out hp
                have fz := K6.out.own.frozenAt (r * i + q)
                have gl := K6.out.lt.2
                have v2 := VB6.out.c2
                have vl := VB6.out.lt
                have R : Hid (∀ mm, Ir ((wc.drewN mm).setCell ⟨gB, r * i + q, none⟩ (cx (z.1, ngW z.2))) w.heap.size (.slice (some ⟨w.heap.size, 0, none⟩) i i) i (ri i o) ∧ Rw ((wc.drewN mm).setCell ⟨gB, r * i + q, none⟩ (cx (z.1, ngW z.2))) w.heap.size (.slice (some ⟨gM, 0, none⟩) T T) T (ro T (upz f (q * i + r) z)) ∧ Rw ((wc.drewN mm).setCell ⟨gB, r * i + q, none⟩ (cx (z.1, ngW z.2))) w.heap.size (.slice (some ⟨gB, 0, none⟩) T T) T (ro T (upz bk (r * i + q) (z.1, ngW z.2))) ∧ V3 pm (.int .i64 i) (.int .i64 i) (.slice (some ⟨gM, 0, none⟩) T T) ((wc.drewN mm).setCell ⟨gB, r * i + q, none⟩ (cx (z.1, ngW z.2))) ∧ V3 pb (.int .i64 i) (.int .i64 i) (.slice (some ⟨gB, 0, none⟩) T T) ((wc.drewN mm).setCell ⟨gB, r * i + q, none⟩ (cx (z.1, ngW z.2))) ∧ Below w.heap.size w ((wc.drewN mm).setCell ⟨gB, r * i + q, none⟩ (cx (z.1, ngW z.2)))) := fun mm => by
                  have D := HD.out
                  exact ⟨⟨ri_len _ _, own_at (I6.out.drewN mm).own (fun g hg => by cases hg; exact Below.heap_setCell _ _ _ _ (show w.heap.size ≠ gB by omega))⟩, ⟨(M6.out.drewN mm).len, own_at (M6.out.drewN mm).own (fun g hg => by cases hg; exact Below.heap_setCell _ _ _ _ (show gM ≠ gB by omega))⟩, rw_set (K6.out.drewN mm) (r * i + q) _, (VM6.out.drewN mm).other (q := ⟨gB, r * i + q, none⟩) (show gB ≠ pm by omega) _, (VB6.out.drewN mm).other (q := ⟨gB, r * i + q, none⟩) (show gB ≠ pb by omega) _, (below_drewN BE6.out mm).setCell (p := ⟨gB, r * i + q, none⟩) (show w.heap.size ≤ gB by omega) _⟩
                obtain ⟨k1, hke⟩ : ∃ k1, k1 = r * i := ⟨_, rfl⟩
                obtain ⟨kp, hkp⟩ : ∃ kp, kp = r * i + q := ⟨_, rfl⟩
                have HKE := hid_o hkp
                rw [← hkp] at hp d2 fz
                rw [← hke] at hkp
                have e1 : IntKind.i64.wrap ((r : Int) * (i : Int)) = (k1 : Int) := wr_mul (by omega) hN64 hke
                have e2 : IntKind.i64.wrap ((k1 : Int) + (q : Int)) = (kp : Int) := wr_add hkp hp H4.out
                unfold cx at d2
                clear hke hre hkp
                have HNG := hid_o (ng_neg HZK.out.2)
                have HPF := hid_o (PF_s HF.out hlt HIN.out HZK.out HZ1.out)
                have HPB := hid_o (PB_s HK.out hlt HIN.out (⟨HZK.out.1, ngW_lt HZK.out.2⟩ : okz (z.1, ngW z.2)) HZ2.out)
                rw [← HRE.out] at HPF HPB
                go_wp2
                go_region
                all_goals
                  go_wp2
                  go_roundw
                  case measure => first | (simp [intOf]; done) | (simp [intOf]; omega)
                  case rel =>
                    (have RR := R.out 1)
                    exact ⟨q + 1, _, _, by omega, by go_num, HPF.out, HPB.out, by (rw [HKE.out, HNG.out]; exact RR.1), by (rw [HKE.out, HNG.out]; exact RR.2.1), by (rw [HKE.out, HNG.out]; exact RR.2.2.1), by (rw [HKE.out, HNG.out]; exact RR.2.2.2.1), by (rw [HKE.out, HNG.out]; exact RR.2.2.2.2.1), by (rw [HKE.out, HNG.out]; exact RR.2.2.2.2.2)⟩
          · have e : q = i := by omega
            subst e
            have hfo : ∀ k, k < q * q → okz (f k) := fun k hk => by
              have := (HF.out (k / q) (k % q) (div_lt' hk).1 (div_lt' hk).2).1
              rw [Nat.div_add_mod' k q] at this
              exact this
            have hbo : ∀ k, k < q * q → okz (bk k) := fun k hk => by
              have := (HK.out (k / q) (k % q) (div_lt' hk).1 (div_lt' hk).2).1
              rw [Nat.div_add_mod' k q] at this
              exact this
            obtain ⟨g, hgo, hMk, hge, n1, n2, hoff⟩ := perm_all hN0 hN64 HIN.out (tq_lt ys lb) hfo (fun r c hr hc => by have := (HF.out r c hr hc).2; rw [if_pos hr] at this; exact this)
            have HEQ : Hid (∀ k, k < T → eqB (zat (ro T g) k).1 (zat (ro T bk) k).1 = true ∧ eqB (zat (ro T g) k).2 (zat (ro T bk) k).2 = true) := fun k hk => by
              rw [ro_at _ hk, ro_at _ hk]
              rw [HT.out] at hk
              obtain ⟨k1, k2⟩ := div_lt' hk
              have a1 := hge _ _ k1 k2
              have a2 := (HK.out _ _ k1 k2).2
              rw [Nat.div_add_mod' k q] at a1 a2
              have hlt5 : (if k / q = o (k % q) then qd 1 (tq ys lb (k % q)) else 0) < 5 := by split; exact qd_lt _ _; omega
              refine eq_tv hlt5 (hgo k hk) (hbo k hk) a1 ?_
              by_cases c : k / q = o (k % q)
              · rw [if_pos ⟨k2, c⟩] at a2; rw [if_pos c]; exact a2
              · rw [if_neg (fun h => c h.2)] at a2; rw [if_neg c]; exact a2
            have hCar := fun (W : World) (A : Option Addr) (c : Nat) (h : Sl W A c (ro (q * q) f)) => car_makes hN64 hfo hgo hMk W A c h
            rw [n1, n2, show crX one1 one1 = one1 from crx11, show crE one1 one1 = 0 from cre11, show crA one1 one1 = 0 from cra11] at hCar
            have hOff := fun (W : World) (A A' : Option Addr) (c c' : Nat) (h : Sl W A c (ro (q * q) f)) (h' : Sl W A' c' (ro (q * q) g)) => off_ok (mx_of hN64 hfo h) (mx_of hN64 hgo h')
            rw [hoff] at hOff
            unfold InvMakes at hMk
            rw [← HT.out] at hMk hCar hOff
            have HMK := hid_o hMk
            have HCA := hid_o hCar
            have HOF := hid_o hOff
            have HL : Hid (T ≤ 65536) := Nat.le_trans H4.out (Nat.le_of_ble_eq_true rfl)
            clear hMk hCar hOff n1 n2 hoff hge hgo hfo hbo hqi hlt HA HB HP HI HIN HF HK
            obtain ⟨vl, v0, v1, v2, _, _, _⟩ := HVM.out
            have SM := hid_o (rw_sl HM.out)
            have hoX : FloatKind.f64.format.order 4607182418800017408 4607182418800017408 = some .eq := by kernel_rfl
            have hoZ : FloatKind.f64.format.order 0 0 = some .eq := by kernel_rfl
            go_wp2_with (first
              | (go_at_call 13; (with_reducible refine (HMK.out _ _ _ (sl_cap SM.out) SM.out.rd).mono ?_); rintro e w7 ⟨B, rfl, hR, hb⟩; (have VW := hid_o ((v3_new w7 (.int .i64 q) (.int .i64 q) (.slice (some ⟨B, 0, none⟩) T T) 28).below (bal _ (.cells #[.int .i64 0, .int .i64 0] 39)))); (have VF := hid_o (v2_at (w7.alloc (.cells #[.int .i64 q, .int .i64 q, .slice (some ⟨B, 0, none⟩) T T] 28)) (.int .i64 0) (.int .i64 0) 39 (show (w7.alloc (.cells #[.int .i64 q, .int .i64 q, .slice (some ⟨B, 0, none⟩) T T] 28)).heap.size = w7.heap.size + 1 by simp))); (have RW7 := hid_o ((hR.below (bal _ (.cells #[.int .i64 q, .int .i64 q, .slice (some ⟨B, 0, none⟩) T T] 28))).below (bal _ (.cells #[.int .i64 0, .int .i64 0] 39)))); (have BY := bt (bt hb (bal _ (.cells #[.int .i64 q, .int .i64 q, .slice (some ⟨B, 0, none⟩) T T] 28))) (bal _ (.cells #[.int .i64 0, .int .i64 0] 39))); (have BM := hid_o BY); (have BN := hid_o (Below.refl ((w7.alloc (.cells #[.int .i64 q, .int .i64 q, .slice (some ⟨B, 0, none⟩) T T] 28)).alloc (.cells #[.int .i64 0, .int .i64 0] 39)).heap.size ((w7.alloc (.cells #[.int .i64 q, .int .i64 q, .slice (some ⟨B, 0, none⟩) T T] 28)).alloc (.cells #[.int .i64 0, .int .i64 0] 39)))); (clear vl v0 v1 v2); (obtain ⟨vl, v0, v1, v2, _, _, _⟩ := HVM.out.below BY); clear hR hb BY)
              | (go_at_call 15; (with_reducible refine (HCA.out _ _ _ (SM.out.below BM.out)).mono ?_); rintro e w8 ⟨rfl, hb⟩; (have VG := hid_o (v2_new w8 (.int .i64 0) (.int .i64 0) 39)); (have BY := bt (bt BM.out hb) (bal _ (.cells #[.int .i64 0, .int .i64 0] 39))); (replace BM := hid_o BY); (replace BN := hid_o (bt (bt BN.out hb) (bal _ (.cells #[.int .i64 0, .int .i64 0] 39)))); (have BO := hid_o (Below.refl (w8.alloc (.cells #[.int .i64 0, .int .i64 0] 39)).heap.size (w8.alloc (.cells #[.int .i64 0, .int .i64 0] 39)))); (clear vl v0 v1 v2); (obtain ⟨vl, v0, v1, v2, _, _, _⟩ := HVM.out.below BY); (obtain ⟨wl, x0, x1, x2, _, _, _⟩ := VW.out.below BN.out); clear hb BY)
              | (go_at_call 9; (with_reducible refine (HOF.out _ _ _ _ _ (SM.out.below BM.out) (rw_sl (RW7.out.below BN.out))).mono ?_); rintro e w9 ⟨rfl, hb⟩; (replace BM := hid_o (bt BM.out hb)); (replace BN := hid_o (bt BN.out hb)); (replace BO := hid_o (bt BO.out hb)); (clear vl v0 v1 v2 wl x0 x1 x2); (obtain ⟨wl, x0, x1, x2, _, _, _⟩ := VW.out.below BN.out); (obtain ⟨bl, b0, b1, b2, _, _, _⟩ := HVB.out.below BM.out); (obtain ⟨fl, f0, f1, _, _⟩ := VF.out.below BN.out); (obtain ⟨gl, g0, g1, _, _⟩ := VG.out.below BO.out); clear hb)
              | (go_at_call 18; (with_reducible refine (keqM q q (ro_len T _) (ro_len T _) (RW7.out.below BN.out).rc (HBK.out.below BM.out).rc HL.out HEQ.out).mono ?_); rintro e w10 ⟨rfl, hb⟩; (replace BM := hid_o (bt BM.out hb)); clear hb)
              | (go_at_call 19; (with_reducible refine (awake12 _).mono ?_); rintro e w11 ⟨rfl, hb⟩; (replace BM := hid_o (bt BM.out hb)); clear hb))
            go_ret
            exact ⟨rfl, bt HBE.out BM.out⟩

end Go.Proofs.Ytomllbpkjhoepaa
