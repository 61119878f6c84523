/-
  The walk of RealAll: whatever list it is called with, it hands back true and only lays new memory.
-/
import Derived.Test.YtggnilfphnnpkaaWExact
import Derived.Test.YtggnilfphnnpkaaFls
import Derived.Deep.CutRange
import Derived.Deep.DeepCutAuto
import Derived.RegionTactic
namespace Go.Proofs.Ytggnilfphnnpkaa
open Fl RowKit

/-- the sum of the first k -/
def sumV (xs : List Nat) : Nat → Int
  | 0 => 0
  | k + 1 => sumV xs k + val (xs.getD k 0)
/-- the sum of the first k errors -/
def errV (es : List Nat) : Nat → Int
  | 0 => 0
  | k + 1 => errV es k + val (es.getD k 0)
/-- a number that is asked: at most two to the 1022 by size -/
def sml (x : Nat) : Bool := !nan x && decide (mg x ≤ 9209861237972664320)
/-- the running sum behind k numbers -/
def atO (xs : List Nat) (k : Nat) : Nat := (sumO (xs.take k)).getD 0
theorem leq_sml (x : Nat) : (FloatKind.f64.format.order (mg x) 9209861237972664320 == some .lt || FloatKind.f64.format.order (mg x) 9209861237972664320 == some .eq) = sml x := by
  cases hn : nan x
  · rw [leq_H hn]; unfold sml; rw [hn]; simp
  · rw [f64_double, order_eq, nan_mg, hn]; unfold sml; rw [hn]; simp
theorem sml_fin {x : Nat} (h : sml x = true) : fin x ∧ (val x).natAbs ≤ HH := by
  unfold sml at h; simp at h
  refine ⟨?_, le_H h.2⟩
  unfold fin; omega
theorem sml_zero : sml 0 = true := by decide

structure AllRel (ys : List Nat) (w1 : World) (k av : Nat) (wr : World) : Prop where
  run : rep (sumO (ys.take k)) av
  small : ∀ j, j < k → sml (ys.getD j 0) = true ∧ ∃ a, sumO (ys.take (j + 1)) = some a ∧ sml a = true
  all : ∃ Z, Blk wr w1.heap.size Z ∧ okL Z ∧ Lv Z = EV (sumV ys k)
  told : Blk wr (w1.heap.size + 1) zer
  bel : Below w1.heap.size w1 wr
theorem sml_nan {x : Nat} (h : nan x = true) : sml x = false := by unfold sml; rw [h]; rfl
theorem sumO_ans {ys : List Nat} {k av : Nat} (h : rep (sumO (ys.take k)) av) (hk : k < ys.length) : sumO (ys.take (k + 1)) = addO av (ys.getD k 0) := by
  rw [sumO_succ ys k hk, ← h.2]
  unfold tsS
  cases h1 : nan av
  · cases h2 : nan (ys.getD k 0)
    · rw [ans_num h1, ans_num h2]; rfl
    · rw [ans_nan h2, add_nan (Or.inr h2)]; unfold addA; cases ans av <;> rfl
  · rw [ans_nan h1, add_nan (Or.inl h1)]; rfl
/-- the running sums, where all is small -/
theorem run_small {ys : List Nat} {k : Nat} (h : ∀ j, j < k → sml (ys.getD j 0) = true ∧ ∃ a, sumO (ys.take (j + 1)) = some a ∧ sml a = true) (j : Nat) (hj : j ≤ k) : ∃ a, sumO (ys.take j) = some a ∧ sml a = true := by
  cases j with
  | zero => exact ⟨0, rfl, sml_zero⟩
  | succ j => exact (h j (by omega)).2
/-- the errors, where all is small: finite, and together with the running sum just the sum -/
theorem err_small {ys es : List Nat} {n : Nat} (hn : n = ys.length) (h : ∀ j, j < n → sml (ys.getD j 0) = true ∧ ∃ a, sumO (ys.take (j + 1)) = some a ∧ sml a = true)
    (he : ∀ j, j < n → rep (errO ys j) (es.getD j 0)) : (∀ j, j < n → fin (es.getD j 0)) ∧ ∀ k, k ≤ n → ∀ a, sumO (ys.take k) = some a → val a + errV es k = sumV ys k := by
  have step : ∀ j, j < n → ∃ a b, sumO (ys.take j) = some a ∧ sumO (ys.take (j + 1)) = some b ∧ fin (es.getD j 0) ∧ val b + val (es.getD j 0) = val a + val (ys.getD j 0) := by
    intro j hj
    obtain ⟨a, ha, sa⟩ := run_small h j (by omega)
    obtain ⟨hy, b, hb, _⟩ := h j hj
    have fa := sml_fin sa
    have fy := sml_fin hy
    obtain ⟨s, e, h1, h2, h3, h4, h5, h6⟩ := ts_exact fa.1 fy.1 fa.2 fy.2
    have e1 : tsS (sumO (ys.take j)) (ans (ys.getD j 0)) = some s := by rw [ha, ← ans_fin fa.1]; exact h1
    rw [← sumO_succ ys j (by omega), hb] at e1
    have e2 : errO ys j = some e := by unfold errO; rw [ha, ← ans_fin fa.1]; exact h2
    have e3 := rep_is (he j hj) e2
    refine ⟨a, b, ha, hb, by rw [e3]; exact h4, ?_⟩
    rw [e3]; cases e1; exact h6
  refine ⟨fun j hj => by obtain ⟨a, b, _, _, hf, _⟩ := step j hj; exact hf, ?_⟩
  intro k
  induction k with
  | zero => intro _ a ha; cases ha; rfl
  | succ k ih =>
    intro hk b hb
    obtain ⟨a, b', ha, hb', _, hv⟩ := step k (by omega)
    rw [hb] at hb'; cases hb'
    have := ih (by omega) a ha
    show val b + (errV es k + val (es.getD k 0)) = sumV ys k + val (ys.getD k 0)
    omega
theorem blk_drew {w : World} {b : Nat} {L : List Nat} (h : Blk w b L) : Blk w.drew b L := h
theorem EV_sum (u v : Int) {A B C : Nat} (h : C = (A + B) % MM) (hA : A = EV u) (hB : B = EV v) : C = EV (u + v) := by rw [h, hA, hB, EV_add]
theorem all_step {ys : List Nat} {wc wr w2 : World} {k av a : Nat} {Z A1 Z2 : List Nat} (h : AllRel ys wc k av wr) (_ : k < ys.length) (hsum : sumO (ys.take (k + 1)) = some a) (la : a < 18446744073709551616) (na : nan a = false)
    (sx : sml (ys.getD k 0) = true) (sa : sml a = true) (vZ : Lv Z = EV (sumV ys k)) (vA : Lv A1 = EV (val (ys.getD k 0))) (oZ2 : okL Z2) (vZ2 : Lv Z2 = (Lv Z + Lv A1) % MM)
    (hb : Below wr.heap.size wr w2) (hblk : Blk w2 wc.heap.size Z) : AllRel ys wc (k + 1) a (w2.setRow wc.heap.size (lim Z2)) := by
  refine ⟨⟨la, by rw [hsum]; exact ans_num na⟩, ?_, ⟨Z2, hblk.setRow Z2, oZ2, EV_sum _ _ vZ2 vZ vA⟩, ?_, ?_⟩
  · intro j hj
    rcases Nat.lt_or_ge j k with h1 | h1
    · exact h.small j h1
    · have : j = k := by omega
      subst this; exact ⟨sx, a, hsum, sa⟩
  · exact (h.told.below hb).rowOther _ _ (by omega)
  · exact below_setRow (h.bel.trans (hb.mono h.bel.size)) _ _ (Nat.le_refl _)
structure TolRel (es : List Nat) (wc : World) (s g n : Nat) (Za : List Nat) (k : Nat) (wr : World) : Prop where
  told : ∃ Z, Blk wr (wc.heap.size + 1) Z ∧ okL Z ∧ Lv Z = EV (val s + errV es k)
  all : Blk wr wc.heap.size Za
  cells : ∀ j, j < n → wr.cell? ⟨g, j, none⟩ = some (.float .f64 (es.getD j 0))
  bel : Below wc.heap.size wc wr
theorem TolRel.drewN {es : List Nat} {wc wr : World} {s g n k : Nat} {Za : List Nat} (h : TolRel es wc s g n Za k wr) (m : Nat) : TolRel es wc s g n Za k (wr.drewN m) := ⟨h.told, h.all, h.cells, below_drewN h.bel m⟩
theorem cell_setRow_other (w : World) (g c : Nat) (K : Array Value) (a : Nat) (h : g ≠ c) : (w.setRow c K).cell? ⟨g, a, none⟩ = w.cell? ⟨g, a, none⟩ := by
  refine World.cell?_of_block ?_
  show (w.setRow c K).heap[g]? = w.heap[g]?
  unfold World.setRow; simp [Array.getElem?_modify, Ne.symm h]
theorem tol_step {es : List Nat} {wc wr w2 : World} {s g n k : Nat} {Za Z A1 Z2 : List Nat} (h : TolRel es wc s g n Za k wr) (hg : g ≠ wc.heap.size + 1) (vZ : Lv Z = EV (val s + errV es k)) (vA : Lv A1 = EV (val (es.getD k 0)))
    (oZ2 : okL Z2) (vZ2 : Lv Z2 = (Lv Z + Lv A1) % MM) (hb : Below wr.heap.size wr w2) (hblk : Blk w2 (wc.heap.size + 1) Z) : TolRel es wc s g n Za (k + 1) (w2.setRow (wc.heap.size + 1) (lim Z2)) := by
  refine ⟨⟨Z2, hblk.setRow Z2, oZ2, ?_⟩, (h.all.below hb).rowOther _ _ (by omega), ?_, ?_⟩
  · rw [EV_sum _ _ vZ2 vZ vA]; congr 1; show val s + errV es k + val (es.getD k 0) = val s + (errV es k + val (es.getD k 0)); omega
  · intro j hj
    rw [cell_setRow_other _ _ _ _ _ hg]
    have hc := h.cells j hj
    exact (hb.cell (by exact block_lt_of_cell hc)).trans hc
  · exact below_setRow (h.bel.trans (hb.mono h.bel.size)) _ _ (by omega)
theorem sumRel_get {xs : List Nat} {w wr : World} {k sv : Nat} {es : List Nat} (h : SumRel xs w k sv es wr) {j : Nat} (hj : j < xs.length) : wr.cell? ⟨w.heap.size, j, none⟩ = some (.float .f64 (es.getD j 0)) := by
  obtain ⟨_, h2, _, h4, _⟩ := h
  rw [h4.cellAt j (by omega), List.getElem?_map]
  have : j < es.length := by omega
  simp [List.getD_eq_getElem?_getD, this]
theorem sum_is {ys es : List Nat} {w w' : World} {s a : Nat} (h : SumRel ys w ys.length s es w') (ha : sumO (ys.take ys.length) = some a) : s = a := rep_is h.1 ha
theorem sum_is2 {ys : List Nat} {s a : Nat} (h : rep (sumO ys) s) (ha : sumO (ys.take ys.length) = some a) : s = a := by rw [List.take_length] at ha; exact rep_is h ha
theorem wpList_load_rowG {P : Program} {ops : Array Oper} {rest : List Oper} {o : Oper} {a : Act} {w : World} {Q : Exit → Act → World → Prop} (hw : Region.wanted o (yielded ops a.tmps) = true) (ty : TypeId) (x : Operand) (ho : o.op = .load ty x)
    (g : Nat) (hx : a.eval x = .pointer (some ⟨g, 0, none⟩)) (t : TypeId) (cs : Array Value) (fr : Nat × Nat) (d : TypeDesc) (hg : w.heap[g]? = some (.cells cs t fr))
    (hu : P.underlying ty = some d) (hd : (match d with | .struct _ | .array _ _ => true | _ => false) = true) (hi : (P.info? ty).map (·.size) = some cs.size)
    (h : wpList P ops Q rest (a.put o.dst (.agg cs)) w) : wpList P ops Q (o :: rest) a w :=
  wpList_step fun K hK => by rw [if_pos hw]; exact wp_load_row ty x ho g hx t cs fr d hg hu hd hi (hK _ _ h)
theorem cells_below {w w' : World} {ao : Option Addr} {xs : List Nat} (hc : ∀ k, k < xs.length → ∃ b off, ao = some ⟨b, off, none⟩ ∧ b < w.heap.size ∧ w.cell? ⟨b, off + k, none⟩ = some (.int .u64 ((xs.getD k 0 : Nat) : Int))) (hb : Below w.heap.size w w') :
    ∀ k, k < xs.length → ∃ b off, ao = some ⟨b, off, none⟩ ∧ b < w'.heap.size ∧ w'.cell? ⟨b, off + k, none⟩ = some (.int .u64 ((xs.getD k 0 : Nat) : Int)) := by
  intro k hk
  obtain ⟨b, off, h1, h2, h3⟩ := hc k hk
  exact ⟨b, off, h1, Nat.lt_of_lt_of_le h2 hb.size, (hb.cell (by exact h2)).trans h3⟩
set_option maxRecDepth 100000 in
set_option maxHeartbeats 4000000 in
theorem all_walk (ao : Option Addr) (cap : Nat) (xs : List Nat) (w : World) (hsz : xs.length * 8 ≤ 140737488355328)
    (hc : ∀ k, k < xs.length → ∃ b off, ao = some ⟨b, off, none⟩ ∧ b < w.heap.size ∧ w.cell? ⟨b, off + k, none⟩ = some (.int .u64 ((xs.getD k 0 : Nat) : Int))) (hx : ∀ k, xs.getD k 0 < 18446744073709551616) :
    Calls Try.prog 8 #[.slice ao xs.length cap] w fun e w' => e = .returned (.bool true) ∧ Below w.heap.size w w' := by
  go_enter Try.func8, Try.ntmps8
  go_upto_if 17 with (first
    | (go_at_call 33; refine (awake_yes _).mono ?_; rintro e wA ⟨rfl, hbA⟩; have hc2 := cells_below hc hbA)
    | (go_at_call 24; refine (floats_any _ _ _ _ hsz hc2).mono ?_; rintro e wB ⟨v, rfl, hown, hbB⟩; obtain ⟨bo, bc, rfl, hSl⟩ := own_sl hown))
  have hAB := bt hbA hbB
  clear hc hc2 hown hbB hbA
  go_cut [4] (fun v wc => ∃ (co : Option Addr) (cc : Nat) (ys : List Nat), v = .slice co ys.length cc ∧ ys.length ≤ 500 ∧ Sl wc co cc ys ∧ (∀ k, ys.getD k 0 < 18446744073709551616) ∧ Below w.heap.size w wc)
  case first =>
    by_cases h5 : 500 < xs.length
    · rcases hSl.shape with ⟨_, h0⟩ | ⟨g, off, rfl⟩
      · omega
      · have hcap := hSl.cap
        go_wp2
        go_meet
        case rel =>
          have hl : (xs.take 500).length = 500 := by rw [List.length_take]; omega
          refine ⟨some ⟨g, off, none⟩, bc, xs.take 500, by rw [hl], by omega, ?_, ?_, hAB⟩
          · refine ⟨?_, .inr ⟨g, off, rfl⟩, by omega⟩
            intro k hk
            rw [hl] at hk
            have e : (xs.take 500).getD k 0 = xs.getD k 0 := by simp [List.getD_eq_getElem?_getD, hk]
            rw [e]; exact hSl.rd k (by omega)
          · intro k
            rw [List.getD_eq_getElem?_getD, List.getElem?_take]
            split
            · rw [← List.getD_eq_getElem?_getD]; exact hx k
            · simp
    · go_wp2
      go_meet
      case rel => exact ⟨bo, bc, xs, rfl, by omega, hSl, hx, hAB⟩
  case rest =>
    obtain ⟨co, cc, ys, rfl, hl5, hSy, hy, hAC⟩ := hcut
    clear hSl hAB hx
    have hA := (Blk.fresh (w := wc)).old (.cells Try.zeroCells54 54)
    have hB := Blk.fresh (w := wc.alloc (.cells Try.zeroCells54 54))
    have hbel := ((Below.refl wc.heap.size wc).alloc (o := .cells Try.zeroCells54 54) (Nat.le_refl _)).alloc (o := .cells Try.zeroCells54 54) (by simp)
    rw [World.size_alloc] at hB
    have hL := leq_sml
    have R0 : AllRel ys wc 0 0 ((wc.alloc (.cells Try.zeroCells54 54)).alloc (.cells Try.zeroCells54 54)) := by
      refine ⟨⟨by decide, rfl⟩, fun j hj => by omega, ⟨zer, hA, zer_ok, ?_⟩, hB, hbel⟩
      rw [Lv_zer]; unfold EV sumV; rw [Int.zero_mul]; exact (emb_nat MM_pos).symm
    clear hA hB hbel
    go_upto_region 8 with fail
    go_loopw [7, 8] (fun a i wr => ∃ k av : Nat, k ≤ ys.length ∧ i = .int .i64 k ∧ a = .float .f64 av ∧ AllRel ys wc k av wr) (fun _ i _ => ys.length - (intOf i).toNat)
    case atStart => exact ⟨0, 0, Nat.zero_le _, rfl, rfl, R0⟩
    case round =>
      clear R0
      obtain ⟨k, av, hk, rfl, rfl, R⟩ := hrel
      have hyk := hy k
      have hav := R.run.1
      obtain ⟨x, hxe⟩ : ∃ x, x = ys.getD k 0 := ⟨_, rfl⟩
      have HX : Hid (x = ys.getD k 0) := hxe
      rw [← hxe] at hyk
      have hbw := R.bel
      by_cases hlt : k < ys.length
      · obtain ⟨b, off, rfl, hb, hcx⟩ := hSy.rd.below R.bel k hlt
        rw [← hxe] at hcx
        have hsa := sumO_ans R.run hlt
        rw [← hxe] at hsa
        have HR : Hid (AllRel ys wc k av wr) := R
        have HS : Hid (sumO (ys.take (k + 1)) = addO av x) := hsa
        clear R hxe hsa hSy hy
        cases sx : sml x
        · go_wp2_with (go_at_call 36; refine (abs_any _ _ hyk).mono ?_; rintro e w' ⟨rfl, rfl⟩)
          go_ret
          exact ⟨rfl, bn (bt hAC hbw) _⟩
        · cases ha : addO av x with
          | none =>
            have hs : ∀ W, sml (addV W av x) = false := by
              intro W
              have h := rep_addV av x W
              rw [ha] at h
              exact sml_nan (ans_none h.2)
            have hv : ∀ W, addV W av x < 18446744073709551616 := fun W => (rep_addV av x W).1
            clear ha
            go_wp2_with (first | (go_at_call 36; with_reducible refine (abs_any _ _ hyk).mono ?_; rintro e w' ⟨rfl, rfl⟩) | (go_at_call 36; with_reducible refine (abs_any _ _ (hv _)).mono ?_; rintro e w' ⟨rfl, rfl⟩))
            go_ret
            exact ⟨rfl, bn (bt hAC hbw) _⟩
          | some a =>
            have hv := addV_of ha
            have hn := fN_of ha
            have dz := World.drewN_zero
            have la := (add_bd ha).1
            have HA : Hid (addO av x = some a) := ha
            clear ha
            cases sa : sml a
            · go_wp2_with (first | (go_at_call 36; with_reducible refine (abs_any _ _ hyk).mono ?_; rintro e w' ⟨rfl, rfl⟩) | (go_at_call 36; with_reducible refine (abs_any _ _ la).mono ?_; rintro e w' ⟨rfl, rfl⟩))
              go_ret
              exact ⟨rfl, bt hAC hbw⟩
            · go_upto_region 13 with (first | (go_at_call 36; with_reducible refine (abs_any _ _ hyk).mono ?_; rintro e w' ⟨rfl, rfl⟩) | (go_at_call 36; with_reducible refine (abs_any _ _ la).mono ?_; rintro e w' ⟨rfl, rfl⟩))
              obtain ⟨Z, hZ1, oZ, vZ⟩ := HR.out.all
              obtain ⟨fx, _⟩ := sml_fin sx
              refine wp_region_any (by kernel_rfl) ?_
              change wpAny _ _ _ _ _ _ _ (World.drew _)
              refine wpAny_take (i := 1) (v := .slice (some ⟨b, off, none⟩) ys.length cc) rfl (by kernel_rfl) (by kernel_rfl) (by kernel_rfl) (fun _ _ _ h => h) (Or.inl ⟨by rfl, ?_⟩) ?_
              · intro w; go_simp
              refine wpAny_take (i := 2) (v := .int .i64 (k : Int)) rfl (by kernel_rfl) (by kernel_rfl) (by kernel_rfl) (fun _ _ _ h => h) (Or.inl ⟨by rfl, ?_⟩) ?_
              · intro w; go_simp
              refine wpAny_take (i := 3) (v := .pointer (some ⟨b, off + k, none⟩)) rfl (by kernel_rfl) (by kernel_rfl) (by kernel_rfl) (fun _ _ _ h => h) (Or.inl ⟨by rfl, ?_⟩) ?_
              · intro w; go_simp
              refine wpAny_ready (rs := [0, 4]) (by kernel_rfl) (by simp) ?_
              refine AllReady.cons rfl (fun K hK => ?_) (AllReady.cons rfl (fun K hK => ?_) AllReady.nil)
              · rw [if_pos (by rfl)]
                refine wp_load_row 54 (.tmp 5) rfl wc.heap.size rfl 54 (lim Z) (0, 0) _ hZ1 Try.underlying54 rfl (infoL oZ) ?_
                refine hK _ _ ?_
                clear hK K
                refine wpAny_ready (rs := [4]) (by kernel_rfl) (by simp) ?_
                refine AllReady.cons rfl (fun K hK => ?_) AllReady.nil
                go_simp
                refine hK _ _ ?_
                clear hK K
                refine wpAny_ready (rs := [5]) (by kernel_rfl) (by simp) ?_
                refine AllReady.cons rfl (fun K hK => ?_) AllReady.nil
                go_simp
                refine (of_any x _ hyk fx).mono ?_
                rintro e w1 ⟨A1, rfl, oA, vA, bA⟩
                have hZb := Blk.below (blk_drew hZ1) bA
                go_wp2_with fail
                refine wpAny_ready (rs := [6]) (by kernel_rfl) (by simp) ?_
                refine AllReady.cons rfl (fun K hK => ?_) AllReady.nil
                go_simp
                refine (plus_any Z A1 _ oZ oA).mono ?_
                rintro e w2 ⟨Z2, rfl, oZ2, vZ2, bP⟩
                have hZc := Blk.below hZb bP
                go_wp2_with fail
                refine wpAny_ready (rs := [7]) (by kernel_rfl) (by simp) ?_
                refine AllReady.cons rfl (fun K hK => ?_) AllReady.nil
                rw [if_pos (by rfl)]
                refine wp_store_row 54 (.tmp 5) (.tmp 51) rfl wc.heap.size (lim Z2) rfl rfl 54 (lim Z) hZc (infoL oZ2) (by rw [lim_size, lim_size, oZ.len, oZ2.len]) (lim_one _) ?_
                refine hK _ _ ?_
                clear hK K
                refine wpAny_done (by kernel_rfl) ?_ _
                go_wp2
                go_roundw
                case rel => exact ⟨k + 1, a, by omega, by go_num, rfl, all_step HR.out hlt (HS.out.trans HA.out) la (add_bd HA.out).2 (by rw [← HX.out]; exact sx) sa vZ (by rw [← HX.out]; exact vA) oZ2 vZ2 (bt ((Below.refl _ _).drew.trans bA) bP) hZc⟩
                case measure => simp [intOf]; omega
              · go_simp
                refine hK _ _ ?_
                clear hK K
                refine wpAny_ready (rs := [0, 5]) (by kernel_rfl) (by simp) ?_
                refine AllReady.cons rfl (fun K hK => ?_) (AllReady.cons rfl (fun K hK => ?_) AllReady.nil)
                · rw [if_pos (by rfl)]
                  refine wp_load_row 54 (.tmp 5) rfl wc.heap.size rfl 54 (lim Z) (0, 0) _ hZ1 Try.underlying54 rfl (infoL oZ) ?_
                  refine hK _ _ ?_
                  clear hK K
                  refine wpAny_ready (rs := [5]) (by kernel_rfl) (by simp) ?_
                  refine AllReady.cons rfl (fun K hK => ?_) AllReady.nil
                  go_simp
                  refine (of_any x _ hyk fx).mono ?_
                  rintro e w1 ⟨A1, rfl, oA, vA, bA⟩
                  have hZb := Blk.below (blk_drew hZ1) bA
                  go_wp2_with fail
                  refine wpAny_ready (rs := [6]) (by kernel_rfl) (by simp) ?_
                  refine AllReady.cons rfl (fun K hK => ?_) AllReady.nil
                  go_simp
                  refine (plus_any Z A1 _ oZ oA).mono ?_
                  rintro e w2 ⟨Z2, rfl, oZ2, vZ2, bP⟩
                  have hZc := Blk.below hZb bP
                  go_wp2_with fail
                  refine wpAny_ready (rs := [7]) (by kernel_rfl) (by simp) ?_
                  refine AllReady.cons rfl (fun K hK => ?_) AllReady.nil
                  rw [if_pos (by rfl)]
                  refine wp_store_row 54 (.tmp 5) (.tmp 51) rfl wc.heap.size (lim Z2) rfl rfl 54 (lim Z) hZc (infoL oZ2) (by rw [lim_size, lim_size, oZ.len, oZ2.len]) (lim_one _) ?_
                  refine hK _ _ ?_
                  clear hK K
                  refine wpAny_done (by kernel_rfl) ?_ _
                  go_wp2
                  go_roundw
                  case rel => exact ⟨k + 1, a, by omega, by go_num, rfl, all_step HR.out hlt (HS.out.trans HA.out) la (add_bd HA.out).2 (by rw [← HX.out]; exact sx) sa vZ (by rw [← HX.out]; exact vA) oZ2 vZ2 (bt ((Below.refl _ _).drew.trans bA) bP) hZc⟩
                  case measure => simp [intOf]; omega
                · go_simp
                  refine (of_any x _ hyk fx).mono ?_
                  rintro e w1 ⟨A1, rfl, oA, vA, bA⟩
                  have hZb := Blk.below (blk_drew hZ1) bA
                  go_wp2_with fail
                  refine wpAny_ready (rs := [0]) (by kernel_rfl) (by simp) ?_
                  refine AllReady.cons rfl (fun K hK => ?_) AllReady.nil
                  rw [if_pos (by rfl)]
                  refine wp_load_row 54 (.tmp 5) rfl wc.heap.size rfl 54 (lim Z) (0, 0) _ hZb Try.underlying54 rfl (infoL oZ) ?_
                  refine hK _ _ ?_
                  clear hK K
                  refine wpAny_ready (rs := [6]) (by kernel_rfl) (by simp) ?_
                  refine AllReady.cons rfl (fun K hK => ?_) AllReady.nil
                  go_simp
                  refine (plus_any Z A1 _ oZ oA).mono ?_
                  rintro e w2 ⟨Z2, rfl, oZ2, vZ2, bP⟩
                  have hZc := Blk.below hZb bP
                  go_wp2_with fail
                  refine wpAny_ready (rs := [7]) (by kernel_rfl) (by simp) ?_
                  refine AllReady.cons rfl (fun K hK => ?_) AllReady.nil
                  rw [if_pos (by rfl)]
                  refine wp_store_row 54 (.tmp 5) (.tmp 51) rfl wc.heap.size (lim Z2) rfl rfl 54 (lim Z) hZc (infoL oZ2) (by rw [lim_size, lim_size, oZ.len, oZ2.len]) (lim_one _) ?_
                  refine hK _ _ ?_
                  clear hK K
                  refine wpAny_done (by kernel_rfl) ?_ _
                  go_wp2
                  go_roundw
                  case rel => exact ⟨k + 1, a, by omega, by go_num, rfl, all_step HR.out hlt (HS.out.trans HA.out) la (add_bd HA.out).2 (by rw [← HX.out]; exact sx) sa vZ (by rw [← HX.out]; exact vA) oZ2 vZ2 (bt ((Below.refl _ _).drew.trans bA) bP) hZc⟩
                  case measure => simp [intOf]; omega
      · have e : k = ys.length := by omega
        subst e
        obtain ⟨a, hsa, sa⟩ := run_small R.small ys.length (Nat.le_refl _)
        obtain rfl := rep_is R.run hsa
        obtain ⟨fa, _⟩ := sml_fin sa
        have oa := order_num (fin_not_nan fa)
        obtain ⟨Za, hZa, oZa, vZa⟩ := R.all
        have hSc := hSy.below R.bel
        have hsz2 : ys.length * 8 ≤ 140737488355328 := by omega
        have HR : Hid (AllRel ys wc ys.length av wr) := R
        have HS : Hid (sumO (ys.take ys.length) = some av) := hsa
        have HSy : Hid (Sl wc co cc ys) := hSy
        clear R hsa hxe HX hSy
        go_upto_region 18 with (first
          | (go_at_call 30; refine (copy_any _ _ ys _ hsz2 hSc).mono ?_; rintro e wD ⟨do_, dc, rfl, hSd, bD⟩)
          | (go_at_call 40; refine (sumErr_any _ _ ys _ hsz2 hSd.rd hy).mono ?_; rintro e wE ⟨s, es, rfl, hSum⟩; obtain rfl := sum_is hSum HS.out)
          | (go_at_call 41; refine (finite_any _ _ fa).mono ?_; rintro e w' ⟨nf, rfl, rfl⟩)
          | (go_at_call 37; refine (of_any _ _ hav fa).mono ?_; rintro e wF ⟨A0, rfl, oA0, vA0, bF⟩; have hT0 := Blk.below (Blk.drewN (Blk.below (Blk.below HR.out.told bD) (hSum.2.2.2.2)) nf) bF)
          | (refine wpList_store_row rfl 54 (.tmp 6) (.tmp 74) rfl (wc.heap.size + 1) (lim A0) rfl rfl 54 (lim zer) hT0 (infoL oA0) (zsz oA0) (lim_one _) ?_))
        have hgt : wc.heap.size + 1 < wD.heap.size := Nat.lt_of_lt_of_le HR.out.told.lt bD.size
        have hgne : wD.heap.size ≠ wc.heap.size + 1 := by omega
        obtain ⟨hfe, htel⟩ := err_small rfl HR.out.small hSum.2.2.1
        have hbE := hSum.2.2.2.2
        have bAll : Below wc.heap.size wc wF := bd (bt (bt HR.out.bel bD) hbE) bF
        have R2 : TolRel es wc s wD.heap.size ys.length Za 0 (wF.setRow (wc.heap.size + 1) (lim A0)) := by
          refine ⟨⟨A0, hT0.setRow A0, oA0, by rw [vA0]; unfold errV; rw [Int.add_zero]⟩, ?_, ?_, below_setRow bAll _ _ (by omega)⟩
          · exact (Blk.below (Blk.drewN (Blk.below (Blk.below hZa bD) hbE) nf) bF).rowOther _ _ (by omega)
          · intro j hj
            rw [cell_setRow_other _ _ _ _ _ hgne]
            have hc := sumRel_get hSum hj
            exact (bF.cell (p := ⟨wD.heap.size, j, none⟩) (block_lt_of_cell hc)).trans hc
        have hee : ∀ j, j < ys.length → es.getD j 0 < 18446744073709551616 := fun j hj => (hSum.2.2.1 j hj).1
        have HT : Hid (∀ k, k ≤ ys.length → ∀ a, sumO (ys.take k) = some a → val a + errV es k = sumV ys k) := htel
        have HFE : Hid (∀ j, j < ys.length → fin (es.getD j 0)) := hfe
        have HEE : Hid (∀ j, j < ys.length → es.getD j 0 < 18446744073709551616) := hee
        have HVa : Hid (Lv Za = EV (sumV ys ys.length)) := vZa
        have hRbel := HR.out.bel
        generalize hWW : wF.setRow (wc.heap.size + 1) (lim A0) = WW0 at R2 ⊢
        clear hWW hfe htel hee hT0 vA0 oA0 bF hbE bAll hSum bD hSd hSc hZa vZa hL
        go_upto_region 19 with fail
        go_loopw [11] (fun i wr2 => ∃ k : Nat, k ≤ ys.length ∧ i = .int .i64 k ∧ TolRel es wc s wD.heap.size ys.length Za k wr2) (fun i _ => ys.length - (intOf i).toNat)
        case atStart => exact ⟨0, Nat.zero_le _, rfl, R2⟩
        case round =>
          clear R2
          obtain ⟨k, hk2, rfl, R3⟩ := hrel
          by_cases hlt2 : k < ys.length
          · have hcx := R3.cells k hlt2
            have hx2 := HEE.out k hlt2
            have fx2 := HFE.out k hlt2
            obtain ⟨x2, hxe2⟩ : ∃ x2, x2 = es.getD k 0 := ⟨_, rfl⟩
            have HX2 : Hid (x2 = es.getD k 0) := hxe2
            rw [← hxe2] at hcx hx2 fx2
            have HR2 : Hid (TolRel es wc s wD.heap.size ys.length Za k wr) := R3
            clear R3 hxe2
            go_upto_region 23 with (go_at_call 41; refine (finite_any _ _ fx2).mono ?_; rintro e w' ⟨nf2, rfl, rfl⟩)
            have HRq := HR2.out.drewN nf2
            have hcq : (wr.drewN nf2).cell? ⟨wD.heap.size, k, none⟩ = some (.float .f64 x2) := hcx
            generalize hwq : wr.drewN nf2 = wq at HRq hcq ⊢
            clear hwq hcx HR2
            obtain ⟨Z, hZ1, oZ, vZ⟩ := HRq.told
            refine wp_region_any (by kernel_rfl) ?_
            change wpAny _ _ _ _ _ _ _ (World.drew _)
            refine wpAny_take (i := 1) (v := .slice (some ⟨wD.heap.size, 0, none⟩) ys.length ys.length) rfl (by kernel_rfl) (by kernel_rfl) (by kernel_rfl) (fun _ _ _ h => h) (Or.inl ⟨by rfl, ?_⟩) ?_
            · intro w; go_simp
            refine wpAny_take (i := 2) (v := .int .i64 (k : Int)) rfl (by kernel_rfl) (by kernel_rfl) (by kernel_rfl) (fun _ _ _ h => h) (Or.inl ⟨by rfl, ?_⟩) ?_
            · intro w; go_simp
            refine wpAny_take (i := 3) (v := .pointer (some ⟨wD.heap.size, k, none⟩)) rfl (by kernel_rfl) (by kernel_rfl) (by kernel_rfl) (fun _ _ _ h => h) (Or.inl ⟨by rfl, ?_⟩) ?_
            · intro w; go_simp
            refine wpAny_ready (rs := [0, 4]) (by kernel_rfl) (by simp) ?_
            refine AllReady.cons rfl (fun K hK => ?_) (AllReady.cons rfl (fun K hK => ?_) AllReady.nil)
            · rw [if_pos (by rfl)]
              refine wp_load_row 54 (.tmp 6) rfl (wc.heap.size + 1) rfl 54 (lim Z) (0, 0) _ hZ1 Try.underlying54 rfl (infoL oZ) ?_
              refine hK _ _ ?_
              clear hK K
              refine wpAny_ready (rs := [4]) (by kernel_rfl) (by simp) ?_
              refine AllReady.cons rfl (fun K hK => ?_) AllReady.nil
              go_simp
              refine hK _ _ ?_
              clear hK K
              refine wpAny_ready (rs := [5]) (by kernel_rfl) (by simp) ?_
              refine AllReady.cons rfl (fun K hK => ?_) AllReady.nil
              go_simp
              refine (of_any x2 _ hx2 fx2).mono ?_
              rintro e w1 ⟨A1, rfl, oA, vA, bA⟩
              have hZb := Blk.below (blk_drew hZ1) bA
              go_wp2_with fail
              refine wpAny_ready (rs := [6]) (by kernel_rfl) (by simp) ?_
              refine AllReady.cons rfl (fun K hK => ?_) AllReady.nil
              go_simp
              refine (plus_any Z A1 _ oZ oA).mono ?_
              rintro e w2 ⟨Z2, rfl, oZ2, vZ2, bP⟩
              have hZc := Blk.below hZb bP
              go_wp2_with fail
              refine wpAny_ready (rs := [7]) (by kernel_rfl) (by simp) ?_
              refine AllReady.cons rfl (fun K hK => ?_) AllReady.nil
              rw [if_pos (by rfl)]
              refine wp_store_row 54 (.tmp 6) (.tmp 93) rfl (wc.heap.size + 1) (lim Z2) rfl rfl 54 (lim Z) hZc (infoL oZ2) (by rw [lim_size, lim_size, oZ.len, oZ2.len]) (lim_one _) ?_
              refine hK _ _ ?_
              clear hK K
              refine wpAny_done (by kernel_rfl) ?_ _
              go_wp2
              go_roundw
              case rel => exact ⟨k + 1, by omega, by go_num, tol_step HRq hgne vZ (by rw [← HX2.out]; exact vA) oZ2 vZ2 (bt ((Below.refl _ _).drew.trans bA) bP) hZc⟩
              case measure => simp [intOf]; omega
            · go_simp
              refine hK _ _ ?_
              clear hK K
              refine wpAny_ready (rs := [0, 5]) (by kernel_rfl) (by simp) ?_
              refine AllReady.cons rfl (fun K hK => ?_) (AllReady.cons rfl (fun K hK => ?_) AllReady.nil)
              · rw [if_pos (by rfl)]
                refine wp_load_row 54 (.tmp 6) rfl (wc.heap.size + 1) rfl 54 (lim Z) (0, 0) _ hZ1 Try.underlying54 rfl (infoL oZ) ?_
                refine hK _ _ ?_
                clear hK K
                refine wpAny_ready (rs := [5]) (by kernel_rfl) (by simp) ?_
                refine AllReady.cons rfl (fun K hK => ?_) AllReady.nil
                go_simp
                refine (of_any x2 _ hx2 fx2).mono ?_
                rintro e w1 ⟨A1, rfl, oA, vA, bA⟩
                have hZb := Blk.below (blk_drew hZ1) bA
                go_wp2_with fail
                refine wpAny_ready (rs := [6]) (by kernel_rfl) (by simp) ?_
                refine AllReady.cons rfl (fun K hK => ?_) AllReady.nil
                go_simp
                refine (plus_any Z A1 _ oZ oA).mono ?_
                rintro e w2 ⟨Z2, rfl, oZ2, vZ2, bP⟩
                have hZc := Blk.below hZb bP
                go_wp2_with fail
                refine wpAny_ready (rs := [7]) (by kernel_rfl) (by simp) ?_
                refine AllReady.cons rfl (fun K hK => ?_) AllReady.nil
                rw [if_pos (by rfl)]
                refine wp_store_row 54 (.tmp 6) (.tmp 93) rfl (wc.heap.size + 1) (lim Z2) rfl rfl 54 (lim Z) hZc (infoL oZ2) (by rw [lim_size, lim_size, oZ.len, oZ2.len]) (lim_one _) ?_
                refine hK _ _ ?_
                clear hK K
                refine wpAny_done (by kernel_rfl) ?_ _
                go_wp2
                go_roundw
                case rel => exact ⟨k + 1, by omega, by go_num, tol_step HRq hgne vZ (by rw [← HX2.out]; exact vA) oZ2 vZ2 (bt ((Below.refl _ _).drew.trans bA) bP) hZc⟩
                case measure => simp [intOf]; omega
              · go_simp
                refine (of_any x2 _ hx2 fx2).mono ?_
                rintro e w1 ⟨A1, rfl, oA, vA, bA⟩
                have hZb := Blk.below (blk_drew hZ1) bA
                go_wp2_with fail
                refine wpAny_ready (rs := [0]) (by kernel_rfl) (by simp) ?_
                refine AllReady.cons rfl (fun K hK => ?_) AllReady.nil
                rw [if_pos (by rfl)]
                refine wp_load_row 54 (.tmp 6) rfl (wc.heap.size + 1) rfl 54 (lim Z) (0, 0) _ hZb Try.underlying54 rfl (infoL oZ) ?_
                refine hK _ _ ?_
                clear hK K
                refine wpAny_ready (rs := [6]) (by kernel_rfl) (by simp) ?_
                refine AllReady.cons rfl (fun K hK => ?_) AllReady.nil
                go_simp
                refine (plus_any Z A1 _ oZ oA).mono ?_
                rintro e w2 ⟨Z2, rfl, oZ2, vZ2, bP⟩
                have hZc := Blk.below hZb bP
                go_wp2_with fail
                refine wpAny_ready (rs := [7]) (by kernel_rfl) (by simp) ?_
                refine AllReady.cons rfl (fun K hK => ?_) AllReady.nil
                rw [if_pos (by rfl)]
                refine wp_store_row 54 (.tmp 6) (.tmp 93) rfl (wc.heap.size + 1) (lim Z2) rfl rfl 54 (lim Z) hZc (infoL oZ2) (by rw [lim_size, lim_size, oZ.len, oZ2.len]) (lim_one _) ?_
                refine hK _ _ ?_
                clear hK K
                refine wpAny_done (by kernel_rfl) ?_ _
                go_wp2
                go_roundw
                case rel => exact ⟨k + 1, by omega, by go_num, tol_step HRq hgne vZ (by rw [← HX2.out]; exact vA) oZ2 vZ2 (bt ((Below.refl _ _).drew.trans bA) bP) hZc⟩
                case measure => simp [intOf]; omega
          · have e2 : k = ys.length := by omega
            subst e2
            obtain ⟨Z, hZ1, oZ, vZ⟩ := R3.told
            have hall := R3.all
            have hb3 := R3.bel
            have hSl3 := HSy.out.below R3.bel
            obtain rfl : Z = Za := Lv_inj oZ oZa (by rw [vZ, HVa.out, HT.out ys.length (Nat.le_refl _) s HS.out])
            have hq := eq72 Z oZ.len
            have hss : smB s s = true := by unfold smB; cases nan s <;> simp
            clear R3
            go_wp2_with (first
              | (refine wpList_load_rowG (by rfl) 54 (.tmp 5) rfl wc.heap.size rfl 54 (lim Z) (0, 0) _ hall Try.underlying54 rfl (infoL oZ) ?_)
              | (refine wpList_load_rowG (by rfl) 54 (.tmp 6) rfl (wc.heap.size + 1) rfl 54 (lim Z) (0, 0) _ hZ1 Try.underlying54 rfl (infoL oZ) ?_)
              | (go_at_call 30; refine (copy_any _ _ ys _ hsz2 hSl3).mono ?_; rintro e wG ⟨ao3, c3, rfl, hSd3, bG⟩)
              | (go_at_call 42; refine (sum_any _ _ ys _ hsz2 hSd3.rd hy).mono ?_; rintro e w' ⟨t, nt, rfl, ht, rfl⟩; obtain rfl := sum_is2 ht HS.out)
              | (go_at_call 17; refine (same_any _ _ _).mono ?_; rintro e w' ⟨rfl, rfl⟩))
            go_ret
            exact ⟨rfl, bn (bt (bt hAC hb3) bG) _⟩
end Go.Proofs.Ytggnilfphnnpkaa
