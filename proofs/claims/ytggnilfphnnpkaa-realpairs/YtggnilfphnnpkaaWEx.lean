/-
  What Plus and Opposite of the given type Exact hand back: sums and opposites of whole numbers, modulo two to the 4608.
-/
import Derived.Test.YtggnilfphnnpkaaEx
import Derived.Test.YtggnilfphnnpkaaPlaces
import Derived.Test.YtggnilfphnnpkaaOps
import Derived.Deep.QuietTactic
import Derived.BigQuiet
namespace Go.Proofs.Ytggnilfphnnpkaa
open Fl RowKit

/-- block b holds the number L -/
def Blk (w : World) (b : Nat) (L : List Nat) : Prop := w.heap[b]? = some (.cells (lim L) 54 (0, 0))
theorem lim_get (L : List Nat) (k : Nat) (h : k < L.length) : (lim L)[k]? = some (.int .u64 ((L.getD k 0 : Nat) : Int)) := by
  simp [lim, List.getD_eq_getElem?_getD, h]
theorem lim_size (L : List Nat) : (lim L).size = L.length := by simp [lim]
theorem lim_set (L : List Nat) (k n : Nat) : (lim L).setIfInBounds k (.int .u64 (n : Int)) = lim (L.set k n) := by
  apply Array.ext'
  simp [lim, List.map_set]
theorem lim_one (L : List Nat) : (lim L).all (·.oneCell') = true := by
  rw [Array.all_eq_true_iff_forall_mem]
  intro x hx
  simp only [lim, List.mem_toArray, List.mem_map] at hx
  obtain ⟨n, _, rfl⟩ := hx
  rfl
theorem Blk.cell {w : World} {b : Nat} {L : List Nat} (h : Blk w b L) (k : Nat) (hk : k < L.length) : w.cell? ⟨b, k, none⟩ = some (.int .u64 ((L.getD k 0 : Nat) : Int)) := by
  rw [cell_of_row w b k _ _ _ h, lim_get L k hk]
theorem Blk.frozen {w : World} {b : Nat} {L : List Nat} (h : Blk w b L) (k : Nat) : w.frozen? ⟨b, k, none⟩ = false := frozen_of_row w b k _ _ h
theorem Blk.set {w : World} {b : Nat} {L : List Nat} (h : Blk w b L) (k n : Nat) : Blk (w.setCell ⟨b, k, none⟩ (.int .u64 (n : Int))) b (L.set k n) := by
  unfold Blk; rw [heap_setCell_same w b k _ _ _ h, lim_set]
theorem Blk.other {w : World} {b : Nat} {L : List Nat} (h : Blk w b L) (c k : Nat) (v : Value) (hc : b ≠ c) : Blk (w.setCell ⟨c, k, none⟩ v) b L := by
  unfold Blk; rw [heap_setCell_other w ⟨c, k, none⟩ b v hc]; exact h
theorem Blk.drewN {w : World} {b : Nat} {L : List Nat} (h : Blk w b L) (n : Nat) : Blk (w.drewN n) b L := h
theorem zeroCells : Try.zeroCells54 = lim zer := by kernel_rfl
theorem infoE : (Try.prog.info? 54).map (·.size) = some 72 := by kernel_rfl
theorem Blk.lt {w : World} {b : Nat} {L : List Nat} (h : Blk w b L) : b < w.heap.size := (Array.getElem?_eq_some_iff.1 h).1
theorem Blk.below {w w' : World} {b : Nat} {L : List Nat} (h : Blk w b L) (hb : Below w.heap.size w w') : Blk w' b L := by
  unfold Blk; rw [hb.block b h.lt]; exact h
theorem Blk.old {w : World} {b : Nat} {L : List Nat} (h : Blk w b L) (o : Obj) : Blk (w.alloc o) b L := by
  unfold Blk; rw [heap_alloc_old w o h.lt]; exact h
theorem Blk.new (w : World) (L : List Nat) : Blk (w.alloc (.cells (lim L) 54)) w.heap.size L := heap_alloc_new w _
theorem Blk.setRow {w : World} {b : Nat} {L : List Nat} (h : Blk w b L) (K : List Nat) : Blk (w.setRow b (lim K)) b K := by
  unfold Blk World.setRow at *
  simp [Array.getElem?_modify, h]
theorem Blk.rowOther {w : World} {b : Nat} {L : List Nat} (h : Blk w b L) (c : Nat) (K : Array Value) (hc : b ≠ c) : Blk (w.setRow c K) b L := by
  unfold Blk World.setRow at *
  simp [Array.getElem?_modify, h, Ne.symm hc]
theorem below_setRow {B : Nat} {w w' : World} (h : Below B w w') (g : Nat) (K : Array Value) (hg : B ≤ g) : Below B w (w'.setRow g K) := by
  refine ⟨h.os, h.tape, h.output, ?_, ?_⟩
  · simpa [World.setRow] using h.size
  · intro k hk
    have : (w'.setRow g K).heap[k]? = w'.heap[k]? := by unfold World.setRow; simp [Array.getElem?_modify, show ¬ g = k by omega]
    rw [this]; exact h.block k hk

structure PlusRel (X Y : List Nat) (w : World) (k : Nat) (wr : World) : Prop where
  a : Blk wr w.heap.size (mix X Y k)
  b : Blk wr (w.heap.size + 1) Y
  c : Blk wr (w.heap.size + 2) zer
  bel : Below w.heap.size w wr
theorem plus_step {X Y : List Nat} {w wr : World} {k : Nat} (h : PlusRel X Y w k wr) (hk : k < 72) (n t : Nat) (ht : t = lmb X Y k) :
    PlusRel X Y w (k + 1) ((wr.drewN n).setCell ⟨w.heap.size, k, none⟩ (.int .u64 (t : Int))) := by
  subst ht
  refine ⟨?_, ?_, ?_, ?_⟩
  · rw [mix_succ X Y k hk]; exact (h.a.drewN n).set k _
  · exact (h.b.drewN n).other _ _ _ (by omega)
  · exact (h.c.drewN n).other _ _ _ (by omega)
  · exact (below_drewN h.bel n).setCell (Nat.le_refl _) _
theorem mix_at (X Y : List Nat) (k : Nat) (h : k < 72) : (mix X Y k).getD k 0 = X.getD k 0 := by rw [mix_get X Y k k h, if_neg (by omega)]

set_option maxHeartbeats 1000000 in
theorem plus_any (X Y : List Nat) (w : World) (hX : okL X) (hY : okL Y) :
    Calls Try.prog 38 #[.agg (lim X), .agg (lim Y)] w fun e w' => ∃ Z, e = .returned (.agg (lim Z)) ∧ okL Z ∧ Lv Z = (Lv X + Lv Y) % MM ∧ Below w.heap.size w w' := by
  go_enter Try.func38, Try.ntmps38
  go_wp2
  go_loopw [5, 6] (fun c i wr => ∃ k : Nat, k ≤ 72 ∧ i = .int .i64 k ∧ c = .int .u64 ((car X Y k : Nat) : Int) ∧ PlusRel X Y w k wr) (fun _ i _ => 72 - (intOf i).toNat)
  case atStart =>
    refine ⟨0, by omega, rfl, rfl, ?_, ?_, ?_, ?_⟩
    · rw [mix_zero hX]; exact ((Blk.new w X).old _).old _
    · have := (Blk.new (w.alloc (.cells (lim X) 54)) Y).old (.cells Try.zeroCells54 54)
      simpa using this
    · have := Blk.new ((w.alloc (.cells (lim X) 54)).alloc (.cells (lim Y) 54)) zer
      rw [← zeroCells] at this
      simpa using this
    · exact (((Below.refl _ _).alloc (Nat.le_refl _) _).alloc (by simp) _).alloc (by simp; omega) _
  case round =>
    obtain ⟨k, hk, rfl, rfl, R⟩ := hrel
    by_cases hlt : k < 72
    · have hx := R.a.cell k (by rw [mix_len]; exact hlt)
      have hy := R.b.cell k (by rw [hY.len]; exact hlt)
      rw [mix_at X Y k hlt] at hx
      have hf := R.a.frozen k
      have hxl := hX.lt k
      have hyl := hY.lt k
      have hcl := car_le hX hY k
      have hl : lmb X Y k = (X.getD k 0 + Y.getD k 0 + car X Y k) % 18446744073709551616 := rfl
      have hcs : car X Y (k + 1) = (X.getD k 0 + Y.getD k 0 + car X Y k) / 18446744073709551616 := rfl
      have HR : Hid (PlusRel X Y w k wr) := R
      generalize hxe : X.getD k 0 = x at *
      generalize hye : Y.getD k 0 = y at *
      generalize hce : car X Y k = c at *
      generalize hne : car X Y (k + 1) = c1 at *
      generalize hte : lmb X Y k = t0 at *
      clear R hxe hye hce
      by_cases o1 : x + y < 18446744073709551616
      · by_cases o2 : x + y + c < 18446744073709551616
        · have E1 : Hid (t0 = x + y + c) := by show t0 = x + y + c; omega
          have E2 : Hid (c1 = 0) := by show c1 = 0; omega
          clear hl hcs
          go_wp2
          go_quiet (fail)
          go_wp2
          go_roundw
          case rel => exact ⟨k + 1, by omega, by go_num, by rw [hne, E2.out]; rfl, plus_step HR.out hlt nq (x + y + c) (by rw [hte, E1.out])⟩
          case measure => simp [intOf]; omega
        · have E1 : Hid (t0 = 0) := by show t0 = 0; omega
          have E2 : Hid (c1 = 1) := by show c1 = 1; omega
          have e3 : IntKind.u64.wrap ((x : Int) + (y : Int) + (c : Int)) = 0 := by rw [IntKind.wrap_u64]; omega
          have e4 : (0 : Int) < (x : Int) + (y : Int) := by omega
          clear hl hcs
          go_wp2
          go_quiet (fail)
          go_wp2
          go_roundw
          case rel => exact ⟨k + 1, by omega, by go_num, by rw [hne, E2.out]; rfl, plus_step HR.out hlt nq 0 (by rw [hte, E1.out])⟩
          case measure => simp [intOf]; omega
      · obtain ⟨s, hs⟩ : ∃ s, x + y = 18446744073709551616 + s := ⟨x + y - 18446744073709551616, by omega⟩
        have e3 : IntKind.u64.wrap ((x : Int) + (y : Int)) = (s : Int) := by rw [IntKind.wrap_u64]; omega
        have E1 : Hid (t0 = s + c) := by show t0 = s + c; omega
        have E2 : Hid (c1 = 1) := by show c1 = 1; omega
        have e5 : s < x := by omega
        have e6 : s + 2 ≤ 18446744073709551616 := by omega
        clear hl hcs hs o1
        go_wp2
        go_quiet (fail)
        go_wp2
        go_roundw
        case rel => exact ⟨k + 1, by omega, by go_num, by rw [hne, E2.out]; rfl, plus_step HR.out hlt nq (s + c) (by rw [hte, E1.out])⟩
        case measure => simp [intOf]; omega
    · have e : k = 72 := by omega
      subst e
      have h1 := R.a
      have h2 := R.c
      have h3 := R.bel
      have HR : Hid (PlusRel X Y w 72 wr) := R
      have hi : (Try.prog.info? 54).map (·.size) = some (lim (mix X Y 72)).size := by rw [lim_size, mix_len]; exact infoE
      clear R
      go_wp2_with (first
        | (refine wpList_load_row rfl 54 _ rfl w.heap.size rfl 54 (lim (mix X Y 72)) (0, 0) _ h1 Try.underlying54 rfl hi ?_)
        | (refine wpList_store_row rfl 54 _ _ rfl (w.heap.size + 1 + 1) (lim (mix X Y 72)) rfl rfl 54 (lim zer) h2 hi (by rw [lim_size, lim_size, mix_len]; rfl) (lim_one _) ?_))
      refine bodyPost_ret (v := .agg (lim (mix X Y 72))) (results_cell_row Try.results38 _ _ (w.heap.size + 1 + 1) 54 (lim (mix X Y 72)) (0, 0) _ rfl (h2.setRow _) Try.underlying54 rfl hi) rfl ?_
      exact ⟨_, rfl, mix_ok hX Y 72, Lv_mix X Y, below_setRow h3 _ _ (by omega)⟩

structure OppRel (X : List Nat) (w : World) (k : Nat) (wr : World) : Prop where
  a : Blk wr w.heap.size (inv X k)
  c : Blk wr (w.heap.size + 1) zer
  sz : wr.heap.size = w.heap.size + 2
  bel : Below w.heap.size w wr
theorem opp_step {X : List Nat} {w wr : World} {k : Nat} (h : OppRel X w k wr) (hk : k < 72) (t : Nat) (ht : t = WW - 1 - X.getD k 0) :
    OppRel X w (k + 1) (wr.setCell ⟨w.heap.size, k, none⟩ (.int .u64 (t : Int))) := by
  subst ht
  refine ⟨?_, ?_, ?_, ?_⟩
  · rw [inv_succ X k hk]; exact h.a.set k _
  · exact h.c.other _ _ _ (by omega)
  · rw [World.size_setCell]; exact h.sz
  · exact h.bel.setCell (Nat.le_refl _) _
theorem inv_at (X : List Nat) (k : Nat) (h : k < 72) : (inv X k).getD k 0 = X.getD k 0 := by rw [inv_get X k k h, if_neg (by omega)]
def one72 : List Nat := zer.set 0 1
theorem one_ok : okL one72 := set_ok zer_ok 0 1 (by omega) (by omega)
theorem Lv_one : Lv one72 = 1 := by unfold one72; rw [Lv_set zer_ok 0 1 (by omega) (zer_get 0), Lv_zer]; simp
theorem Blk.fresh {w : World} : Blk (w.alloc (.cells Try.zeroCells54 54)) w.heap.size zer := by rw [zeroCells]; exact Blk.new w zer
theorem Lv_opp {X : List Nat} (hX : okL X) : (Lv (inv X 72) + Lv one72) % MM = (MM - Lv X) % MM := by
  have h := Lv_inv hX; have h2 := Lv_lt hX
  have e : Lv (inv X 72) + Lv one72 = MM - Lv X := by rw [Lv_one]; omega
  rw [e]
theorem not_u64 (n : Nat) (h : n < 18446744073709551616) : bits BinOp.xor IntKind.u64 (if IntKind.u64.signed = true then -1 else IntKind.u64.max) (n : Int) = ((WW - 1 - n : Nat) : Int) := by
  have h1 := u64_xor_nat 18446744073709551615 n (by omega) h
  have h2 : 18446744073709551615 ^^^ n = WW - 1 - n := by
    have e := BitVec.toNat_not (x := BitVec.ofNat 64 n)
    rw [BitVec.not_def, BitVec.toNat_xor, BitVec.toNat_allOnes, BitVec.toNat_ofNat, Nat.mod_eq_of_lt (by omega)] at e
    exact e
  rw [h2] at h1; exact h1

set_option maxRecDepth 100000 in
set_option maxHeartbeats 1000000 in
theorem opp_any (X : List Nat) (w : World) (hX : okL X) :
    Calls Try.prog 56 #[.agg (lim X)] w fun e w' => ∃ Z, e = .returned (.agg (lim Z)) ∧ okL Z ∧ Lv Z = (MM - Lv X) % MM ∧ Below w.heap.size w w' := by
  go_enter Try.func56, Try.ntmps56
  go_wp2
  go_loopw [3] (fun i wr => ∃ k : Nat, k ≤ 72 ∧ i = .int .i64 k ∧ OppRel X w k wr) (fun i _ => 72 - (intOf i).toNat)
  case atStart =>
    refine ⟨0, by omega, rfl, ?_, ?_, ?_, ?_⟩
    · rw [inv_zero hX]; exact (Blk.new w X).old _
    · have := Blk.fresh (w := w.alloc (.cells (lim X) 54))
      simpa using this
    · simp
    · exact ((Below.refl _ _).alloc (Nat.le_refl _) _).alloc (by simp) _
  case round =>
    obtain ⟨k, hk, rfl, R⟩ := hrel
    by_cases hlt : k < 72
    · have hx := R.a.cell k (by rw [inv_len]; exact hlt)
      rw [inv_at X k hlt] at hx
      have hf := R.a.frozen k
      have hxl := hX.lt k
      have HR : Hid (OppRel X w k wr) := R
      obtain ⟨x, hxe⟩ : ∃ x, x = X.getD k 0 := ⟨_, rfl⟩
      rw [← hxe] at hx hxl
      have HX : Hid (x = X.getD k 0) := hxe
      have hn := not_u64 x hxl
      clear R hxe
      go_wp2
      go_roundw
      case rel => exact ⟨k + 1, by omega, by go_num, opp_step HR.out hlt _ (by rw [HX.out])⟩
      case measure => simp [intOf]; omega
    · have e : k = 72 := by omega
      subst e
      have h1 := R.a
      have h2 := R.c
      have h3 := R.bel
      have h4 := R.sz
      have hi : (Try.prog.info? 54).map (·.size) = some (lim (inv X 72)).size := by rw [lim_size, inv_len]; exact infoE
      have hj : (Try.prog.info? 54).map (·.size) = some (lim one72).size := by rw [lim_size, one_ok.len]; exact infoE
      have hone : Try.zeroCells54.setIfInBounds 0 (.int .u64 1) = lim one72 := by rw [zeroCells]; exact lim_set zer 0 1
      have hb1 : Blk (wr.alloc (.cells (lim one72) 54)) (w.heap.size + 2) one72 := by have := Blk.new wr one72; rw [h4] at this; exact this
      have hb2 := h1.old (.cells (lim one72) 54)
      have hb3 := h2.old (.cells (lim one72) 54)
      have hb4 := h3.alloc (o := .cells (lim one72) 54) (by omega)
      have hsz : (lim zer).size = 72 := by rw [lim_size]; rfl
      have HZ : ∀ Z, okL Z → (Try.prog.info? 54).map (·.size) = some (lim Z).size := by intro Z h; rw [lim_size, h.len]; exact infoE
      clear R
      go_wp2_with (first
        | (refine wpList_load_row rfl 54 (.tmp 1) rfl w.heap.size rfl 54 (lim (inv X 72)) (0, 0) _ hb2 Try.underlying54 rfl hi ?_)
        | (refine wpList_load_row rfl 54 (.tmp 4) rfl (w.heap.size + 2) rfl 54 (lim one72) (0, 0) _ hb1 Try.underlying54 rfl hj ?_)
        | (go_at_call 38; refine (plus_any _ _ _ (inv_ok hX 72) one_ok).mono ?_; rintro e w1 ⟨Z, rfl, hZ, hv, hb⟩; have h5 := hb3.below hb; have h6 := hb4.trans (hb.mono (by simp; omega)))
        | (refine wpList_store_row rfl 54 _ _ rfl (w.heap.size + 1) (lim Z) rfl rfl 54 (lim zer) h5 (HZ Z hZ) (by rw [hsz, lim_size, hZ.len]) (lim_one _) ?_))
      refine bodyPost_ret (v := .agg (lim Z)) (results_cell_row Try.results56 _ _ (w.heap.size + 1) 54 (lim Z) (0, 0) _ rfl (h5.setRow _) Try.underlying54 rfl (HZ Z hZ)) rfl ?_
      exact ⟨_, rfl, hZ, by rw [hv, Lv_opp hX], below_setRow h6 _ _ (by omega)⟩

end Go.Proofs.Ytggnilfphnnpkaa
