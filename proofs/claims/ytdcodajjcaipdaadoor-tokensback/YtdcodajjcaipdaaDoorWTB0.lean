/-
  TokensBack: the walk.
-/
import Derived.Test.YtdcodajjcaipdaaDoorTfr
import Derived.Test.YtdcodajjcaipdaaDoorTbc
import Derived.Test.YtdcodajjcaipdaaDoorTbd
import Derived.Deep.RegionHeldLaw
import Derived.Deep.QuietTactic
import Derived.Deep.RegionWith
import Derived.Deep.Cut
import Derived.Deep.DeepCutAuto
import Derived.Deep.CutBlock
namespace Go.Proofs.YtdcodajjcaipdaaDoor
open RowKit Joins Deep
set_option linter.unusedVariables false

theorem bl_alB {w w' : World} {o : Obj} {n : Nat} {W : World} (h0 : Below n W w) (hn : n ≤ w.heap.size) (hb : Below (w.alloc o).heap.size (w.alloc o) w') : Below n W w' := (h0.alloc hn o).trans (hb.mono (by simp; omega))
set_option maxHeartbeats 4000000 in
set_option maxRecDepth 100000 in
/-- a text that is refused -/
theorem back_bad (w : World) (hm : Mln w) (s : ByteArray) (x y : Int) (hx : x ≠ 0)
    (hc : Calls Tryd.prog 9 #[.string s] w fun e w' => e = .returned (.tuple #[.slice none 0 0, fltV x y]) ∧ Below w.heap.size w w') :
    Calls Tryd.prog 5 #[.string s] w fun e w' => e = .returned (.bool true) ∧ Below w.heap.size w w' := by
  have HC : Hid (Calls Tryd.prog 9 #[.string s] w fun e w' => e = .returned (.tuple #[.slice none 0 0, fltV x y]) ∧ Below w.heap.size w w') := hc
  have HM : Hid (Mln w) := hm
  have hx0 : (x == 0) = false := by simpa using hx
  clear hc hm hx
  go_enter Tryd.func5, Tryd.ntmps5
  go_wp2_with (first
    | (go_at_call 9; (with_reducible refine HC.out.mono ?_); rintro e w1 ⟨rfl, hb⟩; (have HB1 : Hid (Below w.heap.size w w1) := hb); clear hb)
    | (go_at_call 12; (with_reducible refine (lives_any _ (HM.out.kept (HB1.out.alloc HB1.out.size _))).mono ?_); rintro e w2 ⟨rfl, hb⟩; (have HB2 : Hid (Below w.heap.size w w2) := bl_alB HB1.out HB1.out.size hb); clear hb))
  go_ret
  exact ⟨rfl, HB2.out⟩
set_option maxHeartbeats 4000000 in
set_option maxRecDepth 100000 in
/-- what is joined is too long -/
theorem back_over (w : World) (hm : Mln w) (s : ByteArray) (hs : s.size ≤ 65536) (he : erL 0 (liT s) = (0, 0)) (hj : (jnL (tkL 0 (liT s))).length ≤ 140737488355328) (ho : 65536 < (jnL (tkL 0 (liT s))).length) :
    Calls Tryd.prog 5 #[.string s] w fun e w' => e = .returned (.bool true) ∧ Below w.heap.size w w' := by
  have HC : Hid (Calls Tryd.prog 9 #[.string s] w fun e w' => ∃ v, e = .returned (.tuple #[v, fltV 0 0]) ∧ RdL w' v (tkL 0 (liT s)) ∧ Below w.heap.size w w') := cut_ok s w hs hm he
  obtain ⟨tS, htS⟩ : ∃ tS : ByteArray, tS = ⟨(jnL (tkL 0 (liT s))).toArray⟩ := ⟨_, rfl⟩
  have hts : 65536 < tS.size := by rw [htS]; show 65536 < (jnL (tkL 0 (liT s))).toArray.size; simpa using ho
  have HJ : Hid (∀ (w : World) (v : Value), RdL w v (tkL 0 (liT s)) → Calls Tryd.prog 13 #[v] w fun e w' => e = .returned (.string tS) ∧ Below w.heap.size w w') := fun w v hr => by rw [htS]; exact join_any w v _ hr hj
  have HC2 : Hid (∀ w : World, Calls Tryd.prog 9 #[.string tS] w fun e w' => e = .returned (.tuple #[.slice none 0 0, fltV 3 (-1)]) ∧ Below w.heap.size w w') := fun w => cut_long tS w hts
  have hti : (65536 : Int) < (tS.size : Int) := by omega
  generalize tkL 0 (liT s) = LS at HC HJ
  clear htS hj ho he hm
  go_enter Tryd.func5, Tryd.ntmps5
  go_wp2_with (first
    | (go_at_call 9; (with_reducible refine HC.out.mono ?_); rintro e w1 ⟨v, rfl, hr, hb⟩; (have HB1 : Hid (Below w.heap.size w w1) := hb); (have HR1 : Hid (RdL w1 v LS) := hr); clear hb hr)
    | (go_at_call 13; (with_reducible refine (HJ.out _ v (HR1.out.kept ((Below.refl _ w1).alloc (Nat.le_refl _) _))).mono ?_); rintro e w2 ⟨rfl, hb⟩; (have HB2 : Hid (Below w.heap.size w w2) := bl_alB HB1.out HB1.out.size hb); clear hb)
    | (go_at_call 9; (with_reducible refine (HC2.out _).mono ?_); rintro e w3 ⟨rfl, hb⟩; (have HB3 : Hid (Below w.heap.size w w3) := HB2.out.trans (hb.mono HB2.out.size)); clear hb))
  go_ret
  exact ⟨rfl, HB3.out.alloc HB3.out.size _⟩

theorem tkL_of {s : ByteArray} (hs : s.size ≤ 65536) (hall : ∀ u ∈ liT s, bdE u = 0) : ∀ l ∈ tkL 0 (liT s), l.length ≤ 65536 ∧ ∀ p ∈ l, p.1.size ≤ 80 := by
  intro l hl
  obtain ⟨k, hk⟩ := List.getElem?_of_mem hl
  obtain ⟨t, h1, rfl⟩ := tkL_inv hk
  refine ⟨by have := tkl_len k t; have := liT_size h1; omega, fun p hp => ?_⟩
  obtain ⟨q, hq, rfl⟩ := List.mem_map.1 hp
  exact (wds_good (hall t (List.mem_of_getElem? h1)) q hq).2.1
theorem erL_all {l : List ByteArray} : ∀ {n : Nat}, erL n l = (0, 0) → ∀ u ∈ l, bdE u = 0 := by
  induction l with
  | nil => intro n _ u hu; cases hu
  | cons t r ih =>
    intro n h u hu
    have e : erL n (t :: r) = if bdE t ≠ 0 then (bdE t, n) else erL (n + 1) r := rfl
    rw [e] at h
    by_cases q : bdE t ≠ 0
    · rw [if_pos q] at h; exact absurd (Prod.mk.inj h).1 q
    · rw [if_neg q] at h
      rcases List.mem_cons.1 hu with rfl | hu
      · simpa using q
      · exact ih h u hu
theorem rd_sl {w : World} {v : Value} {ls : List (List Tok)} (h : RdL w v ls) : ∃ A c, v = .slice A ls.length c := by
  obtain ⟨_, A, c, h1, _⟩ := h
  exact ⟨A, c, h1⟩
/-- the lines of the text, in a block of its own -/
structure Lin (w : World) (B : Nat) (ls : List ByteArray) : Prop where
  c : ∀ (k : Nat) (t : ByteArray), ls[k]? = some t → w.cell? ⟨B, k, none⟩ = some (.string t)
theorem Lin.kept {w w' : World} {B : Nat} {ls : List ByteArray} (h : Lin w B ls) (hb : Below w.heap.size w w') : Lin w' B ls :=
  ⟨fun k t hk => (hb.cell (World.block_lt_of_cell? w _ (h.c k t hk))).trans (h.c k t hk)⟩
theorem trk3 {w9 wc wT : World} {wb BS i : Nat} {x y z : Value} (h : Below w9.heap.size w9 wc ∧ wb < wc.heap.size ∧ wc.cell? ⟨wb, 0, none⟩ = some x ∧ wc.cell? ⟨wb, 2, none⟩ = some y ∧ wc.cell? ⟨BS, i, none⟩ = some z) (hb : Below wc.heap.size wc wT) :
    Below w9.heap.size w9 wT ∧ wT.cell? ⟨wb, 0, none⟩ = some x ∧ wT.cell? ⟨wb, 2, none⟩ = some y ∧ wT.cell? ⟨BS, i, none⟩ = some z :=
  ⟨h.1.trans (hb.mono h.1.size), (hb.cell (by exact h.2.1)).trans h.2.2.1, (hb.cell (by exact h.2.1)).trans h.2.2.2.1, (hb.cell (World.block_lt_of_cell? wc _ h.2.2.2.2)).trans h.2.2.2.2⟩
theorem trk3d {w9 wc wT : World} {wb BS i : Nat} {x y z : Value} (h : Below w9.heap.size w9 wc ∧ wb < wc.heap.size ∧ wc.cell? ⟨wb, 0, none⟩ = some x ∧ wc.cell? ⟨wb, 2, none⟩ = some y ∧ wc.cell? ⟨BS, i, none⟩ = some z) (hb : Below wc.drew.heap.size wc.drew wT) :
    Below w9.heap.size w9 wT ∧ wT.cell? ⟨wb, 0, none⟩ = some x ∧ wT.cell? ⟨wb, 2, none⟩ = some y ∧ wT.cell? ⟨BS, i, none⟩ = some z := trk3 ⟨h.1.drew, h.2⟩ hb
theorem trk3n {w9 wc wT : World} {wb BS i n : Nat} {x y z : Value} (h : Below w9.heap.size w9 wc ∧ wb < wc.heap.size ∧ wc.cell? ⟨wb, 0, none⟩ = some x ∧ wc.cell? ⟨wb, 2, none⟩ = some y ∧ wc.cell? ⟨BS, i, none⟩ = some z) (hb : Below (wc.drewN n).heap.size (wc.drewN n) wT) :
    Below w9.heap.size w9 wT ∧ wT.cell? ⟨wb, 0, none⟩ = some x ∧ wT.cell? ⟨wb, 2, none⟩ = some y ∧ wT.cell? ⟨BS, i, none⟩ = some z := trk3 ⟨below_dn h.1 _, by simpa using h.2⟩ hb
theorem trk {w9 wc wT : World} {wb BS i : Nat} {x y z : Value} (h : Below w9.heap.size w9 wc ∧ wb < wc.heap.size ∧ wc.cell? ⟨wb, 0, none⟩ = some x ∧ wc.cell? ⟨wb, 2, none⟩ = some y ∧ wc.cell? ⟨BS, i, none⟩ = some z) (hb : Below wc.heap.size wc wT) :
    Below w9.heap.size w9 wT ∧ wT.cell? ⟨wb, 0, none⟩ = some x ∧ wT.cell? ⟨wb, 2, none⟩ = some y :=
  ⟨h.1.trans (hb.mono h.1.size), (hb.cell (by exact h.2.1)).trans h.2.2.1, (hb.cell (by exact h.2.1)).trans h.2.2.2.1⟩
theorem trkd {w9 wc wT : World} {wb BS i : Nat} {x y z : Value} (h : Below w9.heap.size w9 wc ∧ wb < wc.heap.size ∧ wc.cell? ⟨wb, 0, none⟩ = some x ∧ wc.cell? ⟨wb, 2, none⟩ = some y ∧ wc.cell? ⟨BS, i, none⟩ = some z) (hb : Below wc.drew.heap.size wc.drew wT) :
    Below w9.heap.size w9 wT ∧ wT.cell? ⟨wb, 0, none⟩ = some x ∧ wT.cell? ⟨wb, 2, none⟩ = some y := trk ⟨h.1.drew, h.2⟩ hb
end Go.Proofs.YtdcodajjcaipdaaDoor
