/-
  Several texts in one: Nma Nmb Nmc Nmd Nst Noa Nob Noc Nod Goa Gob Goc Gss God Goe Gpa Gqv.
-/
import Derived.Maps.OwnSet
import Derived.Test.YtmhplaanpbpndaaProg
import Derived.Test.YtmhplaanpbpndaaChecked
import Derived.Maps.Own
import Derived.WalkKit
import Derived.OwnWalk
import Derived.Deep.RegionHeldLaw
import Derived.Deep.AppendLies
import Derived.Handy
import Derived.Laws.Cover3
import Derived.Test.YtmhplaanpbpndaaBse
import Derived.Deep.RegionLaw
import Derived.Deep.Cut
import Derived.Deep.DeepCutAuto
import Derived.Deep.CutBlock
import Derived.Deep.CutRange
import Derived.Deep.Slices
import Derived.Deep.SlicePairs
import Derived.OpenShut
import Derived.SizedLaws
namespace Go.Proofs.Ytmhplaanpbpndaa
open Go.Maps

/-- names are told by their bytes -/
abbrev kyS (s : List UInt8) : Lit := .string s
theorem kyS_inj {s t : List UInt8} (h : kyS s = kyS t) : s = t := Lit.string.inj h
/-- where a text stands in a list; 0 if it does not -/
def posL (xs : List (List UInt8)) (s : List UInt8) : Nat := if s ∈ xs then xs.idxOf s else 0
/-- the map says of each text whether it is on the list, and where -/
structure MdOk (D : DataW Unit) (xs : List (List UInt8)) : Prop where
  im : IsMap D
  hs : ∀ s, Maps.has D (kyS s) = decide (s ∈ xs)
  ak : ∀ s, D.atKey (kyS s) (.lit (.int .i64 0)) = .lit (.int .i64 (posL xs s))
theorem MdOk.empty : MdOk (.map []) [] := ⟨isMap_empty, fun s => by simp [has_eq], fun s => by simp [posL]; rfl⟩
theorem pos_old {xs : List (List UInt8)} {x s : List UInt8} (h : s ∈ xs) : posL (xs ++ [x]) s = posL xs s := by
  unfold posL
  rw [if_pos (List.mem_append_left _ h), if_pos h, List.idxOf_append, if_pos h]
theorem pos_new {xs : List (List UInt8)} {x : List UInt8} (h : x ∉ xs) : posL (xs ++ [x]) x = xs.length := by
  unfold posL
  rw [if_pos (by simp), List.idxOf_append, if_neg h]
  simp
theorem MdOk.push {D : DataW Unit} {xs : List (List UInt8)} {x : List UInt8} (h : MdOk D xs) (hx : x ∉ xs) : MdOk (D.put (kyS x) (.lit (.int .i64 xs.length))) (xs ++ [x]) := by
  refine ⟨h.im.put _ _, fun s => ?_, fun s => ?_⟩
  · by_cases e : s = x
    · subst e
      rw [has_put_same h.im (by trivial)]; simp
    · rw [has_put_other (fun q => e (kyS_inj q)), h.hs]
      simp [e]
  · by_cases e : s = x
    · subst e
      rw [atKey_put_same h.im (by trivial), pos_new hx]
    · rw [atKey_put_other (fun q => e (kyS_inj q)), h.ak]
      by_cases hm : s ∈ xs
      · rw [pos_old hm]
      · unfold posL
        rw [if_neg hm, if_neg (by simp [hm, e])]

end Go.Proofs.Ytmhplaanpbpndaa

namespace Go.Proofs.Ytmhplaanpbpndaa
open Go.Maps Go.RowKit

theorem lawS : Keyed Try.prog 9 := string_keyed Try.underlying9
theorem zeroI (w : World) : (zeroValue 3).run Try.prog w = .ok (.int .i64 0) w := by kernel_rfl
theorem key_s (l : List UInt8) (h : l.length ≤ 100000) : keyOf Try.prog 9 (.string ⟨l.toArray⟩) = some (kyS l) := by
  have := Go.WideMaps.keyOf_string_mk (P := Try.prog) (s := ⟨l.toArray⟩) Try.underlying9 (by unfold maxLen; simp [ByteArray.size]; omega)
  simpa using this
/-- the map of a row of names, in the block B -/
def Mp (w : World) (B : Nat) (xs : List (List UInt8)) : Prop := ∃ D : DataW Unit, w.ownsMap Try.prog 9 (plainElem Try.prog 3) B xs.length D ∧ MdOk D xs
theorem nplace_any (w : World) (p f B : Nat) (xs : List (List UInt8)) (l : List UInt8) (hl : l.length ≤ 100000) (hc : w.cell? ⟨p, f + 1, none⟩ = some (.map (some B))) (hm : Mp w B xs) :
    Calls Try.prog 19 #[.pointer (some ⟨p, f, none⟩), .string ⟨l.toArray⟩] w fun e w' => e = .returned (.tuple #[.int .i64 (posL xs l), .bool (decide (l ∈ xs))]) ∧ w' = w := by
  obtain ⟨D, hown, hD⟩ := hm
  have hkey := key_s l hl
  go_enter Try.func19, Try.ntmps19
  go_wp2_with (at_lookup; refine wpList_lookup_own_ok_int _ rfl _ _ 59 rfl 9 3 .i64 lawS Try.underlying59 Try.underlying3 (zeroI _) B xs.length D rfl hown _ _ rfl hkey ?_; intro c hat hwc)
  go_ret2
  rw [hD.ak l] at hat
  obtain rfl : ((posL xs l : Nat) : Int) = c := (Lit.int.inj (DataW.lit.inj hat)).2
  refine ⟨?_, rfl⟩
  show Ending.returned (.tuple #[.int .i64 ((posL xs l : Nat) : Int), .bool (has D (kyS l))]) = _
  rw [hD.hs l]

abbrev sv (l : List UInt8) : Value := .string ⟨l.toArray⟩
/-- a row of names in a struct: its list, its map -/
structure Rn (w : World) (base p f : Nat) (v : Value) (B : Nat) (xs : List (List UInt8)) : Prop where
  c0 : w.cell? ⟨p, f, none⟩ = some v
  c1 : w.cell? ⟨p, f + 1, none⟩ = some (.map (some B))
  fz : w.frozen? ⟨p, f, none⟩ = false
  row : w.ownsRow base 9 1 v xs.length (xs.map sv)
  mp : Mp w B xs
theorem map_ne {w : World} {B n : Nat} {D : DataW Unit} {R : Value → Option (DataW Unit × List MemPlace)} {k : TypeId} (h : w.ownsMap Try.prog k R B n D) {p f : Nat} {u : Value} (hc : w.cell? ⟨p, f, none⟩ = some u) : p ≠ B := by
  rintro rfl
  obtain ⟨es, clock, hb, _⟩ := h
  unfold World.cell? at hc
  simp [hb] at hc
theorem row_neB {w : World} {B n m base : Nat} {D : DataW Unit} {R : Value → Option (DataW Unit × List MemPlace)} {k e : TypeId} {v : Value} {xs : List Value} (h : w.ownsMap Try.prog k R B n D) (hr : w.ownsRow base e 1 v m xs) : v.ownBlock ≠ some B := by
  intro hv
  obtain ⟨es, clock, hb, _⟩ := h
  obtain ⟨_, ⟨rfl, _⟩ | ⟨g, cap, cur, rfl, _, h4, _⟩⟩ := hr
  · cases hv
  · simp [Value.ownBlock] at hv
    subst hv
    rw [hb] at h4; cases h4
theorem Try.infoS : (Try.prog.info? 9).map (fun i => (i.zero, i.size, i.bytes)) = some (some (.string ByteArray.empty), 1, 16) := by kernel_rfl
/-- what add may have turned: the struct's own cell, the map, the list's own row -/
structure Ad (w w' : World) (p f B : Nat) (v : Value) : Prop where
  os : w'.os = w.os
  tape : w'.tape = w.tape
  output : w'.output = w.output
  sz : w.heap.size ≤ w'.heap.size
  fr : ∀ k, k < w.heap.size → k ≠ p → k ≠ B → v.ownBlock ≠ some k → w'.heap[k]? = w.heap[k]?
  cl : ∀ j, j ≠ f → w'.cell? ⟨p, j, none⟩ = w.cell? ⟨p, j, none⟩
  fz : ∀ j, w'.frozen? ⟨p, j, none⟩ = w.frozen? ⟨p, j, none⟩
theorem grown_setN {w : World} {p f : Nat} {u : Value} : w.grownBy (w.setCell ⟨p, f, none⟩ u) (some p) :=
  ⟨rfl, rfl, rfl, by simp [World.setCell], fun i _ hne => heap_setCell_other w ⟨p, f, none⟩ i u (fun e => hne (by simp [e]))⟩
theorem add_old (w : World) (base p f B : Nat) (v : Value) (xs : List (List UInt8)) (l : List UInt8) (hl : l.length ≤ 100000) (h : Rn w base p f v B xs) (hm : l ∈ xs) :
    Calls Try.prog 42 #[.pointer (some ⟨p, f, none⟩), sv l] w fun e w' => e = .returned (.tuple #[]) ∧ w' = w := by
  obtain ⟨D, hown, hD⟩ := h.mp
  have hkey := key_s l hl
  have hc := h.c1
  have hh : has D (kyS l) = true := by rw [hD.hs l]; exact decide_eq_true hm
  go_enter Try.func42, Try.ntmps42
  go_wp2_with (at_lookup; refine wpList_lookup_own_ok_int _ rfl _ _ 59 rfl 9 3 .i64 lawS Try.underlying59 Try.underlying3 (zeroI _) B xs.length D rfl hown _ _ rfl hkey ?_; intro c hat hwc)
  (try simp only [Exit.inBlock, Exit.then])
  refine bodyPost_ret (results_none rfl _ _ _) rfl ?_
  exact ⟨rfl, rfl⟩
theorem add_new (w : World) (base p f B : Nat) (v : Value) (xs : List (List UInt8)) (l : List UInt8) (hl : l.length ≤ 100000) (hx : xs.length ≤ 100000) (h : Rn w base p f v B xs) (hm : l ∉ xs) (hbp : ∀ g, v.ownBlock = some g → g ≠ p) (hb : base ≤ w.heap.size) :
    Calls Try.prog 42 #[.pointer (some ⟨p, f, none⟩), sv l] w fun e w' => e = .returned (.tuple #[]) ∧ ∃ v', Rn w' base p f v' B (xs ++ [l]) ∧ Ad w w' p f B v ∧ ∀ g, v'.ownBlock = some g → v.ownBlock = some g ∨ w.heap.size ≤ g := by
  obtain ⟨D, hown, hD⟩ := h.mp
  have hkey := key_s l hl
  have hc0 := h.c0
  have hc1 := h.c1
  have hh : has D (kyS l) = false := by rw [hD.hs l]; exact decide_eq_false hm
  obtain ⟨A, cap, rfl⟩ : ∃ A cap, v = .slice A xs.length cap := by
    obtain ⟨_, ⟨h1, h2⟩ | ⟨g, cap, cur, h1, _⟩⟩ := h.row
    · exact ⟨none, 0, by rw [h1, h2]⟩
    · exact ⟨_, _, h1⟩
  obtain ⟨w2, hrun, own2, grow2⟩ := hown.drew.update lawS Try.underlying59 (by unfold maxLen; omega) hkey (plainElem_int (H := Unit) Try.underlying3 (a := (xs.length : Int)) (WalkArith.wf_i64 (by omega)))
  go_enter Try.func42, Try.ntmps42
  go_wp2_with (at_lookup; refine wpList_lookup_own_ok_int _ rfl _ _ 59 rfl 9 3 .i64 lawS Try.underlying59 Try.underlying3 (zeroI _) B xs.length D rfl hown _ _ rfl hkey ?_; intro c hat hwc)
  have hpB : p ≠ B := map_ne hown hc0
  have k0 : w2.cell? ⟨p, f, none⟩ = some (.slice A xs.length cap) := grow2.cell hc0 (by simpa using hpB)
  have k1 : w2.cell? ⟨p, f + 1, none⟩ = some (.map (some B)) := grow2.cell hc1 (by simpa using hpB)
  have hrB := row_neB hown h.row
  have row2 := h.row.kept (w' := w2) ⟨grow2.os, grow2.tape, grow2.output, grow2.size, grow2.block⟩ (Or.inr hrB)
  have hp2 : p < w.heap.size := World.block_lt_of_cell? w ⟨p, f, none⟩ hc0
  have kf : w2.frozen? ⟨p, f, none⟩ = false := (grow2.frozen_far ⟨p, f, none⟩ hp2 (by simpa using hpB)).trans h.fz
  have hb2 : base ≤ w2.heap.size := Nat.le_trans hb grow2.size
  obtain ⟨i0, hi0, hz0, hz1, hz2⟩ := info_parts Try.infoS
  go_region_held_law (fun W => W.cell? ⟨p, f, none⟩ = some (.slice A xs.length cap) ∧ W.cell? ⟨p, f + 1, none⟩ = some (.map (some B))) (first | exact ⟨k0, k1⟩ | go_keep) (fail)
  go_wp2_with (at_builtin; refine wpList_append_lies _ (by rfl) _ _ 42 (by rfl) base 9 i0 (.string ByteArray.empty) 1 16 Try.underlying42 hi0 hz0 hz1 hz2 (by rfl) (by decide) _ _ _ (by rfl) (row2.alloc _) ⟨w2.heap.size, 0, none⟩ 1 1 [sv l] (by rfl) (by rfl) ?c1 ?c2 (by decide) ?c3 ?c4 ?c5 _ rfl ?next)
  case c1 => exact World.news_of_block (fr := (0, 0)) (t := 9) (cs := #[sv l]) (heap_alloc_new _ _)
  case c2 => intro u hu; simp at hu; subst hu; rfl
  case c3 => unfold maxLen; omega
  case c4 => omega
  case c5 => simp; omega
  case next =>
    intro g2 cap2 w4 hown4 hgrow hat4 hlt4
    have hp3 : p < (w2.alloc (.cells #[sv l] 9)).heap.size := by have := grow2.size; simp; simp at this; omega
    have hvp : some p ≠ (Value.slice A xs.length cap).ownBlock := fun e => hbp p e.symm rfl
    have k4 : w4.cell? ⟨p, f, none⟩ = some (.slice A xs.length cap) := hgrow.cell (by rw [World.cell?_alloc_lt _ _ _ (World.block_lt_of_cell? w2 _ k0)]; exact k0) hvp
    have kf4 : w4.frozen? ⟨p, f, none⟩ = false := by
      rw [hgrow.frozen_far ⟨p, f, none⟩ hp3 hvp, World.frozen?_alloc_old (h := Nat.ne_of_lt (World.block_lt_of_cell? w2 _ k0))]; exact kf
    go_wp2_with fail
    go_end0
    have hs2 : w.heap.size ≤ w2.heap.size := grow2.size
    have hs4 : w2.heap.size + 1 ≤ w4.heap.size := by have := hgrow.size; simpa using this
    have gp : g2 ≠ p := by
      rcases hat4 with h1 | h1
      · exact hbp g2 h1
      · omega
    have G := grown_setN (w := w4) (p := p) (f := f) (u := .slice (some ⟨g2, 0, none⟩) (xs.length + 1) cap2)
    have q1 : w4.cell? ⟨p, f + 1, none⟩ = some (.map (some B)) := hgrow.cell (by rw [World.cell?_alloc_lt _ _ _ (World.block_lt_of_cell? w2 _ k1)]; exact k1) hvp
    have ob2 := ((own2.alloc (.cells #[sv l] 9)).kept hgrow (Ne.symm hrB)).kept G (by simpa using Ne.symm hpB)
    refine ⟨rfl, .slice (some ⟨g2, 0, none⟩) (xs.length + 1) cap2, ⟨World.cell?_setCell_same _ _ _ k4, ?_, ?_, ?_, ⟨_, ?_, hD.push hm⟩⟩, ⟨?_, ?_, ?_, ?_, fun k hk hkp hkB hkv => ?_, fun j hj => ?_, fun j => ?_⟩, fun g hg => ?_⟩
    · rw [World.cell?_setCell_other _ _ _ _ (by simp)]; exact q1
    · simp [kf4]
    · have := hown4.kept G (Or.inr (by simpa [Value.ownBlock] using gp))
      simpa using this
    · simpa using ob2
    · exact G.os.trans (hgrow.os.trans grow2.os)
    · exact G.tape.trans (hgrow.tape.trans grow2.tape)
    · exact G.output.trans (hgrow.output.trans grow2.output)
    · have := G.size; omega
    · rw [G.block k (by omega) (by simpa using hkp), hgrow.block k (by simp; omega) (fun e => hkv e.symm), Below.heap_alloc w2 _ k (by omega), grow2.block k hk (by simpa using hkB)]; rfl
    · rw [World.cell?_setCell_other _ _ _ _ (by intro e; cases e; exact hj rfl), hgrow.cell_far ⟨p, j, none⟩ hp3 hvp, World.cell?_alloc_lt w2 _ ⟨p, j, none⟩ (World.block_lt_of_cell? w2 ⟨p, f, none⟩ k0)]
      exact grow2.cell_far ⟨p, j, none⟩ hp2 (by simpa using hpB)
    · have hne : (⟨p, j, none⟩ : Addr).block ≠ w2.heap.size := Nat.ne_of_lt (World.block_lt_of_cell? w2 ⟨p, f, none⟩ k0)
      rw [show (w4.setCell ⟨p, f, none⟩ (.slice (some ⟨g2, 0, none⟩) (xs.length + 1) cap2)).frozen? ⟨p, j, none⟩ = w4.frozen? ⟨p, j, none⟩ by simp, hgrow.frozen_far ⟨p, j, none⟩ hp3 hvp, World.frozen?_alloc_old (h := hne)]
      exact grow2.frozen_far ⟨p, j, none⟩ hp2 (by simpa using hpB)
    · have e : g2 = g := by simpa [Value.ownBlock] using hg
      subst e
      rcases hat4 with h1 | h1
      · exact .inl h1
      · exact .inr (by omega)

end Go.Proofs.Ytmhplaanpbpndaa

namespace Go.Proofs.Ytmhplaanpbpndaa
open Go.Maps Go.RowKit
set_option maxRecDepth 100000

@[go_sem] theorem run_store_fltN {P : Program} (w : World) (a : Addr) (m : Mode) (k : FloatKind) (b : Nat) : (store a (.float k b) m).run P w = stored P w a (.float k b) m := run_store P w a _ m rfl
/-- no net: nil, or a struct without a map -/
def NoNet (P : Value) (w : World) : Prop := P = .pointer none ∨ ∃ p, P = .pointer (some ⟨p, 0, none⟩) ∧ w.cell? ⟨p, 2, none⟩ = some (.map none)
theorem NoNet.below {P : Value} {w w' : World} (h : NoNet P w) (hb : Below w.heap.size w w') : NoNet P w' := by
  rcases h with h | ⟨p, h1, h2⟩
  · exact .inl h
  · exact .inr ⟨p, h1, (hb.cell (World.block_lt_of_cell? w _ h2)).trans h2⟩
theorem NoNet.al {P : Value} {w : World} (h : NoNet P w) (o : Obj) : NoNet P (w.alloc o) := h.below ((Below.refl _ w).alloc (Nat.le_refl _) o)
theorem neq_mapN (m : Option Nat) (W : World) : (binOp .neq 59 (.map m) (.map none)).run Try.prog W = .ok (.bool (!m.isNone)) W := run_neq_map_nil W 59 9 3 m Try.underlying59
theorem made_none {P : Value} {w : World} (h : NoNet P w) : Calls Try.prog 43 #[P] w fun e w' => e = .returned (.bool false) ∧ w' = w := by
  have hmn := neq_mapN none
  rcases h with rfl | ⟨p, rfl, hc⟩
  · go_enter Try.func43, Try.ntmps43
    go_wp2_with fail
    go_ret
    exact ⟨rfl, rfl⟩
  · go_enter Try.func43, Try.ntmps43
    go_wp2_with fail
    go_ret
    exact ⟨rfl, rfl⟩
theorem made_yes {w : World} {p B : Nat} (hc : w.cell? ⟨p, 2, none⟩ = some (.map (some B))) : Calls Try.prog 43 #[.pointer (some ⟨p, 0, none⟩)] w fun e w' => e = .returned (.bool true) ∧ w' = w := by
  have hmn := neq_mapN (some B)
  go_enter Try.func43, Try.ntmps43
  go_wp2_with fail
  go_ret
  exact ⟨rfl, rfl⟩
theorem nplace_none {P : Value} {w : World} (h : NoNet P w) (s : ByteArray) : Calls Try.prog 92 #[P, .string s] w fun e w' => e = .returned (.tuple #[.int .i64 0, .bool false]) ∧ w' = w := by
  go_enter Try.func92, Try.ntmps92
  go_wp2_with (go_at_call 43; (with_reducible refine (made_none h).mono ?_); rintro e1 w1 ⟨rfl, rfl⟩)
  go_ret2
  exact ⟨rfl, rfl⟩
theorem nbranch_none {P : Value} {w : World} (h : NoNet P w) (s : ByteArray) : Calls Try.prog 96 #[P, .string s] w fun e w' => e = .returned (.tuple #[.int .i64 0, .bool false]) ∧ w' = w := by
  go_enter Try.func96, Try.ntmps96
  go_wp2_with (go_at_call 43; (with_reducible refine (made_none h).mono ?_); rintro e1 w1 ⟨rfl, rfl⟩)
  go_ret2
  exact ⟨rfl, rfl⟩
theorem nwithout_none {P : Value} {w : World} (h : NoNet P w) (s : ByteArray) : Calls Try.prog 49 #[P, .string s] w fun e w' => e = .returned (.tuple #[.pointer none, .int .i64 1]) ∧ w' = w := by
  go_enter Try.func49, Try.ntmps49
  go_wp2_with (go_at_call 43; (with_reducible refine (made_none h).mono ?_); rintro e1 w1 ⟨rfl, rfl⟩)
  go_ret2
  exact ⟨rfl, rfl⟩
theorem norder_none {P : Value} {w : World} (h : NoNet P w) : Calls Try.prog 21 #[P] w fun e w' => e = .returned (.int .i64 0) ∧ w' = w := by
  go_enter Try.func21, Try.ntmps21
  go_wp2_with (go_at_call 43; (with_reducible refine (made_none h).mono ?_); rintro e1 w1 ⟨rfl, rfl⟩)
  go_ret
  exact ⟨rfl, rfl⟩
theorem nelements_none {P : Value} {w : World} (h : NoNet P w) : Calls Try.prog 28 #[P] w fun e w' => e = .returned (.slice none 0 0) ∧ w' = w := by
  go_enter Try.func28, Try.ntmps28
  go_wp2_with (go_at_call 43; (with_reducible refine (made_none h).mono ?_); rintro e1 w1 ⟨rfl, rfl⟩)
  go_ret
  exact ⟨rfl, rfl⟩
theorem nnodes_none {P : Value} {w : World} (h : NoNet P w) : Calls Try.prog 26 #[P] w fun e w' => e = .returned (.slice none 0 0) ∧ w' = w := by
  go_enter Try.func26, Try.ntmps26
  go_wp2_with (go_at_call 43; (with_reducible refine (made_none h).mono ?_); rintro e1 w1 ⟨rfl, rfl⟩)
  go_ret
  exact ⟨rfl, rfl⟩
theorem nbranches_none {P : Value} {w : World} (h : NoNet P w) : Calls Try.prog 30 #[P] w fun e w' => e = .returned (.slice none 0 0) ∧ w' = w := by
  go_enter Try.func30, Try.ntmps30
  go_wp2_with (go_at_call 43; (with_reducible refine (made_none h).mono ?_); rintro e1 w1 ⟨rfl, rfl⟩)
  go_ret
  exact ⟨rfl, rfl⟩
end Go.Proofs.Ytmhplaanpbpndaa

namespace Go.Proofs.Ytmhplaanpbpndaa
open Go.Maps Go.RowKit
set_option maxRecDepth 100000

theorem newRow_any (w : World) : Calls Try.prog 17 #[] w fun e w' => ∃ B, e = .returned (.agg #[.slice none 0 0, .map (some B)]) ∧ Mp w' B [] ∧ Below w.heap.size w w' ∧ w.heap.size ≤ B ∧ B < w'.heap.size := by
  have hmm := @run_makeMap Try.prog
  go_enter Try.func17, Try.ntmps17
  go_wp2_with fail
  (try simp only [Exit.inBlock, Exit.then])
  refine bodyPost_ret (by simp [results, Try.results17, go_sem]; try rfl) rfl ?_
  have h := World.ownsMap_made (H := Unit) (w.alloc (.cells #[.slice none 0 0, .map (some (w.heap.size + 1))] 61)) Try.prog 9 (plainElem Try.prog 3)
  rw [show (w.alloc (.cells #[.slice none 0 0, .map (some (w.heap.size + 1))] 61)).heap.size = w.heap.size + 1 by simp] at h
  exact ⟨w.heap.size + 1, rfl, ⟨_, h, MdOk.empty⟩, ((Below.refl _ w).alloc (Nat.le_refl _) _).alloc (by simp) _, by omega, by simp⟩

end Go.Proofs.Ytmhplaanpbpndaa

namespace Go.Proofs.Ytmhplaanpbpndaa
open Go.Maps Go.RowKit
set_option maxRecDepth 100000

/-- eight cells of a block, each of them may be written -/
theorem eight {w : World} {p : Nat} {a b c d e f g h : Value} {t : TypeId} (hb : w.heap[p]? = some (.cells #[a, b, c, d, e, f, g, h] t (0, 0))) :
    (w.cell? ⟨p, 0, none⟩ = some a ∧ w.cell? ⟨p, 1, none⟩ = some b ∧ w.cell? ⟨p, 2, none⟩ = some c ∧ w.cell? ⟨p, 3, none⟩ = some d ∧ w.cell? ⟨p, 4, none⟩ = some e ∧ w.cell? ⟨p, 5, none⟩ = some f ∧ w.cell? ⟨p, 6, none⟩ = some g ∧ w.cell? ⟨p, 7, none⟩ = some h) ∧
    (w.frozen? ⟨p, 0, none⟩ = false ∧ w.frozen? ⟨p, 1, none⟩ = false ∧ w.frozen? ⟨p, 2, none⟩ = false ∧ w.frozen? ⟨p, 3, none⟩ = false ∧ w.frozen? ⟨p, 4, none⟩ = false ∧ w.frozen? ⟨p, 5, none⟩ = false ∧ w.frozen? ⟨p, 6, none⟩ = false ∧ w.frozen? ⟨p, 7, none⟩ = false) := by
  refine ⟨⟨?_, ?_, ?_, ?_, ?_, ?_, ?_, ?_⟩, ⟨?_, ?_, ?_, ?_, ?_, ?_, ?_, ?_⟩⟩
  all_goals first | exact frozen_of_row w p _ _ _ hb | (rw [cell_of_row w p _ _ _ (0, 0) hb]; rfl)
theorem below_set {w0 w : World} {p j : Nat} {u : Value} (hb : Below p w0 w) : Below p w0 (w.setCell ⟨p, j, none⟩ u) :=
  ⟨hb.os, hb.tape, hb.output, by have := hb.size; simpa [World.setCell] using this, fun k hk => (heap_setCell_other w ⟨p, j, none⟩ k u (by simp; omega)).trans (hb.block k hk)⟩
def st8 (w : World) (p : Nat) (a b c d e f g h : Value) : World := (((((((w.setCell ⟨p, 0, none⟩ a).setCell ⟨p, 1, none⟩ b).setCell ⟨p, 2, none⟩ c).setCell ⟨p, 3, none⟩ d).setCell ⟨p, 4, none⟩ e).setCell ⟨p, 5, none⟩ f).setCell ⟨p, 6, none⟩ g).setCell ⟨p, 7, none⟩ h
theorem set_at {w : World} {p i : Nat} {c c' : Array Value} {t : TypeId} {v : Value} (hb : w.heap[p]? = some (.cells c t (0, 0))) (hc : c.setIfInBounds i v = c') : (w.setCell ⟨p, i, none⟩ v).heap[p]? = some (.cells c' t (0, 0)) := by rw [← hc]; exact heap_setCell_same w p i c t v hb
theorem st8_blk {w : World} {p : Nat} {a b c d e f g h : Value} {t : TypeId} (hb : w.heap[p]? = some (.cells #[a, b, c, d, e, f, g, h] t (0, 0))) (a' b' c' d' e' f' g' h' : Value) : (st8 w p a' b' c' d' e' f' g' h').heap[p]? = some (.cells #[a', b', c', d', e', f', g', h'] t (0, 0)) := by
  have h0 := set_at (i := 0) (v := a') (c' := #[a', b, c, d, e, f, g, h]) hb rfl
  have h1 := set_at (i := 1) (v := b') (c' := #[a', b', c, d, e, f, g, h]) h0 rfl
  have h2 := set_at (i := 2) (v := c') (c' := #[a', b', c', d, e, f, g, h]) h1 rfl
  have h3 := set_at (i := 3) (v := d') (c' := #[a', b', c', d', e, f, g, h]) h2 rfl
  have h4 := set_at (i := 4) (v := e') (c' := #[a', b', c', d', e', f, g, h]) h3 rfl
  have h5 := set_at (i := 5) (v := f') (c' := #[a', b', c', d', e', f', g, h]) h4 rfl
  have h6 := set_at (i := 6) (v := g') (c' := #[a', b', c', d', e', f', g', h]) h5 rfl
  have h7 := set_at (i := 7) (v := h') (c' := #[a', b', c', d', e', f', g', h']) h6 rfl
  unfold st8
  exact h7
theorem st8_bel {w0 w : World} {p : Nat} (hb : Below p w0 w) (a b c d e f g h : Value) : Below p w0 (st8 w p a b c d e f g h) := by
  unfold st8
  exact below_set (below_set (below_set (below_set (below_set (below_set (below_set (below_set hb)))))))

/-- two cells of a block that is known whole -/
theorem tw_c {w : World} {B : Nat} {a b : Value} {T : TypeId} (h : w.heap[B]? = some (.cells #[a, b] T (0, 0))) : w.cell? ⟨B, 0, none⟩ = some a ∧ w.cell? ⟨B, 1, none⟩ = some b ∧ w.frozen? ⟨B, 0, none⟩ = false ∧ w.frozen? ⟨B, 1, none⟩ = false :=
  ⟨by rw [cell_of_row w B 0 _ T (0, 0) h]; rfl, by rw [cell_of_row w B 1 _ T (0, 0) h]; rfl, frozen_of_row w B 0 _ T h, frozen_of_row w B 1 _ T h⟩
theorem tw_set {w : World} {B : Nat} {a b : Value} {T : TypeId} (h : w.heap[B]? = some (.cells #[a, b] T (0, 0))) (x y : Value) :
    ((w.setCell ⟨B, 0, none⟩ x).setCell ⟨B, 1, none⟩ y).cell? ⟨B, 0, none⟩ = some x ∧ ((w.setCell ⟨B, 0, none⟩ x).setCell ⟨B, 1, none⟩ y).cell? ⟨B, 1, none⟩ = some y := by
  obtain ⟨c0, c1, _, _⟩ := tw_c h
  constructor
  · rw [World.cell?_setCell_other _ _ _ _ (by simp)]
    exact World.cell?_setCell_same _ _ _ c0
  · refine World.cell?_setCell_same _ _ _ (u := b) ?_
    rw [World.cell?_setCell_other _ _ _ _ (by simp)]; exact c1
theorem tw_bel {w w' : World} {f n : Nat} (h : Below n w w') (hf : n ≤ f) (x y : Value) : Below n w ((w'.setCell ⟨f, 0, none⟩ x).setCell ⟨f, 1, none⟩ y) :=
  (h.setCell (p := ⟨f, 0, none⟩) hf _).setCell (p := ⟨f, 1, none⟩) hf _

end Go.Proofs.Ytmhplaanpbpndaa

namespace Go.Proofs.Ytmhplaanpbpndaa

/-- a text's bytes -/
abbrev bl (s : ByteArray) : List UInt8 := s.data.toList
theorem sv_bl (s : ByteArray) : sv (bl s) = .string s := rfl
theorem bl_len (s : ByteArray) : (bl s).length = s.size := rfl
/-- a name behind the others, unless it is among them -/
def addU (xs : List (List UInt8)) (s : List UInt8) : List (List UInt8) := if s ∈ xs then xs else xs ++ [s]
theorem addU_len (xs : List (List UInt8)) (s : List UInt8) : (addU xs s).length ≤ xs.length + 1 := by unfold addU; split <;> simp
/-- a node that is laid: neither empty nor the ground -/
def isN (s : ByteArray) : Bool := !(bl s == []) && !(bl s == [48])
def ndO (xs : List (List UInt8)) (s : ByteArray) : List (List UInt8) := if isN s = true then addU xs (bl s) else xs
theorem ndO_len (xs : List (List UInt8)) (s : ByteArray) : (ndO xs s).length ≤ xs.length + 1 := by unfold ndO; split; exact addU_len _ _; omega
def ndE (xs : List (List UInt8)) (x : Elm) : List (List UInt8) := ndO (ndO (ndO (ndO xs x.a) x.b) x.c) x.d
def isB (x : Elm) : Bool := x.k == 5 || x.k == 7
def brE (xs : List (List UInt8)) (x : Elm) : List (List UInt8) := if isB x = true then addU xs (bl x.n) else xs
/-- a net: its elements, their names, its nodes, its branches -/
structure Ns where
  es : List Elm
  nm : List (List UInt8)
  nd : List (List UInt8)
  br : List (List UInt8)
def Ns.nil : Ns := ⟨[], [], [], []⟩
def Ns.lay (N : Ns) (x : Elm) : Ns := ⟨N.es ++ [x], addU N.nm (bl x.n), ndE N.nd x, brE N.br x⟩
theorem ndE_len (xs : List (List UInt8)) (x : Elm) : (ndE xs x).length ≤ xs.length + 4 := by
  unfold ndE
  have h1 := ndO_len xs x.a
  have h2 := ndO_len (ndO xs x.a) x.b
  have h3 := ndO_len (ndO (ndO xs x.a) x.b) x.c
  have h4 := ndO_len (ndO (ndO (ndO xs x.a) x.b) x.c) x.d
  omega
theorem brE_len (xs : List (List UInt8)) (x : Elm) : (brE xs x).length ≤ xs.length + 1 := by unfold brE; split; exact addU_len _ _; omega
/-- how long its lists may be behind i elements -/
structure Ns.fits (N : Ns) (i : Nat) : Prop where
  es : N.es.length = i
  nm : N.nm.length ≤ i
  nd : N.nd.length ≤ 4 * i
  br : N.br.length ≤ i
theorem Ns.fits.nil : Ns.nil.fits 0 := ⟨rfl, Nat.le_refl _, Nat.le_refl _, Nat.le_refl _⟩
theorem Ns.fits.lay {N : Ns} {i : Nat} (h : N.fits i) (x : Elm) : (N.lay x).fits (i + 1) := by
  have h1 := addU_len N.nm (bl x.n)
  have h2 := ndE_len N.nd x
  have h3 := brE_len N.br x
  exact ⟨by simp [Ns.lay, h.es], by have := h.nm; show (addU N.nm (bl x.n)).length ≤ _; omega, by have := h.nd; show (ndE N.nd x).length ≤ _; omega, by have := h.br; show (brE N.br x).length ≤ _; omega⟩
/-- what Of finds from the i-th element on, and the net as far as it is laid -/
def ofR (N : Ns) (i : Nat) : List Elm → (Int × Int) × Ns
  | [] => if 32 < N.nd.length ∨ 64 < N.nd.length + N.br.length then ((3, -1), N) else ((0, 0), N)
  | x :: t => if chkI x ≠ 0 then ((chkI x, i), N) else if bl x.n ∈ N.nm then ((9, i), N) else ofR (N.lay x) (i + 1) t
/-- what Of answers -/
def ofA (l : List Elm) : (Int × Int) × Ns := if 256 < l.length then ((3, -1), Ns.nil) else ofR Ns.nil 0 l

end Go.Proofs.Ytmhplaanpbpndaa

namespace Go.Proofs.Ytmhplaanpbpndaa
open Go.Maps Go.RowKit
set_option linter.unusedVariables false

/-- an element's eight cells, a list's -/
def elC (x : Elm) : List Value := [.int .u8 (x.k : Int), .string x.n, .string x.a, .string x.b, .string x.c, .string x.d, .float .f64 x.v, .int .i64 x.ph]
def elCs (l : List Elm) : List Value := l.flatMap elC
theorem elCs_len (l : List Elm) : (elCs l).length = l.length * 8 := by
  induction l with
  | nil => rfl
  | cons x t ih => unfold elCs at *; rw [List.flatMap_cons, List.length_append, ih]; simp [elC]; omega
theorem elCs_snoc (l : List Elm) (x : Elm) : elCs (l ++ [x]) = elCs l ++ elC x := by unfold elCs; simp
theorem elCs_get {l : List Elm} {j : Nat} {x : Elm} (h : l[j]? = some x) {c : Nat} (hc : c < 8) : (elCs l)[j * 8 + c]? = (elC x)[c]? := by
  induction l generalizing j with
  | nil => cases h
  | cons y t ih =>
    have hu : elCs (y :: t) = elC y ++ elCs t := by unfold elCs; rw [List.flatMap_cons]
    have hy : (elC y).length = 8 := rfl
    rw [hu]
    cases j with
    | zero => cases h; rw [List.getElem?_append_left (by rw [hy]; omega)]; simp
    | succ j =>
      rw [List.getElem?_append_right (by rw [hy]; omega), hy, show (j + 1) * 8 + c - 8 = j * 8 + c by omega]
      exact ih (by simpa using h)
theorem row_block {w w' : World} {base : Nat} {e : TypeId} {sz : Nat} {v : Value} {n : Nat} {xs : List Value} (h : w.ownsRow base e sz v n xs) (hk : ∀ g, v.ownBlock = some g → w'.heap[g]? = w.heap[g]?) : w'.ownsRow base e sz v n xs := by
  obtain ⟨h0, h1 | ⟨g, cap, cur, rfl, h2, h3, h4⟩⟩ := h
  · exact ⟨h0, .inl h1⟩
  · exact ⟨h0, .inr ⟨g, cap, cur, rfl, h2, by rw [hk g rfl]; exact h3, h4⟩⟩
theorem row_ge {w : World} {base : Nat} {e : TypeId} {sz : Nat} {v : Value} {n : Nat} {xs : List Value} (h : w.ownsRow base e sz v n xs) {g : Nat} (hg : v.ownBlock = some g) : base ≤ g ∧ g < w.heap.size := by
  obtain ⟨h0, ⟨rfl, _⟩ | ⟨g2, cap, cur, rfl, h2, h3, h4⟩⟩ := h
  · cases hg
  · cases hg; exact ⟨h2, (Array.getElem?_eq_some_iff.1 h3).1⟩
theorem row_type {w : World} {base b2 : Nat} {e e2 : TypeId} {sz s2 : Nat} {v v2 : Value} {n n2 : Nat} {xs ys : List Value} (h : w.ownsRow base e sz v n xs) (h2 : w.ownsRow b2 e2 s2 v2 n2 ys) (hne : e ≠ e2) {g : Nat} (hg : v.ownBlock = some g) : v2.ownBlock ≠ some g := by
  intro hg2
  obtain ⟨_, ⟨rfl, _⟩ | ⟨_, _, _, rfl, _, q3, _⟩⟩ := h
  · cases hg
  · cases hg
    obtain ⟨_, ⟨rfl, _⟩ | ⟨_, _, _, rfl, _, r3, _⟩⟩ := h2
    · cases hg2
    · cases hg2
      rw [q3] at r3
      injection r3 with r3; injection r3 with _ r3
      exact hne r3
theorem Mp.blk {w w' : World} {B : Nat} {xs : List (List UInt8)} (h : Mp w B xs) (hk : w'.heap[B]? = w.heap[B]?) : Mp w' B xs := by
  obtain ⟨D, ⟨es, clock, h1, h2⟩, h3⟩ := h
  exact ⟨D, ⟨es, clock, by rw [hk]; exact h1, h2⟩, h3⟩
theorem Mp.lt {w : World} {B : Nat} {xs : List (List UInt8)} (h : Mp w B xs) : B < w.heap.size := by
  obtain ⟨D, ⟨es, clock, h1, h2⟩, h3⟩ := h
  exact (Array.getElem?_eq_some_iff.1 h1).1
theorem Mp.ne {w : World} {B : Nat} {xs : List (List UInt8)} (h : Mp w B xs) {p f : Nat} {u : Value} (hc : w.cell? ⟨p, f, none⟩ = some u) : p ≠ B := by
  obtain ⟨D, hown, _⟩ := h
  exact map_ne hown hc
theorem Mp.row {w : World} {B : Nat} {xs : List (List UInt8)} (h : Mp w B xs) {base : Nat} {e : TypeId} {sz : Nat} {v : Value} {n : Nat} {ys : List Value} (hr : w.ownsRow base e sz v n ys) : v.ownBlock ≠ some B := by
  intro hv
  obtain ⟨D, ⟨es, clock, hb, _⟩, _⟩ := h
  obtain ⟨_, ⟨rfl, _⟩ | ⟨g, cap, cur, rfl, _, h4, _⟩⟩ := hr
  · cases hv
  · simp [Value.ownBlock] at hv
    subst hv
    rw [hb] at h4; cases h4
/-- two rows that are no one's -/
def Sep (u v : Value) : Prop := ∀ g, u.ownBlock = some g → v.ownBlock ≠ some g
theorem Sep.symm {u v : Value} (h : Sep u v) : Sep v u := fun g h1 h2 => h g h2 h1
/-- add leaves another row of names as it was -/
theorem Rn.keep {w w' : World} {base p f f' : Nat} {v v' : Value} {B B' : Nat} {xs : List (List UInt8)} (h : Rn w base p f v B xs) (hp : p < base) (ha : Ad w w' p f' B' v') (h1 : f ≠ f') (h2 : f + 1 ≠ f') (hB : B ≠ B') (hs : Sep v v') (hv' : v'.ownBlock ≠ some B) (hv : v.ownBlock ≠ some B') : Rn w' base p f v B xs where
  c0 := (ha.cl f h1).trans h.c0
  c1 := (ha.cl (f + 1) h2).trans h.c1
  fz := (ha.fz f).trans h.fz
  row := row_block h.row fun g hg => ha.fr g (row_ge h.row hg).2 (fun e => by have := (row_ge h.row hg).1; omega) (fun e => hv (by rw [hg, e])) (hs g hg)
  mp := h.mp.blk (ha.fr B h.mp.lt (fun e => h.mp.ne h.c0 e.symm) hB hv')
/-- add, whether the name is there or not -/
theorem nadd_any (w : World) (base p f B : Nat) (v : Value) (xs : List (List UInt8)) (l : List UInt8) (hl : l.length ≤ 100000) (hx : xs.length ≤ 100000) (h : Rn w base p f v B xs) (hp : p < base) (hb : base ≤ w.heap.size) :
    Calls Try.prog 42 #[.pointer (some ⟨p, f, none⟩), sv l] w fun e w' => e = .returned (.tuple #[]) ∧ ∃ v', Rn w' base p f v' B (addU xs l) ∧ Ad w w' p f B v ∧ ∀ g, v'.ownBlock = some g → v.ownBlock = some g ∨ w.heap.size ≤ g := by
  unfold addU
  by_cases hm : l ∈ xs
  · rw [if_pos hm]
    refine (add_old w base p f B v xs l hl h hm).mono ?_
    rintro e w' ⟨rfl, rfl⟩
    exact ⟨rfl, v, h, ⟨rfl, rfl, rfl, Nat.le_refl _, fun _ _ _ _ _ => rfl, fun _ _ => rfl, fun _ => rfl⟩, fun g hg => .inl hg⟩
  · rw [if_neg hm]
    exact add_new w base p f B v xs l hl hx h hm (fun g hg e => by have := (row_ge h.row hg).1; omega) hb

/-- the blocks of a net -/
structure Nb where
  v0 : Value
  v1 : Value
  v3 : Value
  v5 : Value
  B2 : Nat
  B4 : Nat
  B6 : Nat
/-- a net in memory, at p -/
structure Nt (w : World) (base p : Nat) (N : Ns) (b : Nb) : Prop where
  c0 : w.cell? ⟨p, 0, none⟩ = some b.v0
  f0 : w.frozen? ⟨p, 0, none⟩ = false
  es : w.ownsRow base 55 8 b.v0 N.es.length (elCs N.es)
  nm : Rn w base p 1 b.v1 b.B2 N.nm
  nd : Rn w base p 3 b.v3 b.B4 N.nd
  br : Rn w base p 5 b.v5 b.B6 N.br
  lo : p < base
  hi : base ≤ w.heap.size
  m1 : b.B2 ≠ b.B4
  m2 : b.B2 ≠ b.B6
  m3 : b.B4 ≠ b.B6
  s1 : Sep b.v1 b.v3
  s2 : Sep b.v1 b.v5
  s3 : Sep b.v3 b.v5
theorem Nt.below {w w' : World} {base p : Nat} {N : Ns} {b : Nb} (h : Nt w base p N b) (hb : Below w.heap.size w w') : Nt w' base p N b := by
  have hp : p < w.heap.size := World.block_lt_of_cell? w _ h.c0
  have hR : ∀ {f v B xs}, Rn w base p f v B xs → Rn w' base p f v B xs := fun q => ⟨(hb.cell hp).trans q.c0, (hb.cell hp).trans q.c1, (World.frozen?_of_block (hb.block p hp)).trans q.fz, row_block q.row fun g hg => hb.block g (row_ge q.row hg).2, q.mp.blk (hb.block _ q.mp.lt)⟩
  exact ⟨(hb.cell hp).trans h.c0, (World.frozen?_of_block (hb.block p hp)).trans h.f0, row_block h.es fun g hg => hb.block g (row_ge h.es hg).2, hR h.nm, hR h.nd, hR h.br, h.lo, Nat.le_trans h.hi hb.size, h.m1, h.m2, h.m3, h.s1, h.s2, h.s3⟩
theorem ne_es : (55 : TypeId) ≠ 9 := by decide
theorem Nt.es_keep {w w' : World} {base p f' : Nat} {N : Ns} {b : Nb} {v' : Value} {B' : Nat} {xs : List (List UInt8)} (h : Nt w base p N b) (hr : Rn w base p f' v' B' xs) (ha : Ad w w' p f' B' v') : w'.ownsRow base 55 8 b.v0 N.es.length (elCs N.es) :=
  row_block h.es fun g hg => ha.fr g (row_ge h.es hg).2 (fun e => by have := (row_ge h.es hg).1; have := h.lo; omega) (fun e => hr.mp.row h.es (by rw [hg, e])) (row_type h.es hr.row ne_es hg)
theorem sep_new {u v v' : Value} {n : Nat} (h : Sep u v) (hv : ∀ g, v'.ownBlock = some g → v.ownBlock = some g ∨ n ≤ g) (hu : ∀ g, u.ownBlock = some g → g < n) : Sep u v' := by
  intro g h1 h2
  rcases hv g h2 with q | q
  · exact h g h1 q
  · have := hu g h1; omega
theorem Nt.addNm {w w' : World} {base p : Nat} {N : Ns} {b : Nb} {v' : Value} {xs : List (List UInt8)} (h : Nt w base p N b) (hr : Rn w' base p 1 v' b.B2 xs) (ha : Ad w w' p 1 b.B2 b.v1) (hv : ∀ g, v'.ownBlock = some g → b.v1.ownBlock = some g ∨ w.heap.size ≤ g) : Nt w' base p { N with nm := xs } { b with v1 := v' } where
  c0 := (ha.cl 0 (by decide)).trans h.c0
  f0 := (ha.fz 0).trans h.f0
  es := h.es_keep h.nm ha
  nm := hr
  nd := h.nd.keep h.lo ha (by decide) (by decide) (Ne.symm h.m1) h.s1.symm (h.nd.mp.row h.nm.row) (h.nm.mp.row h.nd.row)
  br := h.br.keep h.lo ha (by decide) (by decide) (Ne.symm h.m2) h.s2.symm (h.br.mp.row h.nm.row) (h.nm.mp.row h.br.row)
  lo := h.lo
  hi := Nat.le_trans h.hi ha.sz
  m1 := h.m1
  m2 := h.m2
  m3 := h.m3
  s1 := (sep_new h.s1.symm hv fun g hg => (row_ge h.nd.row hg).2).symm
  s2 := (sep_new h.s2.symm hv fun g hg => (row_ge h.br.row hg).2).symm
  s3 := h.s3
theorem Nt.addNd {w w' : World} {base p : Nat} {N : Ns} {b : Nb} {v' : Value} {xs : List (List UInt8)} (h : Nt w base p N b) (hr : Rn w' base p 3 v' b.B4 xs) (ha : Ad w w' p 3 b.B4 b.v3) (hv : ∀ g, v'.ownBlock = some g → b.v3.ownBlock = some g ∨ w.heap.size ≤ g) : Nt w' base p { N with nd := xs } { b with v3 := v' } where
  c0 := (ha.cl 0 (by decide)).trans h.c0
  f0 := (ha.fz 0).trans h.f0
  es := h.es_keep h.nd ha
  nm := h.nm.keep h.lo ha (by decide) (by decide) h.m1 h.s1 (h.nm.mp.row h.nd.row) (h.nd.mp.row h.nm.row)
  nd := hr
  br := h.br.keep h.lo ha (by decide) (by decide) (Ne.symm h.m3) h.s3.symm (h.br.mp.row h.nd.row) (h.nd.mp.row h.br.row)
  lo := h.lo
  hi := Nat.le_trans h.hi ha.sz
  m1 := h.m1
  m2 := h.m2
  m3 := h.m3
  s1 := sep_new h.s1 hv fun g hg => (row_ge h.nm.row hg).2
  s2 := h.s2
  s3 := (sep_new h.s3.symm hv fun g hg => (row_ge h.br.row hg).2).symm
theorem Nt.addBr {w w' : World} {base p : Nat} {N : Ns} {b : Nb} {v' : Value} {xs : List (List UInt8)} (h : Nt w base p N b) (hr : Rn w' base p 5 v' b.B6 xs) (ha : Ad w w' p 5 b.B6 b.v5) (hv : ∀ g, v'.ownBlock = some g → b.v5.ownBlock = some g ∨ w.heap.size ≤ g) : Nt w' base p { N with br := xs } { b with v5 := v' } where
  c0 := (ha.cl 0 (by decide)).trans h.c0
  f0 := (ha.fz 0).trans h.f0
  es := h.es_keep h.br ha
  nm := h.nm.keep h.lo ha (by decide) (by decide) h.m2 h.s2 (h.nm.mp.row h.br.row) (h.br.mp.row h.nm.row)
  nd := h.nd.keep h.lo ha (by decide) (by decide) h.m3 h.s3 (h.nd.mp.row h.br.row) (h.br.mp.row h.nd.row)
  br := hr
  lo := h.lo
  hi := Nat.le_trans h.hi ha.sz
  m1 := h.m1
  m2 := h.m2
  m3 := h.m3
  s1 := h.s1
  s2 := sep_new h.s2 hv fun g hg => (row_ge h.nm.row hg).2
  s3 := sep_new h.s3 hv fun g hg => (row_ge h.nd.row hg).2
/-- the list of elements anew: a row that has grown, its value stored -/
theorem Nt.addEs {w w1 : World} {base p : Nat} {N : Ns} {b : Nb} {v' : Value} {l : List Elm} (h : Nt w base p N b) (hg : w.grownBy w1 b.v0.ownBlock) (hr : w1.ownsRow base 55 8 v' l.length (elCs l)) (hv : ∀ g, v'.ownBlock = some g → b.v0.ownBlock = some g ∨ w.heap.size ≤ g) : Nt (w1.setCell ⟨p, 0, none⟩ v') base p { N with es := l } { b with v0 := v' } := by
  have hp : p < w.heap.size := World.block_lt_of_cell? w _ h.c0
  have hp0 : b.v0.ownBlock ≠ some p := fun e => by have := (row_ge h.es e).1; have := h.lo; omega
  have hk : ∀ k, k < w.heap.size → k ≠ p → b.v0.ownBlock ≠ some k → (w1.setCell ⟨p, 0, none⟩ v').heap[k]? = w.heap[k]? := fun k h1 h2 h3 => (heap_setCell_other w1 ⟨p, 0, none⟩ k v' (by simpa using h2)).trans (hg.block k h1 (fun e => h3 e.symm))
  have hpb : w1.heap[p]? = w.heap[p]? := hg.block p hp (fun e => hp0 e.symm)
  have hc : ∀ j, j ≠ 0 → (w1.setCell ⟨p, 0, none⟩ v').cell? ⟨p, j, none⟩ = w.cell? ⟨p, j, none⟩ := fun j hj => by
    rw [World.cell?_setCell_other _ _ _ _ (by intro e; cases e; exact hj rfl)]; exact World.cell?_of_block hpb
  have hz : ∀ j, (w1.setCell ⟨p, 0, none⟩ v').frozen? ⟨p, j, none⟩ = w.frozen? ⟨p, j, none⟩ := fun j => by
    rw [show (w1.setCell ⟨p, 0, none⟩ v').frozen? ⟨p, j, none⟩ = w1.frozen? ⟨p, j, none⟩ by simp]; exact World.frozen?_of_block hpb
  have hR : ∀ {f v B xs}, f ≠ 0 → Rn w base p f v B xs → Rn (w1.setCell ⟨p, 0, none⟩ v') base p f v B xs := fun hf q => ⟨(hc _ hf).trans q.c0, (hc _ (by omega)).trans q.c1, (hz _).trans q.fz, row_block q.row fun g hg2 => hk g (row_ge q.row hg2).2 (fun e => by have := (row_ge q.row hg2).1; have := h.lo; omega) (row_type q.row h.es (Ne.symm ne_es) hg2), q.mp.blk (hk _ q.mp.lt (fun e => q.mp.ne q.c0 e.symm) (q.mp.row h.es))⟩
  have hv1 : v'.ownBlock ≠ some p := fun e => by have := (row_ge hr e).1; have := h.lo; omega
  have hsz : w1.heap.size = (w1.setCell ⟨p, 0, none⟩ v').heap.size := by simp [World.setCell]
  exact ⟨World.cell?_setCell_same w1 _ _ ((World.cell?_of_block hpb).trans h.c0), (hz 0).trans h.f0, row_block hr fun g hg2 => heap_setCell_other w1 ⟨p, 0, none⟩ g v' (fun e => hv1 (by rw [hg2]; simpa using e)), hR (by decide) h.nm, hR (by decide) h.nd, hR (by decide) h.br, h.lo, by rw [← hsz]; exact Nat.le_trans h.hi hg.size, h.m1, h.m2, h.m3, h.s1, h.s2, h.s3⟩

end Go.Proofs.Ytmhplaanpbpndaa

namespace Go.Proofs.Ytmhplaanpbpndaa
open Go.Maps Go.RowKit
set_option linter.unusedVariables false
set_option maxRecDepth 100000

theorem add_s (w : World) (base p f B : Nat) (v : Value) (xs : List (List UInt8)) (s : ByteArray) (hl : s.size ≤ 100000) (hx : xs.length ≤ 100000) (h : Rn w base p f v B xs) (hp : p < base) (hb : base ≤ w.heap.size) :
    Calls Try.prog 42 #[.pointer (some ⟨p, f, none⟩), .string s] w fun e w' => e = .returned (.tuple #[]) ∧ ∃ v', Rn w' base p f v' B (addU xs (bl s)) ∧ Ad w w' p f B v ∧ ∀ g, v'.ownBlock = some g → v.ownBlock = some g ∨ w.heap.size ≤ g := nadd_any w base p f B v xs (bl s) hl hx h hp hb
/-- an element's block stays -/
theorem el_keep {w w' : World} {base p f q : Nat} {v : Value} {B : Nat} {xs : List (List UInt8)} {cs : Array Value} (hr : Rn w base p f v B xs) (ha : Ad w w' p f B v) (hq : w.heap[q]? = some (.cells cs 55 (0, 0))) (hpq : q ≠ p) : w'.heap[q]? = some (.cells cs 55 (0, 0)) := by
  rw [ha.fr q (Array.getElem?_eq_some_iff.1 hq).1 hpq ?_ ?_]
  · exact hq
  · rintro rfl
    obtain ⟨D, ⟨es, clock, hb, _⟩, _⟩ := hr.mp
    rw [hb] at hq; cases hq
  · intro hv
    obtain ⟨_, ⟨rfl, _⟩ | ⟨g, cap, cur, rfl, _, h4, _⟩⟩ := hr.row
    · cases hv
    · cases hv
      rw [h4] at hq
      injection hq with hq; injection hq with _ hq
      exact ne_es hq.symm
/-- what lay and Of write lies from n on -/
structure Lw (n p : Nat) (b : Nb) : Prop where
  p : n ≤ p
  b2 : n ≤ b.B2
  b4 : n ≤ b.B4
  b6 : n ≤ b.B6
theorem ad_below {w0 w w' : World} {n p f B : Nat} {v : Value} (h : Below n w0 w) (ha : Ad w w' p f B v) (h1 : n ≤ p) (h2 : n ≤ B) (h3 : ∀ g, v.ownBlock = some g → n ≤ g) (hn : n ≤ w.heap.size) : Below n w0 w' :=
  h.trans ⟨ha.os, ha.tape, ha.output, ha.sz, fun k hk => ha.fr k (by omega) (by omega) (by omega) (fun e => by have := h3 k e; omega)⟩
/-- an element lies in the block q while it is laid -/
structure Ly (w wr : World) (n base p q : Nat) (x : Elm) (N : Ns) (b : Nb) : Prop where
  nt : Nt wr base p N b
  ex : wr.heap[q]? = some (.cells (elA x) 55 (0, 0))
  bel : Below n w wr
  lw : Lw n p b
  pq : q ≠ p
theorem Ly.n {w wr : World} {n base p q : Nat} {x : Elm} {N : Ns} {b : Nb} (h : Ly w wr n base p q x N b) : n ≤ base := by have := h.lw.p; have := h.nt.lo; omega
theorem Ly.addNm {w wr w' : World} {n base p q : Nat} {x : Elm} {N : Ns} {b : Nb} {v' : Value} {xs : List (List UInt8)} (h : Ly w wr n base p q x N b) (hr : Rn w' base p 1 v' b.B2 xs) (ha : Ad wr w' p 1 b.B2 b.v1) (hv : ∀ g, v'.ownBlock = some g → b.v1.ownBlock = some g ∨ wr.heap.size ≤ g) : Ly w w' n base p q x { N with nm := xs } { b with v1 := v' } :=
  ⟨h.nt.addNm hr ha hv, el_keep h.nt.nm ha h.ex h.pq, ad_below h.bel ha h.lw.p h.lw.b2 (fun g hg => by have := (row_ge h.nt.nm.row hg).1; have := h.n; omega) (Nat.le_trans h.n h.nt.hi), ⟨h.lw.p, h.lw.b2, h.lw.b4, h.lw.b6⟩, h.pq⟩
theorem Ly.addNd {w wr w' : World} {n base p q : Nat} {x : Elm} {N : Ns} {b : Nb} {v' : Value} {xs : List (List UInt8)} (h : Ly w wr n base p q x N b) (hr : Rn w' base p 3 v' b.B4 xs) (ha : Ad wr w' p 3 b.B4 b.v3) (hv : ∀ g, v'.ownBlock = some g → b.v3.ownBlock = some g ∨ wr.heap.size ≤ g) : Ly w w' n base p q x { N with nd := xs } { b with v3 := v' } :=
  ⟨h.nt.addNd hr ha hv, el_keep h.nt.nd ha h.ex h.pq, ad_below h.bel ha h.lw.p h.lw.b4 (fun g hg => by have := (row_ge h.nt.nd.row hg).1; have := h.n; omega) (Nat.le_trans h.n h.nt.hi), ⟨h.lw.p, h.lw.b2, h.lw.b4, h.lw.b6⟩, h.pq⟩
theorem Ly.addBr {w wr w' : World} {n base p q : Nat} {x : Elm} {N : Ns} {b : Nb} {v' : Value} {xs : List (List UInt8)} (h : Ly w wr n base p q x N b) (hr : Rn w' base p 5 v' b.B6 xs) (ha : Ad wr w' p 5 b.B6 b.v5) (hv : ∀ g, v'.ownBlock = some g → b.v5.ownBlock = some g ∨ wr.heap.size ≤ g) : Ly w w' n base p q x { N with br := xs } { b with v5 := v' } :=
  ⟨h.nt.addBr hr ha hv, el_keep h.nt.br ha h.ex h.pq, ad_below h.bel ha h.lw.p h.lw.b6 (fun g hg => by have := (row_ge h.nt.br.row hg).1; have := h.n; omega) (Nat.le_trans h.n h.nt.hi), ⟨h.lw.p, h.lw.b2, h.lw.b4, h.lw.b6⟩, h.pq⟩
theorem Ly.below {w wr w' : World} {n base p q : Nat} {x : Elm} {N : Ns} {b : Nb} (h : Ly w wr n base p q x N b) (hb : Below wr.heap.size wr w') : Ly w w' n base p q x N b :=
  ⟨h.nt.below hb, by rw [hb.block q (Array.getElem?_eq_some_iff.1 h.ex).1]; exact h.ex, h.bel.trans (hb.mono (Nat.le_trans h.n h.nt.hi)), h.lw, h.pq⟩
theorem Ly.cells {w wr : World} {n base p q : Nat} {x : Elm} {N : Ns} {b : Nb} (h : Ly w wr n base p q x N b) : q < wr.heap.size ∧ wr.cell? ⟨q, 0, none⟩ = some (.int .u8 (x.k : Int)) ∧ wr.cell? ⟨q, 1, none⟩ = some (.string x.n) ∧ wr.cell? ⟨q, 2, none⟩ = some (.string x.a) ∧ wr.cell? ⟨q, 3, none⟩ = some (.string x.b) ∧ wr.cell? ⟨q, 4, none⟩ = some (.string x.c) ∧ wr.cell? ⟨q, 5, none⟩ = some (.string x.d) ∧ wr.cell? ⟨q, 6, none⟩ = some (.float .f64 x.v) ∧ wr.cell? ⟨q, 7, none⟩ = some (.int .i64 x.ph) := by
  refine ⟨(Array.getElem?_eq_some_iff.1 h.ex).1, ?_, ?_, ?_, ?_, ?_, ?_, ?_, ?_⟩ <;> rw [cell_of_row wr q _ _ _ (0, 0) h.ex] <;> rfl
theorem Ly.drw {w wr : World} {n base p q : Nat} {x : Elm} {N : Ns} {b : Nb} (h : Ly w wr n base p q x N b) : Ly w wr.drew n base p q x N b := h.below ((Below.refl _ wr).drew)
theorem Ly.al {w wr : World} {n base p q : Nat} {x : Elm} {N : Ns} {b : Nb} (h : Ly w wr n base p q x N b) (o : Obj) : Ly w (wr.alloc o) n base p q x N b := h.below ((Below.refl _ wr).alloc (Nat.le_refl _) o)
theorem Ly.addEs {w wr w1 : World} {n base p q : Nat} {x : Elm} {N : Ns} {b : Nb} {v' : Value} {l : List Elm} (h : Ly w wr n base p q x N b) (hq : b.v0.ownBlock ≠ some q) (hg : wr.grownBy w1 b.v0.ownBlock) (hr : w1.ownsRow base 55 8 v' l.length (elCs l)) (hv : ∀ g, v'.ownBlock = some g → b.v0.ownBlock = some g ∨ wr.heap.size ≤ g) : Ly w (w1.setCell ⟨p, 0, none⟩ v') n base p q x { N with es := l } { b with v0 := v' } := by
  refine ⟨h.nt.addEs hg hr hv, ?_, h.bel.trans ⟨hg.os, hg.tape, hg.output, ?_, fun k hk => ?_⟩, ⟨h.lw.p, h.lw.b2, h.lw.b4, h.lw.b6⟩, h.pq⟩
  · rw [heap_setCell_other w1 ⟨p, 0, none⟩ q v' (by simpa using h.pq), hg.block q (Array.getElem?_eq_some_iff.1 h.ex).1 (fun e => hq e.symm)]; exact h.ex
  · have := hg.size; simpa [World.setCell] using this
  · have h1 := h.lw.p
    have h2 := h.n
    have h3 := h.nt.hi
    rw [heap_setCell_other w1 ⟨p, 0, none⟩ k v' (by simp; omega), hg.block k (by omega) (fun e => by have := (row_ge h.nt.es e.symm).1; omega)]
theorem Try.infoE : (Try.prog.info? 55).map (fun i => (i.zero, i.size, i.bytes)) = some (some (.agg #[.int .u8 0, .string ⟨#[]⟩, .string ⟨#[]⟩, .string ⟨#[]⟩, .string ⟨#[]⟩, .string ⟨#[]⟩, .float .f64 0, .int .i64 0]), 8, 104) := by kernel_rfl
/-- the k-th of an element's nodes -/
def nod (x : Elm) : Nat → ByteArray
  | 0 => x.a
  | 1 => x.b
  | 2 => x.c
  | _ => x.d
/-- the nodes behind k of them -/
def ndK (xs : List (List UInt8)) (x : Elm) : Nat → List (List UInt8)
  | 0 => xs
  | k + 1 => ndO (ndK xs x k) (nod x k)
theorem ndK_4 (xs : List (List UInt8)) (x : Elm) : ndK xs x 4 = ndE xs x := rfl
theorem ndK_len (xs : List (List UInt8)) (x : Elm) (k : Nat) : (ndK xs x k).length ≤ xs.length + k := by
  induction k with
  | zero => exact Nat.le_refl _
  | succ k ih => have := ndO_len (ndK xs x k) (nod x k); show (ndO (ndK xs x k) (nod x k)).length ≤ _; omega
/-- the four nodes lie in the block r while they are laid -/
structure Lpn (w wr : World) (n base p q r : Nat) (x : Elm) (N : Ns) (k : Nat) : Prop where
  ly : ∃ b, Ly w wr n base p q x ⟨N.es ++ [x], addU N.nm (bl x.n), ndK N.nd x k, N.br⟩ b ∧ b.v3.ownBlock ≠ some r
  rb : wr.heap[r]? = some (.cells #[.string x.a, .string x.b, .string x.c, .string x.d] 9 (0, 0))
  pr : r ≠ p
theorem Lpn.cell {w wr : World} {n base p q r : Nat} {x : Elm} {N : Ns} {k : Nat} (h : Lpn w wr n base p q r x N k) (hk : k < 4) : wr.cell? ⟨r, k, none⟩ = some (.string (nod x k)) := by
  rw [cell_of_row wr r _ _ _ (0, 0) h.rb]
  match k, hk with
  | 0, _ => rfl
  | 1, _ => rfl
  | 2, _ => rfl
  | 3, _ => rfl
theorem Lpn.skip {w wr : World} {n base p q r : Nat} {x : Elm} {N : Ns} {k : Nat} (h : Lpn w wr n base p q r x N k) (hn : isN (nod x k) = false) : Lpn w wr n base p q r x N (k + 1) := by
  obtain ⟨b, h1, h2⟩ := h.ly
  refine ⟨⟨b, ?_, h2⟩, h.rb, h.pr⟩
  show Ly w wr n base p q x ⟨N.es ++ [x], addU N.nm (bl x.n), ndO (ndK N.nd x k) (nod x k), N.br⟩ b
  unfold ndO
  rw [if_neg (by rw [hn]; decide)]; exact h1
theorem Lpn.step {w wr w' : World} {n base p q r : Nat} {x : Elm} {N : Ns} {k : Nat} {b : Nb} {v' : Value} (h : Lpn w wr n base p q r x N k) (hn : isN (nod x k) = true) (h1 : Ly w wr n base p q x ⟨N.es ++ [x], addU N.nm (bl x.n), ndK N.nd x k, N.br⟩ b) (h2 : b.v3.ownBlock ≠ some r) (hr : Rn w' base p 3 v' b.B4 (addU (ndK N.nd x k) (bl (nod x k)))) (ha : Ad wr w' p 3 b.B4 b.v3) (hv : ∀ g, v'.ownBlock = some g → b.v3.ownBlock = some g ∨ wr.heap.size ≤ g) : Lpn w w' n base p q r x N (k + 1) := by
  have hlt := (Array.getElem?_eq_some_iff.1 h.rb).1
  refine ⟨⟨{ b with v3 := v' }, ?_, ?_⟩, ?_, h.pr⟩
  · show Ly w w' n base p q x ⟨N.es ++ [x], addU N.nm (bl x.n), ndO (ndK N.nd x k) (nod x k), N.br⟩ _
    unfold ndO
    rw [if_pos hn]; exact h1.addNd hr ha hv
  · intro e
    rcases hv r e with q | q
    · exact h2 q
    · omega
  · rw [ha.fr r hlt h.pr ?_ h2]
    · exact h.rb
    · intro e
      obtain ⟨D, ⟨es, clock, hb, _⟩, _⟩ := h1.nt.nd.mp
      rw [← e, h.rb] at hb; cases hb
set_option maxHeartbeats 4000000 in
theorem lay_any (w : World) (n base p : Nat) (N : Ns) (b : Nb) (x : Elm) (hN : Nt w base p N b) (hL : Lw n p b) (h1 : x.n.size ≤ 100000) (h2 : x.a.size ≤ 100000) (h3 : x.b.size ≤ 100000) (h4 : x.c.size ≤ 100000) (h5 : x.d.size ≤ 100000) (hf : N.fits N.es.length) (hlen : N.es.length ≤ 1000) :
    Calls Try.prog 20 #[.pointer (some ⟨p, 0, none⟩), elV x] w fun e w' => e = .returned (.tuple #[]) ∧ ∃ b', Nt w' base p (N.lay x) b' ∧ Lw n p b' ∧ Below n w w' := by
  obtain ⟨i0, hi0, hz0, hz1, hz2⟩ := info_parts Try.infoE
  have hp : p < w.heap.size := World.block_lt_of_cell? w _ hN.c0
  have hvp : b.v0.ownBlock ≠ some p := fun e => by have := (row_ge hN.es e).1; have := hN.lo; omega
  have hvq : b.v0.ownBlock ≠ some w.heap.size := fun e => by have := (row_ge hN.es e).2; omega
  obtain ⟨v0, hv0⟩ : ∃ v0, v0 = b.v0 := ⟨_, rfl⟩
  have hes := hN.es
  rw [← hv0] at hes hvp hvq
  obtain ⟨A, cap, rfl⟩ : ∃ A cap, v0 = .slice A N.es.length cap := by
    obtain ⟨_, ⟨h1, h2⟩ | ⟨g, cap, cur, h1, _⟩⟩ := hes
    · exact ⟨none, 0, by rw [h1, h2]⟩
    · exact ⟨_, _, h1⟩
  obtain ⟨wa, hwa⟩ : ∃ wa, w.alloc (.cells #[.int .u8 (x.k : Int), .string x.n, .string x.a, .string x.b, .string x.c, .string x.d, .float .f64 x.v, .int .i64 x.ph] 55) = wa := ⟨_, rfl⟩
  obtain ⟨q, hq⟩ : ∃ q, w.heap.size = q := ⟨_, rfl⟩
  have c0 : wa.cell? ⟨p, 0, none⟩ = some (.slice A N.es.length cap) := by rw [← hwa, World.cell?_alloc_lt _ _ _ hp, hN.c0, hv0]
  have z0 : wa.frozen? ⟨p, 0, none⟩ = false := by rw [← hwa, World.frozen?_alloc_old (h := (Nat.ne_of_lt hp : (⟨p, 0, none⟩ : Addr).block ≠ w.heap.size))]; exact hN.f0
  have hsa : wa.heap.size = q + 1 := by rw [← hwa, ← hq]; simp
  have HSA : Hid (wa.heap.size = q + 1) := hsa
  have hqa : q < wa.heap.size := by omega
  have L0 : Ly w wa n base p q x N b := by
    rw [← hwa, ← hq]
    exact ⟨hN.below ((Below.refl _ w).alloc (Nat.le_refl _) _), heap_alloc_new w _, (Below.refl _ w).alloc (by have := hL.p; omega) _, hL, by omega⟩
  have hpa : p < wa.heap.size := by omega
  obtain ⟨lq, e0, e1, e2, e3, e4, e5, e6, e7⟩ := L0.cells
  have hb1 : base ≤ q := by have := hN.hi; omega
  rw [hq] at hvq
  have hesa : wa.drew.ownsRow base 55 8 (.slice A N.es.length cap) N.es.length (elCs N.es) := by have := L0.nt.es; rw [← hv0] at this; exact this
  have hl8 := elCs_len N.es
  have HX : Hid (Ly w wa n base p q x N b ∧ .slice A N.es.length cap = b.v0) := ⟨L0, hv0⟩
  have hb2 : base ≤ wa.heap.size := by omega
  have hvp2 : some p ≠ (Value.slice A N.es.length cap).ownBlock := fun e => hvp e.symm
  have hvq2 : some q ≠ (Value.slice A N.es.length cap).ownBlock := fun e => hvq e.symm
  have HA : Hid (∀ (a : Addr) (v : Value), a.block < wa.heap.size → wa.cell? a = some v → (wa.alloc (.cells #[.int .u8 (x.k : Int), .string x.n, .string x.a, .string x.b, .string x.c, .string x.d, .float .f64 x.v, .int .i64 x.ph] 55)).drew.cell? a = some v) := fun a v h1 h2 => (World.cell?_alloc_lt wa _ a h1).trans h2
  have HF : Hid ((wa.alloc (.cells #[.int .u8 (x.k : Int), .string x.n, .string x.a, .string x.b, .string x.c, .string x.d, .float .f64 x.v, .int .i64 x.ph] 55)).drew.frozen? ⟨p, 0, none⟩ = false) := (World.frozen?_alloc_old wa _ ⟨p, 0, none⟩ (Nat.ne_of_lt hpa)).trans z0
  clear hN L0 hes hv0 hsa
  unfold elV
  go_enter Try.func20, Try.ntmps20
  go_wp2_with fail
  clear hwa hq
  go_cut [6] (fun _ wc => ∃ b', Ly w wc n base p q x { N with es := N.es ++ [x] } b')
  case first =>
    go_region_law
      (first | (refine step_append_lies _ (by rfl) _ _ 24 (by rfl) base 55 i0 _ 8 104 Try.underlying24 hi0 hz0 hz1 hz2 (by rfl) (by decide) _ _ _ (by rfl) (hesa.alloc _) ⟨wa.heap.size, 0, none⟩ 1 1 (elC x) (by rfl) (by rfl) (World.news_of_block (fr := (0, 0)) (t := 55) (cs := #[.int .u8 (x.k : Int), .string x.n, .string x.a, .string x.b, .string x.c, .string x.d, .float .f64 x.v, .int .i64 x.ph]) (heap_alloc_new _ _)) (fun u hu => by simp [elC] at hu; rcases hu with rfl | rfl | rfl | rfl | rfl | rfl | rfl | rfl <;> rfl) (by decide) (by unfold maxLen; omega) (by omega) (by simp; omega) (wa.heap.size + 1) (by simp) ?_; intro g cap2 w4 hown4 hgrow hat4 hlt4; (have k0 : w4.cell? ⟨p, 0, none⟩ = some (.slice A N.es.length cap) := hgrow.cell (HA.out _ _ hpa c0) hvp2); (have kf : w4.frozen? ⟨p, 0, none⟩ = false := (hgrow.frozen_far ⟨p, 0, none⟩ (by simp; omega) hvp2).trans HF.out); (have d0 : w4.cell? ⟨q, 0, none⟩ = some (.int .u8 (x.k : Int)) := hgrow.cell (HA.out _ _ hqa e0) hvq2); (have d1 : w4.cell? ⟨q, 1, none⟩ = some (.string x.n) := hgrow.cell (HA.out _ _ hqa e1) hvq2); (have d2 : w4.cell? ⟨q, 2, none⟩ = some (.string x.a) := hgrow.cell (HA.out _ _ hqa e2) hvq2); (have d3 : w4.cell? ⟨q, 3, none⟩ = some (.string x.b) := hgrow.cell (HA.out _ _ hqa e3) hvq2); (have d4 : w4.cell? ⟨q, 4, none⟩ = some (.string x.c) := hgrow.cell (HA.out _ _ hqa e4) hvq2); (have d5 : w4.cell? ⟨q, 5, none⟩ = some (.string x.d) := hgrow.cell (HA.out _ _ hqa e5) hvq2); (have d6 : w4.cell? ⟨q, 6, none⟩ = some (.float .f64 x.v) := hgrow.cell (HA.out _ _ hqa e6) hvq2); (have d7 : w4.cell? ⟨q, 7, none⟩ = some (.int .i64 x.ph) := hgrow.cell (HA.out _ _ hqa e7) hvq2)))
    all_goals go_wp2_with fail
    all_goals go_meet
    all_goals exact ⟨_, ((HX.out.1.al _).drw).addEs (v' := .slice (some ⟨g, 0, none⟩) (N.es.length + 1) cap2) (l := N.es ++ [x]) (by rw [← HX.out.2]; exact hvq) (by rw [← HX.out.2]; exact hgrow) (by rw [elCs_snoc, List.length_append]; exact hown4) (fun g2 h2 => by cases h2; rw [← HX.out.2]; rcases hat4 with h | h; exact .inl h; exact .inr (by rw [h]; simp))⟩
  obtain ⟨b1, L1⟩ := hcut
  clear HX HA HF hesa c0 z0 HSA hqa hpa hvp hvq hvp2 hvq2 hb1 hb2 lq e0 e1 e2 e3 e4 e5 e6 e7 hi0 hz0 hz1 hz2 hl8
  have hnm : N.nm.length ≤ 100000 := by have := hf.nm; omega
  have hnd : N.nd.length ≤ 90000 := by have := hf.nd; omega
  have hbr : N.br.length ≤ 100000 := by have := hf.br; omega
  obtain ⟨lq, e0, e1, e2, e3, e4, e5, e6, e7⟩ := L1.cells
  have HL1 : Hid _ := L1.drw
  clear L1 e0 e2 e3 e4 e5 e6 e7
  go_wp2_with fail
  go_region_with (first | (go_at_call 42; (with_reducible refine (add_s _ base p 1 b1.B2 b1.v1 N.nm x.n h1 hnm HL1.out.nt.nm HL1.out.nt.lo HL1.out.nt.hi).mono ?_); rintro e5 w5 ⟨rfl, v5, hr5, ha5, hv5⟩; (have HL2 : Hid _ := HL1.out.addNm hr5 ha5 hv5); clear hr5 ha5 hv5))
  obtain ⟨lq2, f0, f1, f2, f3, f4, f5, f6, f7⟩ := HL2.out.cells
  clear HL1 e1 lq f6 f7
  obtain ⟨r, hr⟩ : ∃ r, w5.heap.size = r := ⟨_, rfl⟩
  have HP0 : Hid (Lpn w (w5.alloc (.cells #[.string x.a, .string x.b, .string x.c, .string x.d] 9)) n base p q r x N 0) := by
    refine ⟨⟨_, HL2.out.al _, fun e => ?_⟩, by rw [← hr]; exact heap_alloc_new _ _, ?_⟩
    · have := (row_ge HL2.out.nt.nd.row e).2; omega
    · have := World.block_lt_of_cell? w5 _ HL2.out.nt.c0; simp at this; omega
  go_wp2_with fail
  clear hr HL2 f0 f1 f2 f3 f4 f5 lq2
  go_loopw [32] (fun iv wr => ∃ (k : Nat), k ≤ 4 ∧ iv = .int .i64 k ∧ Hid (Lpn w wr n base p q r x N k)) (fun iv _ => 4 - (intOf iv).toNat)
  case atStart => exact ⟨0, by omega, rfl, HP0⟩
  case round =>
    obtain ⟨k, hle, rfl, HP⟩ := hrel
    clear HP0
    by_cases hp4 : k < 4
    · have hpk : (k : Int) < 4 := by omega
      have hc := HP.out.cell hp4
      obtain ⟨s, hs⟩ : ∃ s, nod x k = s := ⟨_, rfl⟩
      rw [hs] at hc
      have hsz : s.size ≤ 100000 := by rw [← hs]; match k, hp4 with | 0, _ => exact h2 | 1, _ => exact h3 | 2, _ => exact h4 | 3, _ => exact h5
      have hln : (ndK N.nd x k).length ≤ 100000 := by have := ndK_len N.nd x k; omega
      obtain ⟨b2, Q1, Q2⟩ := HP.out.ly
      have HQ1 : Hid _ := Q1
      have HQ2 : Hid _ := Q2
      have HS : Hid (nod x k = s) := hs
      clear Q1 Q2 hs
      go_wp2_with (first | (go_at_call 42; (with_reducible refine (add_s _ base p 3 b2.B4 b2.v3 (ndK N.nd x k) s hsz hln HQ1.out.nt.nd HQ1.out.nt.lo HQ1.out.nt.hi).mono ?_); rintro e6 w6 ⟨rfl, v6, hr6, ha6, hv6⟩; (have HR6 : Hid _ := hr6); (have HA6 : Hid _ := ha6); (have HV6 : Hid _ := hv6); clear hr6 ha6 hv6))
      · go_roundw
        case rel => rename_i he; exact ⟨k + 1, by omega, by go_num, HP.out.skip (by rw [HS.out]; rw [ByteArray.toList_eq] at he; simp [isN, bl, he])⟩
        case measure => simp [intOf]; omega
      · go_roundw
        case rel => rename_i he hf2; exact ⟨k + 1, by omega, by go_num, HP.out.step (by rw [HS.out]; rw [ByteArray.toList_eq] at hf2; simp [isN, bl]; simpa using hf2) HQ1.out HQ2.out (by rw [HS.out]; exact HR6.out) HA6.out HV6.out⟩
        case measure => simp [intOf]; omega
      · go_roundw
        case rel => rename_i he hf2; exact ⟨k + 1, by omega, by go_num, HP.out.skip (by rw [HS.out]; rw [ByteArray.toList_eq] at he hf2; simp [isN, bl]; intro q1; simp at hf2; exact hf2.resolve_left q1)⟩
        case measure => simp [intOf]; omega
    · have hk4 : k = 4 := by omega
      subst hk4
      obtain ⟨b2, Q1, Q2⟩ := HP.out.ly
      have HQ1 : Hid _ := Q1
      obtain ⟨lq2, f0, f1, f2, f3, f4, f5, f6, f7⟩ := Q1.cells
      clear Q1 Q2 f2 f3 f4 f5 f6 f7 lq2 HP
      have HQ2 : Hid _ := HQ1.out.drw
      go_wp2_with fail
      · go_region_with (first | (go_at_call 42; (with_reducible refine (add_s _ base p 5 b2.B6 b2.v5 N.br x.n h1 hbr HQ2.out.nt.br HQ2.out.nt.lo HQ2.out.nt.hi).mono ?_); rintro e7 w7 ⟨rfl, v7, hr7, ha7, hv7⟩; (have HL7 : Hid _ := HQ2.out.addBr hr7 ha7 hv7); clear hr7 ha7 hv7))
        go_wp2_with fail
        go_end0
        rename_i hk5
        have hb : brE N.br x = addU N.br (bl x.n) := if_pos (by unfold isB; rw [show x.k = 5 by omega]; rfl)
        refine ⟨rfl, _, ?_, HL7.out.lw, HL7.out.bel⟩
        have h8 := HL7.out.nt
        unfold Ns.lay
        rw [hb, ← ndK_4]; exact h8
      · go_region_with (first | (go_at_call 42; (with_reducible refine (add_s _ base p 5 b2.B6 b2.v5 N.br x.n h1 hbr HQ2.out.nt.br HQ2.out.nt.lo HQ2.out.nt.hi).mono ?_); rintro e7 w7 ⟨rfl, v7, hr7, ha7, hv7⟩; (have HL7 : Hid _ := HQ2.out.addBr hr7 ha7 hv7); clear hr7 ha7 hv7))
        go_wp2_with fail
        go_end0
        rename_i hk5 hk7
        have hb : brE N.br x = addU N.br (bl x.n) := if_pos (by unfold isB; simp at hk7 ⊢; omega)
        refine ⟨rfl, _, ?_, HL7.out.lw, HL7.out.bel⟩
        have h8 := HL7.out.nt
        unfold Ns.lay
        rw [hb, ← ndK_4]; exact h8
      · go_end0
        rename_i hk5 hk7
        have hb : brE N.br x = N.br := if_neg (by unfold isB; simp at hk7 ⊢; omega)
        refine ⟨rfl, _, ?_, HQ1.out.lw, HQ1.out.bel⟩
        have h8 := HQ1.out.nt
        unfold Ns.lay
        rw [hb, ← ndK_4]; exact h8
end Go.Proofs.Ytmhplaanpbpndaa

namespace Go.Proofs.Ytmhplaanpbpndaa
open Go.Maps Go.RowKit
set_option linter.unusedVariables false
set_option maxRecDepth 100000

/-- eight cells from an address on -/
structure E8 (w : World) (b o : Nat) (x : Elm) : Prop where
  c0 : w.cell? ⟨b, o, none⟩ = some (.int .u8 (x.k : Int))
  c1 : w.cell? ⟨b, o + 1, none⟩ = some (.string x.n)
  c2 : w.cell? ⟨b, o + 2, none⟩ = some (.string x.a)
  c3 : w.cell? ⟨b, o + 3, none⟩ = some (.string x.b)
  c4 : w.cell? ⟨b, o + 4, none⟩ = some (.string x.c)
  c5 : w.cell? ⟨b, o + 5, none⟩ = some (.string x.d)
  c6 : w.cell? ⟨b, o + 6, none⟩ = some (.float .f64 x.v)
  c7 : w.cell? ⟨b, o + 7, none⟩ = some (.int .i64 x.ph)
theorem E8.bel {w w' : World} {b o n : Nat} {x : Elm} (h : E8 w b o x) (hn : b < n) (hb : Below n w w') : E8 w' b o x :=
  ⟨(hb.cell (p := ⟨b, o, none⟩) hn).trans h.c0, (hb.cell (p := ⟨b, o + 1, none⟩) hn).trans h.c1, (hb.cell (p := ⟨b, o + 2, none⟩) hn).trans h.c2, (hb.cell (p := ⟨b, o + 3, none⟩) hn).trans h.c3, (hb.cell (p := ⟨b, o + 4, none⟩) hn).trans h.c4, (hb.cell (p := ⟨b, o + 5, none⟩) hn).trans h.c5, (hb.cell (p := ⟨b, o + 6, none⟩) hn).trans h.c6, (hb.cell (p := ⟨b, o + 7, none⟩) hn).trans h.c7⟩
theorem E8.lt {w : World} {b o : Nat} {x : Elm} (h : E8 w b o x) : b < w.heap.size := World.block_lt_of_cell? w _ h.c0
/-- the value v reads as the elements l -/
def RdE (w : World) (v : Value) (l : List Elm) : Prop :=
  l.length ≤ 1000000000 ∧ ∃ A c, v = .slice A l.length c ∧ (l = [] ∨ ∃ b, A = some ⟨b, 0, none⟩ ∧ ∀ (k : Nat) (x : Elm), l[k]? = some x → E8 w b (k * 8) x)
theorem RdE.kept {w w' : World} {v : Value} {l : List Elm} (h : RdE w v l) (hb : Below w.heap.size w w') : RdE w' v l := by
  obtain ⟨h0, A, c, h1, h2⟩ := h
  refine ⟨h0, A, c, h1, h2.imp id ?_⟩
  rintro ⟨b, h3, h4⟩
  exact ⟨b, h3, fun k x hk => (h4 k x hk).bel (h4 k x hk).lt hb⟩
/-- names that are laid are short -/
theorem chk_short {x : Elm} (h : chkI x = 0) : x.n.size ≤ 16 ∧ 2 ≤ x.n.size ∧ x.a.size ≤ 16 ∧ x.b.size ≤ 16 ∧ x.c.size ≤ 16 ∧ x.d.size ≤ 16 := by
  unfold chkI at h
  by_cases h1 : ltr x.k = 0
  · rw [if_pos h1] at h; cases h
  rw [if_neg h1] at h
  by_cases h2 : naF x = false
  · rw [if_pos h2] at h; cases h
  rw [if_neg h2] at h
  by_cases h3 : (x.a.toList == x.b.toList) = true ∨ spF x = false
  · rw [if_pos h3] at h; cases h
  have h2' : naF x = true := by simpa using h2
  have h3' : spF x = true := by
    cases q : spF x
    · exact absurd (Or.inr q) h3
    · rfl
  unfold naF at h2'
  simp only [Bool.and_eq_true] at h2'
  obtain ⟨⟨⟨⟨q1, q2⟩, q3⟩, q4⟩, q5⟩ := h2'
  have hnm : 2 ≤ x.n.size ∧ x.n.size ≤ 16 := by
    by_cases h : 2 ≤ x.n.size ∧ x.n.size ≤ 16
    · exact h
    · rw [nm_out h] at q1; simp at q1
  have hnd : ∀ s, ndF s = true → s.size ≤ 16 := by
    intro s hs
    unfold ndF at hs
    simp at hs
    exact hs.1.2
  unfold spF at h3'
  simp only [Bool.and_eq_true, Bool.or_eq_true] at h3'
  refine ⟨hnm.2, hnm.1, hnd _ q3, hnd _ q4, ?_, ?_⟩
  · cases hf : fou x.k
    · have := (h3'.1.resolve_left (by rw [hf]; simp)).1
      rw [ByteArray.toList_eq] at this
      have e : x.c.data = #[] := by simpa using this
      have e2 : x.c.size = x.c.data.size := rfl
      rw [e] at e2
      rw [e2]; decide
    · rw [hf] at q5; simp at q5; exact hnd _ q5.1
  · cases hf : fou x.k
    · have := (h3'.1.resolve_left (by rw [hf]; simp)).2
      rw [ByteArray.toList_eq] at this
      have e : x.d.data = #[] := by simpa using this
      have e2 : x.d.size = x.d.data.size := rfl
      rw [e] at e2
      rw [e2]; decide
    · rw [hf] at q5; simp at q5; exact hnd _ q5.2
theorem place_s (w : World) (p f B : Nat) (xs : List (List UInt8)) (s : ByteArray) (hl : s.size ≤ 100000) (hc : w.cell? ⟨p, f + 1, none⟩ = some (.map (some B))) (hm : Mp w B xs) :
    Calls Try.prog 19 #[.pointer (some ⟨p, f, none⟩), .string s] w fun e w' => e = .returned (.tuple #[.int .i64 (posL xs (bl s)), .bool (decide (bl s ∈ xs))]) ∧ w' = w := nplace_any w p f B xs (bl s) hl hc hm
theorem norder_made {w : World} {base p : Nat} {N : Ns} {b : Nb} (h : Nt w base p N b) (h1 : N.nd.length ≤ 1000000) (h2 : N.br.length ≤ 1000000) : Calls Try.prog 21 #[.pointer (some ⟨p, 0, none⟩)] w fun e w' => e = .returned (.int .i64 ((N.nd.length + N.br.length : Nat) : Int)) ∧ Below w.heap.size w w' := by
  obtain ⟨A, cap, hv3⟩ : ∃ A cap, b.v3 = .slice A N.nd.length cap := by
    obtain ⟨_, ⟨h1, h2⟩ | ⟨g, cap, cur, h1, _⟩⟩ := h.nd.row
    · exact ⟨none, 0, by rw [h1, h2]⟩
    · exact ⟨_, _, h1⟩
  obtain ⟨A5, cap5, hv5⟩ : ∃ A cap, b.v5 = .slice A N.br.length cap := by
    obtain ⟨_, ⟨h1, h2⟩ | ⟨g, cap, cur, h1, _⟩⟩ := h.br.row
    · exact ⟨none, 0, by rw [h1, h2]⟩
    · exact ⟨_, _, h1⟩
  have c3 := h.nd.c0
  have c5 := h.br.c0
  have c2 := h.nm.c1
  rw [hv3] at c3
  rw [hv5] at c5
  have hw : wrap64 ((N.nd.length : Int) + (N.br.length : Int)) = (N.nd.length : Int) + (N.br.length : Int) := by unfold wrap64; omega
  go_enter Try.func21, Try.ntmps21
  go_wp2_with (go_at_call 43; (with_reducible refine (made_yes c2).mono ?_); rintro e1 w1 ⟨rfl, rfl⟩)
  go_region_held_law (fun W => W.cell? ⟨p, 3, none⟩ = some (.slice A N.nd.length cap) ∧ W.cell? ⟨p, 5, none⟩ = some (.slice A5 N.br.length cap5)) (first | exact ⟨c3, c5⟩ | go_keep) (fail)
  go_wp2_with fail
  go_ret
  refine ⟨?_, (Below.refl _ _).drew⟩
  simp
  rw [IntKind.wrap_i64]; omega
/-- what is known while Of goes on -/
structure Oi (wF wr : World) (base p i : Nat) (l : List Elm) (N : Ns) (b : Nb) : Prop where
  nt : Nt wr base p N b
  lw : Lw wF.heap.size p b
  bel : Below wF.heap.size wF wr
  fit : N.fits i
  rest : ofR N i (l.drop i) = ofR Ns.nil 0 l
theorem Oi.start {wF w1 w2 w3 : World} {B2 B4 B6 : Nat} {l : List Elm} (b1 : Below wF.heap.size wF w1) (b2 : Below w1.heap.size w1 w2) (b3 : Below w2.heap.size w2 w3) (m1 : Mp w1 B2 []) (m2 : Mp w2 B4 []) (m3 : Mp w3 B6 []) (h1 : wF.heap.size ≤ B2 ∧ B2 < w1.heap.size) (h2 : w1.heap.size ≤ B4 ∧ B4 < w2.heap.size) (h3 : w2.heap.size ≤ B6 ∧ B6 < w3.heap.size) :
    Oi wF (w3.alloc (.cells #[.slice none 0 0, .slice none 0 0, .map (some B2), .slice none 0 0, .map (some B4), .slice none 0 0, .map (some B6)] 64)) (w3.heap.size + 1) w3.heap.size 0 l Ns.nil ⟨.slice none 0 0, .slice none 0 0, .slice none 0 0, .slice none 0 0, B2, B4, B6⟩ := by
  have s1 := b1.size
  have s2 := b2.size
  have s3 := b3.size
  obtain ⟨W, hW⟩ : ∃ W, W = w3.alloc (.cells #[.slice none 0 0, .slice none 0 0, .map (some B2), .slice none 0 0, .map (some B4), .slice none 0 0, .map (some B6)] 64) := ⟨_, rfl⟩
  have hb : W.heap[w3.heap.size]? = some (.cells #[.slice none 0 0, .slice none 0 0, .map (some B2), .slice none 0 0, .map (some B4), .slice none 0 0, .map (some B6)] 64 (0, 0)) := by rw [hW]; exact heap_alloc_new _ _
  have h3W : Below w3.heap.size w3 W := by rw [hW]; exact (Below.refl _ _).alloc (Nat.le_refl _) _
  have hs : W.heap.size = w3.heap.size + 1 := by rw [hW]; simp
  rw [← hW]
  have M1 : Mp W B2 [] := m1.blk (by rw [h3W.block _ (by omega), b3.block _ (by omega), b2.block _ (by omega)])
  have M2 : Mp W B4 [] := m2.blk (by rw [h3W.block _ (by omega), b3.block _ (by omega)])
  have M3 : Mp W B6 [] := m3.blk (by rw [h3W.block _ (by omega)])
  have hc : ∀ j v, (#[.slice none 0 0, .slice none 0 0, .map (some B2), .slice none 0 0, .map (some B4), .slice none 0 0, .map (some B6)] : Array Value)[j]? = some v → W.cell? ⟨w3.heap.size, j, none⟩ = some v := fun j v hj => by rw [cell_of_row W w3.heap.size _ _ _ (0, 0) hb]; exact hj
  have hf : ∀ j, W.frozen? ⟨w3.heap.size, j, none⟩ = false := fun j => frozen_of_row W w3.heap.size j _ _ hb
  refine ⟨⟨hc 0 _ rfl, hf 0, World.ownsRow_nil _ _ _ _, ⟨hc 1 _ rfl, hc 2 _ rfl, hf 1, World.ownsRow_nil _ _ _ _, M1⟩, ⟨hc 3 _ rfl, hc 4 _ rfl, hf 3, World.ownsRow_nil _ _ _ _, M2⟩, ⟨hc 5 _ rfl, hc 6 _ rfl, hf 5, World.ownsRow_nil _ _ _ _, M3⟩, by omega, by omega, by simp only; omega, by simp only; omega, by simp only; omega, (fun g h => by cases h), (fun g h => by cases h), (fun g h => by cases h)⟩, ⟨by omega, h1.1, by simp only; omega, by simp only; omega⟩, ?_, Ns.fits.nil, rfl⟩
  exact b1.trans ((b2.mono s1).trans ((b3.mono (by omega)).trans (h3W.mono (by omega))))
theorem ofR_bad {N : Ns} {i : Nat} {x : Elm} {t : List Elm} (h : chkI x ≠ 0) : ofR N i (x :: t) = ((chkI x, (i : Int)), N) := by unfold ofR; rw [if_pos h]
theorem ofR_there {N : Ns} {i : Nat} {x : Elm} {t : List Elm} (h : chkI x = 0) (h2 : bl x.n ∈ N.nm) : ofR N i (x :: t) = ((9, (i : Int)), N) := by unfold ofR; rw [if_neg (by simp [h]), if_pos h2]
theorem ofR_go {N : Ns} {i : Nat} {x : Elm} {t : List Elm} (h : chkI x = 0) (h2 : bl x.n ∉ N.nm) : ofR N i (x :: t) = ofR (N.lay x) (i + 1) t := by rw [ofR, if_neg (by simp [h]), if_neg h2]
/-- what Of answers, in memory -/
def OfP (w : World) (l : List Elm) (e : Ending) (w' : World) : Prop :=
  Below w.heap.size w w' ∧ ((ofA l).1 = (0, 0) ∧ (∃ base p b, e = .returned (.tuple #[.pointer (some ⟨p, 0, none⟩), .agg #[.int .i64 0, .int .i64 0]]) ∧ Nt w' base p (ofA l).2 b ∧ w.heap.size ≤ p ∧ (ofA l).2.fits l.length) ∨ (ofA l).1.1 ≠ 0 ∧ e = .returned (.tuple #[.pointer none, .agg #[.int .i64 (ofA l).1.1, .int .i64 (ofA l).1.2]]))
theorem Nt.but {w w' : World} {n base p F : Nat} {N : Ns} {b : Nb} (h : Nt w base p N b) (hl : Lw n p b) (hF : F < n) (hs : w.heap.size ≤ w'.heap.size) (hk : ∀ k, k ≠ F → w'.heap[k]? = w.heap[k]?) : Nt w' base p N b := by
  have hp := hl.p
  have hlo := h.lo
  have hpb : w'.heap[p]? = w.heap[p]? := hk p (by omega)
  have hR : ∀ {f v B xs}, n ≤ B → Rn w base p f v B xs → Rn w' base p f v B xs := fun hB q => ⟨(World.cell?_of_block hpb).trans q.c0, (World.cell?_of_block hpb).trans q.c1, (World.frozen?_of_block hpb).trans q.fz, row_block q.row fun g hg => hk g (by have := (row_ge q.row hg).1; omega), q.mp.blk (hk _ (by omega))⟩
  exact ⟨(World.cell?_of_block hpb).trans h.c0, (World.frozen?_of_block hpb).trans h.f0, row_block h.es fun g hg => hk g (by have := (row_ge h.es hg).1; omega), hR hl.b2 h.nm, hR hl.b4 h.nd, hR hl.b6 h.br, h.lo, Nat.le_trans h.hi hs, h.m1, h.m2, h.m3, h.s1, h.s2, h.s3⟩
theorem check_w (x : Elm) (w : World) (h : x.ok) : Calls Try.prog 18 #[.agg #[.int .u8 (x.k : Int), .string x.n, .string x.a, .string x.b, .string x.c, .string x.d, .float .f64 x.v, .int .i64 x.ph]] w fun e w' => e = .returned (.int .i64 (chkI x)) ∧ Below w.heap.size w w' := check_any x w h
theorem lay_w (w : World) (n base p : Nat) (N : Ns) (b : Nb) (x : Elm) (hN : Nt w base p N b) (hL : Lw n p b) (h1 : x.n.size ≤ 100000) (h2 : x.a.size ≤ 100000) (h3 : x.b.size ≤ 100000) (h4 : x.c.size ≤ 100000) (h5 : x.d.size ≤ 100000) (hf : N.fits N.es.length) (hlen : N.es.length ≤ 1000) :
    Calls Try.prog 20 #[.pointer (some ⟨p, 0, none⟩), .agg #[.int .u8 (x.k : Int), .string x.n, .string x.a, .string x.b, .string x.c, .string x.d, .float .f64 x.v, .int .i64 x.ph]] w fun e w' => e = .returned (.tuple #[]) ∧ ∃ b', Nt w' base p (N.lay x) b' ∧ Lw n p b' ∧ Below n w w' := lay_any w n base p N b x hN hL h1 h2 h3 h4 h5 hf hlen
theorem Oi.below {wF wr w' : World} {base p i : Nat} {l : List Elm} {N : Ns} {b : Nb} (h : Oi wF wr base p i l N b) (hb : Below wr.heap.size wr w') : Oi wF w' base p i l N b :=
  ⟨h.nt.below hb, h.lw, h.bel.trans (hb.mono h.bel.size), h.fit, h.rest⟩
set_option maxHeartbeats 4000000 in
theorem netOf_any (w : World) (v : Value) (l : List Elm) (hv : RdE w v l) (hok : ∀ x ∈ l, x.ok) : Calls Try.prog 5 #[v] w (OfP w l) := by
  obtain ⟨hl9, A, cA, rfl, hA⟩ := hv
  have HA : Hid (l = [] ∨ ∃ b, A = some ⟨b, 0, none⟩ ∧ ∀ (k : Nat) (x : Elm), l[k]? = some x → E8 w b (k * 8) x) := hA
  have HOK : Hid (∀ x ∈ l, x.ok) := hok
  clear hA hok
  obtain ⟨n, hn⟩ : ∃ n, l.length = n := ⟨_, rfl⟩
  rw [hn] at hl9 ⊢
  have HN : Hid (l.length = n) := hn
  clear hn
  by_cases hbig : 256 < n
  · have hbi : (256 : Int) < (n : Int) := by omega
    go_enter Try.func5, Try.ntmps5
    go_wp2_with fail
    (try simp only [Exit.inBlock, Exit.then])
    refine bodyPost_ret (by simp [results, Try.results5, go_sem]; try rfl) rfl ?_
    have hA3 : ofA l = ((3, -1), Ns.nil) := if_pos (by have := HN.out; omega)
    exact ⟨(Below.refl _ w).alloc (Nat.le_refl _) _, .inr ⟨by rw [hA3]; simp, by rw [hA3]⟩⟩
  · have hbi : ¬ (256 : Int) < (n : Int) := by omega
    have HnR : Hid (∀ W : World, Calls Try.prog 17 #[] W fun e w' => ∃ B, e = .returned (.agg #[.slice none 0 0, .map (some B)]) ∧ Mp w' B [] ∧ Below W.heap.size W w' ∧ W.heap.size ≤ B ∧ B < w'.heap.size) := newRow_any
    go_enter Try.func5, Try.ntmps5
    go_wp2_with fail
    refine (HnR.out _).mono ?_
    rintro e1 w1 ⟨B2, rfl, m1, b1, g1, g1'⟩
    go_wp2_with fail
    refine (HnR.out _).mono ?_
    rintro e2 w2 ⟨B4, rfl, m2, b2, g2, g2'⟩
    go_wp2_with fail
    refine (HnR.out _).mono ?_
    rintro e3 w3 ⟨B6, rfl, m3, b3, g3, g3'⟩
    have HO : Hid _ := Oi.start (l := l) b1 b2 b3 m1 m2 m3 ⟨g1, g1'⟩ ⟨g2, g2'⟩ ⟨g3, g3'⟩
    clear m1 m2 m3 b1 b2 b3 g1 g1' g2 g2' g3 g3'
    go_wp2_with fail
    obtain ⟨wF, hwF⟩ : ∃ wF, w.alloc (.cells #[.int .i64 0, .int .i64 0] 29) = wF := ⟨_, rfl⟩
    obtain ⟨F, hF⟩ : ∃ F, w.heap.size = F := ⟨_, rfl⟩
    obtain ⟨p, hp⟩ : ∃ p, w3.heap.size = p := ⟨_, rfl⟩
    obtain ⟨W0, hW0⟩ : ∃ W0, w3.alloc (.cells #[.slice none 0 0, .slice none 0 0, .map (some B2), .slice none 0 0, .map (some B4), .slice none 0 0, .map (some B6)] 64) = W0 := ⟨_, rfl⟩
    rw [hwF, hp, hW0] at HO
    rw [hF, hp, hW0]
    have HF : Hid (wF.heap[F]? = some (.cells #[.int .i64 0, .int .i64 0] 29 (0, 0)) ∧ wF.heap.size = F + 1 ∧ Below F w wF ∧ w.heap.size = F) := by
      rw [← hwF, ← hF]
      exact ⟨heap_alloc_new w _, by simp, (Below.refl _ w).alloc (Nat.le_refl _) _, rfl⟩
    clear hwF hF hp hW0 HnR hbi
    go_loopw [21] (fun iv wr => ∃ (i : Nat) (N : Ns) (b : Nb), i ≤ n ∧ iv = .int .i64 i ∧ Hid (Oi wF wr (p + 1) p i l N b)) (fun iv _ => n - (intOf iv).toNat)
    case atStart => exact ⟨0, _, _, Nat.zero_le _, rfl, HO⟩
    case round =>
      obtain ⟨i, N, b, hle, rfl, HI⟩ := hrel
      clear HO
      by_cases hp4 : i < n
      · have hpi : (i : Int) < (n : Int) := by omega
        obtain ⟨x, hx⟩ : ∃ x, l[i]? = some x := ⟨_, List.getElem?_eq_getElem (by have := HN.out; omega)⟩
        obtain ⟨ba, rfl, hca⟩ := HA.out.resolve_left (by intro e; rw [e] at hx; cases hx)
        have hbF : ba < F := by have := (hca i x hx).lt; have := HF.out.2.2.2; omega
        have hE := ((hca i x hx).bel hbF HF.out.2.2.1).bel (n := wF.heap.size) (by have := HF.out.2.1; omega) HI.out.bel
        have HX : Hid (l[i]? = some x) := hx
        have HXo : Hid x.ok := HOK.out x (List.mem_of_getElem? hx)
        obtain ⟨c0, c1, c2, c3, c4, c5, c6, c7⟩ := hE
        clear hca hx
        obtain ⟨t, ht⟩ : ∃ t, l.drop i = x :: t := ⟨_, (List.drop_eq_getElem_cons (by have := HN.out; omega)).trans (by rw [(List.getElem?_eq_some_iff.1 HX.out).2])⟩
        have HR : Hid (ofR N i (x :: t) = ofR Ns.nil 0 l ∧ l.drop (i + 1) = t) := ⟨by rw [← ht]; exact HI.out.rest, by rw [List.drop_add_one_eq_tail_drop, ht]; rfl⟩
        obtain ⟨we, hwe⟩ : ∃ we, wr.alloc (.cells #[.int .u8 (x.k : Int), .string x.n, .string x.a, .string x.b, .string x.c, .string x.d, .float .f64 x.v, .int .i64 x.ph] 55) = we := ⟨_, rfl⟩
        obtain ⟨q, hq⟩ : ∃ q, wr.heap.size = q := ⟨_, rfl⟩
        have HE : Hid (Oi wF we (p + 1) p i l N b ∧ we.heap[q]? = some (.cells (elA x) 55 (0, 0)) ∧ q < we.heap.size) := by
          rw [← hwe, ← hq]
          exact ⟨HI.out.below ((Below.refl _ wr).alloc (Nat.le_refl _) _), heap_alloc_new wr _, by simp⟩
        obtain ⟨⟨d0, d1, d2, d3, d4, d5, d6, d7⟩, _⟩ := eight HE.out.2.1
        go_wp2_with fail
        clear d0 d1 d2 d3 d4 d5 d6 d7
        clear hwe hq c0 c1 c2 c3 c4 c5 c6 c7 HI ht
        refine (check_w x _ HXo.out).mono ?_
        rintro e4 w4 ⟨rfl, bk⟩
        have HO4 : Hid (Oi wF w4 (p + 1) p i l N b) := HE.out.1.below bk
        have hq4 : w4.heap[q]? = some (.cells (elA x) 55 (0, 0)) := by rw [bk.block q HE.out.2.2]; exact HE.out.2.1
        have hF4 : w4.heap[F]? = some (.cells #[.int .i64 0, .int .i64 0] 29 (0, 0)) := by rw [HO4.out.bel.block F (by have := HF.out.2.1; omega)]; exact HF.out.1
        clear bk HE
        by_cases hchk : chkI x = 0
        · obtain ⟨hs1, hs1', hs2, hs3, hs4, hs5⟩ := chk_short hchk
          have hck : ((chkI x) != 0) = false := by simp [hchk]
          obtain ⟨⟨d0, d1, d2, d3, d4, d5, d6, d7⟩, _⟩ := eight hq4
          have hmp := HO4.out.nt.nm.mp
          have hmc := HO4.out.nt.nm.c1
          have HPL : Hid (Calls Try.prog 19 #[.pointer (some ⟨p, 1, none⟩), .string x.n] w4.drew fun e w' => e = .returned (.tuple #[.int .i64 (posL N.nm (bl x.n)), .bool (decide (bl x.n ∈ N.nm))]) ∧ w' = w4.drew) := place_s w4.drew p 1 b.B2 N.nm x.n (by omega) hmc (hmp.blk rfl)
          clear hmp hmc
          rw [hchk]
          by_cases hin : bl x.n ∈ N.nm
          · have hin2 : decide (bl x.n ∈ N.nm) = true := decide_eq_true hin
            rw [hin2] at HPL
            go_wp2_with fail
            go_region_held_law (fun W => W.cell? ⟨q, 1, none⟩ = some (.string x.n)) (first | exact d1 | go_keep) (first | (go_at_call 19; (with_reducible refine HPL.out.mono ?_); rintro e5 w5 ⟨rfl, rfl⟩))
            obtain ⟨z0, z1, z2, z3⟩ := tw_c hF4
            have y0 : (w4.setCell ⟨F, 0, none⟩ (.int .i64 9)).cell? ⟨F, 0, none⟩ = some (.int .i64 9) := World.cell?_setCell_same _ _ _ z0
            have y1 := (tw_set hF4 (.int .i64 9) (.int .i64 (i : Int))).2
            go_wp2_with fail
            (try simp only [Exit.inBlock, Exit.then])
            refine bodyPost_ret (by simp [results, Try.results5, go_sem, y0, y1]; try rfl) rfl ?_
            have hA3 : ofA l = ((9, (i : Int)), N) := by unfold ofA; rw [if_neg (by have := HN.out; omega), ← HR.out.1, ofR_there hchk hin]
            refine ⟨(tw_bel (w' := w4) (f := F) (n := w.heap.size) ?_ (by have := HF.out.2.2.2; omega) _ _).drew, .inr ⟨by rw [hA3]; simp, by rw [hA3]⟩⟩
            exact (HF.out.2.2.1.mono (by have := HF.out.2.2.2; omega)).trans (HO4.out.bel.mono (by have := HF.out.2.1; have := HF.out.2.2.2; omega))
          · have hin2 : decide (bl x.n ∈ N.nm) = false := decide_eq_false hin
            rw [hin2] at HPL
            go_wp2_with fail
            go_region_held_law (fun W => W.cell? ⟨q, 1, none⟩ = some (.string x.n)) (first | exact d1 | go_keep) (first | (go_at_call 19; (with_reducible refine HPL.out.mono ?_); rintro e5 w5 ⟨rfl, rfl⟩))
            have HO5 : Hid (Oi wF w4.drew (p + 1) p i l N b) := HO4.out.below ((Below.refl _ w4).drew)
            have hly := lay_w w4.drew wF.heap.size (p + 1) p N b x HO5.out.nt HO5.out.lw (by omega) (by omega) (by omega) (by omega) (by omega) (by rw [HO5.out.fit.es]; exact HO5.out.fit) (by rw [HO5.out.fit.es]; omega)
            go_wp2_with fail
            refine hly.mono ?_
            rintro e6 w6 ⟨rfl, b6, hn6, hl6, hb6⟩
            have HO6 : Hid (Oi wF w6 (p + 1) p (i + 1) l (N.lay x) b6) := ⟨hn6, hl6, HO5.out.bel.trans hb6, HO5.out.fit.lay x, by rw [HR.out.2, ← ofR_go hchk hin]; exact HR.out.1⟩
            clear hn6 hl6 hb6
            go_wp2_with fail
            go_roundw
            case rel => exact ⟨i + 1, _, _, by omega, by go_num, HO6⟩
            case measure => simp [intOf]; omega
        · have hck : ((chkI x) != 0) = true := by simpa using hchk
          obtain ⟨z0, z1, z2, z3⟩ := tw_c hF4
          obtain ⟨y0, y1⟩ := tw_set hF4 (.int .i64 (chkI x)) (.int .i64 (i : Int))
          go_wp2_with fail
          (try simp only [Exit.inBlock, Exit.then])
          refine bodyPost_ret (by simp [results, Try.results5, go_sem, y0, y1]; try rfl) rfl ?_
          have hA3 : ofA l = ((chkI x, (i : Int)), N) := by unfold ofA; rw [if_neg (by have := HN.out; omega), ← HR.out.1, ofR_bad hchk]
          refine ⟨tw_bel ?_ (by have := HF.out.2.2.2; omega) _ _, .inr ⟨by rw [hA3]; exact hchk, by rw [hA3]⟩⟩
          exact (HF.out.2.2.1.mono (by have := HF.out.2.2.2; omega)).trans (HO4.out.bel.mono (by have := HF.out.2.1; have := HF.out.2.2.2; omega))
      · have hin : i = n := by omega
        subst hin
        have hnlt : ¬ ((i : Int) < (i : Int)) := by omega
        have hdr : l.drop i = [] := List.drop_eq_nil_of_le (by have := HN.out; omega)
        have HR : Hid (ofR N i [] = ofR Ns.nil 0 l) := by rw [← hdr]; exact HI.out.rest
        clear hdr
        obtain ⟨Ad, capd, hv3⟩ : ∃ A cap, b.v3 = .slice A N.nd.length cap := by
          obtain ⟨_, ⟨h1, h2⟩ | ⟨g, cap, cur, h1, _⟩⟩ := HI.out.nt.nd.row
          · exact ⟨none, 0, by rw [h1, h2]⟩
          · exact ⟨_, _, h1⟩
        have c3 := HI.out.nt.nd.c0
        rw [hv3] at c3
        have hnd1 : N.nd.length ≤ 1100 := by have := HI.out.fit.nd; omega
        have hbr1 : N.br.length ≤ 1100 := by have := HI.out.fit.br; omega
        obtain ⟨nd, hnd⟩ : ∃ nd, N.nd.length = nd := ⟨_, rfl⟩
        obtain ⟨br, hbr⟩ : ∃ br, N.br.length = br := ⟨_, rfl⟩
        have HOR : Hid (Calls Try.prog 21 #[.pointer (some ⟨p, 0, none⟩)] wr fun e w' => e = .returned (.int .i64 ((nd + br : Nat) : Int)) ∧ Below wr.heap.size wr w') := by
          rw [← hnd, ← hbr]; exact norder_made HI.out.nt (by omega) (by omega)
        rw [hnd] at c3 hnd1
        rw [hbr] at hbr1
        have HNB : Hid (N.nd.length = nd ∧ N.br.length = br) := ⟨hnd, hbr⟩
        clear hnd hbr hv3
        have hFr : wr.heap[F]? = some (.cells #[.int .i64 0, .int .i64 0] 29 (0, 0)) := by rw [HI.out.bel.block F (by have := HF.out.2.1; omega)]; exact HF.out.1
        by_cases h32 : 32 < nd
        · have h32i : (32 : Int) < (nd : Int) := by omega
          obtain ⟨z0, z1, z2, z3⟩ := tw_c hFr
          obtain ⟨y0, y1⟩ := tw_set hFr (.int .i64 3) (.int .i64 (-1))
          go_wp2_with fail
          (try simp only [Exit.inBlock, Exit.then])
          refine bodyPost_ret (by simp [results, Try.results5, go_sem, y0, y1]; try rfl) rfl ?_
          have hA3 : ofA l = ((3, -1), N) := by unfold ofA; rw [if_neg (by have := HN.out; omega), ← HR.out]; unfold ofR; rw [if_pos (by rw [HNB.out.1]; exact .inl h32)]
          refine ⟨tw_bel ?_ (by have := HF.out.2.2.2; omega) _ _, .inr ⟨by rw [hA3]; simp, by rw [hA3]⟩⟩
          exact (HF.out.2.2.1.mono (by have := HF.out.2.2.2; omega)).trans (HI.out.bel.mono (by have := HF.out.2.1; have := HF.out.2.2.2; omega))
        · have h32i : ¬ (32 : Int) < (nd : Int) := by omega
          by_cases h64 : 64 < nd + br
          · have h64i : (64 : Int) < ((nd + br : Nat) : Int) := by omega
            go_wp2_with (first | (go_at_call 21; (with_reducible refine HOR.out.mono ?_); rintro e6 w6 ⟨rfl, hb6⟩; (have hF6 : w6.heap[F]? = some (.cells #[.int .i64 0, .int .i64 0] 29 (0, 0)) := (by rw [hb6.block F (by have := (Array.getElem?_eq_some_iff.1 hFr).1; exact this)]; exact hFr)); (obtain ⟨z0, z1, z2, z3⟩ := tw_c hF6); (obtain ⟨y0, y1⟩ := tw_set hF6 (.int .i64 3) (.int .i64 (-1))); (have HB6 : Hid _ := hb6); clear hb6))
            (try simp only [Exit.inBlock, Exit.then])
            refine bodyPost_ret (by simp [results, Try.results5, go_sem, y0, y1]; try rfl) rfl ?_
            have hA3 : ofA l = ((3, -1), N) := by unfold ofA; rw [if_neg (by have := HN.out; omega), ← HR.out]; unfold ofR; rw [if_pos (by rw [HNB.out.1, HNB.out.2]; exact .inr h64)]
            refine ⟨tw_bel ?_ (by have := HF.out.2.2.2; omega) _ _, .inr ⟨by rw [hA3]; simp, by rw [hA3]⟩⟩
            exact ((HF.out.2.2.1.mono (by have := HF.out.2.2.2; omega)).trans (HI.out.bel.mono (by have := HF.out.2.1; have := HF.out.2.2.2; omega))).trans (HB6.out.mono (by have := HI.out.bel.size; have := HF.out.2.1; have := HF.out.2.2.2; omega))
          · have h64i : ¬ (64 : Int) < ((nd + br : Nat) : Int) := by omega
            go_wp2_with (first | (go_at_call 21; (with_reducible refine HOR.out.mono ?_); rintro e6 w6 ⟨rfl, hb6⟩; (have hF6 : w6.heap[F]? = some (.cells #[.int .i64 0, .int .i64 0] 29 (0, 0)) := (by rw [hb6.block F (by have := (Array.getElem?_eq_some_iff.1 hFr).1; exact this)]; exact hFr)); (obtain ⟨z0, z1, z2, z3⟩ := tw_c hF6); (obtain ⟨y0, y1⟩ := tw_set hF6 (.int .i64 0) (.int .i64 0)); (have HB6 : Hid _ := hb6); clear hb6))
            (try simp only [Exit.inBlock, Exit.then])
            refine bodyPost_ret (by simp [results, Try.results5, go_sem, y0, y1]; try rfl) rfl ?_
            have hA3 : ofA l = ((0, 0), N) := by unfold ofA; rw [if_neg (by have := HN.out; omega), ← HR.out]; unfold ofR; rw [if_neg (by rw [HNB.out.1, HNB.out.2]; rintro (q | q); exact h32 q; exact h64 q)]
            have O6 := HI.out.below HB6.out
            refine ⟨tw_bel ?_ (by have := HF.out.2.2.2; omega) _ _, .inl ⟨by rw [hA3], p + 1, p, b, rfl, ?_, by have := O6.lw.p; have := HF.out.2.1; have := HF.out.2.2.2; omega, by rw [hA3, HN.out]; exact O6.fit⟩⟩
            · exact (HF.out.2.2.1.mono (by have := HF.out.2.2.2; omega)).trans (O6.bel.mono (by have := HF.out.2.1; have := HF.out.2.2.2; omega))
            · rw [hA3]
              exact O6.nt.but (F := F) O6.lw (by have := HF.out.2.1; omega) (by simp [World.setCell]) (fun k hk => by rw [heap_setCell_other _ _ _ _ (by simpa using hk), heap_setCell_other _ _ _ _ (by simpa using hk)])
end Go.Proofs.Ytmhplaanpbpndaa

namespace Go.Proofs.Ytmhplaanpbpndaa
open Go.Maps Go.RowKit
set_option linter.unusedVariables false
set_option maxRecDepth 100000

/-- a name -/
abbrev Nm := List UInt8
/-- a twig: its name, its other node -/
abbrev Tw := Nm × Nat
/-- what seek finds among the twigs of a node: nothing said, no way, a way -/
def skL (go : Nat → Int → Option (Option (List Nm))) (a : Nat) (bef : Int) : List Tw → Option (Option (List Nm))
  | [] => some none
  | t :: r => if (t.2 : Int) = bef then skL go a bef r else match go t.2 a with
    | none => none
    | some none => skL go a bef r
    | some (some l) => some (some (l ++ [t.1]))
def skF (tw : List (List Tw)) (b : Nat) : Nat → Nat → Int → Option (Option (List Nm))
  | 0, _, _ => none
  | f + 1, a, bef => if a = b then some (some []) else match tw[a]? with
    | none => none
    | some ts => skL (skF tw b f) a bef ts
theorem skL_len {go : Nat → Int → Option (Option (List Nm))} {a : Nat} {bef : Int} {n : Nat} (hg : ∀ x y l, go x y = some (some l) → l.length ≤ n) {ts : List Tw} {l : List Nm} (h : skL go a bef ts = some (some l)) : l.length ≤ n + 1 := by
  induction ts with
  | nil => cases h
  | cons t r ih =>
    unfold skL at h
    split at h
    · exact ih h
    · cases q : go t.2 a with
      | none => rw [q] at h; cases h
      | some o =>
        cases o with
        | none => rw [q] at h; exact ih h
        | some m => rw [q] at h; cases h; have := hg _ _ _ q; simp; omega
theorem skF_len {tw : List (List Tw)} {b : Nat} {f : Nat} : ∀ {a : Nat} {bef : Int} {l : List Nm}, skF tw b f a bef = some (some l) → l.length ≤ f := by
  induction f with
  | zero => intro a bef l h; cases h
  | succ f ih =>
    intro a bef l h
    unfold skF at h
    split at h
    · cases h; exact Nat.zero_le _
    · cases q : tw[a]? with
      | none => rw [q] at h; cases h
      | some ts => rw [q] at h; exact skL_len (fun x y l => ih) h
/-- the value v reads as the twigs ts, below lim -/
def RdW (w : World) (lim : Nat) (v : Value) (ts : List Tw) : Prop :=
  ∃ A c, v = .slice A ts.length c ∧ (ts = [] ∨ ∃ g, A = some ⟨g, 0, none⟩ ∧ g < lim ∧ ∀ (k : Nat) (t : Tw), ts[k]? = some t → w.cell? ⟨g, k * 2, none⟩ = some (sv t.1) ∧ w.cell? ⟨g, k * 2 + 1, none⟩ = some (.int .i64 (t.2 : Int)))
/-- a forest's twigs, read; what they lie in lies below lim -/
structure TwR (w : World) (fp lim : Nat) (tw : List (List Tw)) : Prop where
  f : fp < lim
  n : tw.length ≤ 1000000
  t : ∀ ts ∈ tw, ts.length ≤ 1000000
  r : ∃ BL cap, w.cell? ⟨fp, 1, none⟩ = some (.slice (some ⟨BL, 0, none⟩) tw.length cap) ∧ BL < lim ∧ ∀ (j : Nat) (ts : List Tw), tw[j]? = some ts → ∃ u, w.cell? ⟨BL, j, none⟩ = some u ∧ RdW w lim u ts
theorem TwR.kept {w w' : World} {fp lim : Nat} {tw : List (List Tw)} (h : TwR w fp lim tw) (hb : Below lim w w') : TwR w' fp lim tw := by
  obtain ⟨BL, cap, h1, h2, h3⟩ := h.r
  refine ⟨h.f, h.n, h.t, BL, cap, (hb.cell (p := ⟨fp, 1, none⟩) h.f).trans h1, h2, fun j ts hj => ?_⟩
  obtain ⟨u, h4, A, c, h5, h6⟩ := h3 j ts hj
  refine ⟨u, (hb.cell (p := ⟨BL, j, none⟩) h2).trans h4, A, c, h5, h6.imp id ?_⟩
  rintro ⟨g, q1, q2, q3⟩
  exact ⟨g, q1, q2, fun k t hk => ⟨(hb.cell (p := ⟨g, k * 2, none⟩) q2).trans (q3 k t hk).1, (hb.cell (p := ⟨g, k * 2 + 1, none⟩) q2).trans (q3 k t hk).2⟩⟩
end Go.Proofs.Ytmhplaanpbpndaa

namespace Go.Proofs.Ytmhplaanpbpndaa
open Go.Maps Go.RowKit
set_option linter.unusedVariables false
set_option maxRecDepth 100000

@[go_sem] theorem run_store_funcN {P : Program} (w : World) (a : Addr) (m : Mode) (f : Fn) (x y : Array Value) : (store a (.func f x y) m).run P w = stored P w a (.func f x y) m := run_store P w a _ m rfl
theorem row_le {w : World} {base b2 : Nat} {e : TypeId} {sz : Nat} {v : Value} {n : Nat} {xs : List Value} (h : w.ownsRow base e sz v n xs) (hb : b2 ≤ base) : w.ownsRow b2 e sz v n xs := by
  obtain ⟨h0, h1 | ⟨g, cap, cur, h1, h2, h3⟩⟩ := h
  · exact ⟨h0, .inl h1⟩
  · exact ⟨h0, .inr ⟨g, cap, cur, h1, by omega, h3⟩⟩
end Go.Proofs.Ytmhplaanpbpndaa

namespace Go.Proofs.Ytmhplaanpbpndaa
open Go.Maps Go.RowKit
set_option linter.unusedVariables false
set_option maxRecDepth 100000

theorem eql_sl (t e : TypeId) (ht : Try.prog.underlying t = some (.slice e)) (w : World) (a : Option Addr) (n c n' c' : Nat) : (binOp .eql t (.slice a n c) (.slice none n' c')).run Try.prog w = .ok (.bool a.isNone) w := Lib.run_eql_slice_nil w _ _ a n c n' c' ht
/-- a list of names, copied -/
theorem clone_s (w : World) (base : Nat) (v : Value) (xs : List Nm) (h : w.ownsRow base 9 1 v xs.length (xs.map sv)) (hn : xs.length ≤ 1000000) :
    Calls Try.prog 51 #[v] w fun e w' => ∃ v', e = .returned v' ∧ w'.ownsRow w.heap.size 9 1 v' xs.length (xs.map sv) ∧ Below w.heap.size w w' := by
  have q29 := eql_sl 42 9 Try.underlying42
  obtain ⟨i0, hi0, hz0, hz1, hz2⟩ := info_parts Try.infoS
  obtain ⟨hxl, ⟨rfl, hx0⟩ | ⟨g, cap, cur, rfl, hg, hcur, hcap, hcm, hcs, htk⟩⟩ := h
  · go_enter Try.func51, Try.ntmps51
    go_wp2_with fail
    go_ret
    have hxe : xs = [] := List.length_eq_zero_iff.1 hx0
    subst hxe
    exact ⟨.slice none 0 0, rfl, World.ownsRow_nil _ _ _ _, Below.refl _ _⟩
  · have HC : Hid (∀ j u, (xs.map sv)[j]? = some u → w.cell? ⟨g, j, none⟩ = some u) := fun j u hj => by
      have hrow : w.ownsRow base 9 1 (.slice (some ⟨g, 0, none⟩) xs.length cap) xs.length (xs.map sv) := ⟨hxl, .inr ⟨g, cap, cur, rfl, hg, hcur, hcap, hcm, hcs, htk⟩⟩
      rw [hrow.cellAt j (by have := (List.getElem?_eq_some_iff.1 hj).1; simp at this; omega)]; exact hj
    obtain ⟨m, hm⟩ : ∃ m, xs.length = m := ⟨_, rfl⟩
    rw [hm] at hn ⊢
    have HM : Hid (xs.length = m) := hm
    clear hm hxl hcur hcap hcm hcs htk hg
    go_enter Try.func51, Try.ntmps51
    go_wp2_with (at_builtin; refine wpList_append_own _ rfl _ _ 42 rfl w.heap.size 9 i0 (.string ByteArray.empty) 1 16 Try.underlying42 hi0 hz0 hz1 hz2 (by rfl) (by decide) _ _ _ rfl (World.ownsRow_made w #[] 0 (Nat.le_refl _) (Nat.zero_le _) rfl) ⟨g, 0, none⟩ m cap (xs.map sv) rfl ?qc1 ?qc2 ?qc3 ?qc4 ?qc5 ?qc6 ?_)
    case qc1 => simp [HM.out]
    case qc2 =>
      intro j u hj
      rw [Addr.add_lit]
      have := HC.out j u hj
      simp only [Nat.zero_add]
      rw [World.cell?_alloc_lt _ _ _ (World.block_lt_of_cell? w _ this)]; exact this
    case qc3 => intro u hu; obtain ⟨x, _, rfl⟩ := List.mem_map.1 hu; rfl
    case qc4 => unfold maxLen; omega
    case qc5 => omega
    case qc6 => simp
    intro v' w1 hown hgrow hnil
    go_wp2
    go_ret
    refine ⟨v', rfl, by simpa using hown, ?_⟩
    exact ((Below.refl _ w).alloc (Nat.le_refl _) _).grown hgrow (by simp) (by intro k hk; simp [Value.ownBlock] at hk; omega)
theorem elC_one (l : List Elm) : ∀ u ∈ elCs l, u.oneCell' = true := by
  intro u hu
  unfold elCs at hu
  obtain ⟨x, _, hx⟩ := List.mem_flatMap.1 hu
  simp [elC] at hx
  rcases hx with rfl | rfl | rfl | rfl | rfl | rfl | rfl | rfl <;> rfl
/-- a list of elements, copied -/
theorem clone_e (w : World) (base : Nat) (v : Value) (l : List Elm) (h : w.ownsRow base 55 8 v l.length (elCs l)) (hn : l.length ≤ 1000000) :
    Calls Try.prog 57 #[v] w fun e w' => ∃ v', e = .returned v' ∧ w'.ownsRow w.heap.size 55 8 v' l.length (elCs l) ∧ Below w.heap.size w w' := by
  have q29 := eql_sl 24 55 Try.underlying24
  obtain ⟨i0, hi0, hz0, hz1, hz2⟩ := info_parts Try.infoE
  obtain ⟨hxl, ⟨rfl, hx0⟩ | ⟨g, cap, cur, rfl, hg, hcur, hcap, hcm, hcs, htk⟩⟩ := h
  · go_enter Try.func57, Try.ntmps57
    go_wp2_with fail
    go_ret
    have hxe : l = [] := List.length_eq_zero_iff.1 hx0
    subst hxe
    exact ⟨.slice none 0 0, rfl, World.ownsRow_nil _ _ _ _, Below.refl _ _⟩
  · have HC : Hid (∀ j u, (elCs l)[j]? = some u → w.cell? ⟨g, j, none⟩ = some u) := fun j u hj => by
      have hrow : w.ownsRow base 55 8 (.slice (some ⟨g, 0, none⟩) l.length cap) l.length (elCs l) := ⟨hxl, .inr ⟨g, cap, cur, rfl, hg, hcur, hcap, hcm, hcs, htk⟩⟩
      rw [hrow.cellAt j (by have := (List.getElem?_eq_some_iff.1 hj).1; omega)]; exact hj
    obtain ⟨m, hm⟩ : ∃ m, l.length = m := ⟨_, rfl⟩
    rw [hm] at hn ⊢
    have HM : Hid ((elCs l).length = m * 8 ∧ l.length = m) := ⟨by rw [elCs_len, hm], hm⟩
    clear hm hxl hcur hcap hcm hcs htk hg
    go_enter Try.func57, Try.ntmps57
    go_wp2_with (at_builtin; refine wpList_append_own _ rfl _ _ 24 rfl w.heap.size 55 i0 _ 8 104 Try.underlying24 hi0 hz0 hz1 hz2 (by rfl) (by decide) _ _ _ rfl (World.ownsRow_made w #[] 0 (Nat.le_refl _) (Nat.zero_le _) rfl) ⟨g, 0, none⟩ m cap (elCs l) rfl ?qc1 ?qc2 ?qc3 ?qc4 ?qc5 ?qc6 ?_)
    case qc1 => exact HM.out.1
    case qc2 =>
      intro j u hj
      rw [Addr.add_lit]
      have := HC.out j u hj
      simp only [Nat.zero_add]
      rw [World.cell?_alloc_lt _ _ _ (World.block_lt_of_cell? w _ this)]; exact this
    case qc3 => exact elC_one l
    case qc4 => unfold maxLen; omega
    case qc5 => omega
    case qc6 => simp
    intro v' w1 hown hgrow hnil
    go_wp2
    go_ret
    refine ⟨v', rfl, by simpa using hown, ?_⟩
    exact ((Below.refl _ w).alloc (Nat.le_refl _) _).grown hgrow (by simp) (by intro k hk; simp [Value.ownBlock] at hk; omega)
theorem nodes_made {w : World} {base p : Nat} {N : Ns} {b : Nb} (h : Nt w base p N b) (hn : N.nd.length ≤ 1000000) : Calls Try.prog 26 #[.pointer (some ⟨p, 0, none⟩)] w fun e w' => ∃ v', e = .returned v' ∧ w'.ownsRow w.heap.size 9 1 v' N.nd.length (N.nd.map sv) ∧ Below w.heap.size w w' := by
  have c2 := h.nm.c1
  have c3 := h.nd.c0
  have hcl := clone_s w base b.v3 N.nd h.nd.row hn
  go_enter Try.func26, Try.ntmps26
  go_wp2_with (first | (go_at_call 43; (with_reducible refine (made_yes c2).mono ?_); rintro e1 w1 ⟨rfl, rfl⟩) | (go_at_call 51; (with_reducible refine hcl.mono ?_); rintro e2 w2 ⟨v2, rfl, ho2, hb2⟩))
  go_ret
  exact ⟨v2, rfl, ho2, hb2⟩
theorem elements_made {w : World} {base p : Nat} {N : Ns} {b : Nb} (h : Nt w base p N b) (hn : N.es.length ≤ 1000000) : Calls Try.prog 28 #[.pointer (some ⟨p, 0, none⟩)] w fun e w' => ∃ v', e = .returned v' ∧ w'.ownsRow w.heap.size 55 8 v' N.es.length (elCs N.es) ∧ Below w.heap.size w w' := by
  have c2 := h.nm.c1
  have c0 := h.c0
  have hcl := clone_e w base b.v0 N.es h.es hn
  go_enter Try.func28, Try.ntmps28
  go_wp2_with (first | (go_at_call 43; (with_reducible refine (made_yes c2).mono ?_); rintro e1 w1 ⟨rfl, rfl⟩) | (go_at_call 57; (with_reducible refine hcl.mono ?_); rintro e2 w2 ⟨v2, rfl, ho2, hb2⟩))
  go_ret
  exact ⟨v2, rfl, ho2, hb2⟩
theorem without_no {w : World} {base p : Nat} {N : Ns} {b : Nb} (h : Nt w base p N b) (hn : [] ∉ N.nm) : Calls Try.prog 49 #[.pointer (some ⟨p, 0, none⟩), .string ⟨#[]⟩] w fun e w' => e = .returned (.tuple #[.pointer none, .int .i64 10]) ∧ w' = w := by
  have c2 := h.nm.c1
  have hpl := place_s w p 1 b.B2 N.nm ⟨#[]⟩ (by decide) c2 h.nm.mp
  rw [show decide (bl ⟨#[]⟩ ∈ N.nm) = false from decide_eq_false hn] at hpl
  go_enter Try.func49, Try.ntmps49
  go_wp2_with (first | (go_at_call 43; (with_reducible refine (made_yes c2).mono ?_); rintro e1 w1 ⟨rfl, rfl⟩) | (go_at_call 19; (with_reducible refine hpl.mono ?_); rintro e2 w2 ⟨rfl, rfl⟩))
  go_ret2
  exact ⟨rfl, rfl⟩

end Go.Proofs.Ytmhplaanpbpndaa

namespace Go.Proofs.Ytmhplaanpbpndaa
open Go.Maps Go.RowKit
set_option linter.unusedVariables false
set_option maxRecDepth 100000

def agN (xs ys : List Nm) (k : Nat) : Prop := ∀ j, j < k → xs[j]? = ys[j]?
theorem agN_all {xs ys : List Nm} (h : agN xs ys xs.length) (hl : xs.length = ys.length) : xs = ys := by
  apply List.ext_getElem?
  intro i
  by_cases hi : i < xs.length
  · exact h i hi
  · rw [List.getElem?_eq_none (by omega), List.getElem?_eq_none (by omega)]
theorem row_cellS {w : World} {base : Nat} {v : Value} {xs : List Nm} (h : w.ownsRow base 9 1 v xs.length (xs.map sv)) {k : Nat} {x : Nm} (hk : xs[k]? = some x) : ∃ g cap, v = .slice (some ⟨g, 0, none⟩) xs.length cap ∧ w.cell? ⟨g, k, none⟩ = some (.string ⟨x.toArray⟩) := by
  have hlt := (List.getElem?_eq_some_iff.1 hk).1
  obtain ⟨g, cap, hv⟩ : ∃ g cap, v = .slice (some ⟨g, 0, none⟩) xs.length cap := by
    obtain ⟨_, ⟨h1, h2⟩ | ⟨g, cap, cur, h1, _⟩⟩ := h
    · omega
    · exact ⟨_, _, h1⟩
  rw [hv] at h
  exact ⟨g, cap, hv, by rw [h.cellAt k (by omega), List.getElem?_map, hk]; rfl⟩
theorem bel_dN (w : World) (q : Nat) : Below w.heap.size w (w.drewN q) := ⟨rfl, rfl, rfl, Nat.le_refl _, fun _ _ => rfl⟩
set_option maxHeartbeats 4000000 in
theorem sameS_any (w : World) (b1 b2 : Nat) (a b : Value) (xs ys : List Nm) (ha : w.ownsRow b1 9 1 a xs.length (xs.map sv)) (hb : w.ownsRow b2 9 1 b ys.length (ys.map sv)) (hx : xs.length ≤ 1000000) (hy : ys.length ≤ 1000000) :
    Calls Try.prog 12 #[a, b] w fun e w' => e = .returned (.bool (decide (xs = ys))) ∧ Below w.heap.size w w' := by
  have HA : Hid _ := ha
  have HB : Hid _ := hb
  obtain ⟨A, ca, hva⟩ : ∃ A c, a = .slice A xs.length c := by
    obtain ⟨_, ⟨h1, h2⟩ | ⟨g, cap, cur, h1, _⟩⟩ := ha
    · exact ⟨none, 0, by rw [h1, h2]⟩
    · exact ⟨_, _, h1⟩
  obtain ⟨B, cb, hvb⟩ : ∃ A c, b = .slice A ys.length c := by
    obtain ⟨_, ⟨h1, h2⟩ | ⟨g, cap, cur, h1, _⟩⟩ := hb
    · exact ⟨none, 0, by rw [h1, h2]⟩
    · exact ⟨_, _, h1⟩
  clear ha hb
  subst hva
  subst hvb
  by_cases hl : xs.length = ys.length
  · obtain ⟨n, hn⟩ : ∃ n, xs.length = n := ⟨_, rfl⟩
    have hn2 : ys.length = n := by omega
    rw [hn] at HA hx ⊢
    rw [hn2] at HB hy ⊢
    have HN : Hid (xs.length = n ∧ ys.length = n) := ⟨hn, hn2⟩
    have hnn : ((n : Int) != (n : Int)) = false := by simp
    clear hn hn2 hl
    go_enter Try.func12, Try.ntmps12
    go_wp2_with fail
    go_loopw [5] (fun iv wr => ∃ (k : Nat), k ≤ n ∧ iv = .int .i64 k ∧ Hid (∃ q, wr = w.drewN q) ∧ Hid (agN xs ys k)) (fun iv _ => n - (intOf iv).toNat)
    case atStart => exact ⟨0, Nat.zero_le _, rfl, ⟨0, rfl⟩, fun j hj => absurd hj (by omega)⟩
    case round =>
      obtain ⟨k, hle, rfl, HQ, HG⟩ := hrel
      obtain ⟨q, hq⟩ := HQ.out
      subst hq
      by_cases hp4 : k < n
      · have hpk : (k : Int) < (n : Int) := by omega
        obtain ⟨x, hx1⟩ : ∃ x, xs[k]? = some x := ⟨_, List.getElem?_eq_getElem (by have := HN.out.1; omega)⟩
        obtain ⟨y, hy1⟩ : ∃ y, ys[k]? = some y := ⟨_, List.getElem?_eq_getElem (by have := HN.out.2; omega)⟩
        obtain ⟨g, cg, hvg, cx⟩ := row_cellS (by rw [HN.out.1]; exact HA.out) hx1
        obtain ⟨g2, cg2, hvg2, cy⟩ := row_cellS (by rw [HN.out.2]; exact HB.out) hy1
        rw [HN.out.1] at hvg
        rw [HN.out.2] at hvg2
        cases hvg
        cases hvg2
        have HX : Hid (xs[k]? = some x ∧ ys[k]? = some y) := ⟨hx1, hy1⟩
        clear hx1 hy1
        by_cases hxy : x = y
        · subst hxy
          have hxx : (x == x) = true := by simp
          go_wp2_with fail
          go_region_held_law (fun w' => w'.cell? ⟨g, k, none⟩ = some (.string ⟨x.toArray⟩) ∧ w'.cell? ⟨g2, k, none⟩ = some (.string ⟨x.toArray⟩)) (first | exact ⟨cx, cy⟩ | go_keep) (fail)
          go_wp2_with fail
          go_roundw
          case rel => exact ⟨k + 1, by omega, by go_num, ⟨q + 1, rfl⟩, fun j hj => by
            rcases Nat.lt_succ_iff_lt_or_eq.1 hj with q2 | rfl
            · exact HG.out j q2
            · rw [HX.out.1, HX.out.2]⟩
          case measure => simp [intOf]; omega
        · have hxx : (x == y) = false := by simpa using hxy
          go_wp2_with fail
          go_region_held_law (fun w' => w'.cell? ⟨g, k, none⟩ = some (.string ⟨x.toArray⟩) ∧ w'.cell? ⟨g2, k, none⟩ = some (.string ⟨y.toArray⟩)) (first | exact ⟨cx, cy⟩ | go_keep) (fail)
          go_wp2_with fail
          go_ret
          refine ⟨?_, bel_dN w (q + 1)⟩
          have : ¬ xs = ys := fun e => hxy (by
            have h1 := HX.out.1
            rw [e, HX.out.2] at h1
            exact (Option.some.inj h1).symm)
          rw [decide_eq_false this]; rfl
      · have hkn : k = n := by omega
        subst hkn
        have hkk : ¬ ((k : Int) < (k : Int)) := by omega
        have he : xs = ys := agN_all (by rw [HN.out.1]; exact HG.out) (by rw [HN.out.1, HN.out.2])
        have hd : decide (xs = ys) = true := decide_eq_true he
        clear he
        go_wp2_with fail
        go_ret
        exact ⟨rfl, bel_dN w q⟩
  · have hne : ((xs.length : Int) != (ys.length : Int)) = true := by
      rw [bne_iff_ne]; omega
    have hd : decide (xs = ys) = false := decide_eq_false (fun e => hl (by rw [e]))
    go_enter Try.func12, Try.ntmps12
    go_wp2_with fail
    go_ret
    first | exact ⟨rfl, Below.refl _ _⟩ | (rw [hd]; exact ⟨rfl, Below.refl _ _⟩)


end Go.Proofs.Ytmhplaanpbpndaa

namespace Go.Proofs.Ytmhplaanpbpndaa
open Go.Maps Go.RowKit
set_option linter.unusedVariables false
set_option maxRecDepth 100000

/-- a list of lists: the row of slices v, its slices vals, each a row of its own -/
structure LL {α : Type} (w : World) (base : Nat) (To Ti : TypeId) (sz : Nat) (enc : α → List Value) (v : Value) (vals : List Value) (ls : List (List α)) : Prop where
  ty : To ≠ Ti
  out : w.ownsRow base To 1 v vals.length vals
  len : ls.length = vals.length
  inn : ∀ (j : Nat) (u : Value) (l : List α), vals[j]? = some u → ls[j]? = some l → w.ownsRow base Ti sz u l.length (l.flatMap enc)
  apart : ∀ (i j : Nat) (u u' : Value), vals[i]? = some u → vals[j]? = some u' → i ≠ j → Sep u u'
theorem LL.inn' {α : Type} {w : World} {base : Nat} {To Ti : TypeId} {sz : Nat} {enc : α → List Value} {v : Value} {vals : List Value} {ls : List (List α)} (h : LL w base To Ti sz enc v vals ls) {j : Nat} {u : Value} (hj : vals[j]? = some u) : ∃ l, ls[j]? = some l ∧ w.ownsRow base Ti sz u l.length (l.flatMap enc) := by
  have hlt := (List.getElem?_eq_some_iff.1 hj).1
  obtain ⟨l, hl⟩ : ∃ l, ls[j]? = some l := ⟨_, List.getElem?_eq_getElem (by rw [h.len]; exact hlt)⟩
  exact ⟨l, hl, h.inn j u l hj hl⟩
theorem LL.kept {α : Type} {w w' : World} {base : Nat} {To Ti : TypeId} {sz : Nat} {enc : α → List Value} {v : Value} {vals : List Value} {ls : List (List α)} (h : LL w base To Ti sz enc v vals ls) (h1 : ∀ g, v.ownBlock = some g → w'.heap[g]? = w.heap[g]?) (h2 : ∀ u ∈ vals, ∀ g, u.ownBlock = some g → w'.heap[g]? = w.heap[g]?) : LL w' base To Ti sz enc v vals ls :=
  ⟨h.ty, row_block h.out h1, h.len, fun j u l hj hl => row_block (h.inn j u l hj hl) (h2 u (List.mem_of_getElem? hj)), h.apart⟩
theorem LL.lt {α : Type} {w : World} {base : Nat} {To Ti : TypeId} {sz : Nat} {enc : α → List Value} {v : Value} {vals : List Value} {ls : List (List α)} (h : LL w base To Ti sz enc v vals ls) {u : Value} (hu : u ∈ vals) {g : Nat} (hg : u.ownBlock = some g) : base ≤ g ∧ g < w.heap.size := by
  obtain ⟨j, hj⟩ := List.mem_iff_getElem?.1 hu
  obtain ⟨l, _, hr⟩ := h.inn' hj
  exact row_ge hr hg
theorem LL.below {α : Type} {w w' : World} {base : Nat} {To Ti : TypeId} {sz : Nat} {enc : α → List Value} {v : Value} {vals : List Value} {ls : List (List α)} (h : LL w base To Ti sz enc v vals ls) (hb : Below w.heap.size w w') : LL w' base To Ti sz enc v vals ls :=
  h.kept (fun g hg => hb.block g (row_ge h.out hg).2) (fun u hu g hg => hb.block g (h.lt hu hg).2)
theorem LL.nil {α : Type} (w : World) (base : Nat) {To Ti : TypeId} (ht : To ≠ Ti) (sz : Nat) (enc : α → List Value) : LL w base To Ti sz enc (.slice none 0 0) [] [] :=
  ⟨ht, World.ownsRow_nil _ _ _ _, rfl, fun j u l h => by simp at h, fun i j u u' h => by simp at h⟩
/-- one of the lists has grown -/
theorem LL.store {α : Type} {w w1 : World} {base BL n cap j : Nat} {To Ti : TypeId} {sz : Nat} {enc : α → List Value} {vals : List Value} {ls : List (List α)} {u u' : Value} {l' : List α} (h : LL w base To Ti sz enc (.slice (some ⟨BL, 0, none⟩) n cap) vals ls) (hj : vals[j]? = some u)
    (hg : w.grownBy w1 u.ownBlock) (hr : w1.ownsRow base Ti sz u' l'.length (l'.flatMap enc)) (hv : ∀ g, u'.ownBlock = some g → u.ownBlock = some g ∨ w.heap.size ≤ g) :
    LL (w1.setCell ⟨BL, j, none⟩ u') base To Ti sz enc (.slice (some ⟨BL, 0, none⟩) n cap) (vals.set j u') (ls.set j l') := by
  obtain ⟨l, hl, hru⟩ := h.inn' hj
  have hlt := (List.getElem?_eq_some_iff.1 hj).1
  have hBL : BL < w.heap.size := (row_ge h.out (g := BL) rfl).2
  have hn : vals.length = n := by
    obtain ⟨_, ⟨q, _⟩ | ⟨g, c2, cur, q, _⟩⟩ := h.out
    · cases q
    · cases q; rfl
  have o1 : w1.ownsRow base To 1 (.slice (some ⟨BL, 0, none⟩) n cap) vals.length vals := h.out.kept hg (Or.inr (fun e => row_type h.out hru h.ty (g := BL) rfl e.symm))
  have o2 := o1
  rw [hn] at o2
  have hnb : ∀ x : Value, ∀ l2 : List α, w.ownsRow base Ti sz x l2.length (l2.flatMap enc) → x.ownBlock ≠ some BL := fun x l2 hx e => row_type h.out hx h.ty (g := BL) rfl e
  have hub : u'.ownBlock ≠ some BL := fun e => by
    rcases hv BL e with q | q
    · exact hnb u l hru q
    · omega
  refine ⟨h.ty, ?_, by simp [h.len], fun i x m hi hm => ?_, fun i k x y hi hk hik => ?_⟩
  · rw [List.length_set, hn]; exact (o2.stored j u').1
  · rw [List.getElem?_set] at hi hm
    by_cases e : j = i
    · subst e
      rw [if_pos rfl, if_pos hlt] at hi
      rw [if_pos rfl, if_pos (by rw [h.len]; exact hlt)] at hm
      cases hi; cases hm
      exact row_block hr fun g hg2 => heap_setCell_other w1 ⟨BL, j, none⟩ g u' (fun e => hub (by rw [hg2]; simpa using e))
    · rw [if_neg e] at hi hm
      have h3 := h.inn i x m hi hm
      have h4 := h3.kept hg (by
        cases q : x.ownBlock with
        | none => exact .inl rfl
        | some g => exact .inr (fun q2 => h.apart i j x u hi hj (fun e2 => e e2.symm) g q q2.symm))
      exact row_block h4 fun g hg2 => heap_setCell_other w1 ⟨BL, j, none⟩ g u' (fun e2 => hnb x m h3 (by rw [hg2]; simpa using e2))
  · rw [List.getElem?_set] at hi hk
    by_cases e : j = i
    · subst e
      rw [if_pos rfl, if_pos hlt] at hi
      cases hi
      rw [if_neg hik] at hk
      intro g q1 q2
      rcases hv g q1 with q3 | q3
      · exact h.apart j k u y hj hk hik g q3 q2
      · have := (h.lt (List.mem_of_getElem? hk) q2).2; omega
    · rw [if_neg e] at hi
      by_cases e2 : j = k
      · subst e2
        rw [if_pos rfl, if_pos hlt] at hk
        cases hk
        intro g q1 q2
        rcases hv g q2 with q3 | q3
        · exact h.apart i j x u hi hj hik g q1 q3
        · have := (h.lt (List.mem_of_getElem? hi) q1).2; omega
      · rw [if_neg e2] at hk
        exact h.apart i k x y hi hk hik
/-- a list more -/
theorem LL.push {α : Type} {w w1 : World} {base : Nat} {To Ti : TypeId} {sz : Nat} {enc : α → List Value} {v v' : Value} {vals : List Value} {ls : List (List α)} {u : Value} {l : List α} (h : LL w base To Ti sz enc v vals ls) (hu : w.ownsRow base Ti sz u l.length (l.flatMap enc)) (hs : ∀ x ∈ vals, Sep x u)
    (hg : w.grownBy w1 v.ownBlock) (hr : w1.ownsRow base To 1 v' (vals.length + 1) (vals ++ [u])) : LL w1 base To Ti sz enc v' (vals ++ [u]) (ls ++ [l]) := by
  have hne : ∀ x : Value, ∀ l2 : List α, w.ownsRow base Ti sz x l2.length (l2.flatMap enc) → w1.ownsRow base Ti sz x l2.length (l2.flatMap enc) := fun x l2 hx => hx.kept hg (by
    cases q : x.ownBlock with
    | none => exact .inl rfl
    | some g => exact .inr (fun q2 => row_type hx h.out (fun e => h.ty e.symm) q q2.symm))
  refine ⟨h.ty, by rw [List.length_append]; exact hr, by simp [h.len], fun i x m hi hm => ?_, fun i k x y hi hk hik => ?_⟩
  · by_cases e : i < vals.length
    · rw [List.getElem?_append_left e] at hi
      rw [List.getElem?_append_left (by rw [h.len]; exact e)] at hm
      exact hne x m (h.inn i x m hi hm)
    · rw [List.getElem?_append_right (by omega)] at hi
      rw [List.getElem?_append_right (by rw [h.len]; omega)] at hm
      have e0 : i - vals.length = 0 := by
        have := (List.getElem?_eq_some_iff.1 hi).1; simp at this; omega
      rw [e0] at hi
      rw [h.len, e0] at hm
      cases hi; cases hm
      exact hne _ _ hu
  · have hs2 : ∀ x ∈ vals, Sep u x := fun x hx => (hs x hx).symm
    by_cases e : i < vals.length
    · rw [List.getElem?_append_left e] at hi
      by_cases e2 : k < vals.length
      · rw [List.getElem?_append_left e2] at hk
        exact h.apart i k x y hi hk hik
      · rw [List.getElem?_append_right (by omega)] at hk
        have e0 : k - vals.length = 0 := by
          have := (List.getElem?_eq_some_iff.1 hk).1; simp at this; omega
        rw [e0] at hk
        cases hk
        exact hs x (List.mem_of_getElem? hi)
    · rw [List.getElem?_append_right (by omega)] at hi
      have e0 : i - vals.length = 0 := by
        have := (List.getElem?_eq_some_iff.1 hi).1; simp at this; omega
      rw [e0] at hi
      cases hi
      by_cases e2 : k < vals.length
      · rw [List.getElem?_append_left e2] at hk
        exact hs2 y (List.mem_of_getElem? hk)
      · rw [List.getElem?_append_right (by omega)] at hk
        have e1 : k - vals.length = 0 := by
          have := (List.getElem?_eq_some_iff.1 hk).1; simp at this; omega
        exfalso; omega
def twE (t : Tw) : List Value := [sv t.1, .int .i64 (t.2 : Int)]
def nmE (s : Nm) : List Value := [sv s]
theorem nmE_map (l : List Nm) : l.flatMap nmE = l.map sv := by
  induction l with
  | nil => rfl
  | cons x t ih => rw [List.flatMap_cons, ih]; rfl
theorem twE_len (l : List Tw) : (l.flatMap twE).length = l.length * 2 := by
  induction l with
  | nil => rfl
  | cons x t ih => rw [List.flatMap_cons, List.length_append, ih]; simp [twE]; omega
theorem twE_get {l : List Tw} {k : Nat} {t : Tw} (h : l[k]? = some t) : (l.flatMap twE)[k * 2]? = some (sv t.1) ∧ (l.flatMap twE)[k * 2 + 1]? = some (.int .i64 (t.2 : Int)) := by
  induction l generalizing k with
  | nil => cases h
  | cons y r ih =>
    rw [List.flatMap_cons]
    have hy : (twE y).length = 2 := rfl
    cases k with
    | zero => cases h; exact ⟨rfl, rfl⟩
    | succ k =>
      rw [List.getElem?_append_right (by rw [hy]; omega), List.getElem?_append_right (by rw [hy]; omega), hy, show (k + 1) * 2 - 2 = k * 2 by omega, show (k + 1) * 2 + 1 - 2 = k * 2 + 1 by omega]
      exact ih (by simpa using h)
/-- the values of a forest's fields -/
structure Fb where
  vn : Value
  BL : Nat
  vt : Value
  vl : Value
  tv : List Value
  lv : List Value
/-- a forest -/
structure Fr where
  nd : List Nm
  tw : List (List Tw)
  tr : List Nm
  lp : List (List Nm)
/-- how great a forest may be -/
structure Fr.ok (F : Fr) : Prop where
  n : F.tw.length ≤ 100000
  t : ∀ ts ∈ F.tw, ts.length ≤ 100000
  r : F.tr.length ≤ 100000
  l : F.lp.length ≤ 100000
end Go.Proofs.Ytmhplaanpbpndaa

namespace Go.Proofs.Ytmhplaanpbpndaa
open Go.Maps Go.RowKit
set_option linter.unusedVariables false
set_option maxRecDepth 100000

def pushT (tw : List (List Tw)) (a : Nat) (t : Tw) : List (List Tw) := tw.set a (tw.getD a [] ++ [t])
/-- take, without memory; none: seek did not come to an end -/
def Fr.take (f : Nat) (F : Fr) (nm : Nm) (a b : Nat) : Option Fr := match skF F.tw b f a (-1) with
  | none => none
  | some (some way) => some { F with lp := F.lp ++ [nm :: way] }
  | some none => some { F with tr := F.tr ++ [nm], tw := pushT (pushT F.tw a (nm, b)) b (nm, a) }
theorem row_slice {w : World} {base : Nat} {e : TypeId} {sz : Nat} {v : Value} {n : Nat} {xs : List Value} (h : w.ownsRow base e sz v n xs) : ∃ A cap, v = .slice A n cap := by
  obtain ⟨_, ⟨h1, h2⟩ | ⟨g, cap, cur, h1, _⟩⟩ := h
  · exact ⟨none, 0, by rw [h1, h2]⟩
  · exact ⟨_, _, h1⟩
theorem row_some {w : World} {base : Nat} {e : TypeId} {sz : Nat} {v : Value} {n : Nat} {xs : List Value} (h : w.ownsRow base e sz v n xs) (hn : 0 < n) : ∃ g cap, v = .slice (some ⟨g, 0, none⟩) n cap := by
  obtain ⟨_, ⟨h1, h2⟩ | ⟨g, cap, cur, h1, _⟩⟩ := h
  · omega
  · exact ⟨_, _, h1⟩
theorem skF_ne {tw : List (List Tw)} {b f a : Nat} {bef : Int} {l : List Nm} (h : skF tw b f a bef = some (some l)) (hab : a ≠ b) : 0 < l.length := by
  cases f with
  | zero => cases h
  | succ f =>
    unfold skF at h
    rw [if_neg hab] at h
    cases q : tw[a]? with
    | none => rw [q] at h; cases h
    | some ts =>
      rw [q] at h
      simp only at h
      clear q
      induction ts with
      | nil => cases h
      | cons t r ih =>
        unfold skL at h
        split at h
        · exact ih h
        · cases q : skF tw b f t.2 a with
          | none => rw [q] at h; cases h
          | some o =>
            cases o with
            | none => rw [q] at h; exact ih h
            | some m => rw [q] at h; cases h; simp
theorem Try.infoSS : (Try.prog.info? 42).map (fun i => (i.zero, i.size, i.bytes)) = some (some (.slice none 0 0), 1, 24) := by kernel_rfl
theorem fo_set {w : World} {fp : Nat} {c c' : Array Value} {T : TypeId} {i : Nat} {v : Value} (h : w.heap[fp]? = some (.cells c T (0, 0))) (hc : c.setIfInBounds i v = c') : (w.setCell ⟨fp, i, none⟩ v).heap[fp]? = some (.cells c' T (0, 0)) := by rw [← hc]; exact heap_setCell_same w fp i c T v h
theorem row_cells {w : World} {base : Nat} {e : TypeId} {sz : Nat} {v : Value} {n : Nat} {xs : List Value} (h : w.ownsRow base e sz v n xs) {k : Nat} {c : Array Value} {t : TypeId} {fz : Nat × Nat} (hk : w.heap[k]? = some (.cells c t fz)) (hne : t ≠ e) : v.ownBlock ≠ some k := by
  intro hv
  obtain ⟨_, ⟨rfl, _⟩ | ⟨g, cap, cur, rfl, _, h4, _⟩⟩ := h
  · cases hv
  · cases hv
    rw [h4] at hk
    injection hk with hk; injection hk with _ hk
    exact hne hk.symm
/-- elements and maps in memory stay -/
def Kq (w w' : World) : Prop := ∀ (k : Nat) (o : Obj), w.heap[k]? = some o → ((∃ es c, o = .map es c) ∨ ∃ c fz, o = .cells c 55 fz) → w'.heap[k]? = some o
theorem Kq.refl (w : World) : Kq w w := fun _ _ h _ => h
theorem Kq.trans {w w1 w2 : World} (h : Kq w w1) (h2 : Kq w1 w2) : Kq w w2 := fun k o hk ho => h2 k o (h k o hk ho) ho
theorem Kq.bel {w w' : World} (h : Below w.heap.size w w') : Kq w w' := fun k o hk _ => by rw [h.block k (Array.getElem?_eq_some_iff.1 hk).1]; exact hk
theorem Kq.row {w w1 : World} {base : Nat} {e : TypeId} {sz : Nat} {v : Value} {n : Nat} {xs : List Value} (h : w.ownsRow base e sz v n xs) (he : e ≠ 55) (hg : w.grownBy w1 v.ownBlock) : Kq w w1 := by
  intro k o hk ho
  rw [hg.block k (Array.getElem?_eq_some_iff.1 hk).1 ?_]
  · exact hk
  · intro q
    obtain ⟨_, ⟨rfl, _⟩ | ⟨g, cap, cur, rfl, _, h4, _⟩⟩ := h
    · cases q
    · cases q
      rw [h4] at hk
      cases hk
      rcases ho with ⟨es, c, q⟩ | ⟨c, fz, q⟩
      · cases q
      · cases q; exact he rfl
theorem Kq.set {w : World} {p j : Nat} {u : Value} {c0 : Array Value} {t : TypeId} {f0 : Nat × Nat} (hp : w.heap[p]? = some (.cells c0 t f0)) (ht : t ≠ 55) : Kq w (w.setCell ⟨p, j, none⟩ u) := by
  intro k o hk ho
  rw [heap_setCell_other w ⟨p, j, none⟩ k u ?_]
  · exact hk
  · rintro rfl
    rw [hp] at hk
    cases hk
    rcases ho with ⟨es, c, q⟩ | ⟨c, fz, q⟩
    · cases q
    · cases q; exact ht rfl
end Go.Proofs.Ytmhplaanpbpndaa

namespace Go.Proofs.Ytmhplaanpbpndaa
open Go.ChangeShapes Go.WideShapes Go.ChangeAt Go.RowKit Go.Joins Go.Deep Go.Maps
set_option linter.unusedVariables false
set_option maxRecDepth 100000

/-- the cells of an element as it is handed in -/
def inC (x : Elm) : List Value := [.int .u8 (x.k : Int), .string x.n, .string x.a, .string x.b, .string x.c, .string x.d, .int .u64 (x.v : Int), .int .i64 x.ph]
structure Elm.bd (x : Elm) : Prop where
  k : x.k < 256
  v : x.v < 18446744073709551616
  plo : -9223372036854775808 ≤ x.ph
  phi : x.ph < 9223372036854775808
set_option maxHeartbeats 1000000 in
theorem el_cells {H : Type} {enc : TypeId × Value → H} {w : World} {base : Nat} {sp : Nat → Bool} {held : Bool} {m : Nat} {cs : List Value} {y : DataW H × List MemPlace}
    (hf : DataW.trod enc Try.prog w base sp held m 58 cs = some y) : ∃ x : Elm, cs = inC x ∧ y.1 = inD x ∧ x.bd := by
  obtain ⟨fs, hs, hsz8, hone, hty⟩ := fields8
  obtain ⟨xs, n, -, hx, hcl, hlen, hall⟩ := DataW.trod_struct hs hf
  obtain ⟨c0, c1, c2, c3, c4, c5, c6, c7, rfl⟩ := list8 (hcl.trans cells8)
  obtain ⟨y0, y1, y2, y3, y4, y5, y6, y7, rfl⟩ := list8 (hlen.trans hsz8)
  have key : ∀ (i : Nat) (t : TypeId) (c : Value) (y : DataW H × List MemPlace), (fs.toList.map (·.type))[i]? = some t → [c0, c1, c2, c3, c4, c5, c6, c7][i]? = some c → [y0, y1, y2, y3, y4, y5, y6, y7][i]? = some y → DataW.trod enc Try.prog w base sp held n t [c] = some y := by
    intro i t c y ht hc hy
    rw [List.getElem?_map, Option.map_eq_some_iff] at ht
    obtain ⟨f, hf1, rfl⟩ := ht
    have hf2 : fs[i]? = some f := by rw [← Array.getElem?_toList]; exact hf1
    obtain ⟨o, k⟩ := hone_of hone i f hf2
    have h1 := hall i f hf2
    rw [o, k, hy] at h1
    rw [← h1]
    congr 1
    have hd : ([c0, c1, c2, c3, c4, c5, c6, c7].drop i).take 1 = [c] := by
      rw [List.take_one, List.head?_drop, hc]; rfl
    simpa using hd.symm
  rw [hty] at key
  have h0 := key 0 _ _ _ rfl rfl rfl
  have h1 := key 1 _ _ _ rfl rfl rfl
  have h2 := key 2 _ _ _ rfl rfl rfl
  have h3 := key 3 _ _ _ rfl rfl rfl
  have h4 := key 4 _ _ _ rfl rfl rfl
  have h5 := key 5 _ _ _ rfl rfl rfl
  have h6 := key 6 _ _ _ rfl rfl rfl
  have h7 := key 7 _ _ _ rfl rfl rfl
  clear key hall
  obtain ⟨z0, e0, q0, w0⟩ := DataW.trod_int Try.underlying5 h0
  obtain ⟨s1, e1, q1, w1⟩ := DataW.trod_string Try.underlying9 h1
  obtain ⟨s2, e2, q2, w2⟩ := DataW.trod_string Try.underlying9 h2
  obtain ⟨s3, e3, q3, w3⟩ := DataW.trod_string Try.underlying9 h3
  obtain ⟨s4, e4, q4, w4⟩ := DataW.trod_string Try.underlying9 h4
  obtain ⟨s5, e5, q5, w5⟩ := DataW.trod_string Try.underlying9 h5
  obtain ⟨z6, e6, q6, w6⟩ := DataW.trod_int Try.underlying23 h6
  obtain ⟨z7, e7, q7, w7⟩ := DataW.trod_int Try.underlying3 h7
  simp only [List.cons.injEq, and_true] at e0 e1 e2 e3 e4 e5 e6 e7
  subst e0 e1 e2 e3 e4 e5 e6 e7
  obtain ⟨l0, u0⟩ := bounds_u8 w0
  obtain ⟨l6, u6⟩ := bounds_u64 w6
  obtain ⟨l7, u7⟩ := bounds_i64 w7
  obtain ⟨k, rfl⟩ := Int.eq_ofNat_of_zero_le l0
  obtain ⟨v, rfl⟩ := Int.eq_ofNat_of_zero_le l6
  refine ⟨⟨k, s1, s2, s3, s4, s5, v, z7⟩, rfl, ?_, ⟨by show k < _; omega, by show v < _; omega, by show _ ≤ z7; omega, by show z7 < _; omega⟩⟩
  rw [hx]
  show DataW.agg _ = _
  simp only [List.map_cons, List.map_nil]
  rw [q0, q1, q2, q3, q4, q5, q6, q7]
  rfl
instance : Inhabited Elm := ⟨⟨0, ⟨#[]⟩, ⟨#[]⟩, ⟨#[]⟩, ⟨#[]⟩, ⟨#[]⟩, 0, 0⟩⟩
/-- the list at A reads as the elements xs, as they are handed in -/
def Re (w : World) (A : Option Addr) (xs : List Elm) : Prop := ∀ (k : Nat) (x : Elm), xs[k]? = some x → ∃ b off, A = some ⟨b, off, none⟩ ∧ b < w.heap.size ∧ ∀ (i : Nat) (v : Value), (inC x)[i]? = some v → w.cell? ⟨b, off + k * 8 + i, none⟩ = some v
theorem els_open {H : Type} {enc : TypeId × Value → H} {w : World} {base fuel : Nat} {spare : Nat → Bool} {held : Bool} {cs : List Value} {x : DataW H × List MemPlace} (h : DataW.trod enc Try.prog w base spare held fuel 22 cs = some x) :
    ∃ (A : Option Addr) (n c : Nat) (xs : List Elm), cs = [.slice A n c] ∧ xs.length = n ∧ (∀ x ∈ xs, x.bd) ∧ Re w A xs ∧ (n = 0 ∨ ∃ sp, x.1 = .slice (xs.map inD) sp) := by
  rcases open_slice Try.underlying22 h with ⟨hc, _⟩ | ⟨a, len, cap, m, n, D, Pl, hc, _, hl, hm, hmm, hx, hall⟩
  · exact ⟨none, 0, 0, [], hc, rfl, fun x hx => by simp at hx, fun k x hk => by simp at hk, .inl rfl⟩
  · have hlm : len ≤ m := by rw [hmm]; split <;> omega
    rw [cells8] at hall
    have each : ∀ i, i < len → ∃ x : Elm, w.cells? base (a.add (i * 8)) 8 = some (inC x) ∧ D i = inD x ∧ x.bd := by
      intro i hi
      obtain ⟨cs', h1, h2⟩ := hall i (by omega)
      obtain ⟨x, rfl, hd, hb⟩ := el_cells h2
      exact ⟨x, h1, hd, hb⟩
    obtain ⟨F, hF⟩ := choose_lt each
    have hg : ∀ k x, ((List.range len).map F)[k]? = some x → k < len ∧ x = F k := fun k x hk => by
      rw [List.getElem?_map, Option.map_eq_some_iff] at hk
      obtain ⟨j, hj, rfl⟩ := hk
      have h1 := (List.getElem?_eq_some_iff.1 hj)
      have h2 : k < len := by have := h1.1; simpa using this
      have h3 : k = j := by have := h1.2; simpa using this
      exact ⟨h2, by rw [h3]⟩
    refine ⟨some a, len, cap, (List.range len).map F, hc, by simp, fun x hx => ?_, fun k x hk => ?_, .inr ⟨(List.range (m - len)).map fun j => D (len + j), by rw [hx, List.map_map, List.map_congr_left (fun i hi => (hF i (List.mem_range.1 hi)).2.1)]; rfl⟩⟩
    · obtain ⟨k, hk⟩ := List.mem_iff_getElem?.1 hx
      obtain ⟨h1, rfl⟩ := hg k x hk
      exact (hF k h1).2.2
    · obtain ⟨h1, rfl⟩ := hg k x hk
      have hcs := (hF k h1).1
      obtain ⟨_, _, hcell⟩ := World.cells?_some hcs
      obtain ⟨b, off, spot⟩ := a
      obtain ⟨_, _, hcell0⟩ := World.cells?_some (hF 0 (by omega)).1
      have hc0 := hcell0 0 (by omega)
      have hspot : spot = none := by
        have := World.cell?_spot (hc0.trans rfl)
        simpa [Addr.add] using this
      subst hspot
      have hcl : ∀ (i : Nat) (v : Value), (inC (F k))[i]? = some v → w.cell? ⟨b, off + k * 8 + i, none⟩ = some v := fun i v hi => by
        have hi8 : i < 8 := by have := (List.getElem?_eq_some_iff.1 hi).1; simpa [inC] using this
        have h2 := hcell i hi8
        rw [Go.WideShapes.add_plain, Go.WideShapes.add_plain] at h2
        rw [h2]; exact hi
      exact ⟨b, off, rfl, World.block_lt_of_cell? w _ (hcl 0 _ rfl), hcl⟩

theorem wts_all {H : Type} {P : Program} {e : TypeId} : ∀ {ds : List (DataW H)} {d : DataW H}, d ∈ ds → ∀ n ∈ d.weights P e, n ∈ DataW.weightsAll P e ds
  | d0 :: ds, d, hd, n, hn => by
    simp only [DataW.weightsAll, List.mem_append]
    rcases List.mem_cons.1 hd with rfl | h
    · exact .inl hn
    · exact .inr (wts_all h n hn)
theorem els_str {H : Type} {ts : List TypeId} {ds : List (DataW H)} (h : (DataW.weightsEach Try.prog ts ds).all (· ≤ reachBytes) = true) {j k : Nat} {xs : List Elm} {sp : List (DataW H)} (ht : ts[j]? = some 22) (hd : ds[j]? = some (.slice (xs.map inD) sp)) {x : Elm} (hx : x ∈ xs) {tf : TypeId} {s : ByteArray} {parts : List (DataW H)} (hp : (inD x : DataW H) = .agg parts)
    {fs : Array Field} (hs : Try.prog.underlying 58 = some (.struct fs)) (hf : (fs.toList.map (·.type))[k]? = some tf) (hk : parts[k]? = some (.lit (.string s.data.toList))) : s.size ≤ 140737488351232 := by
  have := List.all_eq_true.1 h _ (DataW.weights_mem_each ht hd s.data.toList.length (by
    simp only [DataW.weights, Try.underlying22]
    refine List.mem_cons_of_mem _ (List.mem_append_left _ (wts_all (List.mem_map.2 ⟨x, hx, rfl⟩) _ ?_))
    rw [hp]
    simp only [DataW.weights, hs]
    exact DataW.weights_mem_each hf hk _ (by simp [DataW.weights])))
  have h2 : s.data.toList.length ≤ reachBytes := by simpa using this
  have h3 : s.data.toList.length = s.size := by simp
  simp only [reachBytes] at h2
  omega
theorem els_sizes {H : Type} {ts : List TypeId} {ds : List (DataW H)} (h : (DataW.weightsEach Try.prog ts ds).all (· ≤ reachBytes) = true) {j : Nat} {xs : List Elm} {sp : List (DataW H)} (ht : ts[j]? = some 22) (hd : ds[j]? = some (.slice (xs.map inD) sp)) (hb : ∀ x ∈ xs, x.bd) : ∀ x ∈ xs, x.ok := by
  intro x hx
  obtain ⟨fs, hs, hsz8, hone, hty⟩ := fields8
  exact ⟨(hb x hx).k, els_str h (k := 1) ht hd hx rfl hs (by rw [hty]; rfl) rfl, els_str h (k := 2) ht hd hx rfl hs (by rw [hty]; rfl) rfl, els_str h (k := 3) ht hd hx rfl hs (by rw [hty]; rfl) rfl, els_str h (k := 4) ht hd hx rfl hs (by rw [hty]; rfl) rfl, els_str h (k := 5) ht hd hx rfl hs (by rw [hty]; rfl) rfl, (hb x hx).v⟩
theorem elm_w (x : Elm) (w : World) : Calls Try.prog 16 #[.agg #[.int .u8 (x.k : Int), .string x.n, .string x.a, .string x.b, .string x.c, .string x.d, .int .u64 (x.v : Int), .int .i64 x.ph]] w fun e w' => e = .returned (.agg #[.int .u8 (x.k : Int), .string x.n, .string x.a, .string x.b, .string x.c, .string x.d, .float .f64 x.v, .int .i64 x.ph]) ∧ Below w.heap.size w w' := element_any x w
set_option maxHeartbeats 4000000 in
theorem elementsOf_any (w : World) (A : Option Addr) (c n : Nat) (xs : List Elm) (hl : xs.length = n) (hsz : n * 104 ≤ 140737488351232) (hR : Re w A xs) : Calls Try.prog 4 #[.slice A n c] w fun e w' => ∃ v, e = .returned v ∧ w'.ownsRow w.heap.size 55 8 v n (elCs xs) ∧ Below w.heap.size w w' := by
  obtain ⟨L, hL⟩ : ∃ L, w.heap.size = L := ⟨_, rfl⟩
  obtain ⟨i0, hi0, hz0, hz1, hz2⟩ := info_parts Try.infoE
  have HR : Hid (Re w A xs) := hR
  have HL : Hid (xs.length = n) := hl
  clear hR hl
  go_enter Try.func4, Try.ntmps4
  go_wp2_with fail
  go_loopw [4, 3] (fun iv ov wr => ∃ (k : Nat), k ≤ n ∧ iv = .int .i64 k ∧ Hid (wr.ownsRow L 55 8 ov k (elCs (xs.take k)) ∧ Below L w wr)) (fun iv _ _ => n - (intOf iv).toNat)
  case atStart => exact ⟨0, Nat.zero_le _, rfl, World.ownsRow_nil _ _ _ _, Below.refl _ _⟩
  case round =>
    obtain ⟨k, hle, rfl, HI⟩ := hrel
    obtain ⟨Ao, co, hov⟩ := row_slice HI.out.1
    subst hov
    by_cases hp4 : k < n
    · have hpk : (k : Int) < (n : Int) := by omega
      obtain ⟨x, hx⟩ : ∃ x, xs[k]? = some x := ⟨_, List.getElem?_eq_getElem (by have := HL.out; omega)⟩
      obtain ⟨b, off, hA, hb, hc⟩ := HR.out k x hx
      subst hA
      have hcw : ∀ (i : Nat) (v : Value), (inC x)[i]? = some v → wr.cell? ⟨b, off + k * 8 + i, none⟩ = some v := fun i v hi => (HI.out.2.cell (p := ⟨b, off + k * 8 + i, none⟩) (by simp only; omega)).trans (hc i v hi)
      have c0 := hcw 0 _ rfl
      have c1 := hcw 1 _ rfl
      have c2 := hcw 2 _ rfl
      have c3 := hcw 3 _ rfl
      have c4 := hcw 4 _ rfl
      have c5 := hcw 5 _ rfl
      have c6 := hcw 6 _ rfl
      have c7 := hcw 7 _ rfl
      rw [Nat.add_zero] at c0
      have hcall := elm_w x wr
      have HT : Hid (elCs (xs.take (k + 1)) = elCs (xs.take k) ++ elC x) := by
        show elCs (xs.take (k + 1)) = _
        rw [List.take_add_one, hx]
        exact elCs_snoc _ _
      clear hc hcw hx
      go_wp2_with fail
      refine hcall.mono ?_
      rintro e1 w1 ⟨rfl, b1⟩
      have r1 : w1.ownsRow L 55 8 (.slice Ao k co) k (elCs (xs.take k)) := row_block HI.out.1 fun g hg => b1.block g (row_ge HI.out.1 hg).2
      have hLw : L ≤ wr.heap.size := by have := HI.out.2.size; omega
      have hL1 : L ≤ w1.heap.size := Nat.le_trans hLw b1.size
      have HB1 : Hid (Below L w w1) := HI.out.2.trans (b1.mono hLw)
      clear hcall b1 HI c0 c1 c2 c3 c4 c5 c6 c7
      go_wp2_with (at_builtin; refine wpList_append_lies _ (by rfl) _ _ 24 (by rfl) L 55 i0 _ 8 104 Try.underlying24 hi0 hz0 hz1 hz2 (by rfl) (by decide) _ _ _ (by rfl) (r1.alloc _) ⟨w1.heap.size, 0, none⟩ 1 1 (elC x) (by rfl) (by rfl) (World.news_of_block (fr := (0, 0)) (t := 55) (cs := (elC x).toArray) (heap_alloc_new _ _)) (fun u hu => by simp [elC] at hu; rcases hu with rfl | rfl | rfl | rfl | rfl | rfl | rfl | rfl <;> rfl) (by decide) (by unfold maxLen; omega) (by omega) (by simp; omega) _ rfl ?_; intro g4 cp4 w4 hown4 hgrow4 hat4 hlt4)
      go_roundw
      case rel => exact ⟨k + 1, by omega, by go_num, by rw [HT.out]; exact hown4, (HB1.out.alloc hL1 _).trans ⟨hgrow4.os, hgrow4.tape, hgrow4.output, hgrow4.size, fun j hj => hgrow4.block j (by simp; omega) (fun e => by have := (row_ge r1 e.symm).1; omega)⟩⟩
      case measure => simp [intOf]; omega
    · have hkn : k = n := by omega
      subst hkn
      have hkk : ¬ ((k : Int) < (k : Int)) := by omega
      go_wp2_with fail
      go_ret
      refine ⟨_, rfl, ?_, ?_⟩
      · have := HI.out.1
        rw [← HL.out, List.take_length] at this
        rw [← HL.out]
        exact this
      · exact HI.out.2

end Go.Proofs.Ytmhplaanpbpndaa

namespace Go.Proofs.Ytmhplaanpbpndaa
set_option linter.unusedVariables false

theorem addU_self (xs : List (List UInt8)) (s : List UInt8) : s ∈ addU xs s := by unfold addU; split; assumption; simp
theorem addU_sub {xs : List (List UInt8)} {s x : List UInt8} (h : x ∈ xs) : x ∈ addU xs s := by unfold addU; split; exact h; exact List.mem_append_left _ h
theorem addU_mem {xs : List (List UInt8)} {s x : List UInt8} (h : x ∈ addU xs s) : x ∈ xs ∨ x = s := by
  unfold addU at h
  split at h
  · exact .inl h
  · rcases List.mem_append.1 h with q | q
    · exact .inl q
    · exact .inr (by simpa using q)
theorem addU_nodup {xs : List (List UInt8)} {s : List UInt8} (h : xs.Nodup) : (addU xs s).Nodup := by
  unfold addU
  split
  · exact h
  · rename_i hs
    rw [List.nodup_append]
    refine ⟨h, by simp, fun a ha b hb e => ?_⟩
    simp at hb
    rw [e, hb] at ha
    exact hs ha
/-- what is known of the nodes of a net -/
structure Nw (xs : List (List UInt8)) : Prop where
  u : xs.Nodup
  g : [48] ∉ xs
  s : ∀ s ∈ xs, s.length ≤ 100000
theorem Nw.nil : Nw [] := ⟨List.nodup_nil, by simp, by simp⟩
theorem ndO_sub {xs : List (List UInt8)} {s : ByteArray} {x : List UInt8} (h : x ∈ xs) : x ∈ ndO xs s := by unfold ndO; split; exact addU_sub h; exact h
theorem isN_iff {s : ByteArray} : isN s = true ↔ bl s ≠ [] ∧ bl s ≠ [48] := by
  unfold isN
  rw [Bool.and_eq_true, Bool.not_eq_true', Bool.not_eq_true', beq_eq_false_iff_ne, beq_eq_false_iff_ne]
theorem ndO_in {xs : List (List UInt8)} {s : ByteArray} (h : bl s ≠ []) : bl s ∈ [48] :: ndO xs s := by
  by_cases h2 : bl s = [48]
  · rw [h2]; exact List.mem_cons_self
  · refine List.mem_cons_of_mem _ ?_
    unfold ndO
    rw [if_pos (isN_iff.2 ⟨h, h2⟩)]
    exact addU_self _ _
theorem Nw.ndO {xs : List (List UInt8)} {s : ByteArray} (h : Nw xs) (hs : s.size ≤ 100000) : Nw (ndO xs s) := by
  unfold Go.Proofs.Ytmhplaanpbpndaa.ndO
  split
  · rename_i hn
    have hn2 := isN_iff.1 hn
    refine ⟨addU_nodup h.u, fun q => ?_, fun t ht => ?_⟩
    · rcases addU_mem q with q | q
      · exact h.g q
      · exact hn2.2 q.symm
    · rcases addU_mem ht with q | q
      · exact h.s t q
      · rw [q]; exact hs
  · exact h
theorem cons_sub {xs ys : List (List UInt8)} (h : ∀ x, x ∈ xs → x ∈ ys) {s : List UInt8} (hs : s ∈ [48] :: xs) : s ∈ [48] :: ys := by
  rcases List.mem_cons.1 hs with q | q
  · rw [q]; exact List.mem_cons_self
  · exact List.mem_cons_of_mem _ (h s q)
theorem ndE_sub {xs : List (List UInt8)} {x : Elm} {s : List UInt8} (h : s ∈ xs) : s ∈ ndE xs x := ndO_sub (ndO_sub (ndO_sub (ndO_sub h)))
/-- what Check says of an element that may be -/
structure Cks (x : Elm) : Prop where
  sh : x.n.size ≤ 16 ∧ 2 ≤ x.n.size ∧ x.a.size ≤ 16 ∧ x.b.size ≤ 16 ∧ x.c.size ≤ 16 ∧ x.d.size ≤ 16
  na : naF x = true
  ab : bl x.a ≠ bl x.b
  lt : ltr x.k ≠ 0
  a : bl x.a ≠ []
  b : bl x.b ≠ []
theorem ne_bl {s : ByteArray} (h : 0 < s.size) : bl s ≠ [] := fun q => by
  have : (bl s).length = 0 := by rw [q]; rfl
  rw [bl_len] at this; omega
theorem nd_pos {s : ByteArray} (h : ndF s = true) : 0 < s.size := by
  unfold ndF at h
  simp at h
  exact h.1.1
theorem chk_all {x : Elm} (h0 : chkI x = 0) : Cks x := by
  have hsh := chk_short h0
  have h := h0
  unfold chkI at h
  by_cases h1 : ltr x.k = 0
  · rw [if_pos h1] at h; cases h
  rw [if_neg h1] at h
  by_cases h2 : naF x = false
  · rw [if_pos h2] at h; cases h
  rw [if_neg h2] at h
  by_cases h3 : (x.a.toList == x.b.toList) = true ∨ spF x = false
  · rw [if_pos h3] at h; cases h
  have h2' : naF x = true := by simpa using h2
  have h4 := h2'
  unfold naF at h4
  simp only [Bool.and_eq_true] at h4
  refine ⟨hsh, h2', fun q => h3 (.inl ?_), h1, ne_bl (nd_pos h4.1.1.2), ne_bl (nd_pos h4.1.2)⟩
  rw [ByteArray.toList_eq, ByteArray.toList_eq]
  exact beq_iff_eq.2 q
/-- what is known of a net that is being made -/
structure Nv (N : Ns) : Prop where
  nw : Nw N.nd
  el : ∀ x ∈ N.es, bl x.a ∈ [48] :: N.nd ∧ bl x.b ∈ [48] :: N.nd ∧ Cks x
  nm : N.nm = N.es.map fun x => bl x.n
  nu : N.nm.Nodup
theorem Nv.nil : Nv Ns.nil := ⟨Nw.nil, (fun x hx => by cases hx), rfl, List.nodup_nil⟩
theorem Nv.lay {N : Ns} {x : Elm} (h : Nv N) (hc : chkI x = 0) (hn : bl x.n ∉ N.nm) : Nv (N.lay x) := by
  have ck := chk_all hc
  obtain ⟨s1, s2, s3, s4, s5, s6⟩ := ck.sh
  have hA : bl x.a ∈ [48] :: ndE N.nd x := cons_sub (fun y hy => ndO_sub (ndO_sub (ndO_sub hy))) (ndO_in ck.a)
  have hB : bl x.b ∈ [48] :: ndE N.nd x := cons_sub (fun y hy => ndO_sub (ndO_sub hy)) (ndO_in ck.b)
  have hnm : addU N.nm (bl x.n) = N.nm ++ [bl x.n] := if_neg hn
  refine ⟨((((h.nw.ndO (s := x.a) (by omega)).ndO (s := x.b) (by omega)).ndO (s := x.c) (by omega)).ndO (s := x.d) (by omega)), fun y hy => ?_, ?_, addU_nodup h.nu⟩
  · rcases List.mem_append.1 hy with q | q
    · obtain ⟨h1, h2, h3⟩ := h.el y q
      exact ⟨cons_sub (fun z hz => ndE_sub hz) h1, cons_sub (fun z hz => ndE_sub hz) h2, h3⟩
    · simp at q; rw [q]; exact ⟨hA, hB, ck⟩
  · show addU N.nm (bl x.n) = (N.es ++ [x]).map _
    rw [hnm, h.nm]; simp
theorem ofR_facts : ∀ (l : List Elm) (N N' : Ns) (i : Nat), Nv N → ofR N i l = ((0, 0), N') → Nv N' ∧ N'.es = N.es ++ l ∧ N'.nd.length ≤ 32 := by
  intro l
  induction l with
  | nil =>
    intro N N' i h ho
    unfold ofR at ho
    split at ho
    · simp at ho
    · rename_i hb
      have : N = N' := by simpa using ho
      subst this
      exact ⟨h, by simp, by omega⟩
  | cons x t ih =>
    intro N N' i h ho
    by_cases hc : chkI x = 0
    · by_cases hn : bl x.n ∈ N.nm
      · rw [ofR_there hc hn] at ho
        simp at ho
      · rw [ofR_go hc hn] at ho
        obtain ⟨h1, h2, h3⟩ := ih (N.lay x) N' (i + 1) (h.lay hc hn) ho
        exact ⟨h1, by rw [h2]; show (N.es ++ [x]) ++ t = _; simp, h3⟩
    · rw [ofR_bad hc] at ho
      simp at ho
      exact absurd ho.1.1 hc
theorem ofA_facts {l : List Elm} {N : Ns} (h : ofA l = ((0, 0), N)) : Nv N ∧ N.es = l ∧ N.nd.length ≤ 32 ∧ l.length ≤ 256 := by
  unfold ofA at h
  split at h
  · simp at h
  · rename_i hl
    obtain ⟨h1, h2, h3⟩ := ofR_facts l Ns.nil N 0 Nv.nil h
    exact ⟨h1, by rw [h2]; rfl, h3, by omega⟩
/-- the other way: what is known of a list makes a net of it -/
theorem Nv.nm_ne {N : Ns} (h : Nv N) : [] ∉ N.nm := by
  rw [h.nm]
  intro q
  obtain ⟨x, hx, he⟩ := List.mem_map.1 q
  have := (h.el x hx).2.2.sh.2.1
  have h2 : (bl x.n).length = 0 := by rw [he]; rfl
  rw [bl_len] at h2; omega
end Go.Proofs.Ytmhplaanpbpndaa
