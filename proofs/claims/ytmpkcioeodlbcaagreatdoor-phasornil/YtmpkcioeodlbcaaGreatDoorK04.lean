/-
  Several texts in one: Nmb Nmc Nmd Nme Nmf.
-/
import Derived.Test.YtmpkcioeodlbcaaGreatDoorK03
import Derived.Test.YtmpkcioeodlbcaaGreatDoorChecked
import Derived.Maps.OwnSet
import Derived.Maps.Own
import Derived.WalkKit
import Derived.OwnWalk
import Derived.Deep.RegionHeldLaw
import Derived.Deep.AppendLies
import Derived.Handy
import Derived.Laws.Cover3
namespace Go.Proofs.YtmpkcioeodlbcaaGreatDoor
open Go.Maps Go.RowKit
theorem lawS : Keyed Tryz.prog 9 := string_keyed Tryz.underlying9
theorem zeroI (w : World) : (zeroValue 3).run Tryz.prog w = .ok (.int .i64 0) w := by kernel_rfl
theorem key_s (l : List UInt8) (h : l.length ≤ 100000) : keyOf Tryz.prog 9 (.string ⟨l.toArray⟩) = some (kyS l) := by
  have := Go.WideMaps.keyOf_string_mk (P := Tryz.prog) (s := ⟨l.toArray⟩) Tryz.underlying9 (by unfold maxLen; simp [ByteArray.size]; omega)
  simpa using this
/-- the map of a row of names, in the block B -/
def Mp (w : World) (B : Nat) (xs : List (List UInt8)) : Prop := ∃ D : DataW Unit, w.ownsMap Tryz.prog 9 (plainElem Tryz.prog 3) B xs.length D ∧ MdOk D xs
theorem nplace_any (w : World) (p f B : Nat) (xs : List (List UInt8)) (l : List UInt8) (hl : l.length ≤ 100000) (hc : w.cell? ⟨p, f + 1, none⟩ = some (.map (some B))) (hm : Mp w B xs) :
    Calls Tryz.prog 82 #[.pointer (some ⟨p, f, none⟩), .string ⟨l.toArray⟩] w fun e w' => e = .returned (.tuple #[.int .i64 (posL xs l), .bool (decide (l ∈ xs))]) ∧ w' = w := by
  obtain ⟨D, hown, hD⟩ := hm
  have hkey := key_s l hl
  go_enter Tryz.func82, Tryz.ntmps82
  go_wp2_with (at_lookup; refine wpList_lookup_own_ok_int _ rfl _ _ 62 rfl 9 3 .i64 lawS Tryz.underlying62 Tryz.underlying3 (zeroI _) B xs.length D rfl hown _ _ rfl hkey ?_; intro c hat hwc)
  go_ret2
  rw [hD.ak l] at hat
  obtain rfl : ((posL xs l : Nat) : Int) = c := (Lit.int.inj (DataW.lit.inj hat)).2
  refine ⟨?_, rfl⟩
  show Ending.returned (.tuple #[.int .i64 ((posL xs l : Nat) : Int), .bool (has D (kyS l))]) = _
  rw [hD.hs l]

abbrev sv (l : List UInt8) : Value := .string ⟨l.toArray⟩
/-- a row of names in a struct: its list, its map -/
structure Rn (w : World) (base p f : Nat) (v : Value) (B : Nat) (xs : List (List UInt8)) : Prop where
  c0 : w.cell? ⟨p, f, none⟩ = some v
  c1 : w.cell? ⟨p, f + 1, none⟩ = some (.map (some B))
  fz : w.frozen? ⟨p, f, none⟩ = false
  row : w.ownsRow base 9 1 v xs.length (xs.map sv)
  mp : Mp w B xs
theorem map_ne {w : World} {B n : Nat} {D : DataW Unit} {R : Value → Option (DataW Unit × List MemPlace)} {k : TypeId} (h : w.ownsMap Tryz.prog k R B n D) {p f : Nat} {u : Value} (hc : w.cell? ⟨p, f, none⟩ = some u) : p ≠ B := by
  rintro rfl
  obtain ⟨es, clock, hb, _⟩ := h
  unfold World.cell? at hc
  simp [hb] at hc
theorem row_neB {w : World} {B n m base : Nat} {D : DataW Unit} {R : Value → Option (DataW Unit × List MemPlace)} {k e : TypeId} {v : Value} {xs : List Value} (h : w.ownsMap Tryz.prog k R B n D) (hr : w.ownsRow base e 1 v m xs) : v.ownBlock ≠ some B := by
  intro hv
  obtain ⟨es, clock, hb, _⟩ := h
  obtain ⟨_, ⟨rfl, _⟩ | ⟨g, cap, cur, rfl, _, h4, _⟩⟩ := hr
  · cases hv
  · simp [Value.ownBlock] at hv
    subst hv
    rw [hb] at h4; cases h4
theorem Tryz.infoS : (Tryz.prog.info? 9).map (fun i => (i.zero, i.size, i.bytes)) = some (some (.string ByteArray.empty), 1, 16) := by kernel_rfl
/-- what add may have turned: the struct's own cell, the map, the list's own row -/
structure Ad (w w' : World) (p f B : Nat) (v : Value) : Prop where
  os : w'.os = w.os
  tape : w'.tape = w.tape
  output : w'.output = w.output
  sz : w.heap.size ≤ w'.heap.size
  fr : ∀ k, k < w.heap.size → k ≠ p → k ≠ B → v.ownBlock ≠ some k → w'.heap[k]? = w.heap[k]?
  cl : ∀ j, j ≠ f → w'.cell? ⟨p, j, none⟩ = w.cell? ⟨p, j, none⟩
  fz : ∀ j, w'.frozen? ⟨p, j, none⟩ = w.frozen? ⟨p, j, none⟩
theorem grown_setN {w : World} {p f : Nat} {u : Value} : w.grownBy (w.setCell ⟨p, f, none⟩ u) (some p) :=
  ⟨rfl, rfl, rfl, by simp [World.setCell], fun i _ hne => heap_setCell_other w ⟨p, f, none⟩ i u (fun e => hne (by simp [e]))⟩
theorem add_old (w : World) (base p f B : Nat) (v : Value) (xs : List (List UInt8)) (l : List UInt8) (hl : l.length ≤ 100000) (h : Rn w base p f v B xs) (hm : l ∈ xs) :
    Calls Tryz.prog 112 #[.pointer (some ⟨p, f, none⟩), sv l] w fun e w' => e = .returned (.tuple #[]) ∧ w' = w := by
  obtain ⟨D, hown, hD⟩ := h.mp
  have hkey := key_s l hl
  have hc := h.c1
  have hh : has D (kyS l) = true := by rw [hD.hs l]; exact decide_eq_true hm
  go_enter Tryz.func112, Tryz.ntmps112
  go_wp2_with (at_lookup; refine wpList_lookup_own_ok_int _ rfl _ _ 62 rfl 9 3 .i64 lawS Tryz.underlying62 Tryz.underlying3 (zeroI _) B xs.length D rfl hown _ _ rfl hkey ?_; intro c hat hwc)
  (try simp only [Exit.inBlock, Exit.then])
  refine bodyPost_ret (results_none rfl _ _ _) rfl ?_
  exact ⟨rfl, rfl⟩
theorem add_new (w : World) (base p f B : Nat) (v : Value) (xs : List (List UInt8)) (l : List UInt8) (hl : l.length ≤ 100000) (hx : xs.length ≤ 100000) (h : Rn w base p f v B xs) (hm : l ∉ xs) (hbp : ∀ g, v.ownBlock = some g → g ≠ p) (hb : base ≤ w.heap.size) :
    Calls Tryz.prog 112 #[.pointer (some ⟨p, f, none⟩), sv l] w fun e w' => e = .returned (.tuple #[]) ∧ ∃ v', Rn w' base p f v' B (xs ++ [l]) ∧ Ad w w' p f B v ∧ ∀ g, v'.ownBlock = some g → v.ownBlock = some g ∨ w.heap.size ≤ g := by
  obtain ⟨D, hown, hD⟩ := h.mp
  have hkey := key_s l hl
  have hc0 := h.c0
  have hc1 := h.c1
  have hh : has D (kyS l) = false := by rw [hD.hs l]; exact decide_eq_false hm
  obtain ⟨A, cap, rfl⟩ : ∃ A cap, v = .slice A xs.length cap := by
    obtain ⟨_, ⟨h1, h2⟩ | ⟨g, cap, cur, h1, _⟩⟩ := h.row
    · exact ⟨none, 0, by rw [h1, h2]⟩
    · exact ⟨_, _, h1⟩
  obtain ⟨w2, hrun, own2, grow2⟩ := hown.drew.update lawS Tryz.underlying62 (by unfold maxLen; omega) hkey (plainElem_int (H := Unit) Tryz.underlying3 (a := (xs.length : Int)) (WalkArith.wf_i64 (by omega)))
  go_enter Tryz.func112, Tryz.ntmps112
  go_wp2_with (at_lookup; refine wpList_lookup_own_ok_int _ rfl _ _ 62 rfl 9 3 .i64 lawS Tryz.underlying62 Tryz.underlying3 (zeroI _) B xs.length D rfl hown _ _ rfl hkey ?_; intro c hat hwc)
  have hpB : p ≠ B := map_ne hown hc0
  have k0 : w2.cell? ⟨p, f, none⟩ = some (.slice A xs.length cap) := grow2.cell hc0 (by simpa using hpB)
  have k1 : w2.cell? ⟨p, f + 1, none⟩ = some (.map (some B)) := grow2.cell hc1 (by simpa using hpB)
  have hrB := row_neB hown h.row
  have row2 := h.row.kept (w' := w2) ⟨grow2.os, grow2.tape, grow2.output, grow2.size, grow2.block⟩ (Or.inr hrB)
  have hp2 : p < w.heap.size := World.block_lt_of_cell? w ⟨p, f, none⟩ hc0
  have kf : w2.frozen? ⟨p, f, none⟩ = false := (grow2.frozen_far ⟨p, f, none⟩ hp2 (by simpa using hpB)).trans h.fz
  have hb2 : base ≤ w2.heap.size := Nat.le_trans hb grow2.size
  obtain ⟨i0, hi0, hz0, hz1, hz2⟩ := info_parts Tryz.infoS
  go_region_held_law (fun W => W.cell? ⟨p, f, none⟩ = some (.slice A xs.length cap) ∧ W.cell? ⟨p, f + 1, none⟩ = some (.map (some B))) (first | exact ⟨k0, k1⟩ | go_keep) (fail)
  go_wp2_with (at_builtin; refine wpList_append_lies _ (by rfl) _ _ 61 (by rfl) base 9 i0 (.string ByteArray.empty) 1 16 Tryz.underlying61 hi0 hz0 hz1 hz2 (by rfl) (by decide) _ _ _ (by rfl) (row2.alloc _) ⟨w2.heap.size, 0, none⟩ 1 1 [sv l] (by rfl) (by rfl) ?c1 ?c2 (by decide) ?c3 ?c4 ?c5 _ rfl ?next)
  case c1 => exact World.news_of_block (fr := (0, 0)) (t := 9) (cs := #[sv l]) (heap_alloc_new _ _)
  case c2 => intro u hu; simp at hu; subst hu; rfl
  case c3 => unfold maxLen; omega
  case c4 => omega
  case c5 => simp; omega
  case next =>
    intro g2 cap2 w4 hown4 hgrow hat4 hlt4
    have hp3 : p < (w2.alloc (.cells #[sv l] 9)).heap.size := by have := grow2.size; simp; simp at this; omega
    have hvp : some p ≠ (Value.slice A xs.length cap).ownBlock := fun e => hbp p e.symm rfl
    have k4 : w4.cell? ⟨p, f, none⟩ = some (.slice A xs.length cap) := hgrow.cell (by rw [World.cell?_alloc_lt _ _ _ (World.block_lt_of_cell? w2 _ k0)]; exact k0) hvp
    have kf4 : w4.frozen? ⟨p, f, none⟩ = false := by
      rw [hgrow.frozen_far ⟨p, f, none⟩ hp3 hvp, World.frozen?_alloc_old (h := Nat.ne_of_lt (World.block_lt_of_cell? w2 _ k0))]; exact kf
    go_wp2_with fail
    go_end0
    have hs2 : w.heap.size ≤ w2.heap.size := grow2.size
    have hs4 : w2.heap.size + 1 ≤ w4.heap.size := by have := hgrow.size; simpa using this
    have gp : g2 ≠ p := by
      rcases hat4 with h1 | h1
      · exact hbp g2 h1
      · omega
    have G := grown_setN (w := w4) (p := p) (f := f) (u := .slice (some ⟨g2, 0, none⟩) (xs.length + 1) cap2)
    have q1 : w4.cell? ⟨p, f + 1, none⟩ = some (.map (some B)) := hgrow.cell (by rw [World.cell?_alloc_lt _ _ _ (World.block_lt_of_cell? w2 _ k1)]; exact k1) hvp
    have ob2 := ((own2.alloc (.cells #[sv l] 9)).kept hgrow (Ne.symm hrB)).kept G (by simpa using Ne.symm hpB)
    refine ⟨rfl, .slice (some ⟨g2, 0, none⟩) (xs.length + 1) cap2, ⟨World.cell?_setCell_same _ _ _ k4, ?_, ?_, ?_, ⟨_, ?_, hD.push hm⟩⟩, ⟨?_, ?_, ?_, ?_, fun k hk hkp hkB hkv => ?_, fun j hj => ?_, fun j => ?_⟩, fun g hg => ?_⟩
    · rw [World.cell?_setCell_other _ _ _ _ (by simp)]; exact q1
    · simp [kf4]
    · have := hown4.kept G (Or.inr (by simpa [Value.ownBlock] using gp))
      simpa using this
    · simpa using ob2
    · exact G.os.trans (hgrow.os.trans grow2.os)
    · exact G.tape.trans (hgrow.tape.trans grow2.tape)
    · exact G.output.trans (hgrow.output.trans grow2.output)
    · have := G.size; omega
    · rw [G.block k (by omega) (by simpa using hkp), hgrow.block k (by simp; omega) (fun e => hkv e.symm), Below.heap_alloc w2 _ k (by omega), grow2.block k hk (by simpa using hkB)]; rfl
    · rw [World.cell?_setCell_other _ _ _ _ (by intro e; cases e; exact hj rfl), hgrow.cell_far ⟨p, j, none⟩ hp3 hvp, World.cell?_alloc_lt w2 _ ⟨p, j, none⟩ (World.block_lt_of_cell? w2 ⟨p, f, none⟩ k0)]
      exact grow2.cell_far ⟨p, j, none⟩ hp2 (by simpa using hpB)
    · have hne : (⟨p, j, none⟩ : Addr).block ≠ w2.heap.size := Nat.ne_of_lt (World.block_lt_of_cell? w2 ⟨p, f, none⟩ k0)
      rw [show (w4.setCell ⟨p, f, none⟩ (.slice (some ⟨g2, 0, none⟩) (xs.length + 1) cap2)).frozen? ⟨p, j, none⟩ = w4.frozen? ⟨p, j, none⟩ by simp, hgrow.frozen_far ⟨p, j, none⟩ hp3 hvp, World.frozen?_alloc_old (h := hne)]
      exact grow2.frozen_far ⟨p, j, none⟩ hp2 (by simpa using hpB)
    · have e : g2 = g := by simpa [Value.ownBlock] using hg
      subst e
      rcases hat4 with h1 | h1
      · exact .inl h1
      · exact .inr (by omega)

end Go.Proofs.YtmpkcioeodlbcaaGreatDoor
namespace Go.Proofs.YtmpkcioeodlbcaaGreatDoor
open Go.Maps Go.RowKit
set_option maxRecDepth 100000
@[go_sem] theorem run_store_fltN {P : Program} (w : World) (a : Addr) (m : Mode) (k : FloatKind) (b : Nat) : (store a (.float k b) m).run P w = stored P w a (.float k b) m := run_store P w a _ m rfl
/-- no net: nil, or a struct without a map -/
def NoNet (P : Value) (w : World) : Prop := P = .pointer none ∨ ∃ p, P = .pointer (some ⟨p, 0, none⟩) ∧ w.cell? ⟨p, 2, none⟩ = some (.map none)
theorem NoNet.below {P : Value} {w w' : World} (h : NoNet P w) (hb : Below w.heap.size w w') : NoNet P w' := by
  rcases h with h | ⟨p, h1, h2⟩
  · exact .inl h
  · exact .inr ⟨p, h1, (hb.cell (World.block_lt_of_cell? w _ h2)).trans h2⟩
theorem NoNet.al {P : Value} {w : World} (h : NoNet P w) (o : Obj) : NoNet P (w.alloc o) := h.below ((Below.refl _ w).alloc (Nat.le_refl _) o)
theorem neq_mapN (m : Option Nat) (W : World) : (binOp .neq 62 (.map m) (.map none)).run Tryz.prog W = .ok (.bool (!m.isNone)) W := run_neq_map_nil W 62 9 3 m Tryz.underlying62
theorem made_none {P : Value} {w : World} (h : NoNet P w) : Calls Tryz.prog 66 #[P] w fun e w' => e = .returned (.bool false) ∧ w' = w := by
  have hmn := neq_mapN none
  rcases h with rfl | ⟨p, rfl, hc⟩
  · go_enter Tryz.func66, Tryz.ntmps66
    go_wp2_with fail
    go_ret
    exact ⟨rfl, rfl⟩
  · go_enter Tryz.func66, Tryz.ntmps66
    go_wp2_with fail
    go_ret
    exact ⟨rfl, rfl⟩
theorem made_yes {w : World} {p B : Nat} (hc : w.cell? ⟨p, 2, none⟩ = some (.map (some B))) : Calls Tryz.prog 66 #[.pointer (some ⟨p, 0, none⟩)] w fun e w' => e = .returned (.bool true) ∧ w' = w := by
  have hmn := neq_mapN (some B)
  go_enter Tryz.func66, Tryz.ntmps66
  go_wp2_with fail
  go_ret
  exact ⟨rfl, rfl⟩
theorem nwithout_none {P : Value} {w : World} (h : NoNet P w) (s : ByteArray) : Calls Tryz.prog 92 #[P, .string s] w fun e w' => e = .returned (.tuple #[.pointer none, .int .i64 1]) ∧ w' = w := by
  go_enter Tryz.func92, Tryz.ntmps92
  go_wp2_with (go_at_call 66; (with_reducible refine (made_none h).mono ?_); rintro e1 w1 ⟨rfl, rfl⟩)
  go_ret2
  exact ⟨rfl, rfl⟩
end Go.Proofs.YtmpkcioeodlbcaaGreatDoor
namespace Go.Proofs.YtmpkcioeodlbcaaGreatDoor
open Go.Maps Go.RowKit
set_option maxRecDepth 100000
theorem newRow_any (w : World) : Calls Tryz.prog 80 #[] w fun e w' => ∃ B, e = .returned (.agg #[.slice none 0 0, .map (some B)]) ∧ Mp w' B [] ∧ Below w.heap.size w w' ∧ w.heap.size ≤ B ∧ B < w'.heap.size := by
  have hmm := @run_makeMap Tryz.prog
  go_enter Tryz.func80, Tryz.ntmps80
  go_wp2_with fail
  (try simp only [Exit.inBlock, Exit.then])
  refine bodyPost_ret (by simp [results, Tryz.results80, go_sem]; try rfl) rfl ?_
  have h := World.ownsMap_made (H := Unit) (w.alloc (.cells #[.slice none 0 0, .map (some (w.heap.size + 1))] 64)) Tryz.prog 9 (plainElem Tryz.prog 3)
  rw [show (w.alloc (.cells #[.slice none 0 0, .map (some (w.heap.size + 1))] 64)).heap.size = w.heap.size + 1 by simp] at h
  exact ⟨w.heap.size + 1, rfl, ⟨_, h, MdOk.empty⟩, ((Below.refl _ w).alloc (Nat.le_refl _) _).alloc (by simp) _, by omega, by simp⟩

end Go.Proofs.YtmpkcioeodlbcaaGreatDoor
namespace Go.Proofs.YtmpkcioeodlbcaaGreatDoor
open Go.Maps Go.RowKit
set_option maxRecDepth 100000
@[go_sem] theorem run_store_fnN {P : Program} (w : World) (a : Addr) (m : Mode) (f : Fn) (x y : Array Value) : (store a (.func f x y) m).run P w = stored P w a (.func f x y) m := run_store P w a _ m rfl
/-- an entry of a map that is written out, at the operation -/
theorem wpList_insert_own {H : Type} {P : Program} (w : World) {ops : Array Oper} {rest : List Oper} {o : Oper} {a : Act} {Q : Exit → Act → World → Prop}
    (hg : o.guard = none) (m x v : Operand) (t : TypeId) (hop : o.op = Op.insert t m x v)
    (k e : TypeId) (K : Keyed P k) (ht : P.underlying t = some (.map k e)) (R : Value → Option (DataW H × List MemPlace)) (b n : Nat) (D : DataW H)
    (hm : a.eval m = .map (some b)) (hown : w.ownsMap P k R b n D) (hn : n < maxLen) (key val : Value) (kl : Lit) (hx : a.eval x = key) (hv : a.eval v = val) (hkey : keyOf P k key = some kl)
    (d : DataW H) (ps : List MemPlace) (hval : R val = some (d, ps))
    (hK : ∀ w', w'.ownsMap P k R b (n + 1) (D.put kl d) → w.grownBy w' (some b) → wpList P ops Q rest (a.put o.dst undef) w') :
    wpList P ops Q (o :: rest) a w := by
  refine wpList_plain hg fun K' hK' => ?_
  obtain ⟨w', hrun, r1, r2⟩ := hown.update K ht hn hkey hval
  unfold Oper.wp
  simp [execOp, hop, hm, hx, hv, hrun, Result.andThen]
  exact hK' _ _ (hK w' r1 r2)
/-- a kind's line: how many words, at least and at most; how it is read and written -/
abbrev lnV (a b : Int) (r q : Nat) : Value := .agg #[.int .i64 a, .int .i64 b, .func (.func r) #[] #[], .func (.func q) #[] #[]]
abbrev ln1 : Value := lnV 4 4 147 148
abbrev ln2 : Value := lnV 4 5 149 150
abbrev ln3 : Value := lnV 6 6 151 152
abbrev ln0 : Value := .agg #[.int .i64 0, .int .i64 0, .nilFunc, .nilFunc]
open Classical in
/-- which of the lines a value is -/
noncomputable def lnR (v : Value) : Option (DataW Unit × List MemPlace) :=
  if v = ln0 then some (.lit (.int .i64 0), []) else if v = ln1 then some (.lit (.int .i64 1), []) else if v = ln2 then some (.lit (.int .i64 2), []) else if v = ln3 then some (.lit (.int .i64 3), []) else none
theorem lnR_0 : lnR ln0 = some (.lit (.int .i64 0), []) := if_pos rfl
theorem lnR_1 : lnR ln1 = some (.lit (.int .i64 1), []) := by unfold lnR; rw [if_neg (by simp), if_pos rfl]
theorem lnR_2 : lnR ln2 = some (.lit (.int .i64 2), []) := by unfold lnR; rw [if_neg (by simp), if_neg (by simp), if_pos rfl]
theorem lnR_3 : lnR ln3 = some (.lit (.int .i64 3), []) := by unfold lnR; rw [if_neg (by simp), if_neg (by simp), if_neg (by simp), if_pos rfl]
theorem lawK : Keyed Tryz.prog 94 := int_keyed Tryz.underlying94
theorem key_k (k : Nat) (h : k < 256) : keyOf Tryz.prog 94 (.int .u8 k) = some (.int .u8 k) := keyOf_int_mk Tryz.underlying94 (by simp [Lit.wf, IntKind.min, IntKind.max, IntKind.signed, IntKind.bits]; omega)
def lnC (v : Value) : Array Value := match v with | .agg c => c | _ => #[]
theorem below_grown {w w' : World} {a B : Nat} (g : w.grownBy w' (some B)) (ha : a ≤ B := by omega) (hs : a ≤ w.heap.size := by omega) : Below a w w' := ⟨g.os, g.tape, g.output, g.size, fun k hk => g.block k (by omega) (by simp <;> omega)⟩
theorem keepL {w w' : World} {b B : Nat} {c : Obj} (h : w.heap[b]? = some c) (g : w.grownBy w' (some B)) (hne : b ≠ B) : w'.heap[b]? = some c := (g.block b (Array.getElem?_eq_some_iff.1 h).1 (by simpa using hne)).trans h
theorem ln_cells {w : World} {b : Nat} {a c d e : Value} (h : w.heap[b]? = some (.cells #[a, c, d, e] 222 (0, 0))) : w.cell? ⟨b, 0, none⟩ = some a ∧ w.cell? ⟨b, 1, none⟩ = some c ∧ w.cell? ⟨b, 2, none⟩ = some d ∧ w.cell? ⟨b, 3, none⟩ = some e := by
  refine ⟨?_, ?_, ?_, ?_⟩ <;> rw [cell_of_row w b _ _ _ (0, 0) h] <;> rfl

def lnD : DataW Unit := (DataW.put ((DataW.put ((DataW.put ((DataW.put ((DataW.put ((DataW.put ((DataW.put ((DataW.put (.map []) (.int .u8 1) (.lit (.int .i64 1)))) (.int .u8 2) (.lit (.int .i64 1)))) (.int .u8 3) (.lit (.int .i64 1)))) (.int .u8 8) (.lit (.int .i64 1)))) (.int .u8 4) (.lit (.int .i64 2)))) (.int .u8 5) (.lit (.int .i64 2)))) (.int .u8 6) (.lit (.int .i64 3)))) (.int .u8 7) (.lit (.int .i64 3)))
set_option maxHeartbeats 1000000 in
theorem lines_any (w : World) : Calls Tryz.prog 105 #[] w fun e w' => ∃ B, e = .returned (.map (some B)) ∧ w'.ownsMap Tryz.prog 94 lnR B 8 lnD ∧ Below w.heap.size w w' ∧ w.heap.size ≤ B := by
  have hmm := @run_makeMap Tryz.prog
  have o0 := World.ownsMap_made (H := Unit) (((w.alloc (.cells (lnC ln1) 222)).alloc (.cells (lnC ln2) 222)).alloc (.cells (lnC ln3) 222)) Tryz.prog 94 lnR
  rw [show (((w.alloc (.cells (lnC ln1) 222)).alloc (.cells (lnC ln2) 222)).alloc (.cells (lnC ln3) 222)).heap.size = w.heap.size + 1 + 1 + 1 by simp] at o0
  have p1 := heap_alloc_new w (.cells (lnC ln1) 222)
  have p2 := heap_alloc_new (w.alloc (.cells (lnC ln1) 222)) (.cells (lnC ln2) 222)
  have p3 := heap_alloc_new ((w.alloc (.cells (lnC ln1) 222)).alloc (.cells (lnC ln2) 222)) (.cells (lnC ln3) 222)
  rw [show (w.alloc (.cells (lnC ln1) 222)).heap.size = w.heap.size + 1 by simp] at p2
  rw [show ((w.alloc (.cells (lnC ln1) 222)).alloc (.cells (lnC ln2) 222)).heap.size = w.heap.size + 1 + 1 by simp] at p3
  have L0_1 : ((((w.alloc (.cells (lnC ln1) 222)).alloc (.cells (lnC ln2) 222)).alloc (.cells (lnC ln3) 222)).alloc (.map #[] 0)).heap[w.heap.size]? = some (.cells (lnC ln1) 222 (0, 0)) := by rw [Below.heap_alloc _ _ _ (by simp <;> omega), Below.heap_alloc _ _ _ (by simp <;> omega), Below.heap_alloc _ _ _ (by simp)]; exact p1
  have L0_2 : ((((w.alloc (.cells (lnC ln1) 222)).alloc (.cells (lnC ln2) 222)).alloc (.cells (lnC ln3) 222)).alloc (.map #[] 0)).heap[w.heap.size + 1]? = some (.cells (lnC ln2) 222 (0, 0)) := by rw [Below.heap_alloc _ _ _ (by simp <;> omega), Below.heap_alloc _ _ _ (by simp)]; exact p2
  have L0_3 : ((((w.alloc (.cells (lnC ln1) 222)).alloc (.cells (lnC ln2) 222)).alloc (.cells (lnC ln3) 222)).alloc (.map #[] 0)).heap[w.heap.size + 1 + 1]? = some (.cells (lnC ln3) 222 (0, 0)) := by rw [Below.heap_alloc _ _ _ (by simp)]; exact p3
  have BW : Below w.heap.size w ((((w.alloc (.cells (lnC ln1) 222)).alloc (.cells (lnC ln2) 222)).alloc (.cells (lnC ln3) 222)).alloc (.map #[] 0)) := ((((Below.refl _ w).alloc (Nat.le_refl _) _).alloc (by simp) _).alloc (by simp <;> omega) _).alloc (by simp <;> omega) _
  clear p1 p2 p3
  go_enter Tryz.func105, Tryz.ntmps105
  go_wp2_with (first
    | (refine wpList_insert_own _ (by rfl) _ _ _ 158 (by rfl) 94 222 lawK Tryz.underlying158 lnR (w.heap.size + 1 + 1 + 1) 7 _ (by rfl) o7 (by unfold maxLen; omega) _ _ _ (by rfl) (by rfl) (key_k 7 (by omega)) _ [] lnR_3 ?_; intro w8 o8 g8; clear o7; have L8_1 := keepL L7_1 g8 (by omega); have L8_2 := keepL L7_2 g8 (by omega); have L8_3 := keepL L7_3 g8 (by omega); have BW8 := BW7.trans (below_grown g8 (by omega) (Nat.le_trans (by omega) BW7.size)))
    | (refine wpList_insert_own _ (by rfl) _ _ _ 158 (by rfl) 94 222 lawK Tryz.underlying158 lnR (w.heap.size + 1 + 1 + 1) 6 _ (by rfl) o6 (by unfold maxLen; omega) _ _ _ (by rfl) (by rfl) (key_k 6 (by omega)) _ [] lnR_3 ?_; intro w7 o7 g7; clear o6; have L7_1 := keepL L6_1 g7 (by omega); have L7_2 := keepL L6_2 g7 (by omega); have L7_3 := keepL L6_3 g7 (by omega); have BW7 := BW6.trans (below_grown g7 (by omega) (Nat.le_trans (by omega) BW6.size)); obtain ⟨x0, x1, x2, x3⟩ := ln_cells L7_3)
    | (refine wpList_insert_own _ (by rfl) _ _ _ 158 (by rfl) 94 222 lawK Tryz.underlying158 lnR (w.heap.size + 1 + 1 + 1) 5 _ (by rfl) o5 (by unfold maxLen; omega) _ _ _ (by rfl) (by rfl) (key_k 5 (by omega)) _ [] lnR_2 ?_; intro w6 o6 g6; clear o5; have L6_1 := keepL L5_1 g6 (by omega); have L6_2 := keepL L5_2 g6 (by omega); have L6_3 := keepL L5_3 g6 (by omega); have BW6 := BW5.trans (below_grown g6 (by omega) (Nat.le_trans (by omega) BW5.size)); obtain ⟨x0, x1, x2, x3⟩ := ln_cells L6_3)
    | (refine wpList_insert_own _ (by rfl) _ _ _ 158 (by rfl) 94 222 lawK Tryz.underlying158 lnR (w.heap.size + 1 + 1 + 1) 4 _ (by rfl) o4 (by unfold maxLen; omega) _ _ _ (by rfl) (by rfl) (key_k 4 (by omega)) _ [] lnR_2 ?_; intro w5 o5 g5; clear o4; have L5_1 := keepL L4_1 g5 (by omega); have L5_2 := keepL L4_2 g5 (by omega); have L5_3 := keepL L4_3 g5 (by omega); have BW5 := BW4.trans (below_grown g5 (by omega) (Nat.le_trans (by omega) BW4.size)); obtain ⟨x0, x1, x2, x3⟩ := ln_cells L5_2)
    | (refine wpList_insert_own _ (by rfl) _ _ _ 158 (by rfl) 94 222 lawK Tryz.underlying158 lnR (w.heap.size + 1 + 1 + 1) 3 _ (by rfl) o3 (by unfold maxLen; omega) _ _ _ (by rfl) (by rfl) (key_k 8 (by omega)) _ [] lnR_1 ?_; intro w4 o4 g4; clear o3; have L4_1 := keepL L3_1 g4 (by omega); have L4_2 := keepL L3_2 g4 (by omega); have L4_3 := keepL L3_3 g4 (by omega); have BW4 := BW3.trans (below_grown g4 (by omega) (Nat.le_trans (by omega) BW3.size)); obtain ⟨x0, x1, x2, x3⟩ := ln_cells L4_2)
    | (refine wpList_insert_own _ (by rfl) _ _ _ 158 (by rfl) 94 222 lawK Tryz.underlying158 lnR (w.heap.size + 1 + 1 + 1) 2 _ (by rfl) o2 (by unfold maxLen; omega) _ _ _ (by rfl) (by rfl) (key_k 3 (by omega)) _ [] lnR_1 ?_; intro w3 o3 g3; clear o2; have L3_1 := keepL L2_1 g3 (by omega); have L3_2 := keepL L2_2 g3 (by omega); have L3_3 := keepL L2_3 g3 (by omega); have BW3 := BW2.trans (below_grown g3 (by omega) (Nat.le_trans (by omega) BW2.size)); obtain ⟨x0, x1, x2, x3⟩ := ln_cells L3_1)
    | (refine wpList_insert_own _ (by rfl) _ _ _ 158 (by rfl) 94 222 lawK Tryz.underlying158 lnR (w.heap.size + 1 + 1 + 1) 1 _ (by rfl) o1 (by unfold maxLen; omega) _ _ _ (by rfl) (by rfl) (key_k 2 (by omega)) _ [] lnR_1 ?_; intro w2 o2 g2; clear o1; have L2_1 := keepL L1_1 g2 (by omega); have L2_2 := keepL L1_2 g2 (by omega); have L2_3 := keepL L1_3 g2 (by omega); have BW2 := BW1.trans (below_grown g2 (by omega) (Nat.le_trans (by omega) BW1.size)); obtain ⟨x0, x1, x2, x3⟩ := ln_cells L2_1)
    | (refine wpList_insert_own _ (by rfl) _ _ _ 158 (by rfl) 94 222 lawK Tryz.underlying158 lnR (w.heap.size + 1 + 1 + 1) 0 _ (by rfl) o0 (by unfold maxLen; omega) _ _ _ (by rfl) (by rfl) (key_k 1 (by omega)) _ [] lnR_1 ?_; intro w1 o1 g1; clear o0; have L1_1 := keepL L0_1 g1 (by omega); have L1_2 := keepL L0_2 g1 (by omega); have L1_3 := keepL L0_3 g1 (by omega); have BW1 := BW.trans (below_grown g1 (by omega) (Nat.le_trans (by omega) BW.size)); obtain ⟨x0, x1, x2, x3⟩ := ln_cells L1_1))
  go_ret
  exact ⟨w.heap.size + 1 + 1 + 1, rfl, o8, BW8, by omega⟩

end Go.Proofs.YtmpkcioeodlbcaaGreatDoor
namespace Go.Proofs.YtmpkcioeodlbcaaGreatDoor
open Go.Maps Go.RowKit
set_option maxRecDepth 100000
/-- which of the three lines a kind has -/
def lnK (k : Nat) : Nat := if k = 1 ∨ k = 2 ∨ k = 3 ∨ k = 8 then 1 else if k = 4 ∨ k = 5 then 2 else if k = 6 ∨ k = 7 then 3 else 0
def lnOf (i : Nat) : Value := if i = 1 then ln1 else if i = 2 then ln2 else if i = 3 then ln3 else ln0
theorem lnR_inv {v : Value} {i : Nat} {ps : List MemPlace} (hi : i ≤ 3) (h : lnR v = some (.lit (.int .i64 (i : Int)), ps)) : v = lnOf i := by
  unfold lnR at h
  split at h
  · next e => subst e; simp at h; obtain rfl : i = 0 := (by omega); rfl
  · split at h
    · next e => subst e; simp at h; obtain rfl : i = 1 := (by omega); rfl
    · split at h
      · next e => subst e; simp at h; obtain rfl : i = 2 := (by omega); rfl
      · split at h
        · next e => subst e; simp at h; obtain rfl : i = 3 := (by omega); rfl
        · cases h
theorem zeroL (w : World) : (zeroValue 222).run Tryz.prog w = .ok ln0 w := by kernel_rfl
theorem lnD_at (k : Nat) (h : k ≤ 8) : lnD.atKey (.int .u8 (k : Int)) (.lit (.int .i64 0)) = .lit (.int .i64 (lnK k : Int)) := by
  rcases (by omega : k = 0 ∨ k = 1 ∨ k = 2 ∨ k = 3 ∨ k = 4 ∨ k = 5 ∨ k = 6 ∨ k = 7 ∨ k = 8) with q | q | q | q | q | q | q | q | q <;> subst q <;> rfl
theorem ln_look {w : World} {B : Nat} (h : w.ownsMap Tryz.prog 94 lnR B 8 lnD) (k : Nat) (hk : k ≤ 8) :
    (Instr.lookup 158 (.map (some B)) (.int .u8 (k : Int)) false).run Tryz.prog w = .ok (lnOf (lnK k)) w := by
  obtain ⟨v, ps, hrun, hv⟩ := h.lookup lawK Tryz.underlying158 (zeroL w) lnR_0 (key_k k (by omega))
  rw [lnD_at k hk] at hv
  rw [hrun, lnR_inv (by unfold lnK; (repeat' split) <;> omega) hv]

end Go.Proofs.YtmpkcioeodlbcaaGreatDoor
