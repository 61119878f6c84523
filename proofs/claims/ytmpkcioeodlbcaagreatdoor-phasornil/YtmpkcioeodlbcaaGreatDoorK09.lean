/-
  Several texts in one: Nme Nmf Nmg.
-/
import Derived.Test.YtmpkcioeodlbcaaGreatDoorK08
import Derived.Test.YtmpkcioeodlbcaaGreatDoorK07
import Derived.Deep.Cut
import Derived.Deep.DeepCutAuto
import Derived.Deep.CutBlock
import Derived.Deep.CutRange
namespace Go.Proofs.YtmpkcioeodlbcaaGreatDoor
open Go.Maps Go.RowKit
set_option maxRecDepth 100000
@[go_sem] theorem run_store_fnN {P : Program} (w : World) (a : Addr) (m : Mode) (f : Fn) (x y : Array Value) : (store a (.func f x y) m).run P w = stored P w a (.func f x y) m := run_store P w a _ m rfl
/-- an entry of a map that is written out, at the operation -/
theorem wpList_insert_own {H : Type} {P : Program} (w : World) {ops : Array Oper} {rest : List Oper} {o : Oper} {a : Act} {Q : Exit → Act → World → Prop}
    (hg : o.guard = none) (m x v : Operand) (t : TypeId) (hop : o.op = Op.insert t m x v)
    (k e : TypeId) (K : Keyed P k) (ht : P.underlying t = some (.map k e)) (R : Value → Option (DataW H × List MemPlace)) (b n : Nat) (D : DataW H)
    (hm : a.eval m = .map (some b)) (hown : w.ownsMap P k R b n D) (hn : n < maxLen) (key val : Value) (kl : Lit) (hx : a.eval x = key) (hv : a.eval v = val) (hkey : keyOf P k key = some kl)
    (d : DataW H) (ps : List MemPlace) (hval : R val = some (d, ps))
    (hK : ∀ w', w'.ownsMap P k R b (n + 1) (D.put kl d) → w.grownBy w' (some b) → wpList P ops Q rest (a.put o.dst undef) w') :
    wpList P ops Q (o :: rest) a w := by
  refine wpList_plain hg fun K' hK' => ?_
  obtain ⟨w', hrun, r1, r2⟩ := hown.update K ht hn hkey hval
  unfold Oper.wp
  simp [execOp, hop, hm, hx, hv, hrun, Result.andThen]
  exact hK' _ _ (hK w' r1 r2)
/-- a kind's line: how many words, at least and at most; how it is read and written -/
abbrev lnV (a b : Int) (r q : Nat) : Value := .agg #[.int .i64 a, .int .i64 b, .func (.func r) #[] #[], .func (.func q) #[] #[]]
abbrev ln1 : Value := lnV 4 4 147 148
abbrev ln2 : Value := lnV 4 5 149 150
abbrev ln3 : Value := lnV 6 6 151 152
abbrev ln0 : Value := .agg #[.int .i64 0, .int .i64 0, .nilFunc, .nilFunc]
open Classical in
/-- which of the lines a value is -/
noncomputable def lnR (v : Value) : Option (DataW Unit × List MemPlace) :=
  if v = ln0 then some (.lit (.int .i64 0), []) else if v = ln1 then some (.lit (.int .i64 1), []) else if v = ln2 then some (.lit (.int .i64 2), []) else if v = ln3 then some (.lit (.int .i64 3), []) else none
theorem lnR_0 : lnR ln0 = some (.lit (.int .i64 0), []) := if_pos rfl
theorem lnR_1 : lnR ln1 = some (.lit (.int .i64 1), []) := by unfold lnR; rw [if_neg (by simp), if_pos rfl]
theorem lnR_2 : lnR ln2 = some (.lit (.int .i64 2), []) := by unfold lnR; rw [if_neg (by simp), if_neg (by simp), if_pos rfl]
theorem lnR_3 : lnR ln3 = some (.lit (.int .i64 3), []) := by unfold lnR; rw [if_neg (by simp), if_neg (by simp), if_neg (by simp), if_pos rfl]
theorem lawK : Keyed Tryz.prog 94 := int_keyed Tryz.underlying94
theorem key_k (k : Nat) (h : k < 256) : keyOf Tryz.prog 94 (.int .u8 k) = some (.int .u8 k) := keyOf_int_mk Tryz.underlying94 (by simp [Lit.wf, IntKind.min, IntKind.max, IntKind.signed, IntKind.bits]; omega)
def lnC (v : Value) : Array Value := match v with | .agg c => c | _ => #[]
theorem below_grown {w w' : World} {a B : Nat} (g : w.grownBy w' (some B)) (ha : a ≤ B := by omega) (hs : a ≤ w.heap.size := by omega) : Below a w w' := ⟨g.os, g.tape, g.output, g.size, fun k hk => g.block k (by omega) (by simp <;> omega)⟩
theorem keepL {w w' : World} {b B : Nat} {c : Obj} (h : w.heap[b]? = some c) (g : w.grownBy w' (some B)) (hne : b ≠ B) : w'.heap[b]? = some c := (g.block b (Array.getElem?_eq_some_iff.1 h).1 (by simpa using hne)).trans h
theorem ln_cells {w : World} {b : Nat} {a c d e : Value} (h : w.heap[b]? = some (.cells #[a, c, d, e] 222 (0, 0))) : w.cell? ⟨b, 0, none⟩ = some a ∧ w.cell? ⟨b, 1, none⟩ = some c ∧ w.cell? ⟨b, 2, none⟩ = some d ∧ w.cell? ⟨b, 3, none⟩ = some e := by
  refine ⟨?_, ?_, ?_, ?_⟩ <;> rw [cell_of_row w b _ _ _ (0, 0) h] <;> rfl

def lnD : DataW Unit := (DataW.put ((DataW.put ((DataW.put ((DataW.put ((DataW.put ((DataW.put ((DataW.put ((DataW.put (.map []) (.int .u8 1) (.lit (.int .i64 1)))) (.int .u8 2) (.lit (.int .i64 1)))) (.int .u8 3) (.lit (.int .i64 1)))) (.int .u8 8) (.lit (.int .i64 1)))) (.int .u8 4) (.lit (.int .i64 2)))) (.int .u8 5) (.lit (.int .i64 2)))) (.int .u8 6) (.lit (.int .i64 3)))) (.int .u8 7) (.lit (.int .i64 3)))
set_option maxHeartbeats 1000000 in
theorem lines_any (w : World) : Calls Tryz.prog 105 #[] w fun e w' => ∃ B, e = .returned (.map (some B)) ∧ w'.ownsMap Tryz.prog 94 lnR B 8 lnD ∧ Below w.heap.size w w' ∧ w.heap.size ≤ B := by
  have hmm := @run_makeMap Tryz.prog
  have o0 := World.ownsMap_made (H := Unit) (((w.alloc (.cells (lnC ln1) 222)).alloc (.cells (lnC ln2) 222)).alloc (.cells (lnC ln3) 222)) Tryz.prog 94 lnR
  rw [show (((w.alloc (.cells (lnC ln1) 222)).alloc (.cells (lnC ln2) 222)).alloc (.cells (lnC ln3) 222)).heap.size = w.heap.size + 1 + 1 + 1 by simp] at o0
  have p1 := heap_alloc_new w (.cells (lnC ln1) 222)
  have p2 := heap_alloc_new (w.alloc (.cells (lnC ln1) 222)) (.cells (lnC ln2) 222)
  have p3 := heap_alloc_new ((w.alloc (.cells (lnC ln1) 222)).alloc (.cells (lnC ln2) 222)) (.cells (lnC ln3) 222)
  rw [show (w.alloc (.cells (lnC ln1) 222)).heap.size = w.heap.size + 1 by simp] at p2
  rw [show ((w.alloc (.cells (lnC ln1) 222)).alloc (.cells (lnC ln2) 222)).heap.size = w.heap.size + 1 + 1 by simp] at p3
  have L0_1 : ((((w.alloc (.cells (lnC ln1) 222)).alloc (.cells (lnC ln2) 222)).alloc (.cells (lnC ln3) 222)).alloc (.map #[] 0)).heap[w.heap.size]? = some (.cells (lnC ln1) 222 (0, 0)) := by rw [Below.heap_alloc _ _ _ (by simp <;> omega), Below.heap_alloc _ _ _ (by simp <;> omega), Below.heap_alloc _ _ _ (by simp)]; exact p1
  have L0_2 : ((((w.alloc (.cells (lnC ln1) 222)).alloc (.cells (lnC ln2) 222)).alloc (.cells (lnC ln3) 222)).alloc (.map #[] 0)).heap[w.heap.size + 1]? = some (.cells (lnC ln2) 222 (0, 0)) := by rw [Below.heap_alloc _ _ _ (by simp <;> omega), Below.heap_alloc _ _ _ (by simp)]; exact p2
  have L0_3 : ((((w.alloc (.cells (lnC ln1) 222)).alloc (.cells (lnC ln2) 222)).alloc (.cells (lnC ln3) 222)).alloc (.map #[] 0)).heap[w.heap.size + 1 + 1]? = some (.cells (lnC ln3) 222 (0, 0)) := by rw [Below.heap_alloc _ _ _ (by simp)]; exact p3
  have BW : Below w.heap.size w ((((w.alloc (.cells (lnC ln1) 222)).alloc (.cells (lnC ln2) 222)).alloc (.cells (lnC ln3) 222)).alloc (.map #[] 0)) := ((((Below.refl _ w).alloc (Nat.le_refl _) _).alloc (by simp) _).alloc (by simp <;> omega) _).alloc (by simp <;> omega) _
  clear p1 p2 p3
  go_enter Tryz.func105, Tryz.ntmps105
  go_wp2_with (first
    | (refine wpList_insert_own _ (by rfl) _ _ _ 158 (by rfl) 94 222 lawK Tryz.underlying158 lnR (w.heap.size + 1 + 1 + 1) 7 _ (by rfl) o7 (by unfold maxLen; omega) _ _ _ (by rfl) (by rfl) (key_k 7 (by omega)) _ [] lnR_3 ?_; intro w8 o8 g8; clear o7; have L8_1 := keepL L7_1 g8 (by omega); have L8_2 := keepL L7_2 g8 (by omega); have L8_3 := keepL L7_3 g8 (by omega); have BW8 := BW7.trans (below_grown g8 (by omega) (Nat.le_trans (by omega) BW7.size)))
    | (refine wpList_insert_own _ (by rfl) _ _ _ 158 (by rfl) 94 222 lawK Tryz.underlying158 lnR (w.heap.size + 1 + 1 + 1) 6 _ (by rfl) o6 (by unfold maxLen; omega) _ _ _ (by rfl) (by rfl) (key_k 6 (by omega)) _ [] lnR_3 ?_; intro w7 o7 g7; clear o6; have L7_1 := keepL L6_1 g7 (by omega); have L7_2 := keepL L6_2 g7 (by omega); have L7_3 := keepL L6_3 g7 (by omega); have BW7 := BW6.trans (below_grown g7 (by omega) (Nat.le_trans (by omega) BW6.size)); obtain ⟨x0, x1, x2, x3⟩ := ln_cells L7_3)
    | (refine wpList_insert_own _ (by rfl) _ _ _ 158 (by rfl) 94 222 lawK Tryz.underlying158 lnR (w.heap.size + 1 + 1 + 1) 5 _ (by rfl) o5 (by unfold maxLen; omega) _ _ _ (by rfl) (by rfl) (key_k 5 (by omega)) _ [] lnR_2 ?_; intro w6 o6 g6; clear o5; have L6_1 := keepL L5_1 g6 (by omega); have L6_2 := keepL L5_2 g6 (by omega); have L6_3 := keepL L5_3 g6 (by omega); have BW6 := BW5.trans (below_grown g6 (by omega) (Nat.le_trans (by omega) BW5.size)); obtain ⟨x0, x1, x2, x3⟩ := ln_cells L6_3)
    | (refine wpList_insert_own _ (by rfl) _ _ _ 158 (by rfl) 94 222 lawK Tryz.underlying158 lnR (w.heap.size + 1 + 1 + 1) 4 _ (by rfl) o4 (by unfold maxLen; omega) _ _ _ (by rfl) (by rfl) (key_k 4 (by omega)) _ [] lnR_2 ?_; intro w5 o5 g5; clear o4; have L5_1 := keepL L4_1 g5 (by omega); have L5_2 := keepL L4_2 g5 (by omega); have L5_3 := keepL L4_3 g5 (by omega); have BW5 := BW4.trans (below_grown g5 (by omega) (Nat.le_trans (by omega) BW4.size)); obtain ⟨x0, x1, x2, x3⟩ := ln_cells L5_2)
    | (refine wpList_insert_own _ (by rfl) _ _ _ 158 (by rfl) 94 222 lawK Tryz.underlying158 lnR (w.heap.size + 1 + 1 + 1) 3 _ (by rfl) o3 (by unfold maxLen; omega) _ _ _ (by rfl) (by rfl) (key_k 8 (by omega)) _ [] lnR_1 ?_; intro w4 o4 g4; clear o3; have L4_1 := keepL L3_1 g4 (by omega); have L4_2 := keepL L3_2 g4 (by omega); have L4_3 := keepL L3_3 g4 (by omega); have BW4 := BW3.trans (below_grown g4 (by omega) (Nat.le_trans (by omega) BW3.size)); obtain ⟨x0, x1, x2, x3⟩ := ln_cells L4_2)
    | (refine wpList_insert_own _ (by rfl) _ _ _ 158 (by rfl) 94 222 lawK Tryz.underlying158 lnR (w.heap.size + 1 + 1 + 1) 2 _ (by rfl) o2 (by unfold maxLen; omega) _ _ _ (by rfl) (by rfl) (key_k 3 (by omega)) _ [] lnR_1 ?_; intro w3 o3 g3; clear o2; have L3_1 := keepL L2_1 g3 (by omega); have L3_2 := keepL L2_2 g3 (by omega); have L3_3 := keepL L2_3 g3 (by omega); have BW3 := BW2.trans (below_grown g3 (by omega) (Nat.le_trans (by omega) BW2.size)); obtain ⟨x0, x1, x2, x3⟩ := ln_cells L3_1)
    | (refine wpList_insert_own _ (by rfl) _ _ _ 158 (by rfl) 94 222 lawK Tryz.underlying158 lnR (w.heap.size + 1 + 1 + 1) 1 _ (by rfl) o1 (by unfold maxLen; omega) _ _ _ (by rfl) (by rfl) (key_k 2 (by omega)) _ [] lnR_1 ?_; intro w2 o2 g2; clear o1; have L2_1 := keepL L1_1 g2 (by omega); have L2_2 := keepL L1_2 g2 (by omega); have L2_3 := keepL L1_3 g2 (by omega); have BW2 := BW1.trans (below_grown g2 (by omega) (Nat.le_trans (by omega) BW1.size)); obtain ⟨x0, x1, x2, x3⟩ := ln_cells L2_1)
    | (refine wpList_insert_own _ (by rfl) _ _ _ 158 (by rfl) 94 222 lawK Tryz.underlying158 lnR (w.heap.size + 1 + 1 + 1) 0 _ (by rfl) o0 (by unfold maxLen; omega) _ _ _ (by rfl) (by rfl) (key_k 1 (by omega)) _ [] lnR_1 ?_; intro w1 o1 g1; clear o0; have L1_1 := keepL L0_1 g1 (by omega); have L1_2 := keepL L0_2 g1 (by omega); have L1_3 := keepL L0_3 g1 (by omega); have BW1 := BW.trans (below_grown g1 (by omega) (Nat.le_trans (by omega) BW.size)); obtain ⟨x0, x1, x2, x3⟩ := ln_cells L1_1))
  go_ret
  exact ⟨w.heap.size + 1 + 1 + 1, rfl, o8, BW8, by omega⟩

end Go.Proofs.YtmpkcioeodlbcaaGreatDoor
namespace Go.Proofs.YtmpkcioeodlbcaaGreatDoor
open Go.Maps Go.RowKit
set_option maxRecDepth 100000
/-- which of the three lines a kind has -/
def lnK (k : Nat) : Nat := if k = 1 ∨ k = 2 ∨ k = 3 ∨ k = 8 then 1 else if k = 4 ∨ k = 5 then 2 else if k = 6 ∨ k = 7 then 3 else 0
def lnOf (i : Nat) : Value := if i = 1 then ln1 else if i = 2 then ln2 else if i = 3 then ln3 else ln0
theorem lnR_inv {v : Value} {i : Nat} {ps : List MemPlace} (hi : i ≤ 3) (h : lnR v = some (.lit (.int .i64 (i : Int)), ps)) : v = lnOf i := by
  unfold lnR at h
  split at h
  · next e => subst e; simp at h; obtain rfl : i = 0 := (by omega); rfl
  · split at h
    · next e => subst e; simp at h; obtain rfl : i = 1 := (by omega); rfl
    · split at h
      · next e => subst e; simp at h; obtain rfl : i = 2 := (by omega); rfl
      · split at h
        · next e => subst e; simp at h; obtain rfl : i = 3 := (by omega); rfl
        · cases h
theorem zeroL (w : World) : (zeroValue 222).run Tryz.prog w = .ok ln0 w := by kernel_rfl
theorem lnD_at (k : Nat) (h : k ≤ 8) : lnD.atKey (.int .u8 (k : Int)) (.lit (.int .i64 0)) = .lit (.int .i64 (lnK k : Int)) := by
  rcases (by omega : k = 0 ∨ k = 1 ∨ k = 2 ∨ k = 3 ∨ k = 4 ∨ k = 5 ∨ k = 6 ∨ k = 7 ∨ k = 8) with q | q | q | q | q | q | q | q | q <;> subst q <;> rfl
theorem ln_look {w : World} {B : Nat} (h : w.ownsMap Tryz.prog 94 lnR B 8 lnD) (k : Nat) (hk : k ≤ 8) :
    (Instr.lookup 158 (.map (some B)) (.int .u8 (k : Int)) false).run Tryz.prog w = .ok (lnOf (lnK k)) w := by
  obtain ⟨v, ps, hrun, hv⟩ := h.lookup lawK Tryz.underlying158 (zeroL w) lnR_0 (key_k k (by omega))
  rw [lnD_at k hk] at hv
  rw [hrun, lnR_inv (by unfold lnK; (repeat' split) <;> omega) hv]

end Go.Proofs.YtmpkcioeodlbcaaGreatDoor
namespace Go.Proofs.YtmpkcioeodlbcaaGreatDoor
open Go.Maps Go.RowKit
set_option maxRecDepth 100000
/-- words that lie in a block -/
def Wd (w : World) (b : Nat) (ws : List ByteArray) : Prop := ∀ (k : Nat) (u : ByteArray), ws[k]? = some u → w.cell? ⟨b, k, none⟩ = some (.string u)
theorem Wd.below {w w' : World} {b : Nat} {ws : List ByteArray} (h : Wd w b ws) (hb : Below w.heap.size w w') : Wd w' b ws := fun k u hk => (hb.cell (World.block_lt_of_cell? w _ (h k u hk))).trans (h k u hk)
abbrev elN (k : Nat) (n a b c d : ByteArray) (v : Nat) (ph : Int) : Value := .agg #[.int .u8 (k : Int), .string n, .string a, .string b, .string c, .string d, .float .f64 v, .int .i64 ph]
def Hdn (P : Prop) : Prop := P
theorem Hdn.out {P : Prop} (h : Hdn P) : P := h
theorem below_drw {w0 w : World} {p : Nat} (h : Below p w0 w) : Below p w0 w.drew := ⟨h.os, h.tape, h.output, h.size, h.block⟩
theorem drew_blk {W : World} {p : Nat} {c : Option Obj} (h : W.heap[p]? = c) : W.drew.heap[p]? = c := h
set_option maxHeartbeats 1000000 in
theorem readTwo_by (w : World) (b n c : Nat) (s0 s1 s2 s3 : ByteArray) (x : Nat) (E A : Int) (hn : 4 ≤ n) (h0 : w.cell? ⟨b, 0, none⟩ = some (.string s0)) (h1 : w.cell? ⟨b, 1, none⟩ = some (.string s1)) (h2 : w.cell? ⟨b, 2, none⟩ = some (.string s2)) (h3 : w.cell? ⟨b, 3, none⟩ = some (.string s3))
    (hP : ∀ W : World, Calls Tryz.prog 193 #[.string s3] W fun e w' => e = .returned (.tuple #[.float .f64 x, .agg #[.int .i64 E, .int .i64 A]]) ∧ Below W.heap.size W w') :
    Calls Tryz.prog 147 #[.slice (some ⟨b, 0, none⟩) n c] w fun e w' => e = .returned (.tuple #[elN 0 s0 s1 s2 ⟨#[]⟩ ⟨#[]⟩ x 0, .int .i64 E]) ∧ Below w.heap.size w w' := by
  have hlt : b < w.heap.size := World.block_lt_of_cell? w _ h0
  have i0 : (0 : Int) < (n : Int) := by omega
  have i1 : (1 : Int) < (n : Int) := by omega
  have i2 : (2 : Int) < (n : Int) := by omega
  have i3 : (3 : Int) < (n : Int) := by omega
  have h3a : (w.alloc (.cells #[.int .u8 0, .string ⟨#[]⟩, .string ⟨#[]⟩, .string ⟨#[]⟩, .string ⟨#[]⟩, .string ⟨#[]⟩, .float .f64 0, .int .i64 0] 96)).cell? ⟨b, 3, none⟩ = some (.string s3) := by rw [World.cell?_alloc_lt _ _ _ hlt]; exact h3
  go_enter Tryz.func147, Tryz.ntmps147
  go_wp2_with (go_at_call 193; (with_reducible refine (hP _).mono ?_); rintro e1 w1 ⟨rfl, B1⟩)
  have BA : Below w.heap.size w (w.alloc (.cells #[.int .u8 0, .string ⟨#[]⟩, .string ⟨#[]⟩, .string ⟨#[]⟩, .string ⟨#[]⟩, .string ⟨#[]⟩, .float .f64 0, .int .i64 0] 96)) := (Below.refl _ w).alloc (Nat.le_refl _) _
  have sz0 : (w.alloc (.cells #[.int .u8 0, .string ⟨#[]⟩, .string ⟨#[]⟩, .string ⟨#[]⟩, .string ⟨#[]⟩, .string ⟨#[]⟩, .float .f64 0, .int .i64 0] 96)).heap.size = w.heap.size + 1 := by simp
  have hz1 : w1.heap[w.heap.size]? = some (.cells #[.int .u8 0, .string ⟨#[]⟩, .string ⟨#[]⟩, .string ⟨#[]⟩, .string ⟨#[]⟩, .string ⟨#[]⟩, .float .f64 0, .int .i64 0] 96 (0, 0)) := by rw [B1.block _ (by rw [sz0]; omega)]; exact heap_alloc_new w _
  have hs1 := B1.size
  rw [sz0] at hs1
  have BB : Below w.heap.size w w1 := BA.trans (B1.mono (by rw [sz0]; omega))
  obtain ⟨wz, hwz⟩ : ∃ wz, wz = w1.alloc (.cells #[.int .i64 E, .int .i64 A] 69) := ⟨_, rfl⟩
  have BZ : Below w.heap.size w wz := by rw [hwz]; exact BB.alloc (by omega) _
  have hz : wz.heap[w.heap.size]? = some (.cells #[.int .u8 0, .string ⟨#[]⟩, .string ⟨#[]⟩, .string ⟨#[]⟩, .string ⟨#[]⟩, .string ⟨#[]⟩, .float .f64 0, .int .i64 0] 96 (0, 0)) := by rw [hwz, Below.heap_alloc _ _ _ (by omega)]; exact hz1
  have kE : wz.cell? ⟨w1.heap.size, 0, none⟩ = some (.int .i64 E) := by rw [hwz]; exact World.cell?_alloc_new _ _ _ _
  have k0 := (BZ.cell (p := ⟨b, 0, none⟩) hlt).trans h0
  have k1 := (BZ.cell (p := ⟨b, 1, none⟩) hlt).trans h1
  have k2 := (BZ.cell (p := ⟨b, 2, none⟩) hlt).trans h2
  have q1 : ¬ b = w.heap.size := by omega
  have q2 : ¬ w.heap.size = b := by omega
  have q3 : ¬ w1.heap.size = w.heap.size := by omega
  have q4 : ¬ w.heap.size = w1.heap.size := by omega
  rw [← hwz]
  clear hwz BA B1 sz0 hz1 BB h3a hP h0 h1 h2 h3
  go_cut [3] (fun v wc => v = .int .i64 E ∧ wc.heap[w.heap.size]? = some (.cells #[.int .u8 0, .string s0, .string s1, .string s2, .string ⟨#[]⟩, .string ⟨#[]⟩, .float .f64 x, .int .i64 0] 96 (0, 0)) ∧ Below w.heap.size w wc)
  case first =>
    have HZ : Hdn (Below w.heap.size w wz ∧ wz.heap[w.heap.size]? = some (.cells #[.int .u8 0, .string ⟨#[]⟩, .string ⟨#[]⟩, .string ⟨#[]⟩, .string ⟨#[]⟩, .string ⟨#[]⟩, .float .f64 0, .int .i64 0] 96 (0, 0))) := ⟨BZ, hz⟩
    obtain ⟨⟨c0, c1, c2, c3, c4, c5, c6, c7⟩, ⟨f0, f1, f2, f3, f4, f5, f6, f7⟩⟩ := eight hz
    clear BZ hz hs1
    go_region_held_law (fun W => W.cell? ⟨b, 0, none⟩ = some (.string s0) ∧ W.cell? ⟨b, 1, none⟩ = some (.string s1) ∧ W.cell? ⟨b, 2, none⟩ = some (.string s2) ∧ W.cell? ⟨w1.heap.size, 0, none⟩ = some (.int .i64 E)) (go_keep) (fail)
    go_wp2_with fail
    go_meet
    case rel =>
      have e8 := st8_blk HZ.out.2 (.int .u8 0) (.string s0) (.string s1) (.string s2) (.string ⟨#[]⟩) (.string ⟨#[]⟩) (.float .f64 x) (.int .i64 0)
      have b8 := st8_bel HZ.out.1 (.int .u8 0) (.string s0) (.string s1) (.string s2) (.string ⟨#[]⟩) (.string ⟨#[]⟩) (.float .f64 x) (.int .i64 0)
      unfold st8 at e8 b8
      exact ⟨rfl, drew_blk e8, below_drw b8⟩
  case rest =>
    obtain ⟨rfl, hzz, BZZ⟩ := hcut
    obtain ⟨⟨c0, c1, c2, c3, c4, c5, c6, c7⟩, -⟩ := eight hzz
    go_wp2_with fail
    (try simp only [Exit.inBlock, Exit.then])
    refine bodyPost_ret (by simp [results, Tryz.results147, go_sem, c0, c1, c2, c3, c4, c5, c6, c7]; try rfl) rfl ?_
    exact ⟨rfl, BZZ⟩

set_option maxHeartbeats 1000000 in
theorem readFour_by (w : World) (b n c : Nat) (s0 s1 s2 s3 s4 s5 : ByteArray) (x : Nat) (E A : Int) (hn : 6 ≤ n) (h0 : w.cell? ⟨b, 0, none⟩ = some (.string s0)) (h1 : w.cell? ⟨b, 1, none⟩ = some (.string s1)) (h2 : w.cell? ⟨b, 2, none⟩ = some (.string s2)) (h3 : w.cell? ⟨b, 3, none⟩ = some (.string s3)) (h4 : w.cell? ⟨b, 4, none⟩ = some (.string s4)) (h5 : w.cell? ⟨b, 5, none⟩ = some (.string s5))
    (hP : ∀ W : World, Calls Tryz.prog 193 #[.string s5] W fun e w' => e = .returned (.tuple #[.float .f64 x, .agg #[.int .i64 E, .int .i64 A]]) ∧ Below W.heap.size W w') :
    Calls Tryz.prog 151 #[.slice (some ⟨b, 0, none⟩) n c] w fun e w' => e = .returned (.tuple #[elN 0 s0 s1 s2 s3 s4 x 0, .int .i64 E]) ∧ Below w.heap.size w w' := by
  have hlt : b < w.heap.size := World.block_lt_of_cell? w _ h0
  have i0 : (0 : Int) < (n : Int) := by omega
  have i1 : (1 : Int) < (n : Int) := by omega
  have i2 : (2 : Int) < (n : Int) := by omega
  have i3 : (3 : Int) < (n : Int) := by omega
  have i4 : (4 : Int) < (n : Int) := by omega
  have i5 : (5 : Int) < (n : Int) := by omega
  have h5a : (w.alloc (.cells #[.int .u8 0, .string ⟨#[]⟩, .string ⟨#[]⟩, .string ⟨#[]⟩, .string ⟨#[]⟩, .string ⟨#[]⟩, .float .f64 0, .int .i64 0] 96)).cell? ⟨b, 5, none⟩ = some (.string s5) := by rw [World.cell?_alloc_lt _ _ _ hlt]; exact h5
  go_enter Tryz.func151, Tryz.ntmps151
  go_wp2_with (go_at_call 193; (with_reducible refine (hP _).mono ?_); rintro e1 w1 ⟨rfl, B1⟩)
  have BA : Below w.heap.size w (w.alloc (.cells #[.int .u8 0, .string ⟨#[]⟩, .string ⟨#[]⟩, .string ⟨#[]⟩, .string ⟨#[]⟩, .string ⟨#[]⟩, .float .f64 0, .int .i64 0] 96)) := (Below.refl _ w).alloc (Nat.le_refl _) _
  have sz0 : (w.alloc (.cells #[.int .u8 0, .string ⟨#[]⟩, .string ⟨#[]⟩, .string ⟨#[]⟩, .string ⟨#[]⟩, .string ⟨#[]⟩, .float .f64 0, .int .i64 0] 96)).heap.size = w.heap.size + 1 := by simp
  have hz1 : w1.heap[w.heap.size]? = some (.cells #[.int .u8 0, .string ⟨#[]⟩, .string ⟨#[]⟩, .string ⟨#[]⟩, .string ⟨#[]⟩, .string ⟨#[]⟩, .float .f64 0, .int .i64 0] 96 (0, 0)) := by rw [B1.block _ (by rw [sz0]; omega)]; exact heap_alloc_new w _
  have hs1 := B1.size
  rw [sz0] at hs1
  have BB : Below w.heap.size w w1 := BA.trans (B1.mono (by rw [sz0]; omega))
  obtain ⟨wz, hwz⟩ : ∃ wz, wz = w1.alloc (.cells #[.int .i64 E, .int .i64 A] 69) := ⟨_, rfl⟩
  have BZ : Below w.heap.size w wz := by rw [hwz]; exact BB.alloc (by omega) _
  have hz : wz.heap[w.heap.size]? = some (.cells #[.int .u8 0, .string ⟨#[]⟩, .string ⟨#[]⟩, .string ⟨#[]⟩, .string ⟨#[]⟩, .string ⟨#[]⟩, .float .f64 0, .int .i64 0] 96 (0, 0)) := by rw [hwz, Below.heap_alloc _ _ _ (by omega)]; exact hz1
  have kE : wz.cell? ⟨w1.heap.size, 0, none⟩ = some (.int .i64 E) := by rw [hwz]; exact World.cell?_alloc_new _ _ _ _
  have k0 := (BZ.cell (p := ⟨b, 0, none⟩) hlt).trans h0
  have k1 := (BZ.cell (p := ⟨b, 1, none⟩) hlt).trans h1
  have k2 := (BZ.cell (p := ⟨b, 2, none⟩) hlt).trans h2
  have k3 := (BZ.cell (p := ⟨b, 3, none⟩) hlt).trans h3
  have k4 := (BZ.cell (p := ⟨b, 4, none⟩) hlt).trans h4
  have q1 : ¬ b = w.heap.size := by omega
  have q2 : ¬ w.heap.size = b := by omega
  have q3 : ¬ w1.heap.size = w.heap.size := by omega
  have q4 : ¬ w.heap.size = w1.heap.size := by omega
  rw [← hwz]
  clear hwz BA B1 sz0 hz1 BB h5a hP h0 h1 h2 h3 h4 h5
  go_cut [3] (fun v wc => v = .int .i64 E ∧ wc.heap[w.heap.size]? = some (.cells #[.int .u8 0, .string s0, .string s1, .string s2, .string s3, .string s4, .float .f64 x, .int .i64 0] 96 (0, 0)) ∧ Below w.heap.size w wc)
  case first =>
    have HZ : Hdn (Below w.heap.size w wz ∧ wz.heap[w.heap.size]? = some (.cells #[.int .u8 0, .string ⟨#[]⟩, .string ⟨#[]⟩, .string ⟨#[]⟩, .string ⟨#[]⟩, .string ⟨#[]⟩, .float .f64 0, .int .i64 0] 96 (0, 0))) := ⟨BZ, hz⟩
    obtain ⟨⟨c0, c1, c2, c3, c4, c5, c6, c7⟩, ⟨f0, f1, f2, f3, f4, f5, f6, f7⟩⟩ := eight hz
    clear BZ hz hs1
    go_region_held_law (fun W => W.cell? ⟨b, 0, none⟩ = some (.string s0) ∧ W.cell? ⟨b, 1, none⟩ = some (.string s1) ∧ W.cell? ⟨b, 2, none⟩ = some (.string s2) ∧ W.cell? ⟨b, 3, none⟩ = some (.string s3) ∧ W.cell? ⟨b, 4, none⟩ = some (.string s4) ∧ W.cell? ⟨w1.heap.size, 0, none⟩ = some (.int .i64 E)) (go_keep) (fail)
    go_wp2_with fail
    go_meet
    case rel =>
      have e8 := st8_blk HZ.out.2 (.int .u8 0) (.string s0) (.string s1) (.string s2) (.string s3) (.string s4) (.float .f64 x) (.int .i64 0)
      have b8 := st8_bel HZ.out.1 (.int .u8 0) (.string s0) (.string s1) (.string s2) (.string s3) (.string s4) (.float .f64 x) (.int .i64 0)
      unfold st8 at e8 b8
      exact ⟨rfl, drew_blk e8, below_drw b8⟩
  case rest =>
    obtain ⟨rfl, hzz, BZZ⟩ := hcut
    obtain ⟨⟨c0, c1, c2, c3, c4, c5, c6, c7⟩, -⟩ := eight hzz
    go_wp2_with fail
    (try simp only [Exit.inBlock, Exit.then])
    refine bodyPost_ret (by simp [results, Tryz.results151, go_sem, c0, c1, c2, c3, c4, c5, c6, c7]; try rfl) rfl ?_
    exact ⟨rfl, BZZ⟩

end Go.Proofs.YtmpkcioeodlbcaaGreatDoor
