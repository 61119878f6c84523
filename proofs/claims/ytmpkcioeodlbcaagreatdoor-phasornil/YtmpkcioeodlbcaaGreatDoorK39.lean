/-
  Kept of Src.
-/
import Derived.Test.YtmpkcioeodlbcaaGreatDoorK34
import Derived.Test.YtmpkcioeodlbcaaGreatDoorK36
import Derived.Lib.SmallJoins
import Derived.Below
import Derived.Deep.RegionHeldLaw
namespace Go.Proofs.YtmpkcioeodlbcaaGreatDoor
open Fl Go.Maps RowKit Joins Deep
set_option linter.unusedVariables false
/-- a number put at a place; -1: the ground's -/
def rput (op : Cn → Cn → Cn) (i : Int) (Y : Cn) (R : Nat → Cn) : Nat → Cn := fun j => if (j : Int) = i then op (R j) Y else R j
/-- is what was put there finite? -/
def rfin (op : Cn → Cn → Cn) (i : Int) (Y : Cn) (R : Nat → Cn) : Bool := decide (i < 0) || finC (op (R i.toNat) Y)
theorem rput_no (op : Cn → Cn → Cn) (Y : Cn) (R : Nat → Cn) : rput op (-1) Y R = R := by funext j; unfold rput; rw [if_neg (by omega)]
/-- a row of numbers, by what they stand for -/
def Nr (w : World) (base : Nat) (v : Value) (n : Nat) (R : Nat → Cn) : Prop := ∃ xs : List Cw, Rw w base v n xs ∧ repl R n xs
/-- nothing that was there is touched but the row v -/
structure Kv (base : Nat) (v : Value) (w w' : World) : Prop where
  bel : Below base w w'
  ot : ∀ q, q < w.heap.size → v.ownBlock ≠ some q → w'.heap[q]? = w.heap[q]?
theorem Kv.refl (base : Nat) (v : Value) (w : World) : Kv base v w w := ⟨Below.refl _ _, fun _ _ _ => rfl⟩
theorem Kv.trans {base : Nat} {v : Value} {a b c : World} (h : Kv base v a b) (k : Kv base v b c) : Kv base v a c := ⟨h.bel.trans k.bel, fun q h1 h2 => (k.ot q (Nat.lt_of_lt_of_le h1 h.bel.size) h2).trans (h.ot q h1 h2)⟩
theorem Kv.of {base : Nat} {v : Value} {w w' : World} (h : Below w.heap.size w w') (hs : base ≤ w.heap.size) : Kv base v w w' := ⟨h.mono hs, fun q h1 _ => h.block q h1⟩
theorem Kv.dN {base : Nat} {v : Value} {a w : World} (h : Kv base v a w) (m : Nat) : Kv base v a (w.drewN m) := ⟨below_dN h.bel m, h.ot⟩
theorem Kv.drew {base : Nat} {v : Value} {a w : World} (h : Kv base v a w) : Kv base v a w.drew := h.dN 1
theorem Kv.set {base g j n c : Nat} {a w : World} (h : Kv base (.slice (some ⟨g, 0, none⟩) n c) a w) (hg : base ≤ g) (u : Value) : Kv base (.slice (some ⟨g, 0, none⟩) n c) a (w.setCell ⟨g, j, none⟩ u) :=
  ⟨h.bel.setCell (p := ⟨g, j, none⟩) hg u, fun q h1 h2 => (Below.heap_setCell w ⟨g, j, none⟩ u q (fun e => h2 (by rw [e]; rfl))).trans (h.ot q h1 h2)⟩
/-- the side: its net, how many numbers stand ahead of the branches', its numbers -/
structure Sd (w : World) (base s p : Nat) (v : Value) (n nn : Nat) (R : Nat → Cn) : Prop where
  c0 : w.cell? ⟨s, 0, none⟩ = some (.pointer (some ⟨p, 0, none⟩))
  c1 : w.cell? ⟨s, 1, none⟩ = some (.int .i64 nn)
  c2 : w.cell? ⟨s, 2, none⟩ = some v
  row : Nr w base v n R
  ne : v.ownBlock ≠ some s
  lo : base ≤ w.heap.size
theorem Nr.on {w w' : World} {base n : Nat} {v : Value} {R : Nat → Cn} (h : Nr w base v n R) (hb : Below w.heap.size w w') : Nr w' base v n R := by
  obtain ⟨xs, h1, h2⟩ := h
  exact ⟨xs, h1.below hb, h2⟩
theorem Sd.on {w w' : World} {base s p n nn : Nat} {v : Value} {R : Nat → Cn} (h : Sd w base s p v n nn R) (hb : Below w.heap.size w w') : Sd w' base s p v n nn R := by
  have k : ∀ (j : Nat) (u : Value), w.cell? ⟨s, j, none⟩ = some u → w'.cell? ⟨s, j, none⟩ = some u := fun j u hc => (hb.cell (p := ⟨s, j, none⟩) (World.block_lt_of_cell? w ⟨s, 0, none⟩ h.c0)).trans hc
  exact ⟨k _ _ h.c0, k _ _ h.c1, k _ _ h.c2, h.row.on hb, h.ne, Nat.le_trans h.lo hb.size⟩
theorem Sd.dN {w : World} {base s p n nn : Nat} {v : Value} {R : Nat → Cn} (h : Sd w base s p v n nn R) (m : Nat) : Sd (w.drewN m) base s p v n nn R := h.on (below_dN (Below.refl _ _) m)
theorem Sd.drew {w : World} {base s p n nn : Nat} {v : Value} {R : Nat → Cn} (h : Sd w base s p v n nn R) : Sd w.drew base s p v n nn R := h.dN 1
/-- a number that lies there -/
theorem Nr.get {w : World} {base n : Nat} {v : Value} {R : Nat → Cn} (h : Nr w base v n R) {i : Nat} (hi : i < n) : ∃ (g c : Nat) (x : Cw), v = .slice (some ⟨g, 0, none⟩) n c ∧ base ≤ g ∧ w.cell? ⟨g, i, none⟩ = some (cx x) ∧ w.frozen? ⟨g, i, none⟩ = false ∧ repz (R i) x := by
  obtain ⟨xs, h1, h2⟩ := h
  obtain ⟨g, c, rfl, hg, _, _⟩ := own_shape h1.own (by omega)
  have hc := h1.own.cellAt i (by rw [Nat.mul_one]; exact hi)
  rw [List.getElem?_map, zat_lt (by rw [h1.len]; exact hi)] at hc
  exact ⟨g, c, _, rfl, hg, hc, h1.own.frozenAt i, h2 i hi⟩
/-- a number put there -/
theorem Nr.put {w : World} {base n g c : Nat} {R : Nat → Cn} (h : Nr w base (.slice (some ⟨g, 0, none⟩) n c) n R) {op : Cn → Cn → Cn} {i : Nat} (hi : i < n) {Y : Cn} {r : Cw} (hr : repz (op (R i) Y) r) : Nr (w.setCell ⟨g, i, none⟩ (cx r)) base (.slice (some ⟨g, 0, none⟩) n c) n (rput op i Y R) := by
  obtain ⟨xs, h1, h2⟩ := h
  have k := (h1.own.stored i (cx r)).1
  rw [← List.map_set] at k
  refine ⟨xs.set i r, ⟨by rw [List.length_set]; exact h1.len, k⟩, fun j hj => ?_⟩
  unfold rput
  by_cases e : j = i
  · subst e
    rw [if_pos rfl]
    have : zat (xs.set j r) j = r := by simp [zat, List.getD_eq_getElem?_getD, h1.len, hj]
    rw [this]; exact hr
  · rw [if_neg (by omega)]
    have : zat (xs.set i r) j = zat xs j := by simp [zat, List.getD_eq_getElem?_getD, Ne.symm e]
    rw [this]; exact h2 j hj
theorem Sd.put {w : World} {base s p n nn g c : Nat} {R : Nat → Cn} (h : Sd w base s p (.slice (some ⟨g, 0, none⟩) n c) n nn R) {op : Cn → Cn → Cn} {i : Nat} (hi : i < n) {Y : Cn} {r : Cw} (hr : repz (op (R i) Y) r) : Sd (w.setCell ⟨g, i, none⟩ (cx r)) base s p (.slice (some ⟨g, 0, none⟩) n c) n nn (rput op i Y R) := by
  have hne : g ≠ s := fun e => h.ne (by rw [e]; rfl)
  have k : ∀ (j : Nat) (u : Value), w.cell? ⟨s, j, none⟩ = some u → (w.setCell ⟨g, i, none⟩ (cx r)).cell? ⟨s, j, none⟩ = some u := fun j u hc => (World.cell?_setCell_other _ _ _ _ (fun e => hne (by simpa using congrArg Addr.block e))).trans hc
  exact ⟨k _ _ h.c0, k _ _ h.c1, k _ _ h.c2, h.row.put hi hr, h.ne, by rw [World.size_setCell]; exact h.lo⟩
set_option maxHeartbeats 4000000 in
/-- a number put where an entry says -/
theorem sdput_any {F : FuncId} {op : Cn → Cn → Cn} (hE : Ent F) (hF : Op2 F op) {w : World} {base s p n nn : Nat} {v : Value} {R : Nat → Cn} (h : Sd w base s p v n nn R) {i : Int} (hi : -1 ≤ i) (hi2 : i < n) {y : Cw} (hy : okz y) (f : Bool) (hf : rfin op i (anz y) R = f) :
    Calls Tryz.prog 123 #[.pointer (some ⟨s, 0, none⟩), .agg #[.int .i64 i, .func (.func F) #[] #[]], .complex .f64 y.1 y.2] w fun e w' => e = .returned (.int .i64 (if f = true then 0 else 6)) ∧ Sd w' base s p v n nn (rput op i (anz y) R) ∧ Kv base v w w' := by
  have HN := hidS (h.on (bal w (.cells #[.int .i64 i, .func (.func F) #[] #[]] 187)))
  have HB := hidS (Kv.of (v := v) (bal w (.cells #[.int .i64 i, .func (.func F) #[] #[]] 187)) h.lo)
  by_cases i1 : i = -1
  · subst i1
    have hS : f = true := by rw [← hf]; rfl
    subst hS
    rw [rput_no, if_pos rfl]
    clear hf
    go_enter Tryz.func123, Tryz.ntmps123
    go_wp2_with fail
    go_ret
    exact ⟨rfl, HN.out, HB.out⟩
  obtain ⟨a, rfl⟩ : ∃ a : Nat, i = a := ⟨i.toNat, by omega⟩
  have ha : a < n := by omega
  obtain ⟨g, c, x, rfl, hg, hcx, hcz, hxr⟩ := HN.out.row.get ha
  have hne : g ≠ s := fun e => HN.out.ne (by rw [e]; rfl)
  have hff : finC (op (R a) (anz y)) = f := by rw [← hf]; unfold rfin; rw [decide_eq_false (by omega)]; rfl
  have hxx := hxr.anz
  have hxo := hxr.ok
  have HX : Hid (anz x = R a) := hxx
  have HFF := hidS hff
  have HF := hidS (fun W => hF W x y hxo hy)
  have hbs : g ≠ w.heap.size := fun e => by
    obtain ⟨xs, h1, _⟩ := h.row
    have := h1.own.lt g rfl
    omega
  have hss : s ≠ w.heap.size := fun e => by have := World.block_lt_of_cell? w _ h.c0; simp at this; omega
  have b0 : (w.alloc (.cells #[.int .i64 (a : Int), .func (.func F) #[] #[]] 187)).cell? ⟨w.heap.size, 0, none⟩ = some (.int .i64 (a : Int)) := by rw [cell_of_row _ _ _ _ _ (0, 0) (heap_alloc_new w _)]; rfl
  have b1 : (w.alloc (.cells #[.int .i64 (a : Int), .func (.func F) #[] #[]] 187)).cell? ⟨w.heap.size, 1, none⟩ = some (.func (.func F) #[] #[]) := by rw [cell_of_row _ _ _ _ _ (0, 0) (heap_alloc_new w _)]; rfl
  obtain ⟨wa, hwa⟩ : ∃ wa, w.alloc (.cells #[.int .i64 (a : Int), .func (.func F) #[] #[]] 187) = wa := ⟨_, rfl⟩
  rw [hwa] at HN HB b0 b1 hcx hcz
  have s2 := HN.out.c2
  have s0 := b0
  have s1 := b1
  have HPUT := hidS (fun (m : Nat) (r : Cw) (q : repz (op (R a) (anz y)) r) => (HN.out.dN m).put ha (op := op) (Y := anz y) (r := r) q)
  have HFIN := hidS (fun (r : Cw) (q : repz (op (R a) (anz y)) r) => (finZ_of q).trans hff)
  have ha2 : ((a : Int) == -1) = false := by simp
  have HA := hidS ha
  unfold cx at hcx
  unfold Ent at hE
  clear hf hff hxx hxo hxr h hi hi2 hF i1
  cases f
  · go_enter Tryz.func123, Tryz.ntmps123
    go_wp2
    refine wp_region_held_drew (S := (fun W : World => W.cell? ⟨s, 2, none⟩ = some (.slice (some ⟨g, 0, none⟩) n c) ∧ W.cell? ⟨w.heap.size, 0, none⟩ = some (.int .i64 (a : Int)) ∧ W.cell? ⟨w.heap.size, 1, none⟩ = some (.func (.func F) #[] #[]))) (by kernel_rfl) ⟨s2, s0, s1⟩ (fun hHeld => ?_)
    refine wpAnyH_take (i := 0) (v := ?qv0x) (by (simp only [List.getElem?_toArray, List.getElem?_cons_zero]; rfl)) (by kernel_rfl) (by kernel_rfl) (by kernel_rfl) ?qQ0x (Or.inl ⟨by rfl, ?qh0x⟩) hHeld ?qr0x
    case qQ0x => exact fun _ _ _ h => h
    case qh0x => (intro w hSw; (try dsimp only at hSw); go_simp; try with_reducible rfl)
    try simp only [Act.put, List.setIfInBounds_toArray, List.set_cons_zero, List.set_cons_succ]
    refine wpAnyH_take (i := 1) (v := ?qv1x) (by (simp only [List.getElem?_toArray, List.getElem?_cons_zero, List.getElem?_cons_succ]; rfl)) (by kernel_rfl) (by kernel_rfl) (by kernel_rfl) ?qQ1x (Or.inl ⟨by rfl, ?qh1x⟩) hHeld ?qr1x
    case qQ1x => exact fun _ _ _ h => h
    case qh1x => (intro w hSw; (try dsimp only at hSw); go_simp; try with_reducible rfl)
    try simp only [Act.put, List.setIfInBounds_toArray, List.set_cons_zero, List.set_cons_succ]
    refine wpAnyH_take (i := 2) (v := ?qv2x) (by (simp only [List.getElem?_toArray, List.getElem?_cons_zero, List.getElem?_cons_succ]; rfl)) (by kernel_rfl) (by kernel_rfl) (by kernel_rfl) ?qQ2x (Or.inl ⟨by rfl, ?qh2x⟩) hHeld ?qr2x
    case qQ2x => exact fun _ _ _ h => h
    case qh2x => (intro w hSw; (try dsimp only at hSw); go_simp; try with_reducible rfl)
    try simp only [Act.put, List.setIfInBounds_toArray, List.set_cons_zero, List.set_cons_succ]
    refine wpAnyH_take (i := 3) (v := ?qv3x) (by (simp only [List.getElem?_toArray, List.getElem?_cons_zero, List.getElem?_cons_succ]; rfl)) (by kernel_rfl) (by kernel_rfl) (by kernel_rfl) ?qQ3x (Or.inl ⟨by rfl, ?qh3x⟩) hHeld ?qr3x
    case qQ3x => exact fun _ _ _ h => h
    case qh3x => (intro w hSw; (try dsimp only at hSw); go_simp; try with_reducible rfl)
    try simp only [Act.put, List.setIfInBounds_toArray, List.set_cons_zero, List.set_cons_succ]
    refine wpAnyH_take (i := 4) (v := ?qv4x) (by (simp only [List.getElem?_toArray, List.getElem?_cons_zero, List.getElem?_cons_succ]; rfl)) (by kernel_rfl) (by kernel_rfl) (by kernel_rfl) ?qQ4x (Or.inl ⟨by rfl, ?qh4x⟩) hHeld ?qr4x
    case qQ4x => exact fun _ _ _ h => h
    case qh4x => (intro w hSw; (try dsimp only at hSw); go_simp; try with_reducible rfl)
    try simp only [Act.put, List.setIfInBounds_toArray, List.set_cons_zero, List.set_cons_succ]
    refine wpAnyH_take (i := 5) (v := ?qv5x) (by (simp only [List.getElem?_toArray, List.getElem?_cons_zero, List.getElem?_cons_succ]; rfl)) (by kernel_rfl) (by kernel_rfl) (by kernel_rfl) ?qQ5x (Or.inl ⟨by rfl, ?qh5x⟩) hHeld ?qr5x
    case qQ5x => exact fun _ _ _ h => h
    case qh5x => (intro w hSw; (try dsimp only at hSw); go_simp; try with_reducible rfl)
    try simp only [Act.put, List.setIfInBounds_toArray, List.set_cons_zero, List.set_cons_succ]
    refine wpAnyH_take (i := 6) (v := ?qv6x) (by (simp only [List.getElem?_toArray, List.getElem?_cons_zero, List.getElem?_cons_succ]; rfl)) (by kernel_rfl) (by kernel_rfl) (by kernel_rfl) ?qQ6x (Or.inl ⟨by rfl, ?qh6x⟩) hHeld ?qr6x
    case qQ6x => exact fun _ _ _ h => h
    case qh6x => (intro w hSw; (try dsimp only at hSw); go_simp; try with_reducible rfl)
    try simp only [Act.put, List.setIfInBounds_toArray, List.set_cons_zero, List.set_cons_succ]
    refine wpAnyH_take (i := 7) (v := ?qv7x) (by (simp only [List.getElem?_toArray, List.getElem?_cons_zero, List.getElem?_cons_succ]; rfl)) (by kernel_rfl) (by kernel_rfl) (by kernel_rfl) ?qQ7x (Or.inl ⟨by rfl, ?qh7x⟩) hHeld ?qr7x
    case qQ7x => exact fun _ _ _ h => h
    case qh7x => (intro w hSw; (try dsimp only at hSw); go_simp; try with_reducible rfl)
    try simp only [Act.put, List.setIfInBounds_toArray, List.set_cons_zero, List.set_cons_succ]
    refine wpAnyH_take (i := 8) (v := ?qv8x) (by (simp only [List.getElem?_toArray, List.getElem?_cons_zero, List.getElem?_cons_succ]; rfl)) (by kernel_rfl) (by kernel_rfl) (by kernel_rfl) ?qQ8x (Or.inl ⟨by rfl, ?qh8x⟩) hHeld ?qr8x
    case qQ8x => exact fun _ _ _ h => h
    case qh8x => (intro w hSw; (try dsimp only at hSw); go_simp; try with_reducible rfl)
    try simp only [Act.put, List.setIfInBounds_toArray, List.set_cons_zero, List.set_cons_succ]
    refine wpAnyH_take (i := 9) (v := ?qv9x) (by (simp only [List.getElem?_toArray, List.getElem?_cons_zero, List.getElem?_cons_succ]; rfl)) (by kernel_rfl) (by kernel_rfl) (by kernel_rfl) ?qQ9x (Or.inl ⟨by rfl, ?qh9x⟩) hHeld ?qr9x
    case qQ9x => exact fun _ _ _ h => h
    case qh9x => (intro w hSw; (try dsimp only at hSw); go_simp; try with_reducible rfl)
    try simp only [Act.put, List.setIfInBounds_toArray, List.set_cons_zero, List.set_cons_succ]
    refine wpAnyH_take (i := 10) (v := ?qv10x) (by (simp only [List.getElem?_toArray, List.getElem?_cons_zero, List.getElem?_cons_succ]; rfl)) (by kernel_rfl) (by kernel_rfl) (by kernel_rfl) ?qQ10x (Or.inl ⟨by rfl, ?qh10x⟩) hHeld ?qr10x
    case qQ10x => exact fun _ _ _ h => h
    case qh10x => (intro w hSw; (try dsimp only at hSw); go_simp; try with_reducible rfl)
    try simp only [Act.put, List.setIfInBounds_toArray, List.set_cons_zero, List.set_cons_succ]
    refine wpAnyH_take (i := 11) (v := ?qv11x) (by (simp only [List.getElem?_toArray, List.getElem?_cons_zero, List.getElem?_cons_succ]; rfl)) (by kernel_rfl) (by kernel_rfl) (by kernel_rfl) ?qQ11x (Or.inl ⟨by rfl, ?qh11x⟩) hHeld ?qr11x
    case qQ11x => exact fun _ _ _ h => h
    case qh11x => (intro w hSw; (try dsimp only at hSw); go_simp; try with_reducible rfl)
    try simp only [Act.put, List.setIfInBounds_toArray, List.set_cons_zero, List.set_cons_succ]
    refine wpAnyH_take (i := 12) (v := ?qv12x) (by (simp only [List.getElem?_toArray, List.getElem?_cons_zero, List.getElem?_cons_succ]; rfl)) (by kernel_rfl) (by kernel_rfl) (by kernel_rfl) ?qQ12x (Or.inl ⟨by rfl, ?qh12x⟩) hHeld ?qr12x
    case qQ12x => exact fun _ _ _ h => h
    case qh12x => (intro w hSw; (try dsimp only at hSw); go_simp; try with_reducible rfl)
    try simp only [Act.put, List.setIfInBounds_toArray, List.set_cons_zero, List.set_cons_succ]
    refine wpAnyH_take (i := 13) (v := ?qv13x) (by (simp only [List.getElem?_toArray, List.getElem?_cons_zero, List.getElem?_cons_succ]; rfl)) (by kernel_rfl) (by kernel_rfl) (by kernel_rfl) ?qQ13x (Or.inl ⟨by rfl, ?qh13x⟩) hHeld ?qr13x
    case qQ13x => exact fun _ _ _ h => h
    case qh13x => (intro w hSw; (try dsimp only at hSw); go_simp; try with_reducible rfl)
    try simp only [Act.put, List.setIfInBounds_toArray, List.set_cons_zero, List.set_cons_succ]
    refine wpAnyH_take (i := 14) (v := ?qv14x) (by (simp only [List.getElem?_toArray, List.getElem?_cons_zero, List.getElem?_cons_succ]; rfl)) (by kernel_rfl) (by kernel_rfl) (by kernel_rfl) ?qQ14x (Or.inl ⟨by rfl, ?qh14x⟩) hHeld ?qr14x
    case qQ14x => exact fun _ _ _ h => h
    case qh14x => (intro w hSw; (try dsimp only at hSw); go_simp; try with_reducible rfl)
    try simp only [Act.put, List.setIfInBounds_toArray, List.set_cons_zero, List.set_cons_succ]
    refine wpAnyH_take (i := 16) (v := ?qv16x) (by (simp only [List.getElem?_toArray, List.getElem?_cons_zero, List.getElem?_cons_succ]; rfl)) (by kernel_rfl) (by kernel_rfl) (by kernel_rfl) ?qQ16x (Or.inl ⟨by rfl, ?qh16x⟩) hHeld ?qr16x
    case qQ16x => exact fun _ _ _ h => h
    case qh16x => (intro w hSw; (try dsimp only at hSw); go_simp; try with_reducible rfl)
    try simp only [Act.put, List.setIfInBounds_toArray, List.set_cons_zero, List.set_cons_succ]
    refine wpAnyH_ready (rs := [15]) (by kernel_rfl) (by simp) ?_
    refine AllReadyH.cons rfl (fun K hK => ?_) AllReadyH.nil
    go_simp
    refine hK.out _ _ ⟨s2, s0, s1⟩ (fun hHeld => ?_)
    clear hK K
    try simp only [Act.put, List.setIfInBounds_toArray, List.set_cons_zero, List.set_cons_succ]
    refine wpAnyH_ready (rs := [17]) (by kernel_rfl) (by simp) ?_
    refine AllReadyH.cons rfl (fun K hK => ?_) AllReadyH.nil
    go_simp
    go_wp2_with (first
  | ((refine (HF.out _).mono ?_); rintro e w1 ⟨r, m, rfl, hr, rfl⟩; rw [HX.out] at hr; (have HR := hidS hr); (obtain ⟨o1, o2⟩ := hr.ok); clear hr))
    refine hK.out _ _ ⟨s2, s0, s1⟩ (fun hHeld => ?_)
    clear hK K
    try simp only [Act.put, List.setIfInBounds_toArray, List.set_cons_zero, List.set_cons_succ]
    refine wpAnyH_take (i := 18) (v := ?qv18x) (by (simp only [List.getElem?_toArray, List.getElem?_cons_zero, List.getElem?_cons_succ]; rfl)) (by kernel_rfl) (by kernel_rfl) (by kernel_rfl) ?qQ18x (Or.inl ⟨by rfl, ?qh18x⟩) hHeld ?qr18x
    case qQ18x => exact fun _ _ _ h => h
    case qh18x => (intro w hSw; (try dsimp only at hSw); go_simp; try with_reducible rfl)
    try simp only [Act.put, List.setIfInBounds_toArray, List.set_cons_zero, List.set_cons_succ]
    refine wpAnyH_ready (rs := [19]) (by kernel_rfl) (by simp) ?_
    refine AllReadyH.cons rfl (fun K hK => ?_) AllReadyH.nil
    go_simp
    refine hK.out _ _ ⟨by go_keep, by go_keep, by go_keep⟩ (fun hHeld => ?_)
    clear hK K
    try simp only [Act.put, List.setIfInBounds_toArray, List.set_cons_zero, List.set_cons_succ]
    refine wpAnyH_done (by kernel_rfl) ?_ _
    go_wp2_with fail
    have HN1 := hidS (HPUT.out (1 + m) r HR.out)
    have HB1 := hidS ((HB.out.dN (1 + m)).set (j := a) hg (cx r))
    have hrow : ((wa.drewN (1 + m)).setCell ⟨g, a, none⟩ (.complex .f64 r.1 r.2)).cell? ⟨g, a, none⟩ = some (.complex .f64 r.1 r.2) := World.cell?_setCell_same _ _ _ (show (wa.drewN (1 + m)).cell? _ = some _ from hcx)
    have hff := HFIN.out r HR.out
    unfold finZ at hff
    have HFZ := hidS hff
    obtain ⟨t2, t0, t1⟩ := hHeld
    unfold cx at HN1 HB1
    obtain ⟨W1, hW1⟩ : ∃ W1, (wa.drewN (1 + m)).setCell ⟨g, a, none⟩ (.complex .f64 r.1 r.2) = W1 := ⟨_, rfl⟩
    rw [hW1] at HN1 HB1 hrow t2 t0 t1 ⊢
    clear hW1 HPUT hff s0 s1 s2 b0 b1 hcx hcz
    go_region_held_law (fun W : World => W.cell? ⟨s, 2, none⟩ = some (.slice (some ⟨g, 0, none⟩) n c) ∧ W.cell? ⟨w.heap.size, 0, none⟩ = some (.int .i64 (a : Int)) ∧ W.cell? ⟨g, a, none⟩ = some (.complex .f64 r.1 r.2)) (first | exact ⟨t2, t0, hrow⟩ | go_keep) (first
      | (go_at_call 59; (with_reducible refine (fin_any r.1 r.2 _ o1 o2).mono ?_); rintro e w' ⟨rfl, rfl⟩; rw [HFZ.out]))
    all_goals go_wp2_with fail
    all_goals go_ret
    all_goals exact ⟨rfl, HN1.out.drew, HB1.out.drew⟩
  · go_enter Tryz.func123, Tryz.ntmps123
    go_wp2
    refine wp_region_held_drew (S := (fun W : World => W.cell? ⟨s, 2, none⟩ = some (.slice (some ⟨g, 0, none⟩) n c) ∧ W.cell? ⟨w.heap.size, 0, none⟩ = some (.int .i64 (a : Int)) ∧ W.cell? ⟨w.heap.size, 1, none⟩ = some (.func (.func F) #[] #[]))) (by kernel_rfl) ⟨s2, s0, s1⟩ (fun hHeld => ?_)
    refine wpAnyH_take (i := 0) (v := ?qv0z) (by (simp only [List.getElem?_toArray, List.getElem?_cons_zero]; rfl)) (by kernel_rfl) (by kernel_rfl) (by kernel_rfl) ?qQ0z (Or.inl ⟨by rfl, ?qh0z⟩) hHeld ?qr0z
    case qQ0z => exact fun _ _ _ h => h
    case qh0z => (intro w hSw; (try dsimp only at hSw); go_simp; try with_reducible rfl)
    try simp only [Act.put, List.setIfInBounds_toArray, List.set_cons_zero, List.set_cons_succ]
    refine wpAnyH_take (i := 1) (v := ?qv1z) (by (simp only [List.getElem?_toArray, List.getElem?_cons_zero, List.getElem?_cons_succ]; rfl)) (by kernel_rfl) (by kernel_rfl) (by kernel_rfl) ?qQ1z (Or.inl ⟨by rfl, ?qh1z⟩) hHeld ?qr1z
    case qQ1z => exact fun _ _ _ h => h
    case qh1z => (intro w hSw; (try dsimp only at hSw); go_simp; try with_reducible rfl)
    try simp only [Act.put, List.setIfInBounds_toArray, List.set_cons_zero, List.set_cons_succ]
    refine wpAnyH_take (i := 2) (v := ?qv2z) (by (simp only [List.getElem?_toArray, List.getElem?_cons_zero, List.getElem?_cons_succ]; rfl)) (by kernel_rfl) (by kernel_rfl) (by kernel_rfl) ?qQ2z (Or.inl ⟨by rfl, ?qh2z⟩) hHeld ?qr2z
    case qQ2z => exact fun _ _ _ h => h
    case qh2z => (intro w hSw; (try dsimp only at hSw); go_simp; try with_reducible rfl)
    try simp only [Act.put, List.setIfInBounds_toArray, List.set_cons_zero, List.set_cons_succ]
    refine wpAnyH_take (i := 3) (v := ?qv3z) (by (simp only [List.getElem?_toArray, List.getElem?_cons_zero, List.getElem?_cons_succ]; rfl)) (by kernel_rfl) (by kernel_rfl) (by kernel_rfl) ?qQ3z (Or.inl ⟨by rfl, ?qh3z⟩) hHeld ?qr3z
    case qQ3z => exact fun _ _ _ h => h
    case qh3z => (intro w hSw; (try dsimp only at hSw); go_simp; try with_reducible rfl)
    try simp only [Act.put, List.setIfInBounds_toArray, List.set_cons_zero, List.set_cons_succ]
    refine wpAnyH_take (i := 4) (v := ?qv4z) (by (simp only [List.getElem?_toArray, List.getElem?_cons_zero, List.getElem?_cons_succ]; rfl)) (by kernel_rfl) (by kernel_rfl) (by kernel_rfl) ?qQ4z (Or.inl ⟨by rfl, ?qh4z⟩) hHeld ?qr4z
    case qQ4z => exact fun _ _ _ h => h
    case qh4z => (intro w hSw; (try dsimp only at hSw); go_simp; try with_reducible rfl)
    try simp only [Act.put, List.setIfInBounds_toArray, List.set_cons_zero, List.set_cons_succ]
    refine wpAnyH_take (i := 5) (v := ?qv5z) (by (simp only [List.getElem?_toArray, List.getElem?_cons_zero, List.getElem?_cons_succ]; rfl)) (by kernel_rfl) (by kernel_rfl) (by kernel_rfl) ?qQ5z (Or.inl ⟨by rfl, ?qh5z⟩) hHeld ?qr5z
    case qQ5z => exact fun _ _ _ h => h
    case qh5z => (intro w hSw; (try dsimp only at hSw); go_simp; try with_reducible rfl)
    try simp only [Act.put, List.setIfInBounds_toArray, List.set_cons_zero, List.set_cons_succ]
    refine wpAnyH_take (i := 6) (v := ?qv6z) (by (simp only [List.getElem?_toArray, List.getElem?_cons_zero, List.getElem?_cons_succ]; rfl)) (by kernel_rfl) (by kernel_rfl) (by kernel_rfl) ?qQ6z (Or.inl ⟨by rfl, ?qh6z⟩) hHeld ?qr6z
    case qQ6z => exact fun _ _ _ h => h
    case qh6z => (intro w hSw; (try dsimp only at hSw); go_simp; try with_reducible rfl)
    try simp only [Act.put, List.setIfInBounds_toArray, List.set_cons_zero, List.set_cons_succ]
    refine wpAnyH_take (i := 7) (v := ?qv7z) (by (simp only [List.getElem?_toArray, List.getElem?_cons_zero, List.getElem?_cons_succ]; rfl)) (by kernel_rfl) (by kernel_rfl) (by kernel_rfl) ?qQ7z (Or.inl ⟨by rfl, ?qh7z⟩) hHeld ?qr7z
    case qQ7z => exact fun _ _ _ h => h
    case qh7z => (intro w hSw; (try dsimp only at hSw); go_simp; try with_reducible rfl)
    try simp only [Act.put, List.setIfInBounds_toArray, List.set_cons_zero, List.set_cons_succ]
    refine wpAnyH_take (i := 8) (v := ?qv8z) (by (simp only [List.getElem?_toArray, List.getElem?_cons_zero, List.getElem?_cons_succ]; rfl)) (by kernel_rfl) (by kernel_rfl) (by kernel_rfl) ?qQ8z (Or.inl ⟨by rfl, ?qh8z⟩) hHeld ?qr8z
    case qQ8z => exact fun _ _ _ h => h
    case qh8z => (intro w hSw; (try dsimp only at hSw); go_simp; try with_reducible rfl)
    try simp only [Act.put, List.setIfInBounds_toArray, List.set_cons_zero, List.set_cons_succ]
    refine wpAnyH_take (i := 9) (v := ?qv9z) (by (simp only [List.getElem?_toArray, List.getElem?_cons_zero, List.getElem?_cons_succ]; rfl)) (by kernel_rfl) (by kernel_rfl) (by kernel_rfl) ?qQ9z (Or.inl ⟨by rfl, ?qh9z⟩) hHeld ?qr9z
    case qQ9z => exact fun _ _ _ h => h
    case qh9z => (intro w hSw; (try dsimp only at hSw); go_simp; try with_reducible rfl)
    try simp only [Act.put, List.setIfInBounds_toArray, List.set_cons_zero, List.set_cons_succ]
    refine wpAnyH_take (i := 10) (v := ?qv10z) (by (simp only [List.getElem?_toArray, List.getElem?_cons_zero, List.getElem?_cons_succ]; rfl)) (by kernel_rfl) (by kernel_rfl) (by kernel_rfl) ?qQ10z (Or.inl ⟨by rfl, ?qh10z⟩) hHeld ?qr10z
    case qQ10z => exact fun _ _ _ h => h
    case qh10z => (intro w hSw; (try dsimp only at hSw); go_simp; try with_reducible rfl)
    try simp only [Act.put, List.setIfInBounds_toArray, List.set_cons_zero, List.set_cons_succ]
    refine wpAnyH_take (i := 11) (v := ?qv11z) (by (simp only [List.getElem?_toArray, List.getElem?_cons_zero, List.getElem?_cons_succ]; rfl)) (by kernel_rfl) (by kernel_rfl) (by kernel_rfl) ?qQ11z (Or.inl ⟨by rfl, ?qh11z⟩) hHeld ?qr11z
    case qQ11z => exact fun _ _ _ h => h
    case qh11z => (intro w hSw; (try dsimp only at hSw); go_simp; try with_reducible rfl)
    try simp only [Act.put, List.setIfInBounds_toArray, List.set_cons_zero, List.set_cons_succ]
    refine wpAnyH_take (i := 12) (v := ?qv12z) (by (simp only [List.getElem?_toArray, List.getElem?_cons_zero, List.getElem?_cons_succ]; rfl)) (by kernel_rfl) (by kernel_rfl) (by kernel_rfl) ?qQ12z (Or.inl ⟨by rfl, ?qh12z⟩) hHeld ?qr12z
    case qQ12z => exact fun _ _ _ h => h
    case qh12z => (intro w hSw; (try dsimp only at hSw); go_simp; try with_reducible rfl)
    try simp only [Act.put, List.setIfInBounds_toArray, List.set_cons_zero, List.set_cons_succ]
    refine wpAnyH_take (i := 13) (v := ?qv13z) (by (simp only [List.getElem?_toArray, List.getElem?_cons_zero, List.getElem?_cons_succ]; rfl)) (by kernel_rfl) (by kernel_rfl) (by kernel_rfl) ?qQ13z (Or.inl ⟨by rfl, ?qh13z⟩) hHeld ?qr13z
    case qQ13z => exact fun _ _ _ h => h
    case qh13z => (intro w hSw; (try dsimp only at hSw); go_simp; try with_reducible rfl)
    try simp only [Act.put, List.setIfInBounds_toArray, List.set_cons_zero, List.set_cons_succ]
    refine wpAnyH_take (i := 14) (v := ?qv14z) (by (simp only [List.getElem?_toArray, List.getElem?_cons_zero, List.getElem?_cons_succ]; rfl)) (by kernel_rfl) (by kernel_rfl) (by kernel_rfl) ?qQ14z (Or.inl ⟨by rfl, ?qh14z⟩) hHeld ?qr14z
    case qQ14z => exact fun _ _ _ h => h
    case qh14z => (intro w hSw; (try dsimp only at hSw); go_simp; try with_reducible rfl)
    try simp only [Act.put, List.setIfInBounds_toArray, List.set_cons_zero, List.set_cons_succ]
    refine wpAnyH_take (i := 16) (v := ?qv16z) (by (simp only [List.getElem?_toArray, List.getElem?_cons_zero, List.getElem?_cons_succ]; rfl)) (by kernel_rfl) (by kernel_rfl) (by kernel_rfl) ?qQ16z (Or.inl ⟨by rfl, ?qh16z⟩) hHeld ?qr16z
    case qQ16z => exact fun _ _ _ h => h
    case qh16z => (intro w hSw; (try dsimp only at hSw); go_simp; try with_reducible rfl)
    try simp only [Act.put, List.setIfInBounds_toArray, List.set_cons_zero, List.set_cons_succ]
    refine wpAnyH_ready (rs := [15]) (by kernel_rfl) (by simp) ?_
    refine AllReadyH.cons rfl (fun K hK => ?_) AllReadyH.nil
    go_simp
    refine hK.out _ _ ⟨s2, s0, s1⟩ (fun hHeld => ?_)
    clear hK K
    try simp only [Act.put, List.setIfInBounds_toArray, List.set_cons_zero, List.set_cons_succ]
    refine wpAnyH_ready (rs := [17]) (by kernel_rfl) (by simp) ?_
    refine AllReadyH.cons rfl (fun K hK => ?_) AllReadyH.nil
    go_simp
    go_wp2_with (first
  | ((refine (HF.out _).mono ?_); rintro e w1 ⟨r, m, rfl, hr, rfl⟩; rw [HX.out] at hr; (have HR := hidS hr); (obtain ⟨o1, o2⟩ := hr.ok); clear hr))
    refine hK.out _ _ ⟨s2, s0, s1⟩ (fun hHeld => ?_)
    clear hK K
    try simp only [Act.put, List.setIfInBounds_toArray, List.set_cons_zero, List.set_cons_succ]
    refine wpAnyH_take (i := 18) (v := ?qv18z) (by (simp only [List.getElem?_toArray, List.getElem?_cons_zero, List.getElem?_cons_succ]; rfl)) (by kernel_rfl) (by kernel_rfl) (by kernel_rfl) ?qQ18z (Or.inl ⟨by rfl, ?qh18z⟩) hHeld ?qr18z
    case qQ18z => exact fun _ _ _ h => h
    case qh18z => (intro w hSw; (try dsimp only at hSw); go_simp; try with_reducible rfl)
    try simp only [Act.put, List.setIfInBounds_toArray, List.set_cons_zero, List.set_cons_succ]
    refine wpAnyH_ready (rs := [19]) (by kernel_rfl) (by simp) ?_
    refine AllReadyH.cons rfl (fun K hK => ?_) AllReadyH.nil
    go_simp
    refine hK.out _ _ ⟨by go_keep, by go_keep, by go_keep⟩ (fun hHeld => ?_)
    clear hK K
    try simp only [Act.put, List.setIfInBounds_toArray, List.set_cons_zero, List.set_cons_succ]
    refine wpAnyH_done (by kernel_rfl) ?_ _
    go_wp2_with fail
    have HN1 := hidS (HPUT.out (1 + m) r HR.out)
    have HB1 := hidS ((HB.out.dN (1 + m)).set (j := a) hg (cx r))
    have hrow : ((wa.drewN (1 + m)).setCell ⟨g, a, none⟩ (.complex .f64 r.1 r.2)).cell? ⟨g, a, none⟩ = some (.complex .f64 r.1 r.2) := World.cell?_setCell_same _ _ _ (show (wa.drewN (1 + m)).cell? _ = some _ from hcx)
    have hff := HFIN.out r HR.out
    unfold finZ at hff
    have HFZ := hidS hff
    obtain ⟨t2, t0, t1⟩ := hHeld
    unfold cx at HN1 HB1
    obtain ⟨W1, hW1⟩ : ∃ W1, (wa.drewN (1 + m)).setCell ⟨g, a, none⟩ (.complex .f64 r.1 r.2) = W1 := ⟨_, rfl⟩
    rw [hW1] at HN1 HB1 hrow t2 t0 t1 ⊢
    clear hW1 HPUT hff s0 s1 s2 b0 b1 hcx hcz
    go_region_held_law (fun W : World => W.cell? ⟨s, 2, none⟩ = some (.slice (some ⟨g, 0, none⟩) n c) ∧ W.cell? ⟨w.heap.size, 0, none⟩ = some (.int .i64 (a : Int)) ∧ W.cell? ⟨g, a, none⟩ = some (.complex .f64 r.1 r.2)) (first | exact ⟨t2, t0, hrow⟩ | go_keep) (first
      | (go_at_call 59; (with_reducible refine (fin_any r.1 r.2 _ o1 o2).mono ?_); rintro e w' ⟨rfl, rfl⟩; rw [HFZ.out]))
    all_goals go_wp2_with fail
    all_goals go_ret
    all_goals exact ⟨rfl, HN1.out.drew, HB1.out.drew⟩
end Go.Proofs.YtmpkcioeodlbcaaGreatDoor
