/-
  Several texts in one: Yc Yd Lwa Lwb Lwc Lwd Lwe Lwg Sla Lwf.
-/
import Derived.Test.YtmpkcioeodlbcaaGreatDoorK20
import Derived.Test.YtmpkcioeodlbcaaGreatDoorK32
import Derived.Test.YtmpkcioeodlbcaaGreatDoorK33
import Derived.Laws.CopyOwn
import Derived.RegionTactic
import Derived.Deep.RegionWith
import Derived.Deep.RegionHeldLaw
import Derived.Deep.DeepCutAuto
import Derived.Deep.RegionLaw
namespace Go.Proofs.YtmpkcioeodlbcaaGreatDoor
open Fl RowKit
def ci (z : Int) : Value := .int .i64 z
/-- what a list of integers in memory reads as -/
def Qi (w : World) (ao : Option Addr) (zs : List Int) : Prop :=
  ∀ k, k < zs.length → ∃ b off, ao = some ⟨b, off, none⟩ ∧ b < w.heap.size ∧ w.cell? ⟨b, off + k, none⟩ = some (.int .i64 (iat zs k))
theorem Qi.below {w w' : World} {ao : Option Addr} {zs : List Int} (h : Qi w ao zs) (hb : Below w.heap.size w w') : Qi w' ao zs := by
  intro k hk
  obtain ⟨b, off, h1, h2, h3⟩ := h k hk
  exact ⟨b, off, h1, Nat.lt_of_lt_of_le h2 hb.size, (hb.cell (by exact h2)).trans h3⟩
theorem Qi.drewN {w : World} {ao : Option Addr} {zs : List Int} (h : Qi w ao zs) (n : Nat) : Qi (w.drewN n) ao zs := h
theorem Tryz.infoI : (Tryz.prog.info? 3).map (fun i => (i.zero, i.size, i.bytes)) = some (some (.int .i64 0), 1, 8) := by kernel_rfl
theorem Tryz.infoIs : (Tryz.prog.info? 3).map (·.size) = some 1 := by kernel_rfl
/-- a row of integers that is owned -/
structure Ir (w : World) (b : Nat) (v : Value) (n : Nat) (zs : List Int) : Prop where
  len : zs.length = n
  own : w.ownsRow b 3 1 v n (zs.map ci)
theorem Ir.below {w w' : World} {b n : Nat} {v : Value} {zs : List Int} (h : Ir w b v n zs) (hb : Below w.heap.size w w') : Ir w' b v n zs := ⟨h.len, own_below h.own hb⟩
theorem Ir.drewN {w : World} {b n : Nat} {v : Value} {zs : List Int} (h : Ir w b v n zs) (m : Nat) : Ir (w.drewN m) b v n zs := ⟨h.len, h.own⟩
theorem Ir.base {w : World} {b b' n : Nat} {v : Value} {zs : List Int} (h : Ir w b v n zs) (hb : b' ≤ b) : Ir w b' v n zs := ⟨h.len, own_base h.own hb⟩
theorem Ir.qi {w : World} {b g n c : Nat} {zs : List Int} (h : Ir w b (.slice (some ⟨g, 0, none⟩) n c) n zs) : Qi w (some ⟨g, 0, none⟩) zs := by
  obtain ⟨rfl, h2⟩ := h
  intro k hk
  refine ⟨g, 0, rfl, (h2.lt g rfl).2, ?_⟩
  rw [Nat.zero_add, h2.cellAt k (by omega), List.getElem?_map, iat_lt hk]; rfl
theorem Ir.lt {w : World} {b n g c : Nat} {zs : List Int} (h : Ir w b (.slice (some ⟨g, 0, none⟩) n c) n zs) : b ≤ g ∧ g < w.heap.size := h.own.lt g rfl
theorem Ir.set {w : World} {b g n c : Nat} {zs : List Int} (h : Ir w b (.slice (some ⟨g, 0, none⟩) n c) n zs) (k : Nat) (v : Int) : Ir (w.setCell ⟨g, k, none⟩ (.int .i64 v)) b (.slice (some ⟨g, 0, none⟩) n c) n (zs.set k v) := by
  refine ⟨by simpa using h.len, ?_⟩
  have := (h.own.stored k (ci v)).1
  rw [← List.map_set] at this
  exact this

theorem hid_o {p : Prop} (h : p) : Hid p := h
end Go.Proofs.YtmpkcioeodlbcaaGreatDoor
namespace Go.Proofs.YtmpkcioeodlbcaaGreatDoor
open Fl RowKit
theorem splice_all {cur cs : List Value} (h : cur.length = cs.length) : splice cur 0 cs = cs := by
  unfold splice
  rw [List.take_zero, List.nil_append, Nat.zero_add, ← h, List.drop_length, List.append_nil]
theorem ir_of {w : World} {b g n : Nat} {zs : List Int} (hn : zs.length = n) (hm : n ≤ maxLen) (hb : b ≤ g) (h : w.heap[g]? = some (.cells (zs.map ci).toArray 3 (0, 0))) : Ir w b (.slice (some ⟨g, 0, none⟩) n n) n zs := by
  refine ⟨hn, by simp [hn], .inr ⟨g, n, _, rfl, hb, h, Nat.le_refl _, hm, by simp [hn], ?_⟩⟩
  rw [List.toList_toArray, Nat.mul_one]
  exact List.take_of_length_le (by simp [hn])
theorem src_at {w : World} {ao : Option Addr} {zs : List Int} (hc : Qi w ao zs) (h0 : 0 < (zs.map ci).length) : ∃ ad, ao = some ad ∧ ∀ j v, (zs.map ci)[j]? = some v → w.cell? (ad.add j) = some v := by
  rw [List.length_map] at h0
  obtain ⟨b, off, rfl, _, _⟩ := hc 0 h0
  refine ⟨_, rfl, fun j v hj => ?_⟩
  rw [List.getElem?_map] at hj
  by_cases hk : j < zs.length
  · rw [iat_lt hk] at hj
    cases hj
    obtain ⟨b', off', h1, _, h3⟩ := hc j hk
    cases h1
    unfold Addr.add
    split
    · rename_i e0
      rw [e0, Nat.add_zero] at h3
      rw [e0]; exact h3
    · exact h3
  · rw [List.getElem?_eq_none (by omega)] at hj; cases hj
theorem one_ci {zs : List Int} : ∀ v ∈ zs.map ci, v.oneCell' = true := by
  intro v hv
  obtain ⟨z, _, rfl⟩ := List.mem_map.1 hv
  rfl
theorem made_cur {w : World} {g n : Nat} {xs : List Value} (h : w.ownsRow g 3 1 (.slice (some ⟨g, 0, none⟩) n n) n xs) : ∃ cur : List Value, w.heap[g]? = some (.cells cur.toArray 3 (0, 0)) ∧ cur.length = n := by
  rcases h.2 with ⟨hv, _⟩ | ⟨g', cap, cur, hv, _, hg, _, _, hsz, _⟩
  · cases hv
  · cases hv
    exact ⟨cur.toList, by rw [hg], by rw [Array.length_toList, hsz, Nat.mul_one]⟩
end Go.Proofs.YtmpkcioeodlbcaaGreatDoor
namespace Go.Proofs.YtmpkcioeodlbcaaGreatDoor
open Fl RowKit
/-- a row by a function of its places -/
def ro (n : Nat) (f : Nat → Cw) : List Cw := (List.range n).map f
theorem ro_len (n : Nat) (f : Nat → Cw) : (ro n f).length = n := by simp [ro]
theorem ro_at {n j : Nat} (f : Nat → Cw) (h : j < n) : zat (ro n f) j = f j := by simp [ro, zat, List.getD_eq_getElem?_getD, h]
def upz (f : Nat → Cw) (k : Nat) (v : Cw) (j : Nat) : Cw := if j = k then v else f j
theorem upz_self (f : Nat → Cw) (k : Nat) (v : Cw) : upz f k v k = v := if_pos rfl
theorem upz_ne (f : Nat → Cw) {k j : Nat} (v : Cw) (h : j ≠ k) : upz f k v j = f j := if_neg h
theorem ro_set (n : Nat) (f : Nat → Cw) (k : Nat) (v : Cw) : (ro n f).set k v = ro n (upz f k v) := by
  apply List.ext_getElem?
  intro i
  by_cases hi : i < n
  · by_cases e : k = i
    · subst e
      rw [List.getElem?_set_self (by rw [ro_len]; exact hi)]
      simp [ro, hi, upz]
    · rw [List.getElem?_set_ne e]
      simp [ro, hi, upz, Ne.symm e]
  · rw [List.getElem?_eq_none (by simp [ro_len]; omega), List.getElem?_eq_none (by simp [ro_len]; omega)]
theorem ro_congr {n : Nat} {f g : Nat → Cw} (h : ∀ j, j < n → f j = g j) : ro n f = ro n g := by
  unfold ro
  exact List.map_congr_left (fun j hj => h j (List.mem_range.1 hj))
theorem ro_ok {n : Nat} {f : Nat → Cw} (h : ∀ j, j < n → okz (f j)) : okl (ro n f) := by
  intro k
  by_cases hk : k < n
  · rw [ro_at f hk]; exact h k hk
  · rw [zat_ge (by rw [ro_len]; omega)]; exact ⟨by decide, by decide⟩
theorem ro_of {n : Nat} {xs : List Cw} (h : xs.length = n) : xs = ro n (zat xs) := by
  apply List.ext_getElem?
  intro i
  by_cases hi : i < n
  · rw [zat_lt (by omega)]; simp [ro, hi]
  · rw [List.getElem?_eq_none (by omega), List.getElem?_eq_none (by rw [ro_len]; omega)]
/-- a list of integers by a function of its places -/
def ri (n : Nat) (o : Nat → Nat) : List Int := (List.range n).map (fun i => (o i : Int))
theorem ri_len (n : Nat) (o : Nat → Nat) : (ri n o).length = n := by simp [ri]
theorem ri_at {n j : Nat} (o : Nat → Nat) (h : j < n) : iat (ri n o) j = (o j : Int) := by simp [ri, iat, List.getD_eq_getElem?_getD, h]
theorem ri_set (n : Nat) (o : Nat → Nat) (k v : Nat) : (ri n o).set k (v : Int) = ri n (fun j => if j = k then v else o j) := by
  apply List.ext_getElem?
  intro i
  by_cases hi : i < n
  · by_cases e : k = i
    · subst e
      rw [List.getElem?_set_self (by rw [ri_len]; exact hi)]
      simp [ri, hi]
    · rw [List.getElem?_set_ne e]
      simp [ri, hi, Ne.symm e]
  · rw [List.getElem?_eq_none (by simp [ri_len]; omega), List.getElem?_eq_none (by simp [ri_len]; omega)]
theorem ri_congr {n : Nat} {f g : Nat → Nat} (h : ∀ j, j < n → f j = g j) : ri n f = ri n g := by
  unfold ri
  exact List.map_congr_left (fun j hj => by rw [h j (List.mem_range.1 hj)])

def divZ (X Y : Cn) : Cn := (divRe X.1 X.2 Y.1 Y.2, divIm X.1 X.2 Y.1 Y.2)
/-- what becomes of a row, place by place -/
def redZ (a p : Nat → Cw) (k j : Nat) : Cn :=
  if j < k then anz (a j) else if j = k then divZ (anz (a k)) (anz (p k)) else subZ (anz (a j)) (mulZ (divZ (anz (a k)) (anz (p k))) (anz (p j)))
theorem redZ_lt {a p : Nat → Cw} {k j : Nat} (h : j < k) : redZ a p k j = anz (a j) := if_pos h
theorem redZ_eq (a p : Nat → Cw) (k : Nat) : redZ a p k k = divZ (anz (a k)) (anz (p k)) := by unfold redZ; rw [if_neg (by omega), if_pos rfl]
theorem redZ_gt {a p : Nat → Cw} {k j : Nat} (h : k < j) : redZ a p k j = subZ (anz (a j)) (mulZ (divZ (anz (a k)) (anz (p k))) (anz (p j))) := by unfold redZ; rw [if_neg (by omega), if_neg (by omega)]
def toW (Z : Cn) : Cw := (Z.1.getD 0, Z.2.getD 0)
def finO (o : Option Nat) : Bool := match o with | some x => finB x | none => false
def finN (Z : Cn) : Bool := finO Z.1 && finO Z.2
theorem finB_nan {x : Nat} (h : nan x = true) : finB x = false := by
  cases e : finB x
  · rfl
  · rw [fin_nan e] at h; cases h
theorem fin_rep {o : Option Nat} {x : Nat} (h : rep o x) : finB x = finO o := by
  obtain ⟨_, h⟩ := h
  unfold ans at h
  split at h
  · rename_i hn; subst h; exact finB_nan hn
  · subst h; rfl
theorem fin_repz {Z : Cn} {z : Cw} (h : repz Z z) : finZ z = finN Z := by
  unfold finZ finN; rw [fin_rep h.1, fin_rep h.2]
theorem toW_rep {Z : Cn} {z : Cw} (h : repz Z z) (hf : finN Z = true) : toW Z = z := by
  unfold finN at hf
  rw [Bool.and_eq_true] at hf
  obtain ⟨Z1, Z2⟩ := Z
  have key : ∀ {o : Option Nat} {x : Nat}, rep o x → finO o = true → o.getD 0 = x := by
    intro o x hr hf
    cases o with
    | none => cases hf
    | some y => exact (rep_is hr rfl).symm
  exact Prod.ext (key h.1 hf.1) (key h.2 hf.2)

/-- a matrix's first heaviest number of a column, from the row k on: how far below, and its weight -/
def pvt (n : Nat) (M : Nat → Nat → Cw) (k : Nat) : Nat × Nat := fstG (fun i => wt (M (k + i) k)) (n - k)
def swM (M : Nat → Nat → Cw) (k q : Nat) : Nat → Nat → Cw := fun i => if i = k then M q else if i = q then M k else M i
def swO (o : Nat → Nat) (k q : Nat) : Nat → Nat := fun i => if i = k then o q else if i = q then o k else o i
theorem swM_self (M : Nat → Nat → Cw) (k : Nat) : swM M k k = M := by
  funext i
  unfold swM
  by_cases h : i = k
  · subst h; simp
  · simp [h]
theorem swO_self (o : Nat → Nat) (k : Nat) : swO o k k = o := by
  funext i
  unfold swO
  by_cases h : i = k
  · subst h; simp
  · simp [h]
def redM (M : Nat → Nat → Cw) (k : Nat) : Nat → Nat → Cw := fun i j => if i ≤ k then M i j else toW (redZ (M i) (M k) k j)
def goodB (n : Nat) (M : Nat → Nat → Cw) (k : Nat) : Bool := allB (fun i => decide (i ≤ k) || allB (fun j => decide (j < k) || finN (redZ (M i) (M k) k j)) n) n
theorem allB_iff {p : Nat → Bool} {n : Nat} : allB p n = true ↔ ∀ i, i < n → p i = true := by
  induction n with
  | zero => exact ⟨fun _ i hi => absurd hi (by omega), fun _ => rfl⟩
  | succ n ih =>
    unfold allB
    rw [Bool.and_eq_true, ih]
    constructor
    · rintro ⟨h1, h2⟩ i hi
      by_cases e : i = n
      · subst e; exact h2
      · exact h1 i (by omega)
    · intro h
      exact ⟨fun i hi => h i (by omega), h n (by omega)⟩
theorem good_iff {n : Nat} {M : Nat → Nat → Cw} {k : Nat} : goodB n M k = true ↔ ∀ i, k < i → i < n → ∀ j, k ≤ j → j < n → finN (redZ (M i) (M k) k j) = true := by
  unfold goodB
  rw [allB_iff]
  constructor
  · intro h i hk hi j hkj hj
    have := h i hi
    rw [decide_eq_false (by omega), Bool.false_or, allB_iff] at this
    have := this j hj
    rw [decide_eq_false (by omega), Bool.false_or] at this
    exact this
  · intro h i hi
    by_cases hk : i ≤ k
    · rw [decide_eq_true hk]; rfl
    · rw [decide_eq_false hk, Bool.false_or, allB_iff]
      intro j hj
      by_cases hkj : j < k
      · rw [decide_eq_true hkj]; rfl
      · rw [decide_eq_false hkj, Bool.false_or]
        exact h i (by omega) hi j (by omega) hj
/-- what was eliminated so far: the rows, which row stands where, the sign -/
structure Es where
  M : Nat → Nat → Cw
  o : Nat → Nat
  s : Int
def stp (n k : Nat) (S : Es) : Int × Es :=
  if (pvt n S.M k).2 = 0 then (7, S)
  else if goodB n (swM S.M k (k + (pvt n S.M k).1)) k = true then (0, ⟨redM (swM S.M k (k + (pvt n S.M k).1)) k, swO S.o k (k + (pvt n S.M k).1), if (pvt n S.M k).1 = 0 then S.s else -S.s⟩)
  else (6, S)
def elm (n : Nat) (M0 : Nat → Nat → Cw) : Nat → (Int × Nat) × Es
  | 0 => ((0, 0), ⟨M0, fun i => i, 1⟩)
  | k + 1 => if (elm n M0 k).1.1 = 0 then (((stp n k (elm n M0 k).2).1, if (stp n k (elm n M0 k).2).1 = 0 then 0 else k), (stp n k (elm n M0 k).2).2) else elm n M0 k

def okM (n : Nat) (M : Nat → Nat → Cw) : Prop := ∀ i j, i < n → j < n → okz (M i j)
def finM (n : Nat) (M : Nat → Nat → Cw) : Prop := ∀ i j, i < n → j < n → finZ (M i j) = true
theorem pvt_lt {n : Nat} {M : Nat → Nat → Cw} {k : Nat} (h0 : ¬ (pvt n M k).2 = 0) : k + (pvt n M k).1 < n := by
  have hk := fstG_at (fun i => wt (M (k + i) k)) (n - k)
  unfold pvt at *
  rcases hk with ⟨h, _⟩ | ⟨_, h, _⟩
  · exact absurd h h0
  · omega
theorem swM_ok {n : Nat} {M : Nat → Nat → Cw} (h : okM n M) {k q : Nat} (hk : k < n) (hq : q < n) : okM n (swM M k q) := by
  intro i j hi hj
  unfold swM
  split
  · exact h q j hq hj
  · split
    · exact h k j hk hj
    · exact h i j hi hj
theorem swM_fin {n : Nat} {M : Nat → Nat → Cw} (h : finM n M) {k q : Nat} (hk : k < n) (hq : q < n) : finM n (swM M k q) := by
  intro i j hi hj
  unfold swM
  split
  · exact h q j hq hj
  · split
    · exact h k j hk hj
    · exact h i j hi hj

/-- a Lower in memory: the struct at p, its rows' block gr, the order's block go, the rows' blocks -/
structure Lo (w : World) (b p n gr go : Nat) (bl : Nat → Nat) (M : Nat → Nat → Cw) (o : Nat → Nat) (s : Int) : Prop where
  v : V3 p (.slice (some ⟨gr, 0, none⟩) n n) (.slice (some ⟨go, 0, none⟩) n n) (.int .i64 s) w
  rows : w.ownsRow b 32 1 (.slice (some ⟨gr, 0, none⟩) n n) n ((List.range n).map fun i => .slice (some ⟨bl i, 0, none⟩) n n)
  row : ∀ i, i < n → Rw w b (.slice (some ⟨bl i, 0, none⟩) n n) n (ro n (M i))
  ord : Ir w b (.slice (some ⟨go, 0, none⟩) n n) n (ri n o)
  ge : b ≤ p
  inj : ∀ i j, i < n → j < n → bl i = bl j → i = j
  ap : ∀ i, i < n → bl i ≠ p ∧ bl i ≠ gr ∧ bl i ≠ go
  ap2 : gr ≠ p ∧ go ≠ p ∧ gr ≠ go
theorem Lo.at {w w' : World} {b p n gr go : Nat} {bl : Nat → Nat} {M : Nat → Nat → Cw} {o : Nat → Nat} {s : Int} (h : Lo w b p n gr go bl M o s) (hs : w.heap.size ≤ w'.heap.size) (hk : ∀ g, b ≤ g → g < w.heap.size → w'.heap[g]? = w.heap[g]?) : Lo w' b p n gr go bl M o s := by
  have hp := hk p h.ge h.v.lt
  have hv : ∀ j, w'.cell? ⟨p, j, none⟩ = w.cell? ⟨p, j, none⟩ := fun j => World.cell?_of_block hp
  have hf : ∀ j, w'.frozen? ⟨p, j, none⟩ = w.frozen? ⟨p, j, none⟩ := fun j => World.frozen?_of_block hp
  refine ⟨⟨Nat.lt_of_lt_of_le h.v.lt hs, (hv 0).trans h.v.c0, (hv 1).trans h.v.c1, (hv 2).trans h.v.c2, (hf 0).trans h.v.f0, (hf 1).trans h.v.f1, (hf 2).trans h.v.f2⟩, own_at h.rows (fun g hg => ?_), fun i hi => ⟨(h.row i hi).len, own_at (h.row i hi).own (fun g hg => ?_)⟩, ⟨h.ord.len, own_at h.ord.own (fun g hg => ?_)⟩, h.ge, h.inj, h.ap, h.ap2⟩
  · exact hk g (h.rows.lt g hg).1 (h.rows.lt g hg).2
  · exact hk g ((h.row i hi).own.lt g hg).1 ((h.row i hi).own.lt g hg).2
  · exact hk g (h.ord.own.lt g hg).1 (h.ord.own.lt g hg).2
theorem Lo.below {w w' : World} {b p n gr go : Nat} {bl : Nat → Nat} {M : Nat → Nat → Cw} {o : Nat → Nat} {s : Int} (h : Lo w b p n gr go bl M o s) (hb : Below w.heap.size w w') : Lo w' b p n gr go bl M o s :=
  h.at hb.size (fun g _ hg => hb.block g hg)
theorem Lo.drewN {w : World} {b p n gr go : Nat} {bl : Nat → Nat} {M : Nat → Nat → Cw} {o : Nat → Nat} {s : Int} (h : Lo w b p n gr go bl M o s) (m : Nat) : Lo (w.drewN m) b p n gr go bl M o s :=
  h.at (Nat.le_refl _) (fun _ _ _ => rfl)
theorem Lo.cell {w : World} {b p n gr go : Nat} {bl : Nat → Nat} {M : Nat → Nat → Cw} {o : Nat → Nat} {s : Int} (h : Lo w b p n gr go bl M o s) {i : Nat} (hi : i < n) : w.cell? ⟨gr, i, none⟩ = some (.slice (some ⟨bl i, 0, none⟩) n n) := by
  rw [h.rows.cellAt i (by omega)]
  simp [hi]
theorem Lo.cellM {w : World} {b p n gr go : Nat} {bl : Nat → Nat} {M : Nat → Nat → Cw} {o : Nat → Nat} {s : Int} (h : Lo w b p n gr go bl M o s) {i j : Nat} (hi : i < n) (hj : j < n) : w.cell? ⟨bl i, j, none⟩ = some (cx (M i j)) := by
  rw [(h.row i hi).own.cellAt j (by omega)]
  simp [ro, hj]
/-- what was written in one row alone -/
theorem Lo.put {w w' : World} {b p n gr go : Nat} {bl : Nat → Nat} {M : Nat → Nat → Cw} {o : Nat → Nat} {s : Int} (h : Lo w b p n gr go bl M o s) {i : Nat} {f : Nat → Cw} (hi : i < n) (ho : OnlyRow (bl i) w w') (hr : Rw w' b (.slice (some ⟨bl i, 0, none⟩) n n) n (ro n f)) :
    Lo w' b p n gr go bl (fun j => if j = i then f else M j) o s := by
  have hp : w'.heap[p]? = w.heap[p]? := ho.block p (fun e => (h.ap i hi).1 e.symm)
  have hv : ∀ j, w'.cell? ⟨p, j, none⟩ = w.cell? ⟨p, j, none⟩ := fun j => World.cell?_of_block hp
  have hf : ∀ j, w'.frozen? ⟨p, j, none⟩ = w.frozen? ⟨p, j, none⟩ := fun j => World.frozen?_of_block hp
  refine ⟨⟨by rw [ho.size]; exact h.v.lt, (hv 0).trans h.v.c0, (hv 1).trans h.v.c1, (hv 2).trans h.v.c2, (hf 0).trans h.v.f0, (hf 1).trans h.v.f1, (hf 2).trans h.v.f2⟩, own_at h.rows (fun g hg => ?_), fun j hj => ?_, ⟨h.ord.len, own_at h.ord.own (fun g hg => ?_)⟩, h.ge, h.inj, h.ap, h.ap2⟩
  · cases hg; exact ho.block gr (fun e => (h.ap i hi).2.1 e.symm)
  · by_cases e : j = i
    · subst e; simp only [if_true]; exact hr
    · simp only [e, if_false]
      exact ⟨(h.row j hj).len, own_at (h.row j hj).own (fun g hg => by cases hg; exact ho.block _ (fun e2 => e (h.inj j i hj hi e2)))⟩
  · cases hg; exact ho.block go (fun e => (h.ap i hi).2.2 e.symm)

end Go.Proofs.YtmpkcioeodlbcaaGreatDoor
namespace Go.Proofs.YtmpkcioeodlbcaaGreatDoor
open Fl RowKit
/-- the first place below k whose number is not finite, or k -/
def nff (xs : List Cw) : Nat → Nat
  | 0 => 0
  | k + 1 => if nff xs k < k then nff xs k else if finZ (zat xs k) = true then k + 1 else k
theorem nff_all {xs : List Cw} {k : Nat} (h : finL xs k = true) : nff xs k = k := by
  induction k with
  | zero => rfl
  | succ k ih =>
    have h' : (finL xs k && finZ (zat xs k)) = true := h
    rw [Bool.and_eq_true] at h'
    unfold nff
    rw [ih h'.1, if_neg (by omega), if_pos h'.2]
theorem nff_at {xs : List Cw} {k : Nat} (h : finL xs k = true) (hf : finZ (zat xs k) = false) : ∀ m, k < m → nff xs m = k := by
  intro m
  induction m with
  | zero => intro h; omega
  | succ m ih =>
    intro hm
    unfold nff
    by_cases e : k = m
    · subst e
      rw [nff_all h, if_neg (by omega), if_neg (by rw [hf]; decide)]
    · rw [ih (by omega), if_pos (by omega)]
theorem nff_le (xs : List Cw) (k : Nat) : nff xs k ≤ k := by
  induction k with
  | zero => exact Nat.le_refl _
  | succ k ih =>
    unfold nff
    split
    · omega
    · split <;> omega
theorem nff_fin {xs : List Cw} {k : Nat} (h : nff xs k = k) : finL xs k = true := by
  induction k with
  | zero => rfl
  | succ k ih =>
    unfold nff at h
    by_cases h1 : nff xs k < k
    · rw [if_pos h1] at h; omega
    · rw [if_neg h1] at h
      have := nff_le xs k
      by_cases h2 : finZ (zat xs k) = true
      · show (finL xs k && finZ (zat xs k)) = true
        rw [ih (by omega), h2]; rfl
      · rw [if_neg h2] at h; omega
set_option maxHeartbeats 1000000 in
theorem nf_any (ao : Option Addr) (cap n : Nat) (xs : List Cw) (w : World) (hn : xs.length = n) (hsz : n ≤ 4096) (hc : Rc w ao xs) (hx : okl xs) :
    Calls Tryz.prog 137 #[.slice ao n cap] w fun e w' => e = .returned (.int .i64 (nff xs n : Nat)) ∧ w' = w := by
  have NA := hid_o (@nff_all xs n)
  have NT : Hid (∀ k, finL xs k = true → finZ (zat xs k) = false → ∀ m, k < m → nff xs m = k) := fun k a c => nff_at a c
  obtain ⟨r, hr⟩ : ∃ r, r = nff xs n := ⟨_, rfl⟩
  rw [← hr] at NA ⊢
  have HR := hid_o hr
  clear hr
  go_enter Tryz.func137, Tryz.ntmps137
  go_wp2
  go_loopw [7] (fun i wr => ∃ (k : Nat), k ≤ n ∧ i = .int .i64 k ∧ finL xs k = true ∧ wr = w) (fun i _ => n - (intOf i).toNat)
  case atStart => exact ⟨0, Nat.zero_le _, rfl, rfl, rfl⟩
  case round =>
    obtain ⟨k, hk, rfl, hf, hw⟩ := hrel
    by_cases hlt : k < n
    · obtain ⟨b, off, rfl, hb, hcx⟩ := hc k (by omega)
      rw [← hw] at hb hcx
      have HW : Hid (wr = w) := hw
      have F2 : finL xs (k + 1) = (finL xs k && finZ (zat xs k)) := rfl
      rw [hf, Bool.true_and] at F2
      have ho := hx k
      have F1 := hid_o (NT.out k hf)
      obtain ⟨x, hxe⟩ : ∃ x, x = zat xs k := ⟨_, rfl⟩
      rw [← hxe] at hcx F1 F2 ho
      unfold cx at hcx
      have G2 : Hid (finL xs (k + 1) = finZ x) := F2
      clear hxe hc hf hw F2 hx
      cases f1 : finZ x
      · have e1 : r = k := by rw [HR.out]; exact F1.out f1 n hlt
        subst e1
        go_wp2_with (go_at_call 59; (with_reducible refine (fin_walk ho).mono ?_); rintro e w' ⟨rfl, rfl⟩; rw [f1])
        go_ret
        exact ⟨rfl, HW.out⟩
      · go_wp2_with (go_at_call 59; (with_reducible refine (fin_walk ho).mono ?_); rintro e w' ⟨rfl, rfl⟩; rw [f1])
        exact ⟨⟨k + 1, by omega, by go_num, by rw [G2.out]; exact f1, HW.out⟩, by simp [intOf]; omega⟩
    · have e : k = n := by omega
      subst e
      have HW : Hid (wr = w) := hw
      have e1 := NA.out hf
      subst e1
      clear hx hc hf hw
      go_wp2
      go_ret
      exact ⟨rfl, HW.out⟩

/-- what stands in a row while it is worked: places below j are reckoned -/
def part (a p : Nat → Cw) (k j n : Nat) (f : Nat → Cw) : Prop := (∀ i, i < n → i < j → repz (redZ a p k i) (f i)) ∧ ∀ i, j ≤ i → f i = a i
theorem part_next {a p : Nat → Cw} {k j n : Nat} {f : Nat → Cw} (h : part a p k j n f) {r : Cw} (hr : repz (redZ a p k j) r) : part a p k (j + 1) n (upz f j r) := by
  refine ⟨fun i hi hj => ?_, fun i hi => ?_⟩
  · by_cases e : i = j
    · subst e; rw [upz_self]; exact hr
    · rw [upz_ne _ _ e]; exact h.1 i hi (by omega)
  · rw [upz_ne _ _ (by omega)]; exact h.2 i (by omega)
theorem part_start {a p : Nat → Cw} {k n : Nat} (ha : ∀ j, j < n → okz (a j)) : part a p k k n a :=
  ⟨fun i hi hj => by rw [redZ_lt hj]; exact repz_anz (ha i hi), fun _ _ => rfl⟩
theorem div_z {W : World} {x y : Cw} (hx : okz x) (hy : okz y) : Calls Tryz.prog 188 #[.complex .f64 x.1 x.2, .complex .f64 y.1 y.2] W fun e w' => ∃ (r : Cw) (n : Nat), e = .returned (.complex .f64 r.1 r.2) ∧ repz (divZ (anz x) (anz y)) r ∧ w' = W.drewN n :=
  (div_any W (repz_anz hx).1 (repz_anz hx).2 (repz_anz hy).1 (repz_anz hy).2).mono (by rintro e w' ⟨re, im, n, rfl, h1, h2, rfl⟩; exact ⟨(re, im), n, rfl, ⟨h1, h2⟩, rfl⟩)
theorem mul_z {W : World} {x y : Cw} {X : Cn} (hx : repz X x) (hy : okz y) : Calls Tryz.prog 215 #[.complex .f64 x.1 x.2, .complex .f64 y.1 y.2] W fun e w' => ∃ (r : Cw) (n : Nat), e = .returned (.complex .f64 r.1 r.2) ∧ repz (mulZ X (anz y)) r ∧ w' = W.drewN n :=
  (mul_any W hx.1 hx.2 (repz_anz hy).1 (repz_anz hy).2).mono (by rintro e w' ⟨re, im, n, rfl, h1, h2, rfl⟩; exact ⟨(re, im), n, rfl, ⟨h1, h2⟩, rfl⟩)
theorem sub_z {W : World} {x y : Cw} {Y : Cn} (hx : okz x) (hy : repz Y y) : Calls Tryz.prog 47 #[.complex .f64 x.1 x.2, .complex .f64 y.1 y.2] W fun e w' => ∃ (r : Cw) (n : Nat), e = .returned (.complex .f64 r.1 r.2) ∧ repz (subZ (anz x) Y) r ∧ w' = W.drewN n :=
  (sub_any W (repz_anz hx).1 (repz_anz hx).2 hy.1 hy.2).mono (by rintro e w' ⟨re, im, n, rfl, h1, h2, rfl⟩; exact ⟨(re, im), n, rfl, ⟨h1, h2⟩, rfl⟩)
theorem only_drewN (g : Nat) (w : World) (m : Nat) : OnlyRow g w (w.drewN m) := ⟨rfl, rfl, rfl, rfl, fun _ _ => rfl⟩
theorem only_trans {g : Nat} {a b c : World} (h : OnlyRow g a b) (k : OnlyRow g b c) : OnlyRow g a c := ⟨k.os.trans h.os, k.tape.trans h.tape, k.output.trans h.output, k.size.trans h.size, fun q hq => (k.block q hq).trans (h.block q hq)⟩
theorem rw_set {w : World} {b g n c : Nat} {f : Nat → Cw} (h : Rw w b (.slice (some ⟨g, 0, none⟩) n c) n (ro n f)) (k : Nat) (v : Cw) : Rw (w.setCell ⟨g, k, none⟩ (cx v)) b (.slice (some ⟨g, 0, none⟩) n c) n (ro n (upz f k v)) := by
  refine ⟨ro_len _ _, ?_⟩
  have := (h.own.stored k (cx v)).1
  rw [← List.map_set, ro_set] at this
  exact this
theorem rw_cell {w : World} {b g n c : Nat} {f : Nat → Cw} (h : Rw w b (.slice (some ⟨g, 0, none⟩) n c) n (ro n f)) {j : Nat} (hj : j < n) : w.cell? ⟨g, j, none⟩ = some (cx (f j)) := by
  rw [h.own.cellAt j (by omega)]
  simp [ro, hj]

end Go.Proofs.YtmpkcioeodlbcaaGreatDoor
namespace Go.Proofs.YtmpkcioeodlbcaaGreatDoor
open Fl RowKit
set_option maxHeartbeats 2000000 in
theorem reduce_any (b g h n k : Nat) (a p : Nat → Cw) (w : World) (hn : n ≤ 64) (hk : k < n) (hgh : h ≠ g) (hr : Rw w b (.slice (some ⟨g, 0, none⟩) n n) n (ro n a)) (hp : Rw w b (.slice (some ⟨h, 0, none⟩) n n) n (ro n p)) (ha : ∀ j, j < n → okz (a j)) (hpo : ∀ j, j < n → okz (p j)) :
    Calls Tryz.prog 182 #[.slice (some ⟨g, 0, none⟩) n n, .slice (some ⟨h, 0, none⟩) n n, .int .i64 k] w fun e w' => ∃ f : Nat → Cw, e = .returned (.tuple #[]) ∧ (∀ j, j < n → repz (redZ a p k j) (f j)) ∧ Rw w' b (.slice (some ⟨g, 0, none⟩) n n) n (ro n f) ∧ OnlyRow g w w' := by
  have c1 := rw_cell hr hk
  have c2 := rw_cell hp hk
  have fz := hr.own.frozenAt k
  have hgl := hr.lt.2
  have hhl := hp.lt.2
  have o1 := ha k hk
  have o2 := hpo k hk
  have HD := hid_o (redZ_eq a p k)
  have PS := hid_o (part_start (p := p) (k := k) ha)
  have HR := hid_o hr
  have HP := hid_o hp
  have HA := hid_o ha
  have HPO := hid_o hpo
  obtain ⟨x, hxe⟩ : ∃ x, x = a k := ⟨_, rfl⟩
  obtain ⟨y, hye⟩ : ∃ y, y = p k := ⟨_, rfl⟩
  have HF := hid_o (fun (j : Nat) (h : k < j) => redZ_gt (a := a) (p := p) h)
  rw [← hxe] at c1 o1 HD HF
  rw [← hye] at c2 o2 HD HF
  clear hxe hye hr hp ha hpo
  unfold cx at c1 c2
  go_enter Tryz.func182, Tryz.ntmps182
  go_wp2
  go_cut [6] (fun v wc => ∃ (q : Cw) (m : Nat), v = .complex .f64 q.1 q.2 ∧ repz (divZ (anz x) (anz y)) q ∧ wc = w.drewN m)
  case first =>
    go_region_with (go_at_call 188; (with_reducible refine (div_z o1 o2).mono ?_); rintro e w' ⟨q, m, rfl, hq, rfl⟩)
    all_goals
      go_wp2_with fail
      go_meet
      case rel => exact ⟨q, _, rfl, hq, by first | rfl | (simp only [World.drewN_drewN]; rfl)⟩
  case rest =>
    obtain ⟨q, m, rfl, hq, rfl⟩ := hcut
    have c3 : (w.drewN m).cell? ⟨g, k, none⟩ = some (.complex .f64 x.1 x.2) := c1
    have fz3 : (w.drewN m).frozen? ⟨g, k, none⟩ = false := fz
    have HQ := hid_o hq
    clear hq c1 c2 fz
    go_wp2
    go_loopw [7] (fun jv wr => ∃ (j : Nat) (f : Nat → Cw), k < j ∧ j ≤ n ∧ jv = .int .i64 j ∧ part a p k j n f ∧ Rw wr b (.slice (some ⟨g, 0, none⟩) n n) n (ro n f) ∧ OnlyRow g w wr) (fun jv _ => n - (intOf jv).toNat)
    case atStart => exact ⟨k + 1, upz a k q, by omega, by omega, by go_num, part_next PS.out (by rw [HD.out]; exact HQ.out), rw_set (HR.out.drewN m) k q, (only_drewN g w m).setCell _⟩
    case round =>
      clear c3 fz3
      obtain ⟨j, f, hkj, hjn, rfl, hpt, hrw, hon⟩ := hrel
      by_cases hlt : j < n
      · have d1 := rw_cell hrw hlt
        rw [hpt.2 j (Nat.le_refl _)] at d1
        have d2 : wr.cell? ⟨h, j, none⟩ = some (cx (p j)) := (World.cell?_of_block (hon.block h hgh)).trans (rw_cell HP.out hlt)
        have fz := hrw.own.frozenAt j
        have o3 := HA.out j hlt
        have o4 := HPO.out j hlt
        have hl2 := hrw.lt.2
        have hl3 : h < wr.heap.size := by rw [hon.size]; exact hhl
        have HE := hid_o (HF.out j hkj)
        have HPT := hid_o hpt
        have HRW := hid_o hrw
        have HON := hid_o hon
        obtain ⟨u, hue⟩ : ∃ u, u = a j := ⟨_, rfl⟩
        obtain ⟨v, hve⟩ : ∃ v, v = p j := ⟨_, rfl⟩
        rw [← hue] at d1 o3 HE
        rw [← hve] at d2 o4 HE
        clear hue hve hpt hrw hon
        unfold cx at d1 d2
        go_wp2
        go_region_with (first
          | (go_at_call 215; (with_reducible refine (mul_z HQ.out o4).mono ?_); rintro e w' ⟨t, m2, rfl, ht, rfl⟩)
          | (go_at_call 47; (with_reducible refine (sub_z o3 ht).mono ?_); rintro e w' ⟨r, m3, rfl, hr3, rfl⟩))
        all_goals
          go_wp2_with fail
          go_roundw
          case measure => simp [intOf]; omega
          case rel => exact ⟨j + 1, upz f j r, by omega, by omega, by go_num, part_next HPT.out (by rw [HE.out]; exact hr3), rw_set (HRW.out.drewN _) j r, only_trans HON.out ((only_drewN g wr _).setCell _)⟩
      · have e : j = n := by omega
        subst e
        clear HA HPO HF HP HR
        go_wp2
        go_end0
        exact ⟨f, rfl, fun i hi => hpt.1 i hi hi, hrw, hon⟩

end Go.Proofs.YtmpkcioeodlbcaaGreatDoor
namespace Go.Proofs.YtmpkcioeodlbcaaGreatDoor
open Fl RowKit
def sl (g n : Nat) : Value := .slice (some ⟨g, 0, none⟩) n n
theorem range_set (n : Nat) (F : Nat → Value) (k : Nat) (v : Value) : ((List.range n).map F).set k v = (List.range n).map (fun j => if j = k then v else F j) := by
  apply List.ext_getElem?
  intro i
  by_cases hi : i < n
  · by_cases e : k = i
    · subst e
      rw [List.getElem?_set_self (by simp; exact hi)]
      simp [hi]
    · rw [List.getElem?_set_ne e]
      simp [hi, Ne.symm e]
  · rw [List.getElem?_eq_none (by simp; omega), List.getElem?_eq_none (by simp; omega)]
theorem Lo.swapRows {w w' : World} {b p n gr go : Nat} {bl : Nat → Nat} {M : Nat → Nat → Cw} {o : Nat → Nat} {s : Int} (h : Lo w b p n gr go bl M o s) {k q : Nat} (hk : k < n) (hq : q < n) (hkq : k ≠ q)
    (hw : ∃ m, w' = ((w.drewN m).setCell ⟨gr, k, none⟩ (.slice (some ⟨bl q, 0, none⟩) n n)).setCell ⟨gr, q, none⟩ (.slice (some ⟨bl k, 0, none⟩) n n)) :
    Lo w' b p n gr go (swO bl k q) (swM M k q) o s := by
  obtain ⟨m, rfl⟩ := hw
  have hoth : ∀ g, g ≠ gr → (((w.drewN m).setCell ⟨gr, k, none⟩ (.slice (some ⟨bl q, 0, none⟩) n n)).setCell ⟨gr, q, none⟩ (.slice (some ⟨bl k, 0, none⟩) n n)).heap[g]? = w.heap[g]? := by
    intro g hg
    rw [Below.heap_setCell _ _ _ _ hg, Below.heap_setCell _ _ _ _ hg]; rfl
  have hrow : ∀ i, i < n → Rw (((w.drewN m).setCell ⟨gr, k, none⟩ (.slice (some ⟨bl q, 0, none⟩) n n)).setCell ⟨gr, q, none⟩ (.slice (some ⟨bl k, 0, none⟩) n n)) b (.slice (some ⟨bl i, 0, none⟩) n n) n (ro n (M i)) :=
    fun i hi => ⟨(h.row i hi).len, own_at (h.row i hi).own (fun g hg => by cases hg; exact hoth _ (h.ap i hi).2.1)⟩
  have hsw : ∀ i, i < n → swO bl k q i = (if i = k then bl q else if i = q then bl k else bl i) := fun i _ => rfl
  refine ⟨((h.v.drewN m).other (q := ⟨gr, k, none⟩) h.ap2.1 _).other (q := ⟨gr, q, none⟩) h.ap2.1 _, ?_, ?_, ⟨h.ord.len, own_at h.ord.own (fun g hg => by cases hg; exact hoth _ h.ap2.2.2.symm)⟩, h.ge, ?_, ?_, h.ap2⟩
  · have h1 := (h.rows.stored k (.slice (some ⟨bl q, 0, none⟩) n n)).1
    have h2 := (h1.stored q (.slice (some ⟨bl k, 0, none⟩) n n)).1
    rw [range_set, range_set] at h2
    have e : (List.range n).map (fun j => if j = q then (Value.slice (some ⟨bl k, 0, none⟩) n n) else if j = k then .slice (some ⟨bl q, 0, none⟩) n n else .slice (some ⟨bl j, 0, none⟩) n n) = (List.range n).map (fun i => Value.slice (some ⟨swO bl k q i, 0, none⟩) n n) := by
      refine List.map_congr_left (fun i _ => ?_)
      unfold swO
      by_cases h1 : i = q
      · subst h1; rw [if_pos rfl, if_neg (Ne.symm hkq), if_pos rfl]
      · rw [if_neg h1]
        by_cases h2 : i = k
        · subst h2; rw [if_pos rfl, if_pos rfl]
        · rw [if_neg h2, if_neg h2, if_neg h1]
    rw [e] at h2
    exact h2
  · intro i hi
    unfold swO swM
    by_cases h1 : i = k
    · subst h1; simp only [if_true]; exact hrow q hq
    · simp only [h1, if_false]
      by_cases h2 : i = q
      · subst h2; simp only [if_true]; exact hrow k hk
      · simp only [h2, if_false]; exact hrow i hi
  · intro i j hi hj
    unfold swO
    intro e
    by_cases a1 : i = k
    · by_cases a2 : j = k
      · omega
      · rw [if_pos a1, if_neg a2] at e
        by_cases a3 : j = q
        · rw [if_pos a3] at e; exact absurd (h.inj _ _ hq hk e) (Ne.symm hkq)
        · rw [if_neg a3] at e; exact absurd (h.inj _ _ hq hj e) (Ne.symm a3)
    · rw [if_neg a1] at e
      by_cases b1 : i = q
      · rw [if_pos b1] at e
        by_cases a2 : j = k
        · rw [if_pos a2] at e; exact absurd (h.inj _ _ hk hq e) hkq
        · rw [if_neg a2] at e
          by_cases a3 : j = q
          · omega
          · rw [if_neg a3] at e; exact absurd (h.inj _ _ hk hj e) (Ne.symm a2)
      · rw [if_neg b1] at e
        by_cases a2 : j = k
        · rw [if_pos a2] at e; exact absurd (h.inj _ _ hi hq e) b1
        · rw [if_neg a2] at e
          by_cases a3 : j = q
          · rw [if_pos a3] at e; exact absurd (h.inj _ _ hi hk e) a1
          · rw [if_neg a3] at e; exact h.inj _ _ hi hj e
  · intro i hi
    unfold swO
    split
    · exact h.ap q hq
    · split
      · exact h.ap k hk
      · exact h.ap i hi
theorem Lo.swapOrd {w w' : World} {b p n gr go : Nat} {bl : Nat → Nat} {M : Nat → Nat → Cw} {o : Nat → Nat} {s : Int} (h : Lo w b p n gr go bl M o s) {k q : Nat} (hkq : k ≠ q) {t : Int}
    (hw : ∃ m, w' = (((w.drewN m).setCell ⟨go, k, none⟩ (.int .i64 (o q))).setCell ⟨go, q, none⟩ (.int .i64 (o k))).setCell ⟨p, 2, none⟩ (.int .i64 t)) :
    Lo w' b p n gr go bl M (swO o k q) t := by
  obtain ⟨m, rfl⟩ := hw
  have hoth : ∀ g, g ≠ go → g ≠ p → ((((w.drewN m).setCell ⟨go, k, none⟩ (.int .i64 (o q))).setCell ⟨go, q, none⟩ (.int .i64 (o k))).setCell ⟨p, 2, none⟩ (.int .i64 t)).heap[g]? = w.heap[g]? := by
    intro g hg hp
    rw [Below.heap_setCell _ _ _ _ hp, Below.heap_setCell _ _ _ _ hg, Below.heap_setCell _ _ _ _ hg]; rfl
  have v1 := ((h.v.drewN m).other (q := ⟨go, k, none⟩) h.ap2.2.1 (.int .i64 (o q))).other (q := ⟨go, q, none⟩) h.ap2.2.1 (.int .i64 (o k))
  refine ⟨⟨by simpa using v1.lt, ?_, ?_, World.cell?_setCell_same _ _ _ v1.c2, by simpa using v1.f0, by simpa using v1.f1, by simpa using v1.f2⟩, own_at h.rows (fun g hg => by cases hg; exact hoth _ h.ap2.2.2 h.ap2.1), fun i hi => ⟨(h.row i hi).len, own_at (h.row i hi).own (fun g hg => by cases hg; exact hoth _ (h.ap i hi).2.2 (h.ap i hi).1)⟩, ?_, h.ge, h.inj, h.ap, h.ap2⟩
  · rw [other_cell _ (by simp)]; exact v1.c0
  · rw [other_cell _ (by simp)]; exact v1.c1
  · have h1 := ((h.ord.drewN m).set k (o q : Int)).set q (o k : Int)
    rw [ri_set, ri_set] at h1
    have e : ri n (fun j => if j = q then o k else if j = k then o q else o j) = ri n (swO o k q) := by
      refine ri_congr (fun i _ => ?_)
      unfold swO
      by_cases h1 : i = q
      · subst h1; rw [if_pos rfl, if_neg (Ne.symm hkq), if_pos rfl]
      · rw [if_neg h1]
        by_cases h2 : i = k
        · subst h2; rw [if_pos rfl, if_pos rfl]
        · rw [if_neg h2, if_neg h2, if_neg h1]
    rw [e] at h1
    refine ⟨h1.len, own_at h1.own (fun g hg => ?_)⟩
    cases hg
    exact Below.heap_setCell _ _ _ _ h.ap2.2.1
set_option maxHeartbeats 2000000 in
theorem lexchange_any (b p n gr go : Nat) (bl : Nat → Nat) (M : Nat → Nat → Cw) (o : Nat → Nat) (s : Int) (k q : Nat) (w : World) (_hn : n ≤ 64) (hk : k < n) (hq : q < n) (hkq : k ≠ q) (hs : s = 1 ∨ s = -1) (h : Lo w b p n gr go bl M o s) :
    Calls Tryz.prog 181 #[.pointer (some ⟨p, 0, none⟩), .int .i64 k, .int .i64 q] w fun e w' => e = .returned (.tuple #[]) ∧ Lo w' b p n gr go (swO bl k q) (swM M k q) (swO o k q) (-s) ∧ Below b w w' := by
  have v0 := h.v.c0
  have hl := h.v.lt
  have c1 := h.cell hk
  have c2 := h.cell hq
  have f1 := h.rows.frozenAt k
  have f2 := h.rows.frozenAt q
  have hgl := (h.rows.lt gr rfl)
  have hgl2 := hgl.2
  have HG := hid_o hgl.1
  have hqk : q ≠ k := Ne.symm hkq
  have d1 : ∀ m u, ((w.drewN m).setCell ⟨gr, k, none⟩ u).cell? ⟨gr, q, none⟩ = some (.slice (some ⟨bl q, 0, none⟩) n n) := fun m u => by rw [World.cell?_setCell_other _ _ _ _ (by intro e; cases e; exact hkq rfl)]; exact c2
  have HL := hid_o h
  clear h hgl
  go_enter Tryz.func181, Tryz.ntmps181
  go_wp2
  go_cut [] (fun wc => ∃ m, wc = ((w.drewN m).setCell ⟨gr, k, none⟩ (.slice (some ⟨bl q, 0, none⟩) n n)).setCell ⟨gr, q, none⟩ (.slice (some ⟨bl k, 0, none⟩) n n))
  case first =>
    go_region
    all_goals
      go_wp2_with fail
      go_meet
      case rel => first | exact ⟨_, rfl⟩ | exact ⟨0, rfl⟩ | exact ⟨1, rfl⟩
  case rest =>
    have L1 := HL.out.swapRows hk hq hkq hcut
    have B1 : Hid (Below b w wc) := by
      obtain ⟨m, rfl⟩ := hcut
      exact ((below_drewN (Below.refl _ _) m).setCell (p := ⟨gr, k, none⟩) HG.out _).setCell (p := ⟨gr, q, none⟩) HG.out _
    clear hcut v0 c1 c2 f1 f2 d1 hl
    have v1 := L1.v.c1
    have v2 := L1.v.c2
    have f3 := L1.v.f2
    have hl := L1.v.lt
    have o1 : wc.cell? ⟨go, k, none⟩ = some (.int .i64 (o k)) := by
      obtain ⟨b', o', e1, _, e3⟩ := L1.ord.qi k (by rw [ri_len]; exact hk)
      cases e1; rw [Nat.zero_add, ri_at _ hk] at e3; exact e3
    have o2 : wc.cell? ⟨go, q, none⟩ = some (.int .i64 (o q)) := by
      obtain ⟨b', o', e1, _, e3⟩ := L1.ord.qi q (by rw [ri_len]; exact hq)
      cases e1; rw [Nat.zero_add, ri_at _ hq] at e3; exact e3
    have f1 := L1.ord.own.frozenAt k
    have f2 := L1.ord.own.frozenAt q
    have hol := L1.ord.lt
    have hol2 := hol.2
    have HO := hid_o hol.1
    have hpg : go ≠ p := L1.ap2.2.1
    have hgp : p ≠ go := Ne.symm hpg
    have ow : wrap64 (-s) = -s := by unfold wrap64; omega
    have FIN : Hid (∀ w', (∃ m, w' = (((wc.drewN m).setCell ⟨go, k, none⟩ (.int .i64 (o q))).setCell ⟨go, q, none⟩ (.int .i64 (o k))).setCell ⟨p, 2, none⟩ (.int .i64 (-s))) → Lo w' b p n gr go (swO bl k q) (swM M k q) (swO o k q) (-s) ∧ Below b w w') := by
      intro w' hw
      refine ⟨L1.swapOrd hkq hw, ?_⟩
      obtain ⟨m, rfl⟩ := hw
      exact (((below_drewN B1.out m).setCell (p := ⟨go, k, none⟩) HO.out _).setCell (p := ⟨go, q, none⟩) HO.out _).setCell (p := ⟨p, 2, none⟩) L1.ge _
    have d1 : ∀ u, (wc.setCell ⟨go, k, none⟩ u).cell? ⟨go, q, none⟩ = some (.int .i64 (o q)) := fun u => by rw [World.cell?_setCell_other _ _ _ _ (by intro e; cases e; exact hkq rfl)]; exact o2
    have d2 : ∀ u v, ((wc.setCell ⟨go, k, none⟩ u).setCell ⟨go, q, none⟩ v).cell? ⟨p, 2, none⟩ = some (.int .i64 s) := fun u v => by rw [World.cell?_setCell_other _ _ _ _ (by intro e; cases e; exact hpg rfl), World.cell?_setCell_other _ _ _ _ (by intro e; cases e; exact hpg rfl)]; exact v2
    clear L1 hol HL hs
    go_wp2
    go_region
    all_goals
      go_wp2
      go_end0
      first
      | exact ⟨rfl, FIN.out _ ⟨_, rfl⟩⟩
      | exact ⟨rfl, FIN.out _ ⟨0, rfl⟩⟩
      | exact ⟨rfl, FIN.out _ ⟨1, rfl⟩⟩

end Go.Proofs.YtmpkcioeodlbcaaGreatDoor
namespace Go.Proofs.YtmpkcioeodlbcaaGreatDoor
open Fl RowKit
theorem ro_zero (n : Nat) : List.replicate n ((0, 0) : Cw) = ro n (fun _ => (0, 0)) := by
  apply List.ext_getElem?
  intro i
  by_cases hi : i < n
  · simp [ro, hi]
  · rw [List.getElem?_eq_none (by simp; omega), List.getElem?_eq_none (by rw [ro_len]; omega)]
set_option maxHeartbeats 2000000 in
theorem lcolumn_any (b p n gr go : Nat) (bl : Nat → Nat) (M : Nat → Nat → Cw) (o : Nat → Nat) (s : Int) (k : Nat) (w : World) (hn : n ≤ 64) (hk : k < n) (h : Lo w b p n gr go bl M o s) :
    Calls Tryz.prog 180 #[.pointer (some ⟨p, 0, none⟩), .int .i64 k] w fun e w' => ∃ g, e = .returned (.slice (some ⟨g, 0, none⟩) n n) ∧ Rw w' w.heap.size (.slice (some ⟨g, 0, none⟩) n n) n (ro n (fun i => M i k)) ∧ Below w.heap.size w w' := by
  obtain ⟨i0, hi, hz0, hz1, hz2⟩ := info_parts Tryz.infoC
  have v0 := h.v.c0
  have hl := h.v.lt
  have HL := hid_o h
  clear h
  go_enter Tryz.func180, Tryz.ntmps180
  go_wp2_with (at_make; refine wpList_make_full _ rfl _ _ 32 rfl w.heap.size 39 i0 (.complex .f64 0 0) 1 Tryz.underlying32 hi hz0 hz1 _ _ _ _ n rfl rfl rfl rfl (by rw [hz2]; omega) (by unfold maxLen; omega) (Nat.le_refl _) ?_; intro w1 hown hgrow; (have BB : Below w.heap.size w w1 := (Below.refl _ _).grown hgrow (Nat.le_refl _) (by intro k hk; simp at hk)); (have v1 := (HL.out.below BB).v.c0); (have l1 := (HL.out.below BB).v.lt); rw [made_zeroC, ro_zero] at hown; (have RW : Hid (Rw w1 w.heap.size (.slice (some ⟨w.heap.size, 0, none⟩) n n) n (ro n (fun _ => (0, 0)))) := ⟨ro_len _ _, hown⟩); (have HB := hid_o BB); clear hown hgrow BB v0 hl)
  go_loopw [19] (fun iv wr => ∃ (i : Nat) (f : Nat → Cw), i ≤ n ∧ iv = .int .i64 i ∧ (∀ j, j < i → f j = M j k) ∧ Rw wr w.heap.size (.slice (some ⟨w.heap.size, 0, none⟩) n n) n (ro n f) ∧ Below w.heap.size w wr) (fun iv _ => n - (intOf iv).toNat)
  case atStart => exact ⟨0, _, Nat.zero_le _, rfl, fun j hj => absurd hj (by omega), RW.out, HB.out⟩
  case round =>
    clear RW HB v1 l1
    obtain ⟨i, f, hin, rfl, hf, hrw, hbel⟩ := hrel
    by_cases hlt : i < n
    · have hL := HL.out.below hbel
      have d1 := hL.cell hlt
      have d2 := hL.cellM hlt hk
      have d3 := rw_cell hrw hlt
      have fz := hrw.own.frozenAt i
      have g1 := hrw.lt.2
      have g2 := (hL.rows.lt gr rfl).2
      have g3 := ((hL.row i hlt).own.lt (bl i) rfl).2
      have HF := hid_o hf
      have HRW := hid_o hrw
      have HB := hid_o hbel
      obtain ⟨x, hxe⟩ : ∃ x, x = M i k := ⟨_, rfl⟩
      rw [← hxe] at d2
      have HX := hid_o hxe
      clear hxe hf hrw hbel hL
      unfold cx at d2 d3
      go_wp2
      go_roundw
      case measure => simp [intOf]; omega
      case rel =>
        refine ⟨i + 1, upz f i x, by omega, by go_num, fun j hj => ?_, rw_set HRW.out i x, HB.out.setCell (p := ⟨w.heap.size, i, none⟩) (Nat.le_refl _) _⟩
        by_cases e : j = i
        · subst e; rw [upz_self]; exact HX.out
        · rw [upz_ne _ _ e]; exact HF.out j (by omega)
    · have e : i = n := by omega
      subst e
      clear HL
      go_wp2
      go_ret
      exact ⟨_, rfl, by rw [← ro_congr hf]; exact hrw, hbel⟩

end Go.Proofs.YtmpkcioeodlbcaaGreatDoor
namespace Go.Proofs.YtmpkcioeodlbcaaGreatDoor
open Fl RowKit
theorem finL_iff {xs : List Cw} {n : Nat} : finL xs n = true ↔ ∀ j, j < n → finZ (zat xs j) = true := by
  refine ⟨fun h => finL_at h, fun h => ?_⟩
  induction n with
  | zero => rfl
  | succ n ih =>
    show (finL xs n && finZ (zat xs n)) = true
    rw [ih (fun j hj => h j (by omega)), h n (by omega)]; rfl
theorem dropat (n k j : Nat) (f : Nat → Cw) (h : k + j < n) : zat ((ro n f).drop k) j = f (k + j) := by rw [zat_drop, ro_at _ h]
theorem droplen (n k : Nat) (f : Nat → Cw) : ((ro n f).drop k).length = n - k := by rw [List.length_drop, ro_len]
theorem hv_pvt (n : Nat) (M : Nat → Nat → Cw) (k : Nat) : hv ((ro n (fun i => M i k)).drop k) = pvt n M k := by
  unfold hv pvt
  rw [droplen]
  exact fstG_congr (fun j hj => by unfold wts; rw [dropat _ _ _ _ (by omega)])
theorem chE_pvt {n k : Nat} {M : Nat → Nat → Cw} (hn : n ≤ 64) (hk : k < n) (hf : finM n M) : chE (ro n (fun i => M i k)) k = if (pvt n M k).2 = 0 then 7 else 0 := by
  have hl := ro_len n (fun i => M i k)
  have h3 : finL ((ro n (fun i => M i k)).drop k) ((ro n (fun i => M i k)).length - k) = true := by
    rw [hl, finL_iff]
    intro j hj
    rw [dropat _ _ _ _ (by omega)]
    exact hf _ _ (by omega) hk
  split
  · rename_i h0
    exact chE_7 (by omega) (by omega) h3 (by rw [hv_pvt]; exact h0)
  · rename_i h0
    exact chE_0 (by omega) (by omega) h3 (by rw [hv_pvt]; exact h0)
theorem choose_low {n k cap b g : Nat} {M : Nat → Nat → Cw} {w : World} (hn : n ≤ 64) (hk : k < n) (hf : finM n M) (ho : okM n M) (hcap : n ≤ cap) (hr : Rw w b (.slice (some ⟨g, 0, none⟩) n cap) n (ro n (fun i => M i k))) :
    Calls Tryz.prog 179 #[.slice (some ⟨g, 0, none⟩) n cap, .int .i64 k] w fun e w' => ∃ m, e = .returned (.tuple #[.int .i64 (if (pvt n M k).2 = 0 then 0 else ((k + (pvt n M k).1 : Nat) : Int)), .int .i64 (if (pvt n M k).2 = 0 then 7 else 0)]) ∧ w' = w.drewN m := by
  have hl := ro_len n (fun i => M i k)
  have hc := choose_any (some ⟨g, 0, none⟩) cap (ro n (fun i => M i k)) k w (by rw [hl]; omega) (by rw [hl]; exact hcap) hr.rc (ro_ok (fun j hj => ho j k hj hk))
  rw [hl] at hc
  refine hc.mono ?_
  rintro e w' ⟨m, rfl, rfl⟩
  refine ⟨m, ?_, rfl⟩
  have hE := chE_pvt hn hk hf
  by_cases h0 : (pvt n M k).2 = 0
  · rw [if_pos h0] at hE
    rw [if_pos h0, if_pos h0, hE, chI_n (by rw [hE]; decide)]
  · rw [if_neg h0] at hE
    rw [if_neg h0, if_neg h0, hE, chI_0 hE, hv_pvt]
theorem good_of {n k : Nat} {M M' : Nat → Nat → Cw} (hM : ∀ r j, k < r → r < n → j < n → repz (redZ (M r) (M k) k j) (M' r j)) (hf : ∀ r, k < r → r < n → ∀ j, k ≤ j → j < n → finZ (M' r j) = true) : goodB n M k = true := by
  rw [good_iff]
  intro i hi hin j hj hjn
  rw [← fin_repz (hM i j hi hin hjn)]
  exact hf i hi hin j hj hjn
theorem bad_of {n k r j : Nat} {M M' : Nat → Nat → Cw} (hM : ∀ r j, k < r → r < n → j < n → repz (redZ (M r) (M k) k j) (M' r j)) (hr : k < r) (hrn : r < n) (hj : k ≤ j) (hjn : j < n) (hf : finZ (M' r j) = false) : goodB n M k = false := by
  cases h : goodB n M k
  · rfl
  · rw [good_iff] at h
    have := h r hr hrn j hj hjn
    rw [← fin_repz (hM r j hr hrn hjn), hf] at this
    cases this
theorem Lo.congr {w : World} {b p n gr go : Nat} {bl : Nat → Nat} {M M' : Nat → Nat → Cw} {o : Nat → Nat} {s : Int} (h : Lo w b p n gr go bl M o s) (e : ∀ i j, i < n → j < n → M i j = M' i j) : Lo w b p n gr go bl M' o s :=
  ⟨h.v, h.rows, fun i hi => by rw [← ro_congr (fun j hj => e i j hi hj)]; exact h.row i hi, h.ord, h.ge, h.inj, h.ap, h.ap2⟩
theorem Lo.red {w : World} {b p n gr go k : Nat} {bl : Nat → Nat} {M M' : Nat → Nat → Cw} {o : Nat → Nat} {s : Int} (h : Lo w b p n gr go bl M' o s) (hle : ∀ r, r ≤ k → M' r = M r) (hM : ∀ r j, k < r → r < n → j < n → repz (redZ (M r) (M k) k j) (M' r j)) (hok : okM n M) (hfin : finM n M) (hg : goodB n M k = true) : Lo w b p n gr go bl (redM M k) o s := by
  refine h.congr (fun i j hi hj => ?_)
  unfold redM
  by_cases hk : i ≤ k
  · rw [if_pos hk, hle i hk]
  · rw [if_neg hk]
    have hr := hM i j (by omega) hi hj
    by_cases hjk : k ≤ j
    · exact (toW_rep hr (good_iff.1 hg i (by omega) hi j hjk hj)).symm
    · rw [redZ_lt (by omega)] at hr ⊢
      exact (toW_rep hr (by rw [← fin_repz (repz_anz (hok i j hi hj))]; exact hfin i j hi hj)).symm
theorem stp_7 {n k : Nat} {S : Es} (h : (pvt n S.M k).2 = 0) : stp n k S = (7, S) := if_pos h
theorem stp_6 {n k : Nat} {S : Es} (h : ¬ (pvt n S.M k).2 = 0) (hg : goodB n (swM S.M k (k + (pvt n S.M k).1)) k = false) : stp n k S = (6, S) := by
  unfold stp; rw [if_neg h, if_neg (by rw [hg]; decide)]
theorem stp_0 {n k : Nat} {S : Es} (h : ¬ (pvt n S.M k).2 = 0) (hg : goodB n (swM S.M k (k + (pvt n S.M k).1)) k = true) : stp n k S = (0, ⟨redM (swM S.M k (k + (pvt n S.M k).1)) k, swO S.o k (k + (pvt n S.M k).1), if (pvt n S.M k).1 = 0 then S.s else -S.s⟩) := by
  unfold stp; rw [if_neg h, if_pos hg]
theorem drop_ok {n k : Nat} {f : Nat → Cw} (h : ∀ j, j < n → okz (f j)) : okl ((ro n f).drop k) := okl_drop (ro_ok h) k
theorem rc_from {w : World} {b g n k : Nat} {f : Nat → Cw} (h : Rw w b (.slice (some ⟨g, 0, none⟩) n n) n (ro n f)) : Rc w (some ⟨g, k, none⟩) ((ro n f).drop k) := by
  have := rc_drop h.rc k
  rw [Nat.zero_add] at this
  exact this
theorem nf_from {n k m : Nat} {f : Nat → Cw} (hm : m = n - k) (h : nff ((ro n f).drop k) m = m) : ∀ j, k ≤ j → j < n → finZ (f j) = true := by
  intro j hk hj
  have := finL_iff.1 (nff_fin h) (j - k) (by omega)
  rw [dropat _ _ _ _ (by omega), show k + (j - k) = j by omega] at this
  exact this
theorem nf_bad {n k m : Nat} {f : Nat → Cw} (hm : m = n - k) (h : nff ((ro n f).drop k) m ≠ m) : ∃ j, k ≤ j ∧ j < n ∧ finZ (f j) = false := by
  by_cases c : ∀ j, k ≤ j → j < n → finZ (f j) = true
  · refine absurd (nff_all (finL_iff.2 (fun j hj => ?_))) h
    rw [dropat _ _ _ _ (by omega)]
    exact c _ (by omega) (by omega)
  · simp only [Classical.not_forall] at c
    obtain ⟨j, h1, h2, h3⟩ := c
    exact ⟨j, h1, h2, by simpa using h3⟩
set_option maxHeartbeats 4000000 in
theorem elim7_any (b p n gr go : Nat) (bl : Nat → Nat) (M : Nat → Nat → Cw) (o : Nat → Nat) (s : Int) (k : Nat) (w : World) (hn : n ≤ 64) (hk : k < n) (hL : Lo w b p n gr go bl M o s) (hok : okM n M) (hfin : finM n M) (h7 : (pvt n M k).2 = 0) :
    Calls Tryz.prog 139 #[.pointer (some ⟨p, 0, none⟩), .int .i64 k] w fun e w' => e = .returned (.int .i64 7) ∧ Below w.heap.size w w' := by
  have CH := hid_o (fun (W : World) (g : Nat) (bb : Nat) (h : Rw W bb (.slice (some ⟨g, 0, none⟩) n n) n (ro n (fun i => M i k))) => choose_low (cap := n) hn hk hfin hok (Nat.le_refl _) h)
  have HL := hid_o hL
  simp only [if_pos h7] at CH
  clear hL hok hfin h7
  go_enter Tryz.func139, Tryz.ntmps139
  go_wp2_with (first
    | (go_at_call 180; (with_reducible refine (lcolumn_any _ _ _ _ _ _ _ _ _ _ _ hn hk HL.out).mono ?_); rintro e w1 ⟨g, rfl, hr, hb⟩; have HR := hid_o hr; have HB := hid_o hb; clear hr hb)
    | (go_at_call 179; (with_reducible refine (CH.out _ _ _ HR.out).mono ?_); rintro e w2 ⟨m, rfl, rfl⟩))
  go_ret
  exact ⟨rfl, below_drewN HB.out m⟩
set_option maxHeartbeats 4000000 in
theorem elim_any (b p n gr go : Nat) (bl : Nat → Nat) (M : Nat → Nat → Cw) (o : Nat → Nat) (s : Int) (k : Nat) (w : World) (hn : n ≤ 64) (hk : k < n) (hs : s = 1 ∨ s = -1) (hb : b ≤ w.heap.size) (hL : Lo w b p n gr go bl M o s) (hok : okM n M) (hfin : finM n M) :
    Calls Tryz.prog 139 #[.pointer (some ⟨p, 0, none⟩), .int .i64 k] w fun e w' => e = .returned (.int .i64 (stp n k ⟨M, o, s⟩).1) ∧ ((stp n k ⟨M, o, s⟩).1 = 0 → ∃ bl', Lo w' b p n gr go bl' (stp n k ⟨M, o, s⟩).2.M (stp n k ⟨M, o, s⟩).2.o (stp n k ⟨M, o, s⟩).2.s) ∧ Below b w w' := by
  by_cases h7 : (pvt n M k).2 = 0
  · rw [stp_7 (S := ⟨M, o, s⟩) h7]
    refine (elim7_any b p n gr go bl M o s k w hn hk hL hok hfin h7).mono ?_
    rintro e w' ⟨rfl, hB⟩
    exact ⟨rfl, fun e => absurd (show (7 : Int) = 0 from e) (by decide), hB.mono hb⟩
  have CH := hid_o (fun (W : World) (g : Nat) (bb : Nat) (h : Rw W bb (.slice (some ⟨g, 0, none⟩) n n) n (ro n (fun i => M i k))) => choose_low (cap := n) hn hk hfin hok (Nat.le_refl _) h)
  simp only [if_neg h7] at CH
  have hq := pvt_lt h7
  have S6 := hid_o (stp_6 (S := ⟨M, o, s⟩) h7)
  have S0 := hid_o (stp_0 (S := ⟨M, o, s⟩) h7)
  dsimp only at S6 S0
  have hok1 := swM_ok hok hk hq
  have hfin1 := swM_fin hfin hk hq
  have e2 := swM_self M k
  have e3 := swO_self o k
  obtain ⟨T, hT⟩ : ∃ T, T = stp n k ⟨M, o, s⟩ := ⟨_, rfl⟩
  rw [← hT] at S6 S0 ⊢
  obtain ⟨t, ht⟩ : ∃ t, t = (pvt n M k).1 := ⟨_, rfl⟩
  rw [← ht] at CH hq S6 S0 hok1 hfin1
  have est : (if t = 0 then s else -s) = if k + t = k then s else -s := by
    by_cases h : t = 0
    · rw [if_pos h, if_pos (by omega)]
    · rw [if_neg h, if_neg (by omega)]
  rw [est] at S0
  obtain ⟨q, hqe⟩ : ∃ q, q = k + t := ⟨_, rfl⟩
  rw [← hqe] at CH hq S6 S0 hok1 hfin1
  obtain ⟨M1, hM1⟩ : ∃ M1, M1 = swM M k q := ⟨_, rfl⟩
  obtain ⟨o1, ho1⟩ : ∃ o1, o1 = swO o k q := ⟨_, rfl⟩
  obtain ⟨s1, hs1⟩ : ∃ s1, s1 = if q = k then s else -s := ⟨_, rfl⟩
  rw [← hM1] at S6 S0 hok1 hfin1
  rw [← ho1, ← hs1] at S0
  have HL := hid_o hL
  have HM1 := hid_o hM1
  have HO1 := hid_o ho1
  have HS1 := hid_o hs1
  have HOK := hid_o hok1
  have HFIN := hid_o hfin1
  have HE2 := hid_o e2
  have HE3 := hid_o e3
  have HPM := hid_o hs
  have HBS := hid_o hb
  clear hL hok hfin h7 hT ht hM1 ho1 hs1 hok1 hfin1 e2 e3 hs hb est hqe
  go_enter Tryz.func139, Tryz.ntmps139
  go_upto_if 26 with (first
    | (go_at_call 180; (with_reducible refine (lcolumn_any _ _ _ _ _ _ _ _ _ _ _ hn hk HL.out).mono ?_); rintro e w1 ⟨g, rfl, hr, hb⟩; have HR := hid_o hr; have HB := hid_o hb; clear hr hb)
    | (go_at_call 179; (with_reducible refine (CH.out _ _ _ HR.out).mono ?_); rintro e w2 ⟨m, rfl, rfl⟩))
  have HL2 := hid_o ((HL.out.below HB.out).drewN m)
  have HB2 := hid_o ((below_drewN HB.out m).mono HBS.out)
  obtain ⟨w2, hw2⟩ : ∃ w2, w2 = w1.drewN m := ⟨_, rfl⟩
  rw [← hw2] at HL2 HB2 ⊢
  clear hw2 HR HB HL CH
  go_cut [] (fun wc => ∃ bl1, Lo wc b p n gr go bl1 M1 o1 s1 ∧ Below b w wc)
  case first =>
    by_cases h0 : q = k
    · have hd : ((q : Int) == (k : Int)) = true := by rw [h0]; exact beq_self_eq_true _
      have HR : Hid (M1 = M ∧ o1 = o ∧ s1 = s) := by
        refine ⟨?_, ?_, ?_⟩
        · rw [HM1.out, h0, HE2.out]
        · rw [HO1.out, h0, HE3.out]
        · rw [HS1.out, if_pos h0]
      clear h0
      go_wp2
      go_meet
      case rel =>
        refine ⟨bl, ?_, HB2.out⟩
        rw [HR.out.1, HR.out.2.1, HR.out.2.2]
        exact HL2.out
    · have hne : k ≠ q := Ne.symm h0
      have hne2 : ¬ (q : Int) = (k : Int) := by omega
      have HR : Hid (s1 = -s) := by show s1 = -s; rw [HS1.out, if_neg h0]
      go_wp2_with (go_at_call 181; (with_reducible refine (lexchange_any _ _ _ _ _ _ _ _ _ k q _ hn hk hq hne HPM.out HL2.out).mono ?_); rintro e w5 ⟨rfl, hL5, hb5⟩)
      go_meet
      case rel =>
        refine ⟨swO bl k q, ?_, HB2.out.trans hb5⟩
        rw [HM1.out, HO1.out, HR.out]
        exact hL5
  case rest =>
    obtain ⟨bl1, hL1, hb1⟩ := hcut
    have v0 := hL1.v.c0
    have hpl := hL1.v.lt
    have HL1 := hid_o hL1
    have HB1 := hid_o hb1
    clear hL1 hb1 HM1 HO1 HS1 HE2 HE3 HPM HL2 HB2 hq
    by_cases hkn : k + 1 = n
    · have hkn2 : (n : Int) = (k : Int) + 1 := by omega
      have FIN : Hid (T = (0, { M := redM M1 k, o := o1, s := s1 })) := S0.out (good_iff.2 (fun i hi hin => by omega))
      have FIN2 := hid_o (HL1.out.red (k := k) (M := M1) (fun _ _ => rfl) (fun r j hr hrn => by omega) HOK.out HFIN.out (good_iff.2 (fun i hi hin => by omega)))
      subst hkn
      clear S0 S6 hkn2
      go_wp2
      all_goals
        go_loopw [40] (fun iv wr => iv = .int .i64 0 ∧ wr = wc) (fun _ _ => 0)
        case atStart => exact ⟨rfl, rfl⟩
        case round =>
          obtain ⟨rfl, hw⟩ := hrel
          subst wr
          go_wp2
          go_loopw [57] (fun iv wr => iv = .int .i64 0 ∧ wr = wc) (fun _ _ => 0)
          case atStart => exact ⟨rfl, rfl⟩
          case round =>
            obtain ⟨rfl, hw⟩ := hrel
            subst wr
            go_wp2
            go_ret
            exact ⟨by rw [FIN.out]; rfl, fun _ => ⟨bl1, by rw [FIN.out]; exact FIN2.out⟩, HB1.out⟩
    · have hk1 : k + 1 < n := by omega
      have hnk : ¬ n = k + 1 := by omega
      clear hkn
      go_wp2
      go_loopw [40] (fun iv wr => ∃ (i : Nat) (M' : Nat → Nat → Cw), i ≤ n - (k + 1) ∧ iv = .int .i64 i ∧ Lo wr b p n gr go bl1 M' o1 s1 ∧ (∀ r, r ≤ k ∨ k + 1 + i ≤ r → M' r = M1 r) ∧ (∀ r j, k < r → r < k + 1 + i → r < n → j < n → repz (redZ (M1 r) (M1 k) k j) (M' r j)) ∧ Below b w wr) (fun iv _ => n - (k + 1) - (intOf iv).toNat)
      case atStart => exact ⟨0, M1, Nat.zero_le _, rfl, HL1.out, fun _ _ => rfl, fun r j h1 h2 => by omega, HB1.out⟩
      case round =>
        clear HL1 HB1 v0 hpl
        obtain ⟨i, M', him, rfl, hL', hsame, hdone, hbel⟩ := hrel
        by_cases hlt : i < n - (k + 1)
        · have hrn : k + 1 + i < n := by omega
          have d0 := hL'.v.c0
          have dl := hL'.v.lt
          have d1 := hL'.cell hrn
          have d2 := hL'.cell hk
          have gl := (hL'.rows.lt gr rfl).2
          have r1 := hL'.row _ hrn
          have r2 := hL'.row _ hk
          rw [hsame _ (.inr (Nat.le_refl _))] at r1
          rw [hsame _ (.inl (Nat.le_refl _))] at r2
          have hne : bl1 k ≠ bl1 (k + 1 + i) := fun e => by have := hL'.inj _ _ hk hrn e; omega
          have RD := hid_o (reduce_any b _ _ n k _ _ wr hn hk hne r1 r2 (fun j hj => HOK.out _ j hrn hj) (fun j hj => HOK.out _ j hk hj))
          have gl1 := (r1.own.lt _ rfl).2
          have gl2 := (r2.own.lt _ rfl).2
          have HR1 := hid_o r1
          have HGE := hid_o ((r1.own.lt _ rfl).1)
          have HL' := hid_o hL'
          have HSA := hid_o hsame
          have HDO := hid_o hdone
          have HBE := hid_o hbel
          clear hL' hsame hdone hbel r1 r2 hne
          go_wp2_with (go_at_call 182; (with_reducible refine RD.out.mono ?_); rintro e w6 ⟨f, rfl, hf, hrw, hon⟩; clear RD)
          go_roundw
          case measure => simp [intOf]; omega
          case rel =>
            refine ⟨i + 1, fun j => if j = k + 1 + i then f else M' j, by omega, by go_num, HL'.out.put hrn hon hrw, ?_, ?_, below_only HBE.out hon HGE.out⟩
            · intro r hr
              show (if r = k + 1 + i then f else M' r) = M1 r
              rw [if_neg (by omega)]
              exact HSA.out r (by omega)
            · intro r j h1 h2 h3 h4
              show repz _ ((if r = k + 1 + i then f else M' r) j)
              by_cases e : r = k + 1 + i
              · rw [if_pos e, e]; exact hf j h4
              · rw [if_neg e]; exact HDO.out r j h1 (by omega) h3 h4
        · have e : i = n - (k + 1) := by omega
          subst e
          have hD : ∀ r j, k < r → r < n → j < n → repz (redZ (M1 r) (M1 k) k j) (M' r j) := fun r j h1 h2 h3 => hdone r j h1 (by omega) h2 h3
          have hS : ∀ r, r ≤ k → M' r = M1 r := fun r h => hsame r (.inl h)
          have HGOOD : Hid ((∀ r, k < r → r < n → ∀ j, k ≤ j → j < n → finZ (M' r j) = true) → T = (0, { M := redM M1 k, o := o1, s := s1 })) := fun hf => S0.out (good_of hD hf)
          have HLG : Hid ((∀ r, k < r → r < n → ∀ j, k ≤ j → j < n → finZ (M' r j) = true) → Lo wr b p n gr go bl1 (redM M1 k) o1 s1) := fun hf => hL'.red hS hD HOK.out HFIN.out (good_of hD hf)
          have HBAD : Hid (∀ r j, k < r → r < n → k ≤ j → j < n → finZ (M' r j) = false → T = (6, { M := M, o := o, s := s })) := fun r j h1 h2 h3 h4 h5 => S6.out (bad_of hD h1 h2 h3 h4 h5)
          have HOK' : Hid (∀ r j, k < r → r < n → j < n → okz (M' r j)) := fun r j h1 h2 h3 => (hD r j h1 h2 h3).ok
          have HL' := hid_o hL'
          have HBE := hid_o hbel
          clear hD hS hL' hsame hdone hbel S0 S6
          obtain ⟨wq, hwq⟩ : ∃ wq, wq = wr := ⟨_, rfl⟩
          go_wp2
          go_loopw [57] (fun iv wx => ∃ (i : Nat), i ≤ n - (k + 1) ∧ iv = .int .i64 i ∧ (∀ r, k < r → r < k + 1 + i → r < n → ∀ j, k ≤ j → j < n → finZ (M' r j) = true) ∧ wx = wr) (fun iv _ => n - (k + 1) - (intOf iv).toNat)
          case atStart => exact ⟨0, Nat.zero_le _, rfl, fun r h1 h2 => by omega, rfl⟩
          case round =>
            obtain ⟨i, him2, rfl, hdone, hw⟩ := hrel
            subst wr
            by_cases hlt2 : i < n - (k + 1)
            · have hrn : k + 1 + i < n := by omega
              have hL' := HL'.out
              have d1 := hL'.cell hrn
              have gl := (hL'.rows.lt gr rfl).2
              have r1 := hL'.row _ hrn
              have NF := hid_o (fun W (hW : Rc W (some ⟨bl1 (k + 1 + i), k, none⟩) ((ro n (M' (k + 1 + i))).drop k)) => nf_any (some ⟨bl1 (k + 1 + i), k, none⟩) (n - k) (n - k) ((ro n (M' (k + 1 + i))).drop k) W (droplen _ _ _) (by omega) hW (drop_ok (fun j hj => HOK'.out _ j (by omega) hrn hj)))
              have RC := hid_o (rc_from (k := k) r1)
              have hnk2 : ¬ n = k := by omega
              have hle := nff_le ((ro n (M' (k + 1 + i))).drop k) (n - k)
              have NG := hid_o (nf_from (k := k) (f := M' (k + 1 + i)) (m := n - k) rfl)
              have NB := hid_o (nf_bad (k := k) (f := M' (k + 1 + i)) (m := n - k) rfl)
              obtain ⟨v, hv⟩ : ∃ v, v = nff ((ro n (M' (k + 1 + i))).drop k) (n - k) := ⟨_, rfl⟩
              rw [← hv] at NF hle NG NB
              have HDO := hid_o hdone
              clear hL' r1 hdone hv
              by_cases hvn : v = n - k
              · subst hvn
                have NG2 := hid_o (NG.out rfl)
                clear NG NB
                go_wp2_with (go_at_call 137; (with_reducible refine (NF.out _ RC.out).mono ?_); rintro e w7 ⟨rfl, rfl⟩)
                go_roundw
                case measure => simp [intOf]; omega
                case rel =>
                  refine ⟨i + 1, by omega, by go_num, ?_, by first | rfl | trivial⟩
                  intro r h1 h2 h3
                  by_cases e : r = k + 1 + i
                  · rw [e]; exact NG2.out
                  · exact HDO.out r h1 (by omega) h3
              · have hvl : (v : Int) < ((n - k : Nat) : Int) := by omega
                have hvl2 : v < n - k := by omega
                have HT : Hid (T = (6, { M := M, o := o, s := s })) := by
                  obtain ⟨j, j1, j2, j3⟩ := NB.out hvn
                  exact HBAD.out (k + 1 + i) j (by omega) hrn j1 j2 j3
                clear NG NB
                go_wp2_with (go_at_call 137; (with_reducible refine (NF.out _ RC.out).mono ?_); rintro e w7 ⟨rfl, rfl⟩)
                go_ret
                exact ⟨by rw [HT.out]; rfl, fun e => (by rw [HT.out] at e; exact absurd (show (6 : Int) = 0 from e) (by decide)), HBE.out⟩
            · have e : i = n - (k + 1) := by omega
              subst e
              have HF : Hid (∀ r, k < r → r < n → ∀ j, k ≤ j → j < n → finZ (M' r j) = true) := fun r h1 h2 => hdone r h1 (by omega) h2
              clear hdone
              go_wp2
              go_ret
              exact ⟨by rw [HGOOD.out HF.out]; rfl, fun _ => ⟨bl1, by rw [HGOOD.out HF.out]; exact HLG.out HF.out⟩, HBE.out⟩

end Go.Proofs.YtmpkcioeodlbcaaGreatDoor
namespace Go.Proofs.YtmpkcioeodlbcaaGreatDoor
open Fl RowKit
/-- a number less each entry times its unknown -/
def redS (s : Cn) (E K : Nat → Cn) : Nat → Cn
  | 0 => s
  | k + 1 => subZ (redS s E K k) (mulZ (E k) (K k))
theorem redS_congr {s : Cn} {E E' K K' : Nat → Cn} {n : Nat} (h1 : ∀ k, k < n → E k = E' k) (h2 : ∀ k, k < n → K k = K' k) : redS s E K n = redS s E' K' n := by
  induction n with
  | zero => rfl
  | succ n ih => unfold redS; rw [ih (fun k hk => h1 k (by omega)) (fun k hk => h2 k (by omega)), h1 n (by omega), h2 n (by omega)]
def upC (f : Nat → Cn) (k : Nat) (v : Cn) (j : Nat) : Cn := if j = k then v else f j
theorem upC_self (f : Nat → Cn) (k : Nat) (v : Cn) : upC f k v k = v := if_pos rfl
theorem upC_ne (f : Nat → Cn) {k j : Nat} (v : Cn) (h : j ≠ k) : upC f k v j = f j := if_neg h
/-- one unknown of a matrix with nothing right of its diagonal, in the place of the right side -/
def stF (m : Nat → Nat → Cn) (L : Cn → Cn → Cn) (i : Nat) (f : Nat → Cn) : Nat → Cn := upC f i (L (redS (f i) (m i) f i) (m i i))
def fwS (m : Nat → Nat → Cn) (L : Cn → Cn → Cn) (f : Nat → Cn) : Nat → (Nat → Cn)
  | 0 => f
  | i + 1 => stF m L i (fwS m L f i)
/-- the same with nothing left of it -/
def stB (n : Nat) (m : Nat → Nat → Cn) (L : Cn → Cn → Cn) (i : Nat) (f : Nat → Cn) : Nat → Cn := upC f i (L (redS (f i) (fun k => m i (i + 1 + k)) (fun k => f (i + 1 + k)) (n - 1 - i)) (m i i))
def bwS (n : Nat) (m : Nat → Nat → Cn) (L : Cn → Cn → Cn) (f : Nat → Cn) : Nat → (Nat → Cn)
  | 0 => f
  | t + 1 => stB n m L (n - 1 - t) (bwS n m L f t)
/-- a list that is read and lies below block b -/
def Rcb (b : Nat) (w : World) (ao : Option Addr) (xs : List Cw) : Prop :=
  ∀ k, k < xs.length → ∃ B off, ao = some ⟨B, off, none⟩ ∧ B < b ∧ w.cell? ⟨B, off + k, none⟩ = some (cx (zat xs k))
theorem Rcb.rc {b : Nat} {w : World} {ao : Option Addr} {xs : List Cw} (h : Rcb b w ao xs) (hb : b ≤ w.heap.size) : Rc w ao xs := fun k hk => by
  obtain ⟨B, off, h1, h2, h3⟩ := h k hk
  exact ⟨B, off, h1, by omega, h3⟩
theorem Rc.rcb {w : World} {ao : Option Addr} {xs : List Cw} (h : Rc w ao xs) : Rcb w.heap.size w ao xs := h
theorem Rcb.later {b : Nat} {w w' : World} {ao : Option Addr} {xs : List Cw} (h : Rcb b w ao xs) (hb : Below b w w') : Rcb b w' ao xs := fun k hk => by
  obtain ⟨B, off, h1, h2, h3⟩ := h k hk
  exact ⟨B, off, h1, h2, (hb.cell (p := ⟨B, off + k, none⟩) h2).trans h3⟩
theorem Rcb.mono {b b' : Nat} {w : World} {ao : Option Addr} {xs : List Cw} (h : Rcb b w ao xs) (hb : b ≤ b') : Rcb b' w ao xs := fun k hk => by
  obtain ⟨B, off, h1, h2, h3⟩ := h k hk
  exact ⟨B, off, h1, by omega, h3⟩
/-- what a function of two numbers says -/
def SaysF (F : FuncId) (f : Cn → Cn → Cn) : Prop :=
  ∀ (p q : Cw) (P : Cn) (W : World), repz P p → okz q → Calls Tryz.prog F #[.complex .f64 p.1 p.2, .complex .f64 q.1 q.2] W fun e W' => ∃ (r : Cw) (m : Nat), e = .returned (.complex .f64 r.1 r.2) ∧ repz (f P (anz q)) r ∧ W' = W.drewN m
theorem says_div : SaysF 188 divZ := fun _ _ _ W hp hq =>
  (div_any W hp.1 hp.2 (repz_anz hq).1 (repz_anz hq).2).mono (by rintro e w' ⟨re, im, n, rfl, h1, h2, rfl⟩; exact ⟨(re, im), n, rfl, ⟨h1, h2⟩, rfl⟩)
def fstZ (s _d : Cn) : Cn := s
theorem says_und : SaysF 186 fstZ := by
  intro p q P W hp hq
  have HP := hid_o hp
  clear hp
  go_enter Tryz.func186, Tryz.ntmps186
  go_wp2
  go_ret
  exact ⟨p, 0, rfl, HP.out, by first | rfl | simp⟩
theorem ent_div : Ent 188 := by unfold Ent; intro args w; go_simp
theorem ent_und : Ent 186 := by unfold Ent; intro args w; go_simp
theorem mul_zz {W : World} {x y : Cw} {X Y : Cn} (hx : repz X x) (hy : repz Y y) : Calls Tryz.prog 215 #[.complex .f64 x.1 x.2, .complex .f64 y.1 y.2] W fun e w' => ∃ (r : Cw) (n : Nat), e = .returned (.complex .f64 r.1 r.2) ∧ repz (mulZ X Y) r ∧ w' = W.drewN n :=
  (mul_any W hx.1 hx.2 hy.1 hy.2).mono (by rintro e w' ⟨re, im, n, rfl, h1, h2, rfl⟩; exact ⟨(re, im), n, rfl, ⟨h1, h2⟩, rfl⟩)
theorem sub_zz {W : World} {x y : Cw} {X Y : Cn} (hx : repz X x) (hy : repz Y y) : Calls Tryz.prog 47 #[.complex .f64 x.1 x.2, .complex .f64 y.1 y.2] W fun e w' => ∃ (r : Cw) (n : Nat), e = .returned (.complex .f64 r.1 r.2) ∧ repz (subZ X Y) r ∧ w' = W.drewN n :=
  (sub_any W hx.1 hx.2 hy.1 hy.2).mono (by rintro e w' ⟨re, im, n, rfl, h1, h2, rfl⟩; exact ⟨(re, im), n, rfl, ⟨h1, h2⟩, rfl⟩)
set_option maxHeartbeats 1000000 in
theorem reduced_any (s : Cw) (S : Cn) (ao bo : Option Addr) (ca cb n nk : Nat) (E K : Nat → Cn) (es ks : List Cw) (w : World) (hs : repz S s) (hl : es.length = n) (hk : ks.length = nk) (hnk : n ≤ nk) (h4 : nk ≤ 4096) (he : Rc w ao es) (hkn : Rc w bo ks) (hE : repl E n es) (hK : repl K n ks) :
    Calls Tryz.prog 216 #[.complex .f64 s.1 s.2, .slice ao n ca, .slice bo nk cb] w fun e w' => ∃ (r : Cw) (m : Nat), e = .returned (.complex .f64 r.1 r.2) ∧ repz (redS S E K n) r ∧ w' = w.drewN m := by
  have HS := hid_o hs
  have HE := hid_o hE
  have HK := hid_o hK
  have HEs := hid_o he
  have HKs := hid_o hkn
  clear hs hE hK he hkn
  go_enter Tryz.func216, Tryz.ntmps216
  go_wp2
  go_loopw [0, 11] (fun sv iv wr => ∃ (k m : Nat) (r : Cw), k ≤ n ∧ iv = .int .i64 k ∧ sv = .complex .f64 r.1 r.2 ∧ repz (redS S E K k) r ∧ wr = w.drewN m) (fun _ iv _ => n - (intOf iv).toNat)
  case atStart => exact ⟨0, 0, s, Nat.zero_le _, rfl, rfl, HS.out, rfl⟩
  case round =>
    obtain ⟨k, m, r, hkn, rfl, rfl, hr, rfl⟩ := hrel
    have HR := hid_o hr
    clear hr
    by_cases hlt : k < n
    · obtain ⟨b1, o1, rfl, hb1, hc1⟩ := (HEs.out.drewN m) k (by omega)
      obtain ⟨b2, o2, rfl, hb2, hc2⟩ := (HKs.out.drewN m) k (by omega)
      have HX := hid_o (HE.out k hlt)
      have HY := hid_o (HK.out k hlt)
      obtain ⟨x, hxe⟩ : ∃ x, x = zat es k := ⟨_, rfl⟩
      obtain ⟨y, hye⟩ : ∃ y, y = zat ks k := ⟨_, rfl⟩
      rw [← hxe] at hc1 HX
      rw [← hye] at hc2 HY
      clear hxe hye HE HK HEs HKs
      unfold cx at hc1 hc2
      go_wp2_with (first
        | (go_at_call 215; (with_reducible refine (mul_zz HX.out HY.out).mono ?_); rintro e w' ⟨t, m2, rfl, ht, rfl⟩; have HT := hid_o ht; clear ht)
        | (go_at_call 47; (with_reducible refine (sub_zz HR.out HT.out).mono ?_); rintro e w' ⟨u, m3, rfl, hu, rfl⟩; have HU := hid_o hu; clear hu))
      go_roundw
      case measure => simp [intOf]; omega
      case rel => exact ⟨k + 1, m + m2 + m3, u, by omega, by go_num, rfl, HU.out, by first | rfl | simp only [World.drewN_drewN]⟩
    · have e : k = n := by omega
      subst e
      clear HE HK HEs HKs
      go_wp2
      go_ret
      exact ⟨r, m, rfl, HR.out, rfl⟩
set_option maxHeartbeats 1000000 in
theorem allfin_any (ao : Option Addr) (cap n : Nat) (xs : List Cw) (w : World) (hn : xs.length = n) (hsz : n ≤ 1000000000000000) (hc : Rc w ao xs) (hx : okl xs) :
    Calls Tryz.prog 184 #[.slice ao n cap] w fun e w' => e = .returned (.bool (finL xs n)) ∧ w' = w := by
  have NT : Hid (∀ k, k < n → finL xs k = true → finZ (zat xs k) = false → finL xs n = false) := fun k hk a c => by
    cases e : finL xs n
    · rfl
    · rw [finL_iff.1 e k hk] at c; cases c
  obtain ⟨r, hr⟩ : ∃ r, r = finL xs n := ⟨_, rfl⟩
  rw [← hr] at NT ⊢
  have HR := hid_o hr
  clear hr
  go_enter Tryz.func184, Tryz.ntmps184
  go_wp2
  go_loopw [7] (fun i wr => ∃ (k : Nat), k ≤ n ∧ i = .int .i64 k ∧ finL xs k = true ∧ wr = w) (fun i _ => n - (intOf i).toNat)
  case atStart => exact ⟨0, Nat.zero_le _, rfl, rfl, rfl⟩
  case round =>
    obtain ⟨k, hk, rfl, hf, hw⟩ := hrel
    by_cases hlt : k < n
    · obtain ⟨b, off, rfl, hb, hcx⟩ := hc k (by omega)
      rw [← hw] at hb hcx
      have HW : Hid (wr = w) := hw
      have F2 : finL xs (k + 1) = (finL xs k && finZ (zat xs k)) := rfl
      rw [hf, Bool.true_and] at F2
      have ho := hx k
      have F1 := hid_o (NT.out k hlt hf)
      obtain ⟨x, hxe⟩ : ∃ x, x = zat xs k := ⟨_, rfl⟩
      rw [← hxe] at hcx F1 F2 ho
      unfold cx at hcx
      have G2 : Hid (finL xs (k + 1) = finZ x) := F2
      clear hxe hc hf hw F2 hx
      cases f1 : finZ x
      · have e1 : r = false := F1.out f1
        subst e1
        go_wp2_with (go_at_call 59; (with_reducible refine (fin_walk ho).mono ?_); rintro e w' ⟨rfl, rfl⟩; rw [f1])
        go_ret
        exact ⟨rfl, HW.out⟩
      · go_wp2_with (go_at_call 59; (with_reducible refine (fin_walk ho).mono ?_); rintro e w' ⟨rfl, rfl⟩; rw [f1])
        exact ⟨⟨k + 1, by omega, by go_num, by rw [G2.out]; exact f1, HW.out⟩, by simp [intOf]; omega⟩
    · have e : k = n := by omega
      subst e
      have HW : Hid (wr = w) := hw
      have e1 : r = true := HR.out.trans hf
      subst e1
      clear hx hc hf hw
      go_wp2
      go_ret
      exact ⟨rfl, HW.out⟩

end Go.Proofs.YtmpkcioeodlbcaaGreatDoor
namespace Go.Proofs.YtmpkcioeodlbcaaGreatDoor
open Fl RowKit
theorem Tryz.infoSl : (Tryz.prog.info? 32).map (fun i => (i.zero, i.size, i.bytes)) = some (some (.slice none 0 0), 1, 24) := by kernel_rfl
theorem Tryz.infoCs : (Tryz.prog.info? 39).map (·.size) = some 1 := by kernel_rfl
theorem run_mkS (n : Nat) (hn : n ≤ 65536) (w : World) : (Instr.makeSlice 210 (.int .i64 (n : Int)) (.int .i64 (n : Int))).run Tryz.prog w = .ok (.slice (some ⟨w.heap.size, 0, none⟩) n n) (w.alloc (.cells (madeCells #[.slice none 0 0] n) 32)) := by
  obtain ⟨i0, hi, hz0, hz1, hz2⟩ := info_parts Tryz.infoSl
  have h := run_make (P := Tryz.prog) w 210 32 i0 (.slice none 0 0) Tryz.underlying210 hi hz0 .i64 .i64 n n (by omega) (Int.le_refl _) (by rw [hz2]; omega) (by omega)
  simp only [Int.toNat_natCast, hz1, Nat.mul_one] at h
  exact h
theorem run_mkI (n : Nat) (hn : n ≤ 65536) (w : World) : (Instr.makeSlice 160 (.int .i64 (n : Int)) (.int .i64 (n : Int))).run Tryz.prog w = .ok (.slice (some ⟨w.heap.size, 0, none⟩) n n) (w.alloc (.cells (madeCells #[.int .i64 0] n) 3)) := by
  obtain ⟨i0, hi, hz0, hz1, hz2⟩ := info_parts Tryz.infoI
  have h := run_make (P := Tryz.prog) w 160 3 i0 (.int .i64 0) Tryz.underlying160 hi hz0 .i64 .i64 n n (by omega) (Int.le_refl _) (by rw [hz2]; omega) (by omega)
  simp only [Int.toNat_natCast, hz1, Nat.mul_one] at h
  exact h
theorem made_rep (n : Nat) (v : Value) : (madeCells #[v] n) = ((List.range n).map (fun _ => v)).toArray := by
  apply Array.ext'
  apply List.ext_getElem?
  intro i
  simp only [madeCells, Array.toList_map, List.getElem?_map, Array.toList_range]
  by_cases hi : i < n
  · simp [hi, Nat.mod_one]
  · simp [hi]
theorem own_made {w : World} {b g n : Nat} {e : TypeId} {xs : List Value} (hn : xs.length = n) (hm : n ≤ maxLen) (hb : b ≤ g) (h : w.heap[g]? = some (.cells xs.toArray e (0, 0))) : w.ownsRow b e 1 (.slice (some ⟨g, 0, none⟩) n n) n xs := by
  refine ⟨by simp [hn], .inr ⟨g, n, _, rfl, hb, h, Nat.le_refl _, hm, by simp [hn], ?_⟩⟩
  rw [List.toList_toArray, Nat.mul_one]
  exact List.take_of_length_le (by omega)
/-- a Lower under way: i rows are made -/
structure Bg (w : World) (b p n gr go i : Nat) (bl : Nat → Nat) (M : Nat → Nat → Cw) : Prop where
  v : V3 p (.slice (some ⟨gr, 0, none⟩) n n) (.slice (some ⟨go, 0, none⟩) n n) (.int .i64 1) w
  rows : w.ownsRow b 32 1 (.slice (some ⟨gr, 0, none⟩) n n) n ((List.range n).map fun j => if j < i then .slice (some ⟨bl j, 0, none⟩) n n else .slice none 0 0)
  row : ∀ j, j < i → Rw w b (.slice (some ⟨bl j, 0, none⟩) n n) n (ro n (M j))
  ord : Ir w b (.slice (some ⟨go, 0, none⟩) n n) n (ri n (fun j => if j < i then j else 0))
  ge : b ≤ p
  inj : ∀ j k, j < i → k < i → bl j = bl k → j = k
  ap : ∀ j, j < i → bl j ≠ p ∧ bl j ≠ gr ∧ bl j ≠ go
  ap2 : gr ≠ p ∧ go ≠ p ∧ gr ≠ go
theorem Bg.done {w : World} {b p n gr go : Nat} {bl : Nat → Nat} {M : Nat → Nat → Cw} (h : Bg w b p n gr go n bl M) : Lo w b p n gr go bl M (fun i => i) 1 := by
  have e1 : ((List.range n).map fun j => if j < n then (Value.slice (some ⟨bl j, 0, none⟩) n n) else .slice none 0 0) = (List.range n).map fun j => .slice (some ⟨bl j, 0, none⟩) n n :=
    List.map_congr_left (fun j hj => if_pos (List.mem_range.1 hj))
  have e2 : ri n (fun j => if j < n then j else 0) = ri n (fun j => j) := ri_congr (fun j hj => if_pos hj)
  exact ⟨h.v, by rw [← e1]; exact h.rows, h.row, by rw [← e2]; exact h.ord, h.ge, h.inj, h.ap, h.ap2⟩
theorem al_new (w : World) (o : Obj) : (w.alloc o).heap[w.heap.size]? = some o := heap_alloc_new w o
theorem al_old {w : World} {g : Nat} (o : Obj) (h : g < w.heap.size) : (w.alloc o).heap[g]? = w.heap[g]? := heap_alloc_old w o h
theorem bg0 {W w' : World} {b n gr go : Nat} {bl : Nat → Nat} {M : Nat → Nat → Cw} (hb : b ≤ gr) (hb2 : b ≤ go) (hne : gr ≠ go) (h1 : gr < W.heap.size) (h2 : go < W.heap.size) (hm : n ≤ 64)
    (hr : W.heap[gr]? = some (.cells (madeCells #[.slice none 0 0] n) 32 (0, 0))) (ho : W.heap[go]? = some (.cells (madeCells #[.int .i64 0] n) 3 (0, 0)))
    (hw : w' = W.alloc (.cells #[.slice (some ⟨gr, 0, none⟩) n n, .slice (some ⟨go, 0, none⟩) n n, .int .i64 1] 212)) : Bg w' b W.heap.size n gr go 0 bl M := by
  subst hw
  have hml : n ≤ maxLen := by unfold maxLen; omega
  refine ⟨v3_new W _ _ _ _, ?_, fun j hj => absurd hj (by omega), ⟨ri_len _ _, ?_⟩, by omega, fun j k hj => absurd hj (by omega), fun j hj => absurd hj (by omega), by omega, by omega, hne⟩
  · refine own_made (by simp) hml hb ?_
    rw [al_old _ h1, hr, made_rep]
    simp
  · refine own_made (by simp [ri_len]) hml hb2 ?_
    rw [al_old _ h2, ho, made_rep]
    simp [ri, ci]
theorem Bg.step {wr W w' : World} {b p n gr go i : Nat} {bl : Nat → Nat} {M : Nat → Nat → Cw} (h : Bg wr b p n gr go i bl M) (hi : i < n) (hb : b ≤ wr.heap.size) (hm : n ≤ 64)
    (hW : W = (((wr.setCell ⟨gr, i, none⟩ (.slice (some ⟨wr.heap.size, 0, none⟩) n n)).setCell ⟨go, i, none⟩ (.int .i64 i)).alloc (.cells (madeCells #[.complex .f64 0 0] n) 39)).drew)
    (hB : Below wr.heap.size W w') (hg : w'.heap[wr.heap.size]? = some (.cells ((ro n (M i)).map cx).toArray 39 (0, 0))) :
    Bg w' b p n gr go (i + 1) (fun j => if j = i then wr.heap.size else bl j) M := by
  subst hW
  have hp := h.v.lt
  have hgr := (h.rows.lt gr rfl).2
  have hgo := (h.ord.own.lt go rfl).2
  have hoth : ∀ g, g < wr.heap.size → g ≠ gr → g ≠ go → w'.heap[g]? = wr.heap[g]? := by
    intro g h1 h2 h3
    rw [hB.block g h1]
    show (((wr.setCell ⟨gr, i, none⟩ (.slice (some ⟨wr.heap.size, 0, none⟩) n n)).setCell ⟨go, i, none⟩ (.int .i64 i)).alloc (.cells (madeCells #[.complex .f64 0 0] n) 39)).heap[g]? = _
    rw [al_old _ (by simpa using h1), Below.heap_setCell _ _ _ _ h3, Below.heap_setCell _ _ _ _ h2]
  have hbl : ∀ j, j < i → bl j < wr.heap.size := fun j hj => ((h.row j hj).own.lt _ rfl).2
  have hpb := hoth p hp h.ap2.1.symm h.ap2.2.1.symm
  have hv : ∀ j, w'.cell? ⟨p, j, none⟩ = wr.cell? ⟨p, j, none⟩ := fun j => World.cell?_of_block hpb
  have hf : ∀ j, w'.frozen? ⟨p, j, none⟩ = wr.frozen? ⟨p, j, none⟩ := fun j => World.frozen?_of_block hpb
  have hsz : wr.heap.size ≤ w'.heap.size := by
    have := hB.size
    simp at this
    omega
  refine ⟨⟨by omega, (hv 0).trans h.v.c0, (hv 1).trans h.v.c1, (hv 2).trans h.v.c2, (hf 0).trans h.v.f0, (hf 1).trans h.v.f1, (hf 2).trans h.v.f2⟩, ?_, ?_, ?_, h.ge, ?_, ?_, h.ap2⟩
  · have h1 := (h.rows.stored i (.slice (some ⟨wr.heap.size, 0, none⟩) n n)).1
    rw [range_set] at h1
    have e : ((List.range n).map fun j => if j = i then (Value.slice (some ⟨wr.heap.size, 0, none⟩) n n) else if j < i then .slice (some ⟨bl j, 0, none⟩) n n else .slice none 0 0) = (List.range n).map fun j => if j < i + 1 then .slice (some ⟨if j = i then wr.heap.size else bl j, 0, none⟩) n n else .slice none 0 0 := by
      refine List.map_congr_left (fun j _ => ?_)
      by_cases h1 : j = i
      · subst h1; rw [if_pos rfl, if_pos (by omega), if_pos rfl]
      · rw [if_neg h1, if_neg h1]
        by_cases h2 : j < i
        · rw [if_pos h2, if_pos (by omega)]
        · rw [if_neg h2, if_neg (by omega)]
    rw [e] at h1
    refine own_at h1 (fun g hg => ?_)
    cases hg
    rw [hB.block gr hgr]
    show (((wr.setCell ⟨gr, i, none⟩ (.slice (some ⟨wr.heap.size, 0, none⟩) n n)).setCell ⟨go, i, none⟩ (.int .i64 i)).alloc (.cells (madeCells #[.complex .f64 0 0] n) 39)).heap[gr]? = _
    rw [al_old _ (by simpa using hgr), Below.heap_setCell _ _ _ _ h.ap2.2.2]
  · intro j hj
    by_cases e : j = i
    · subst e
      simp only [if_true]
      exact ⟨ro_len _ _, own_made (by simp [ro_len]) (by unfold maxLen; omega) hb hg⟩
    · have hji : j < i := by omega
      simp only [e, if_false]
      exact ⟨(h.row j hji).len, own_at (h.row j hji).own (fun g hg => by cases hg; exact hoth _ (hbl j hji) (h.ap j hji).2.1 (h.ap j hji).2.2)⟩
  · have o2 : Ir (wr.setCell ⟨gr, i, none⟩ (.slice (some ⟨wr.heap.size, 0, none⟩) n n)) b (.slice (some ⟨go, 0, none⟩) n n) n (ri n (fun j => if j < i then j else 0)) :=
      ⟨h.ord.len, own_at h.ord.own (fun g hg => by cases hg; exact Below.heap_setCell _ _ _ _ h.ap2.2.2.symm)⟩
    have o3 := o2.set i (i : Int)
    rw [ri_set] at o3
    have e : ri n (fun j => if j = i then i else if j < i then j else 0) = ri n (fun j => if j < i + 1 then j else 0) := by
      refine ri_congr (fun j _ => ?_)
      by_cases h1 : j = i
      · subst h1; rw [if_pos rfl, if_pos (by omega)]
      · rw [if_neg h1]
        by_cases h2 : j < i
        · rw [if_pos h2, if_pos (by omega)]
        · rw [if_neg h2, if_neg (by omega)]
    rw [e] at o3
    refine ⟨o3.len, own_at o3.own (fun g hg => ?_)⟩
    cases hg
    rw [hB.block go hgo]
    show (((wr.setCell ⟨gr, i, none⟩ (.slice (some ⟨wr.heap.size, 0, none⟩) n n)).setCell ⟨go, i, none⟩ (.int .i64 i)).alloc (.cells (madeCells #[.complex .f64 0 0] n) 39)).heap[go]? = _
    rw [al_old _ (by simpa using hgo)]
  · intro j k hj hk e
    by_cases a : j = i
    · by_cases c : k = i
      · omega
      · rw [if_pos a, if_neg c] at e; have := hbl k (by omega); omega
    · by_cases c : k = i
      · rw [if_neg a, if_pos c] at e; have := hbl j (by omega); omega
      · rw [if_neg a, if_neg c] at e; exact h.inj j k (by omega) (by omega) e
  · intro j hj
    by_cases a : j = i
    · simp only [a, if_true]; omega
    · simp only [a, if_false]; exact h.ap j (by omega)

theorem Bg.drewN {w : World} {b p n gr go i : Nat} {bl : Nat → Nat} {M : Nat → Nat → Cw} (h : Bg w b p n gr go i bl M) (m : Nat) : Bg (w.drewN m) b p n gr go i bl M :=
  ⟨h.v.drewN m, h.rows, fun j hj => (h.row j hj).drewN m, h.ord.drewN m, h.ge, h.inj, h.ap, h.ap2⟩
theorem begun0 {w : World} {n N c : Nat} {A : Option Addr} {M : Nat → Nat → Cw} (O1 O2 : Obj) (gr go : Nat) (hn : n ≤ 64)
    (h : gr = w.heap.size + 1 ∧ go = w.heap.size + 1 + 1 ∧ O1 = .cells (madeCells #[.slice none 0 0] n) 32 ∧ O2 = .cells (madeCells #[.int .i64 0] n) 3 ∨ go = w.heap.size + 1 ∧ gr = w.heap.size + 1 + 1 ∧ O2 = .cells (madeCells #[.slice none 0 0] n) 32 ∧ O1 = .cells (madeCells #[.int .i64 0] n) 3) :
    ∃ p gr' go', Value.pointer (some ⟨w.heap.size + 1 + 1 + 1, 0, none⟩) = Value.pointer (some ⟨p, 0, none⟩) ∧ Bg ((((w.alloc (.cells #[.int .i64 n, .int .i64 n, .slice A N c] 120)).alloc O1).alloc O2).alloc (.cells #[.slice (some ⟨gr, 0, none⟩) n n, .slice (some ⟨go, 0, none⟩) n n, .int .i64 1] 212)).drew w.heap.size p n gr' go' 0 (fun _ => 0) M ∧
      V3 w.heap.size (.int .i64 n) (.int .i64 n) (.slice A N c) ((((w.alloc (.cells #[.int .i64 n, .int .i64 n, .slice A N c] 120)).alloc O1).alloc O2).alloc (.cells #[.slice (some ⟨gr, 0, none⟩) n n, .slice (some ⟨go, 0, none⟩) n n, .int .i64 1] 212)).drew ∧
      Below w.heap.size w ((((w.alloc (.cells #[.int .i64 n, .int .i64 n, .slice A N c] 120)).alloc O1).alloc O2).alloc (.cells #[.slice (some ⟨gr, 0, none⟩) n n, .slice (some ⟨go, 0, none⟩) n n, .int .i64 1] 212)).drew ∧ gr' ≠ w.heap.size ∧ go' ≠ w.heap.size := by
  obtain ⟨X, hX⟩ : ∃ X, X = w.alloc (.cells #[.int .i64 n, .int .i64 n, .slice A N c] 120) := ⟨_, rfl⟩
  have hXs : X.heap.size = w.heap.size + 1 := by rw [hX]; simp
  have hB : Below w.heap.size w X := by rw [hX]; exact bal _ _
  have V0 : V3 w.heap.size (.int .i64 n) (.int .i64 n) (.slice A N c) X := by rw [hX]; exact v3_new w _ _ _ _
  rw [← hX]
  have hs1 : (X.alloc O1).heap.size = w.heap.size + 1 + 1 := by simp [hXs]
  have hs2 : ((X.alloc O1).alloc O2).heap.size = w.heap.size + 1 + 1 + 1 := by simp [hXs]
  have e1 : ((X.alloc O1).alloc O2).heap[w.heap.size + 1]? = some O1 := by
    rw [al_old _ (by rw [hs1]; omega)]
    have := al_new X O1
    rw [hXs] at this
    exact this
  have e2 : ((X.alloc O1).alloc O2).heap[w.heap.size + 1 + 1]? = some O2 := by
    have := al_new (X.alloc O1) O2
    rw [hs1] at this
    exact this
  refine ⟨w.heap.size + 1 + 1 + 1, gr, go, rfl, ?_, ((V0.below (bal _ _)).below (bal _ _)).below (bal _ _) |>.drewN 1, below_drewN (((hB.alloc (by omega) _).alloc (by rw [hs1]; omega) _).alloc (by rw [hs2]; omega) _) 1, ?_⟩
  · refine Bg.drewN ?_ 1
    have := fun (a1 : w.heap.size ≤ gr) (a2 : w.heap.size ≤ go) (a3 : gr ≠ go) (a4 : gr < ((X.alloc O1).alloc O2).heap.size) (a5 : go < ((X.alloc O1).alloc O2).heap.size) hr ho => bg0 (bl := fun _ => 0) (M := M) a1 a2 a3 a4 a5 hn hr ho rfl
    rw [hs2] at this
    rcases h with ⟨r1, r2, r3, r4⟩ | ⟨r1, r2, r3, r4⟩
    · subst r1 r2 r3 r4
      exact this (by omega) (by omega) (by omega) (by omega) (by omega) e1 e2
    · subst r1 r2 r3 r4
      exact this (by omega) (by omega) (by omega) (by omega) (by omega) e2 e1
  · omega
theorem wrap_mul1 {i n : Nat} (hi : i ≤ 64) (hn : n ≤ 64) : wrap64 (((i : Int) + 1) * (n : Int)) = ((i * n + n : Nat) : Int) := by
  have := wrap_mul (i := i + 1) (C := n) (by omega) (by omega)
  rw [Nat.succ_mul, Int.natCast_add, Int.natCast_one] at this
  exact this
theorem rc_src {w : World} {a off k n : Nat} {xs : List Cw} {M : Nat → Nat → Cw} {i : Nat} (hc : Rc w (some ⟨a, off, none⟩) xs) (hk : k = i * n) (hx : k + n ≤ xs.length) (hM : ∀ j, j < n → M i j = zat xs (k + j)) :
    ∀ j v, ((ro n (M i)).map cx)[j]? = some v → w.cell? ((⟨a, off + k, none⟩ : Addr).add j) = some v := by
  intro j v hj
  rw [List.getElem?_map] at hj
  by_cases hl : j < n
  · rw [zat_lt (by rw [ro_len]; exact hl), ro_at _ hl, hM j hl] at hj
    cases hj
    obtain ⟨b', off', h1, _, h3⟩ := hc (k + j) (by omega)
    cases h1
    unfold Addr.add
    split
    · rename_i e0
      rw [e0, Nat.add_zero] at h3
      rw [e0]; exact h3
    · rw [← Nat.add_assoc] at h3; exact h3
  · rw [List.getElem?_eq_none (by rw [ro_len]; omega)] at hj; cases hj
theorem one_cx {zs : List Cw} : ∀ v ∈ zs.map cx, v.oneCell' = true := by
  intro v hv
  obtain ⟨z, _, rfl⟩ := List.mem_map.1 hv
  rfl
set_option maxHeartbeats 4000000 in
theorem begun_any (n c : Nat) (A : Option Addr) (xs : List Cw) (M : Nat → Nat → Cw) (w : World) (hn : n ≤ 64) (hl : xs.length = n * n) (hcap : n * n ≤ c) (hc : Rc w A xs) (hM : ∀ i j, i < n → j < n → M i j = zat xs (i * n + j)) :
    Calls Tryz.prog 138 #[.agg #[.int .i64 n, .int .i64 n, .slice A (n * n) c]] w fun e w' => ∃ p gr go bl, e = .returned (.pointer (some ⟨p, 0, none⟩)) ∧ Lo w' w.heap.size p n gr go bl M (fun i => i) 1 ∧ Below w.heap.size w w' := by
  have h4 := le_4096 hn hn
  obtain ⟨N, hN⟩ : ∃ N, N = n * n := ⟨_, rfl⟩
  rw [← hN] at hl hcap h4 ⊢
  have HN := hid_o hN
  have HM := hid_o hM
  have HC := hid_o hc
  clear hN hM hc
  have V0 : V3 w.heap.size (.int .i64 n) (.int .i64 n) (.slice A N c) (w.alloc (.cells #[.int .i64 n, .int .i64 n, .slice A N c] 120)) := v3_new w _ _ _ _
  have B0 : Below w.heap.size w (w.alloc (.cells #[.int .i64 n, .int .i64 n, .slice A N c] 120)) := bal _ _
  have m1 := run_mkS n (by omega)
  have m2 := run_mkI n (by omega)
  go_enter Tryz.func138, Tryz.ntmps138
  go_wp2
  go_cut [4] (fun pv wc => ∃ p gr go, pv = .pointer (some ⟨p, 0, none⟩) ∧ Bg wc w.heap.size p n gr go 0 (fun _ => 0) M ∧ V3 w.heap.size (.int .i64 n) (.int .i64 n) (.slice A N c) wc ∧ Below w.heap.size w wc ∧ gr ≠ w.heap.size ∧ go ≠ w.heap.size)
  case first =>
    go_region
    all_goals
      go_wp2_with fail
      go_meet
      case rel =>
        first
        | exact begun0 _ _ _ _ hn (.inl ⟨rfl, rfl, rfl, rfl⟩)
        | exact begun0 _ _ _ _ hn (.inr ⟨rfl, rfl, rfl, rfl⟩)
  case rest =>
    clear V0 B0 m1 m2
    obtain ⟨p, gr, go, rfl, hBg, hV, hbel, hgr, hgo⟩ := hcut
    have m3 := run_mkC n (by omega)
    go_wp2
    go_loopw [15] (fun iv wr => ∃ (i : Nat) (bl : Nat → Nat), i ≤ n ∧ iv = .int .i64 i ∧ Bg wr w.heap.size p n gr go i bl M ∧ V3 w.heap.size (.int .i64 n) (.int .i64 n) (.slice A N c) wr ∧ Below w.heap.size w wr) (fun iv _ => n - (intOf iv).toNat)
    case atStart => exact ⟨0, _, Nat.zero_le _, rfl, hBg, hV, hbel⟩
    case round =>
      clear hBg hV hbel
      obtain ⟨i, bl, hin, rfl, hBg, hV, hbel⟩ := hrel
      by_cases hlt : i < n
      · have v0 := hBg.v.c0
        have v1 := hBg.v.c1
        have hpl := hBg.v.lt
        have gl1 := (hBg.rows.lt gr rfl).2
        have gl2 := (hBg.ord.own.lt go rfl).2
        have c1 : wr.cell? ⟨gr, i, none⟩ = some (.slice none 0 0) := by
          rw [hBg.rows.cellAt i (by omega)]
          simp [hlt]
        have c2 : wr.cell? ⟨go, i, none⟩ = some (.int .i64 0) := by
          obtain ⟨b', o', e1, _, e3⟩ := hBg.ord.qi i (by rw [ri_len]; exact hlt)
          cases e1; rw [Nat.zero_add, ri_at _ hlt, if_neg (by omega)] at e3; exact e3
        have f1 := hBg.rows.frozenAt i
        have f2 := hBg.ord.own.frozenAt i
        have hgo2 : go ≠ gr := hBg.ap2.2.2.symm
        have HBG := hid_o hBg
        have HV := hid_o hV
        have HB := hid_o hbel
        clear hBg hV hbel
        go_wp2
        go_cut [] (fun wc => wc = (((wr.setCell ⟨gr, i, none⟩ (.slice (some ⟨wr.heap.size, 0, none⟩) n n)).setCell ⟨go, i, none⟩ (.int .i64 i)).alloc (.cells (madeCells #[.complex .f64 0 0] n) 39)).drew)
        case first =>
          go_region
          all_goals
            go_wp2_with fail
            go_meet
            case rel => rfl
        case rest =>
          have hcut2 := hid_o hcut
          have hgl : gr ≠ go := Ne.symm hgo2
          have hpb : ∀ g, g < wr.heap.size → g ≠ gr → g ≠ go → wc.heap[g]? = wr.heap[g]? := by
            intro g h1 h2 h3
            rw [hcut]
            show (((wr.setCell ⟨gr, i, none⟩ (.slice (some ⟨wr.heap.size, 0, none⟩) n n)).setCell ⟨go, i, none⟩ (.int .i64 i)).alloc (.cells (madeCells #[.complex .f64 0 0] n) 39)).heap[g]? = _
            rw [al_old _ (by simpa using h1), Below.heap_setCell _ _ _ _ h3, Below.heap_setCell _ _ _ _ h2]
          have hsz : wc.heap.size = wr.heap.size + 1 := by rw [hcut]; simp
          have e0 : wc.cell? ⟨p, 0, none⟩ = some (.slice (some ⟨gr, 0, none⟩) n n) := (World.cell?_of_block (hpb p hpl HBG.out.ap2.1.symm HBG.out.ap2.2.1.symm)).trans v0
          have hb0 := HV.out.lt
          have e1 : wc.cell? ⟨w.heap.size, 2, none⟩ = some (.slice A N c) := (World.cell?_of_block (hpb _ hb0 (Ne.symm hgr) (Ne.symm hgo))).trans HV.out.c2
          have e2 : wc.cell? ⟨gr, i, none⟩ = some (.slice (some ⟨wr.heap.size, 0, none⟩) n n) := by
            rw [hcut]
            show (((wr.setCell ⟨gr, i, none⟩ (.slice (some ⟨wr.heap.size, 0, none⟩) n n)).setCell ⟨go, i, none⟩ (.int .i64 i)).alloc (.cells (madeCells #[.complex .f64 0 0] n) 39)).cell? ⟨gr, i, none⟩ = _
            rw [World.cell?_of_block (al_old _ (by simpa using gl1)), other_cell _ (by intro e; cases e; exact hgl rfl)]
            exact World.cell?_setCell_same _ _ _ c1
          have hcur : wc.heap[wr.heap.size]? = some (.cells ((ro n (fun _ => (0, 0))).map cx).toArray 39 (0, 0)) := by
            rw [hcut]
            show (((wr.setCell ⟨gr, i, none⟩ (.slice (some ⟨wr.heap.size, 0, none⟩) n n)).setCell ⟨go, i, none⟩ (.int .i64 i)).alloc (.cells (madeCells #[.complex .f64 0 0] n) 39)).heap[wr.heap.size]? = _
            have := al_new ((wr.setCell ⟨gr, i, none⟩ (.slice (some ⟨wr.heap.size, 0, none⟩) n n)).setCell ⟨go, i, none⟩ (.int .i64 i)) (.cells (madeCells #[.complex .f64 0 0] n) 39)
            rw [show ((wr.setCell ⟨gr, i, none⟩ (.slice (some ⟨wr.heap.size, 0, none⟩) n n)).setCell ⟨go, i, none⟩ (.int .i64 i)).heap.size = wr.heap.size by simp] at this
            rw [this, made_rep]
            simp [ro, cx]
          have hbw : Below w.heap.size w wc := by
            rw [hcut]
            exact below_drewN ((((HB.out).setCell (p := ⟨gr, i, none⟩) ((HBG.out.rows.lt gr rfl).1) _).setCell (p := ⟨go, i, none⟩) ((HBG.out.ord.own.lt go rfl).1) _).alloc (by simpa using HB.out.size) _) 1
          have HVC : Hid (V3 w.heap.size (.int .i64 n) (.int .i64 n) (.slice A N c) wc) := by
            rw [hcut]
            exact (((HV.out.other (q := ⟨gr, i, none⟩) hgr _).other (q := ⟨go, i, none⟩) hgo _).below (bal _ _)).drewN 1
          have hRc := HC.out.below hbw
          have h1 : (i + 1) * n ≤ n * n := Nat.mul_le_mul_right _ (by omega)
          rw [Nat.succ_mul, ← HN.out] at h1
          have HMi := hid_o (fun j hj => HM.out i j hlt hj)
          have M1 := hid_o (wrap_mul (i := i) (C := n) (by omega) (by omega))
          have M2 := hid_o (wrap_mul1 (i := i) (n := n) (by omega) (by omega))
          obtain ⟨k, hke⟩ : ∃ k, k = i * n := ⟨_, rfl⟩
          rw [← hke] at M1 M2 h1 HMi
          have HK := hid_o hke
          have hkx : k < xs.length := by omega
          have hkn : k + n ≤ xs.length := by omega
          have hA : ∃ a off, A = some ⟨a, off, none⟩ := by
            obtain ⟨b', off', h1', _, _⟩ := hRc k hkx
            exact ⟨b', off', h1'⟩
          obtain ⟨a, off, rfl⟩ := hA
          have HS := hid_o (rc_src hRc hke hkn HMi.out)
          have HBW := hid_o hbw
          have HWS : Hid (wr.heap.size < wc.heap.size) := by show wr.heap.size < wc.heap.size; omega
          have hge := HB.out.size
          have hkc : k + n ≤ c := by omega
          have hkN : k < c := by omega
          clear hcut v0 v1 c1 c2 f1 f2 hpb hke hRc hbw HM HMi hkx hkn
          have hw0 : IntKind.i64.wrap ((i : Int) + 1) = (i : Int) + 1 := by rw [IntKind.wrap_i64]; omega
          have hck : ¬ c = k := by omega
          have hw1 : IntKind.i64.wrap ((i : Int) * (n : Int)) = (k : Int) := by
            have e : (i : Int) * (n : Int) = (k : Int) := by rw [HK.out]; exact (Int.natCast_mul i n).symm
            rw [e, IntKind.wrap_i64]; omega
          have hw2 : IntKind.i64.wrap (((i : Int) + 1) * (n : Int)) = ((k + n : Nat) : Int) := by
            have e : ((i : Int) + 1) * (n : Int) = ((k + n : Nat) : Int) := by rw [Int.natCast_add, HK.out, Int.natCast_mul, Int.add_mul, Int.one_mul]
            rw [e, IntKind.wrap_i64]; omega
          obtain ⟨en, hen⟩ : ∃ en, en = k + n := ⟨_, rfl⟩
          rw [← hen] at hw2 hkc h1
          have hsub : en - k = n := by omega
          have hke2 : k ≤ en := by omega
          clear M1 M2 hen
          go_wp2
          go_region_law
            (refine step_copy_splice rfl _ _ 32 32 rfl 39 Tryz.underlying32 Tryz.infoCs _ _ _ _ _ _ rfl rfl wr.heap.size 0 ((ro n (fun _ => (0, 0))).map cx) 39 hcur ((ro n (M i)).map cx) (by simp [ro_len]) (fun _ => ⟨rfl, _, rfl, HS.out⟩) (by simp [ro_len]) one_cx wr.heap.size wc (below_drewN (Below.refl _ _) _) (Nat.le_refl _) ?_; intro w2 hb2 B2)
          all_goals
            rw [splice_all (by simp [ro_len])] at hb2
            go_wp2_with fail
            go_roundw
            case measure => simp [intOf]; omega
            case rel => exact ⟨i + 1, _, by omega, by go_num, HBG.out.step hlt hge hn hcut2.out B2 hb2.out, HVC.out.later B2 hb0, HBW.out.trans (B2.mono hge)⟩
      · have e : i = n := by omega
        subst e
        clear HM HC m3
        go_wp2
        go_ret
        exact ⟨p, gr, go, bl, rfl, hBg.done, hbel⟩

end Go.Proofs.YtmpkcioeodlbcaaGreatDoor
