/-
  Several texts in one: Lwa Lwb Lwc.
-/
import Derived.Test.YtmpkcioeodlbcaaGreatDoorK40
import Derived.Test.YtmpkcioeodlbcaaGreatDoorK31
import Derived.Deep.RegionWith
import Derived.Deep.RegionHeldLaw
import Derived.Deep.DeepCutAuto
namespace Go.Proofs.YtmpkcioeodlbcaaGreatDoor
open Fl RowKit
/-- a row by a function of its places -/
def ro (n : Nat) (f : Nat → Cw) : List Cw := (List.range n).map f
theorem ro_len (n : Nat) (f : Nat → Cw) : (ro n f).length = n := by simp [ro]
theorem ro_at {n j : Nat} (f : Nat → Cw) (h : j < n) : zat (ro n f) j = f j := by simp [ro, zat, List.getD_eq_getElem?_getD, h]
def upz (f : Nat → Cw) (k : Nat) (v : Cw) (j : Nat) : Cw := if j = k then v else f j
theorem upz_self (f : Nat → Cw) (k : Nat) (v : Cw) : upz f k v k = v := if_pos rfl
theorem upz_ne (f : Nat → Cw) {k j : Nat} (v : Cw) (h : j ≠ k) : upz f k v j = f j := if_neg h
theorem ro_set (n : Nat) (f : Nat → Cw) (k : Nat) (v : Cw) : (ro n f).set k v = ro n (upz f k v) := by
  apply List.ext_getElem?
  intro i
  by_cases hi : i < n
  · by_cases e : k = i
    · subst e
      rw [List.getElem?_set_self (by rw [ro_len]; exact hi)]
      simp [ro, hi, upz]
    · rw [List.getElem?_set_ne e]
      simp [ro, hi, upz, Ne.symm e]
  · rw [List.getElem?_eq_none (by simp [ro_len]; omega), List.getElem?_eq_none (by simp [ro_len]; omega)]
theorem ro_congr {n : Nat} {f g : Nat → Cw} (h : ∀ j, j < n → f j = g j) : ro n f = ro n g := by
  unfold ro
  exact List.map_congr_left (fun j hj => h j (List.mem_range.1 hj))
theorem ro_ok {n : Nat} {f : Nat → Cw} (h : ∀ j, j < n → okz (f j)) : okl (ro n f) := by
  intro k
  by_cases hk : k < n
  · rw [ro_at f hk]; exact h k hk
  · rw [zat_ge (by rw [ro_len]; omega)]; exact ⟨by decide, by decide⟩
theorem ro_of {n : Nat} {xs : List Cw} (h : xs.length = n) : xs = ro n (zat xs) := by
  apply List.ext_getElem?
  intro i
  by_cases hi : i < n
  · rw [zat_lt (by omega)]; simp [ro, hi]
  · rw [List.getElem?_eq_none (by omega), List.getElem?_eq_none (by rw [ro_len]; omega)]
/-- a list of integers by a function of its places -/
def ri (n : Nat) (o : Nat → Nat) : List Int := (List.range n).map (fun i => (o i : Int))
theorem ri_len (n : Nat) (o : Nat → Nat) : (ri n o).length = n := by simp [ri]
theorem ri_at {n j : Nat} (o : Nat → Nat) (h : j < n) : iat (ri n o) j = (o j : Int) := by simp [ri, iat, List.getD_eq_getElem?_getD, h]
theorem ri_set (n : Nat) (o : Nat → Nat) (k v : Nat) : (ri n o).set k (v : Int) = ri n (fun j => if j = k then v else o j) := by
  apply List.ext_getElem?
  intro i
  by_cases hi : i < n
  · by_cases e : k = i
    · subst e
      rw [List.getElem?_set_self (by rw [ri_len]; exact hi)]
      simp [ri, hi]
    · rw [List.getElem?_set_ne e]
      simp [ri, hi, Ne.symm e]
  · rw [List.getElem?_eq_none (by simp [ri_len]; omega), List.getElem?_eq_none (by simp [ri_len]; omega)]
theorem ri_congr {n : Nat} {f g : Nat → Nat} (h : ∀ j, j < n → f j = g j) : ri n f = ri n g := by
  unfold ri
  exact List.map_congr_left (fun j hj => by rw [h j (List.mem_range.1 hj)])

def divZ (X Y : Cn) : Cn := (divRe X.1 X.2 Y.1 Y.2, divIm X.1 X.2 Y.1 Y.2)
/-- what becomes of a row, place by place -/
def redZ (a p : Nat → Cw) (k j : Nat) : Cn :=
  if j < k then anz (a j) else if j = k then divZ (anz (a k)) (anz (p k)) else subZ (anz (a j)) (mulZ (divZ (anz (a k)) (anz (p k))) (anz (p j)))
theorem redZ_lt {a p : Nat → Cw} {k j : Nat} (h : j < k) : redZ a p k j = anz (a j) := if_pos h
theorem redZ_eq (a p : Nat → Cw) (k : Nat) : redZ a p k k = divZ (anz (a k)) (anz (p k)) := by unfold redZ; rw [if_neg (by omega), if_pos rfl]
theorem redZ_gt {a p : Nat → Cw} {k j : Nat} (h : k < j) : redZ a p k j = subZ (anz (a j)) (mulZ (divZ (anz (a k)) (anz (p k))) (anz (p j))) := by unfold redZ; rw [if_neg (by omega), if_neg (by omega)]
def toW (Z : Cn) : Cw := (Z.1.getD 0, Z.2.getD 0)
def finO (o : Option Nat) : Bool := match o with | some x => finB x | none => false
def finN (Z : Cn) : Bool := finO Z.1 && finO Z.2
theorem finB_nan {x : Nat} (h : nan x = true) : finB x = false := by
  cases e : finB x
  · rfl
  · rw [fin_nan e] at h; cases h
theorem fin_rep {o : Option Nat} {x : Nat} (h : rep o x) : finB x = finO o := by
  obtain ⟨_, h⟩ := h
  unfold ans at h
  split at h
  · rename_i hn; subst h; exact finB_nan hn
  · subst h; rfl
theorem fin_repz {Z : Cn} {z : Cw} (h : repz Z z) : finZ z = finN Z := by
  unfold finZ finN; rw [fin_rep h.1, fin_rep h.2]
theorem toW_rep {Z : Cn} {z : Cw} (h : repz Z z) (hf : finN Z = true) : toW Z = z := by
  unfold finN at hf
  rw [Bool.and_eq_true] at hf
  obtain ⟨Z1, Z2⟩ := Z
  have key : ∀ {o : Option Nat} {x : Nat}, rep o x → finO o = true → o.getD 0 = x := by
    intro o x hr hf
    cases o with
    | none => cases hf
    | some y => exact (rep_is hr rfl).symm
  exact Prod.ext (key h.1 hf.1) (key h.2 hf.2)

/-- a matrix's first heaviest number of a column, from the row k on: how far below, and its weight -/
def pvt (n : Nat) (M : Nat → Nat → Cw) (k : Nat) : Nat × Nat := fstG (fun i => wt (M (k + i) k)) (n - k)
def swM (M : Nat → Nat → Cw) (k q : Nat) : Nat → Nat → Cw := fun i => if i = k then M q else if i = q then M k else M i
def swO (o : Nat → Nat) (k q : Nat) : Nat → Nat := fun i => if i = k then o q else if i = q then o k else o i
theorem swM_self (M : Nat → Nat → Cw) (k : Nat) : swM M k k = M := by
  funext i
  unfold swM
  by_cases h : i = k
  · subst h; simp
  · simp [h]
theorem swO_self (o : Nat → Nat) (k : Nat) : swO o k k = o := by
  funext i
  unfold swO
  by_cases h : i = k
  · subst h; simp
  · simp [h]
def redM (M : Nat → Nat → Cw) (k : Nat) : Nat → Nat → Cw := fun i j => if i ≤ k then M i j else toW (redZ (M i) (M k) k j)
def goodB (n : Nat) (M : Nat → Nat → Cw) (k : Nat) : Bool := allB (fun i => decide (i ≤ k) || allB (fun j => decide (j < k) || finN (redZ (M i) (M k) k j)) n) n
theorem allB_iff {p : Nat → Bool} {n : Nat} : allB p n = true ↔ ∀ i, i < n → p i = true := by
  induction n with
  | zero => exact ⟨fun _ i hi => absurd hi (by omega), fun _ => rfl⟩
  | succ n ih =>
    unfold allB
    rw [Bool.and_eq_true, ih]
    constructor
    · rintro ⟨h1, h2⟩ i hi
      by_cases e : i = n
      · subst e; exact h2
      · exact h1 i (by omega)
    · intro h
      exact ⟨fun i hi => h i (by omega), h n (by omega)⟩
theorem good_iff {n : Nat} {M : Nat → Nat → Cw} {k : Nat} : goodB n M k = true ↔ ∀ i, k < i → i < n → ∀ j, k ≤ j → j < n → finN (redZ (M i) (M k) k j) = true := by
  unfold goodB
  rw [allB_iff]
  constructor
  · intro h i hk hi j hkj hj
    have := h i hi
    rw [decide_eq_false (by omega), Bool.false_or, allB_iff] at this
    have := this j hj
    rw [decide_eq_false (by omega), Bool.false_or] at this
    exact this
  · intro h i hi
    by_cases hk : i ≤ k
    · rw [decide_eq_true hk]; rfl
    · rw [decide_eq_false hk, Bool.false_or, allB_iff]
      intro j hj
      by_cases hkj : j < k
      · rw [decide_eq_true hkj]; rfl
      · rw [decide_eq_false hkj, Bool.false_or]
        exact h i (by omega) hi j (by omega) hj
/-- what was eliminated so far: the rows, which row stands where, the sign -/
structure Es where
  M : Nat → Nat → Cw
  o : Nat → Nat
  s : Int
def stp (n k : Nat) (S : Es) : Int × Es :=
  if (pvt n S.M k).2 = 0 then (7, S)
  else if goodB n (swM S.M k (k + (pvt n S.M k).1)) k = true then (0, ⟨redM (swM S.M k (k + (pvt n S.M k).1)) k, swO S.o k (k + (pvt n S.M k).1), if (pvt n S.M k).1 = 0 then S.s else -S.s⟩)
  else (6, S)
def elm (n : Nat) (M0 : Nat → Nat → Cw) : Nat → (Int × Nat) × Es
  | 0 => ((0, 0), ⟨M0, fun i => i, 1⟩)
  | k + 1 => if (elm n M0 k).1.1 = 0 then (((stp n k (elm n M0 k).2).1, if (stp n k (elm n M0 k).2).1 = 0 then 0 else k), (stp n k (elm n M0 k).2).2) else elm n M0 k

def okM (n : Nat) (M : Nat → Nat → Cw) : Prop := ∀ i j, i < n → j < n → okz (M i j)
def finM (n : Nat) (M : Nat → Nat → Cw) : Prop := ∀ i j, i < n → j < n → finZ (M i j) = true
theorem pvt_lt {n : Nat} {M : Nat → Nat → Cw} {k : Nat} (h0 : ¬ (pvt n M k).2 = 0) : k + (pvt n M k).1 < n := by
  have hk := fstG_at (fun i => wt (M (k + i) k)) (n - k)
  unfold pvt at *
  rcases hk with ⟨h, _⟩ | ⟨_, h, _⟩
  · exact absurd h h0
  · omega
theorem swM_ok {n : Nat} {M : Nat → Nat → Cw} (h : okM n M) {k q : Nat} (hk : k < n) (hq : q < n) : okM n (swM M k q) := by
  intro i j hi hj
  unfold swM
  split
  · exact h q j hq hj
  · split
    · exact h k j hk hj
    · exact h i j hi hj
theorem swM_fin {n : Nat} {M : Nat → Nat → Cw} (h : finM n M) {k q : Nat} (hk : k < n) (hq : q < n) : finM n (swM M k q) := by
  intro i j hi hj
  unfold swM
  split
  · exact h q j hq hj
  · split
    · exact h k j hk hj
    · exact h i j hi hj

/-- a Lower in memory: the struct at p, its rows' block gr, the order's block go, the rows' blocks -/
structure Lo (w : World) (b p n gr go : Nat) (bl : Nat → Nat) (M : Nat → Nat → Cw) (o : Nat → Nat) (s : Int) : Prop where
  v : V3 p (.slice (some ⟨gr, 0, none⟩) n n) (.slice (some ⟨go, 0, none⟩) n n) (.int .i64 s) w
  rows : w.ownsRow b 32 1 (.slice (some ⟨gr, 0, none⟩) n n) n ((List.range n).map fun i => .slice (some ⟨bl i, 0, none⟩) n n)
  row : ∀ i, i < n → Rw w b (.slice (some ⟨bl i, 0, none⟩) n n) n (ro n (M i))
  ord : Ir w b (.slice (some ⟨go, 0, none⟩) n n) n (ri n o)
  ge : b ≤ p
  inj : ∀ i j, i < n → j < n → bl i = bl j → i = j
  ap : ∀ i, i < n → bl i ≠ p ∧ bl i ≠ gr ∧ bl i ≠ go
  ap2 : gr ≠ p ∧ go ≠ p ∧ gr ≠ go
theorem Lo.at {w w' : World} {b p n gr go : Nat} {bl : Nat → Nat} {M : Nat → Nat → Cw} {o : Nat → Nat} {s : Int} (h : Lo w b p n gr go bl M o s) (hs : w.heap.size ≤ w'.heap.size) (hk : ∀ g, b ≤ g → g < w.heap.size → w'.heap[g]? = w.heap[g]?) : Lo w' b p n gr go bl M o s := by
  have hp := hk p h.ge h.v.lt
  have hv : ∀ j, w'.cell? ⟨p, j, none⟩ = w.cell? ⟨p, j, none⟩ := fun j => World.cell?_of_block hp
  have hf : ∀ j, w'.frozen? ⟨p, j, none⟩ = w.frozen? ⟨p, j, none⟩ := fun j => World.frozen?_of_block hp
  refine ⟨⟨Nat.lt_of_lt_of_le h.v.lt hs, (hv 0).trans h.v.c0, (hv 1).trans h.v.c1, (hv 2).trans h.v.c2, (hf 0).trans h.v.f0, (hf 1).trans h.v.f1, (hf 2).trans h.v.f2⟩, own_at h.rows (fun g hg => ?_), fun i hi => ⟨(h.row i hi).len, own_at (h.row i hi).own (fun g hg => ?_)⟩, ⟨h.ord.len, own_at h.ord.own (fun g hg => ?_)⟩, h.ge, h.inj, h.ap, h.ap2⟩
  · exact hk g (h.rows.lt g hg).1 (h.rows.lt g hg).2
  · exact hk g ((h.row i hi).own.lt g hg).1 ((h.row i hi).own.lt g hg).2
  · exact hk g (h.ord.own.lt g hg).1 (h.ord.own.lt g hg).2
theorem Lo.below {w w' : World} {b p n gr go : Nat} {bl : Nat → Nat} {M : Nat → Nat → Cw} {o : Nat → Nat} {s : Int} (h : Lo w b p n gr go bl M o s) (hb : Below w.heap.size w w') : Lo w' b p n gr go bl M o s :=
  h.at hb.size (fun g _ hg => hb.block g hg)
theorem Lo.drewN {w : World} {b p n gr go : Nat} {bl : Nat → Nat} {M : Nat → Nat → Cw} {o : Nat → Nat} {s : Int} (h : Lo w b p n gr go bl M o s) (m : Nat) : Lo (w.drewN m) b p n gr go bl M o s :=
  h.at (Nat.le_refl _) (fun _ _ _ => rfl)
theorem Lo.cell {w : World} {b p n gr go : Nat} {bl : Nat → Nat} {M : Nat → Nat → Cw} {o : Nat → Nat} {s : Int} (h : Lo w b p n gr go bl M o s) {i : Nat} (hi : i < n) : w.cell? ⟨gr, i, none⟩ = some (.slice (some ⟨bl i, 0, none⟩) n n) := by
  rw [h.rows.cellAt i (by omega)]
  simp [hi]
theorem Lo.cellM {w : World} {b p n gr go : Nat} {bl : Nat → Nat} {M : Nat → Nat → Cw} {o : Nat → Nat} {s : Int} (h : Lo w b p n gr go bl M o s) {i j : Nat} (hi : i < n) (hj : j < n) : w.cell? ⟨bl i, j, none⟩ = some (cx (M i j)) := by
  rw [(h.row i hi).own.cellAt j (by omega)]
  simp [ro, hj]
/-- what was written in one row alone -/
theorem Lo.put {w w' : World} {b p n gr go : Nat} {bl : Nat → Nat} {M : Nat → Nat → Cw} {o : Nat → Nat} {s : Int} (h : Lo w b p n gr go bl M o s) {i : Nat} {f : Nat → Cw} (hi : i < n) (ho : OnlyRow (bl i) w w') (hr : Rw w' b (.slice (some ⟨bl i, 0, none⟩) n n) n (ro n f)) :
    Lo w' b p n gr go bl (fun j => if j = i then f else M j) o s := by
  have hp : w'.heap[p]? = w.heap[p]? := ho.block p (fun e => (h.ap i hi).1 e.symm)
  have hv : ∀ j, w'.cell? ⟨p, j, none⟩ = w.cell? ⟨p, j, none⟩ := fun j => World.cell?_of_block hp
  have hf : ∀ j, w'.frozen? ⟨p, j, none⟩ = w.frozen? ⟨p, j, none⟩ := fun j => World.frozen?_of_block hp
  refine ⟨⟨by rw [ho.size]; exact h.v.lt, (hv 0).trans h.v.c0, (hv 1).trans h.v.c1, (hv 2).trans h.v.c2, (hf 0).trans h.v.f0, (hf 1).trans h.v.f1, (hf 2).trans h.v.f2⟩, own_at h.rows (fun g hg => ?_), fun j hj => ?_, ⟨h.ord.len, own_at h.ord.own (fun g hg => ?_)⟩, h.ge, h.inj, h.ap, h.ap2⟩
  · cases hg; exact ho.block gr (fun e => (h.ap i hi).2.1 e.symm)
  · by_cases e : j = i
    · subst e; simp only [if_true]; exact hr
    · simp only [e, if_false]
      exact ⟨(h.row j hj).len, own_at (h.row j hj).own (fun g hg => by cases hg; exact ho.block _ (fun e2 => e (h.inj j i hj hi e2)))⟩
  · cases hg; exact ho.block go (fun e => (h.ap i hi).2.2 e.symm)

end Go.Proofs.YtmpkcioeodlbcaaGreatDoor
namespace Go.Proofs.YtmpkcioeodlbcaaGreatDoor
open Fl RowKit
/-- the first place below k whose number is not finite, or k -/
def nff (xs : List Cw) : Nat → Nat
  | 0 => 0
  | k + 1 => if nff xs k < k then nff xs k else if finZ (zat xs k) = true then k + 1 else k
theorem nff_all {xs : List Cw} {k : Nat} (h : finL xs k = true) : nff xs k = k := by
  induction k with
  | zero => rfl
  | succ k ih =>
    have h' : (finL xs k && finZ (zat xs k)) = true := h
    rw [Bool.and_eq_true] at h'
    unfold nff
    rw [ih h'.1, if_neg (by omega), if_pos h'.2]
theorem nff_at {xs : List Cw} {k : Nat} (h : finL xs k = true) (hf : finZ (zat xs k) = false) : ∀ m, k < m → nff xs m = k := by
  intro m
  induction m with
  | zero => intro h; omega
  | succ m ih =>
    intro hm
    unfold nff
    by_cases e : k = m
    · subst e
      rw [nff_all h, if_neg (by omega), if_neg (by rw [hf]; decide)]
    · rw [ih (by omega), if_pos (by omega)]
theorem nff_le (xs : List Cw) (k : Nat) : nff xs k ≤ k := by
  induction k with
  | zero => exact Nat.le_refl _
  | succ k ih =>
    unfold nff
    split
    · omega
    · split <;> omega
theorem nff_fin {xs : List Cw} {k : Nat} (h : nff xs k = k) : finL xs k = true := by
  induction k with
  | zero => rfl
  | succ k ih =>
    unfold nff at h
    by_cases h1 : nff xs k < k
    · rw [if_pos h1] at h; omega
    · rw [if_neg h1] at h
      have := nff_le xs k
      by_cases h2 : finZ (zat xs k) = true
      · show (finL xs k && finZ (zat xs k)) = true
        rw [ih (by omega), h2]; rfl
      · rw [if_neg h2] at h; omega
set_option maxHeartbeats 1000000 in
theorem nf_any (ao : Option Addr) (cap n : Nat) (xs : List Cw) (w : World) (hn : xs.length = n) (hsz : n ≤ 4096) (hc : Rc w ao xs) (hx : okl xs) :
    Calls Tryz.prog 137 #[.slice ao n cap] w fun e w' => e = .returned (.int .i64 (nff xs n : Nat)) ∧ w' = w := by
  have NA := hid_o (@nff_all xs n)
  have NT : Hid (∀ k, finL xs k = true → finZ (zat xs k) = false → ∀ m, k < m → nff xs m = k) := fun k a c => nff_at a c
  obtain ⟨r, hr⟩ : ∃ r, r = nff xs n := ⟨_, rfl⟩
  rw [← hr] at NA ⊢
  have HR := hid_o hr
  clear hr
  go_enter Tryz.func137, Tryz.ntmps137
  go_wp2
  go_loopw [7] (fun i wr => ∃ (k : Nat), k ≤ n ∧ i = .int .i64 k ∧ finL xs k = true ∧ wr = w) (fun i _ => n - (intOf i).toNat)
  case atStart => exact ⟨0, Nat.zero_le _, rfl, rfl, rfl⟩
  case round =>
    obtain ⟨k, hk, rfl, hf, hw⟩ := hrel
    by_cases hlt : k < n
    · obtain ⟨b, off, rfl, hb, hcx⟩ := hc k (by omega)
      rw [← hw] at hb hcx
      have HW : Hid (wr = w) := hw
      have F2 : finL xs (k + 1) = (finL xs k && finZ (zat xs k)) := rfl
      rw [hf, Bool.true_and] at F2
      have ho := hx k
      have F1 := hid_o (NT.out k hf)
      obtain ⟨x, hxe⟩ : ∃ x, x = zat xs k := ⟨_, rfl⟩
      rw [← hxe] at hcx F1 F2 ho
      unfold cx at hcx
      have G2 : Hid (finL xs (k + 1) = finZ x) := F2
      clear hxe hc hf hw F2 hx
      cases f1 : finZ x
      · have e1 : r = k := by rw [HR.out]; exact F1.out f1 n hlt
        subst e1
        go_wp2_with (go_at_call 59; (with_reducible refine (fin_walk ho).mono ?_); rintro e w' ⟨rfl, rfl⟩; rw [f1])
        go_ret
        exact ⟨rfl, HW.out⟩
      · go_wp2_with (go_at_call 59; (with_reducible refine (fin_walk ho).mono ?_); rintro e w' ⟨rfl, rfl⟩; rw [f1])
        exact ⟨⟨k + 1, by omega, by go_num, by rw [G2.out]; exact f1, HW.out⟩, by simp [intOf]; omega⟩
    · have e : k = n := by omega
      subst e
      have HW : Hid (wr = w) := hw
      have e1 := NA.out hf
      subst e1
      clear hx hc hf hw
      go_wp2
      go_ret
      exact ⟨rfl, HW.out⟩

/-- what stands in a row while it is worked: places below j are reckoned -/
def part (a p : Nat → Cw) (k j n : Nat) (f : Nat → Cw) : Prop := (∀ i, i < n → i < j → repz (redZ a p k i) (f i)) ∧ ∀ i, j ≤ i → f i = a i
theorem part_next {a p : Nat → Cw} {k j n : Nat} {f : Nat → Cw} (h : part a p k j n f) {r : Cw} (hr : repz (redZ a p k j) r) : part a p k (j + 1) n (upz f j r) := by
  refine ⟨fun i hi hj => ?_, fun i hi => ?_⟩
  · by_cases e : i = j
    · subst e; rw [upz_self]; exact hr
    · rw [upz_ne _ _ e]; exact h.1 i hi (by omega)
  · rw [upz_ne _ _ (by omega)]; exact h.2 i (by omega)
theorem part_start {a p : Nat → Cw} {k n : Nat} (ha : ∀ j, j < n → okz (a j)) : part a p k k n a :=
  ⟨fun i hi hj => by rw [redZ_lt hj]; exact repz_anz (ha i hi), fun _ _ => rfl⟩
theorem div_z {W : World} {x y : Cw} (hx : okz x) (hy : okz y) : Calls Tryz.prog 188 #[.complex .f64 x.1 x.2, .complex .f64 y.1 y.2] W fun e w' => ∃ (r : Cw) (n : Nat), e = .returned (.complex .f64 r.1 r.2) ∧ repz (divZ (anz x) (anz y)) r ∧ w' = W.drewN n :=
  (div_any W (repz_anz hx).1 (repz_anz hx).2 (repz_anz hy).1 (repz_anz hy).2).mono (by rintro e w' ⟨re, im, n, rfl, h1, h2, rfl⟩; exact ⟨(re, im), n, rfl, ⟨h1, h2⟩, rfl⟩)
theorem mul_z {W : World} {x y : Cw} {X : Cn} (hx : repz X x) (hy : okz y) : Calls Tryz.prog 215 #[.complex .f64 x.1 x.2, .complex .f64 y.1 y.2] W fun e w' => ∃ (r : Cw) (n : Nat), e = .returned (.complex .f64 r.1 r.2) ∧ repz (mulZ X (anz y)) r ∧ w' = W.drewN n :=
  (mul_any W hx.1 hx.2 (repz_anz hy).1 (repz_anz hy).2).mono (by rintro e w' ⟨re, im, n, rfl, h1, h2, rfl⟩; exact ⟨(re, im), n, rfl, ⟨h1, h2⟩, rfl⟩)
theorem sub_z {W : World} {x y : Cw} {Y : Cn} (hx : okz x) (hy : repz Y y) : Calls Tryz.prog 47 #[.complex .f64 x.1 x.2, .complex .f64 y.1 y.2] W fun e w' => ∃ (r : Cw) (n : Nat), e = .returned (.complex .f64 r.1 r.2) ∧ repz (subZ (anz x) Y) r ∧ w' = W.drewN n :=
  (sub_any W (repz_anz hx).1 (repz_anz hx).2 hy.1 hy.2).mono (by rintro e w' ⟨re, im, n, rfl, h1, h2, rfl⟩; exact ⟨(re, im), n, rfl, ⟨h1, h2⟩, rfl⟩)
theorem only_drewN (g : Nat) (w : World) (m : Nat) : OnlyRow g w (w.drewN m) := ⟨rfl, rfl, rfl, rfl, fun _ _ => rfl⟩
theorem only_trans {g : Nat} {a b c : World} (h : OnlyRow g a b) (k : OnlyRow g b c) : OnlyRow g a c := ⟨k.os.trans h.os, k.tape.trans h.tape, k.output.trans h.output, k.size.trans h.size, fun q hq => (k.block q hq).trans (h.block q hq)⟩
theorem rw_set {w : World} {b g n c : Nat} {f : Nat → Cw} (h : Rw w b (.slice (some ⟨g, 0, none⟩) n c) n (ro n f)) (k : Nat) (v : Cw) : Rw (w.setCell ⟨g, k, none⟩ (cx v)) b (.slice (some ⟨g, 0, none⟩) n c) n (ro n (upz f k v)) := by
  refine ⟨ro_len _ _, ?_⟩
  have := (h.own.stored k (cx v)).1
  rw [← List.map_set, ro_set] at this
  exact this
theorem rw_cell {w : World} {b g n c : Nat} {f : Nat → Cw} (h : Rw w b (.slice (some ⟨g, 0, none⟩) n c) n (ro n f)) {j : Nat} (hj : j < n) : w.cell? ⟨g, j, none⟩ = some (cx (f j)) := by
  rw [h.own.cellAt j (by omega)]
  simp [ro, hj]

end Go.Proofs.YtmpkcioeodlbcaaGreatDoor
namespace Go.Proofs.YtmpkcioeodlbcaaGreatDoor
open Fl RowKit
set_option maxHeartbeats 2000000 in
theorem reduce_any (b g h n k : Nat) (a p : Nat → Cw) (w : World) (hn : n ≤ 64) (hk : k < n) (hgh : h ≠ g) (hr : Rw w b (.slice (some ⟨g, 0, none⟩) n n) n (ro n a)) (hp : Rw w b (.slice (some ⟨h, 0, none⟩) n n) n (ro n p)) (ha : ∀ j, j < n → okz (a j)) (hpo : ∀ j, j < n → okz (p j)) :
    Calls Tryz.prog 182 #[.slice (some ⟨g, 0, none⟩) n n, .slice (some ⟨h, 0, none⟩) n n, .int .i64 k] w fun e w' => ∃ f : Nat → Cw, e = .returned (.tuple #[]) ∧ (∀ j, j < n → repz (redZ a p k j) (f j)) ∧ Rw w' b (.slice (some ⟨g, 0, none⟩) n n) n (ro n f) ∧ OnlyRow g w w' := by
  have c1 := rw_cell hr hk
  have c2 := rw_cell hp hk
  have fz := hr.own.frozenAt k
  have hgl := hr.lt.2
  have hhl := hp.lt.2
  have o1 := ha k hk
  have o2 := hpo k hk
  have HD := hid_o (redZ_eq a p k)
  have PS := hid_o (part_start (p := p) (k := k) ha)
  have HR := hid_o hr
  have HP := hid_o hp
  have HA := hid_o ha
  have HPO := hid_o hpo
  obtain ⟨x, hxe⟩ : ∃ x, x = a k := ⟨_, rfl⟩
  obtain ⟨y, hye⟩ : ∃ y, y = p k := ⟨_, rfl⟩
  have HF := hid_o (fun (j : Nat) (h : k < j) => redZ_gt (a := a) (p := p) h)
  rw [← hxe] at c1 o1 HD HF
  rw [← hye] at c2 o2 HD HF
  clear hxe hye hr hp ha hpo
  unfold cx at c1 c2
  go_enter Tryz.func182, Tryz.ntmps182
  go_wp2
  go_cut [6] (fun v wc => ∃ (q : Cw) (m : Nat), v = .complex .f64 q.1 q.2 ∧ repz (divZ (anz x) (anz y)) q ∧ wc = w.drewN m)
  case first =>
    go_region_with (go_at_call 188; (with_reducible refine (div_z o1 o2).mono ?_); rintro e w' ⟨q, m, rfl, hq, rfl⟩)
    all_goals
      go_wp2_with fail
      go_meet
      case rel => exact ⟨q, _, rfl, hq, by first | rfl | (simp only [World.drewN_drewN]; rfl)⟩
  case rest =>
    obtain ⟨q, m, rfl, hq, rfl⟩ := hcut
    have c3 : (w.drewN m).cell? ⟨g, k, none⟩ = some (.complex .f64 x.1 x.2) := c1
    have fz3 : (w.drewN m).frozen? ⟨g, k, none⟩ = false := fz
    have HQ := hid_o hq
    clear hq c1 c2 fz
    go_wp2
    go_loopw [7] (fun jv wr => ∃ (j : Nat) (f : Nat → Cw), k < j ∧ j ≤ n ∧ jv = .int .i64 j ∧ part a p k j n f ∧ Rw wr b (.slice (some ⟨g, 0, none⟩) n n) n (ro n f) ∧ OnlyRow g w wr) (fun jv _ => n - (intOf jv).toNat)
    case atStart => exact ⟨k + 1, upz a k q, by omega, by omega, by go_num, part_next PS.out (by rw [HD.out]; exact HQ.out), rw_set (HR.out.drewN m) k q, (only_drewN g w m).setCell _⟩
    case round =>
      clear c3 fz3
      obtain ⟨j, f, hkj, hjn, rfl, hpt, hrw, hon⟩ := hrel
      by_cases hlt : j < n
      · have d1 := rw_cell hrw hlt
        rw [hpt.2 j (Nat.le_refl _)] at d1
        have d2 : wr.cell? ⟨h, j, none⟩ = some (cx (p j)) := (World.cell?_of_block (hon.block h hgh)).trans (rw_cell HP.out hlt)
        have fz := hrw.own.frozenAt j
        have o3 := HA.out j hlt
        have o4 := HPO.out j hlt
        have hl2 := hrw.lt.2
        have hl3 : h < wr.heap.size := by rw [hon.size]; exact hhl
        have HE := hid_o (HF.out j hkj)
        have HPT := hid_o hpt
        have HRW := hid_o hrw
        have HON := hid_o hon
        obtain ⟨u, hue⟩ : ∃ u, u = a j := ⟨_, rfl⟩
        obtain ⟨v, hve⟩ : ∃ v, v = p j := ⟨_, rfl⟩
        rw [← hue] at d1 o3 HE
        rw [← hve] at d2 o4 HE
        clear hue hve hpt hrw hon
        unfold cx at d1 d2
        go_wp2
        go_region_with (first
          | (go_at_call 215; (with_reducible refine (mul_z HQ.out o4).mono ?_); rintro e w' ⟨t, m2, rfl, ht, rfl⟩)
          | (go_at_call 47; (with_reducible refine (sub_z o3 ht).mono ?_); rintro e w' ⟨r, m3, rfl, hr3, rfl⟩))
        all_goals
          go_wp2_with fail
          go_roundw
          case measure => simp [intOf]; omega
          case rel => exact ⟨j + 1, upz f j r, by omega, by omega, by go_num, part_next HPT.out (by rw [HE.out]; exact hr3), rw_set (HRW.out.drewN _) j r, only_trans HON.out ((only_drewN g wr _).setCell _)⟩
      · have e : j = n := by omega
        subst e
        clear HA HPO HF HP HR
        go_wp2
        go_end0
        exact ⟨f, rfl, fun i hi => hpt.1 i hi hi, hrw, hon⟩

end Go.Proofs.YtmpkcioeodlbcaaGreatDoor
