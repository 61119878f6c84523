/-
  Several texts in one: Srp Srq Srd Sre.
-/
import Derived.Test.YtmpkcioeodlbcaaGreatDoorK36
import Derived.Test.YtmpkcioeodlbcaaGreatDoorK32
import Derived.Test.YtmpkcioeodlbcaaGreatDoorK35
import Derived.Deep.RegionHeldLaw
namespace Go.Proofs.YtmpkcioeodlbcaaGreatDoor
open Fl RowKit
set_option linter.unusedVariables false
/-- how many entries an element has -/
def eM (x : Elm) : Nat := if x.k = 4 then 2 else if x.k = 5 then 1 else 0
/-- where the j-th goes -/
def eI (N : Ns) (x : Elm) (j : Nat) : Int := if x.k = 4 then (if j = 0 then plI N x.a else plI N x.b) else rwI N x
/-- what it becomes there -/
def eO (x : Elm) (j : Nat) : Cn → Cn → Cn := if x.k = 4 then (if j = 0 then subZ else addZ) else fun _ y => y
/-- the numbers behind j entries -/
def rJ (N : Ns) (x : Elm) (Y : Cn) (R : Nat → Cn) : Nat → Nat → Cn
  | 0 => R
  | j + 1 => rput (eO x j) (eI N x j) Y (rJ N x Y R j)
/-- how many entries go well -/
def rG (N : Ns) (x : Elm) (Y : Cn) (R : Nat → Cn) (j : Nat) : Bool := rfin (eO x j) (eI N x j) Y (rJ N x Y R j)
/-- do all go well? -/
def rok (N : Ns) (x : Elm) (Y : Cn) (R : Nat → Cn) : Bool := decide (∀ j, j < eM x → rG N x Y R j = true)
/-- the fault, and the numbers -/
def rgL (N : Ns) : List Elm → (Nat → Cn) → Nat → (Int × Int) × (Nat → Cn)
  | [], R, _ => ((0, 0), R)
  | x :: l, R, i => if rok N x (phC x) R = true then rgL N l (rJ N x (phC x) R (eM x)) (i + 1) else ((6, (i : Int)), R)
theorem rgL_step {N : Ns} {l : List Elm} {i : Nat} {x : Elm} (hx : l[i]? = some x) (R : Nat → Cn) : rgL N (l.drop i) R i = if rok N x (phC x) R = true then rgL N (l.drop (i + 1)) (rJ N x (phC x) R (eM x)) (i + 1) else ((6, (i : Int)), R) := by
  obtain ⟨h1, h2⟩ := List.getElem?_eq_some_iff.1 hx
  rw [List.drop_eq_getElem_cons h1, h2]
  rfl
theorem rgL_end {N : Ns} {l : List Elm} {i : Nat} (h : l.length ≤ i) (R : Nat → Cn) : rgL N (l.drop i) R i = ((0, 0), R) := by
  rw [List.drop_eq_nil_of_le h]; rfl
theorem rok_yes {N : Ns} {x : Elm} {Y : Cn} {R : Nat → Cn} (h : ∀ j, j < eM x → rG N x Y R j = true) : rok N x Y R = true := decide_eq_true h
theorem rok_no {N : Ns} {x : Elm} {Y : Cn} {R : Nat → Cn} {j : Nat} (hj : j < eM x) (h : rG N x Y R j = false) : rok N x Y R = false := decide_eq_false (fun k => by have := k j hj; rw [h] at this; exact absurd this (by decide))
theorem eM_le (x : Elm) : eM x ≤ 2 := by
  unfold eM
  split
  · omega
  · split <;> omega
theorem eI_lo (N : Ns) (x : Elm) (j : Nat) : -1 ≤ eI N x j := by
  unfold eI
  split
  · split <;> exact plI_lo _ _
  · exact rwI_lo _ _
theorem eI_hi {N : Ns} {x : Elm} {j : Nat} (hj : j < eM x) (hb : x.k = 5 → bl x.n ∈ N.br) : eI N x j < (N.nd.length + N.br.length : Nat) := by
  unfold eM at hj
  unfold eI
  by_cases k4 : x.k = 4
  · rw [if_pos k4]
    have h1 := @plI_hi N x.a
    have h2 := @plI_hi N x.b
    split <;> omega
  · rw [if_neg k4] at hj ⊢
    by_cases k5 : x.k = 5
    · have := posL_lt (hb k5)
      unfold rwI
      omega
    · rw [if_neg k5] at hj; omega
end Go.Proofs.YtmpkcioeodlbcaaGreatDoor
namespace Go.Proofs.YtmpkcioeodlbcaaGreatDoor
open Fl RowKit
set_option linter.unusedVariables false
theorem idx_get : ∀ (xs : List (List UInt8)) (s : List UInt8), s ∈ xs → xs[xs.idxOf s]? = some s := by
  intro xs
  induction xs with
  | nil => intro s h; cases h
  | cons y l ih =>
    intro s h
    rw [List.idxOf_cons]
    by_cases e : y = s
    · rw [beq_iff_eq.2 e, e]; rfl
    · rw [beq_eq_false_iff_ne.2 e]
      exact ih s ((List.mem_cons.1 h).resolve_left (fun q => e q.symm))
theorem posL_inj {xs : List (List UInt8)} {s t : List UInt8} (hs : s ∈ xs) (ht : t ∈ xs) (h : posL xs s = posL xs t) : s = t := by
  unfold posL at h
  rw [if_pos hs, if_pos ht] at h
  have h1 := idx_get xs s hs
  rw [h, idx_get xs t ht] at h1
  exact (Option.some.inj h1).symm
/-- the places of a made net's element are two -/
theorem Md.ab {N : Ns} (h : Md N) {x : Elm} (hx : x ∈ N.es) : plI N x.a ≠ plI N x.b := by
  obtain ⟨h1, h2, h3⟩ := h.nv.el x hx
  intro e
  unfold plI at e
  by_cases ha : bl x.a ∈ N.nd <;> by_cases hb : bl x.b ∈ N.nd
  · rw [if_pos ha, if_pos hb] at e
    exact h3.ab (posL_inj ha hb (by omega))
  · rw [if_pos ha, if_neg hb] at e
    omega
  · rw [if_neg ha, if_pos hb] at e
    omega
  · have q1 : bl x.a = [48] := (List.mem_cons.1 h1).resolve_right ha
    have q2 : bl x.b = [48] := (List.mem_cons.1 h2).resolve_right hb
    exact h3.ab (q1.trans q2.symm)
end Go.Proofs.YtmpkcioeodlbcaaGreatDoor
namespace Go.Proofs.YtmpkcioeodlbcaaGreatDoor
open Fl Go.Maps RowKit Joins Deep
set_option linter.unusedVariables false
/-- a side beside the net that it is of; base: from there on lies what is new -/
structure Sw (w0 w : World) (nb p : Nat) (N : Ns) (b : Nb) (base s : Nat) (v : Value) (R : Nat → Cn) : Prop where
  nt : Nt w0 nb p N b
  bel : Below w0.heap.size w0 w
  lo : w0.heap.size ≤ base
  nd : N.nd.length ≤ 32
  nb : N.nd.length + N.br.length ≤ 64
  sd : Sd w base s p v (N.nd.length + N.br.length) N.nd.length R
theorem Sw.step {w0 w w' : World} {nb p : Nat} {N : Ns} {b : Nb} {base s : Nat} {v : Value} {R R' : Nat → Cn} (h : Sw w0 w nb p N b base s v R) (h1 : Sd w' base s p v (N.nd.length + N.br.length) N.nd.length R') (h2 : Kv base v w w') : Sw w0 w' nb p N b base s v R' := ⟨h.nt, h.bel.trans (h2.bel.mono h.lo), h.lo, h.nd, h.nb, h1⟩
theorem Sw.net {w0 w : World} {nb p : Nat} {N : Ns} {b : Nb} {base s : Nat} {v : Value} {R : Nat → Cn} (h : Sw w0 w nb p N b base s v R) : Nt w nb p N b := h.nt.below h.bel
theorem Sw.on {w0 w w' : World} {nb p : Nat} {N : Ns} {b : Nb} {base s : Nat} {v : Value} {R : Nat → Cn} (h : Sw w0 w nb p N b base s v R) (hb : Below w.heap.size w w') : Sw w0 w' nb p N b base s v R := h.step (h.sd.on hb) (Kv.of hb h.sd.lo)
theorem Sw.dN {w0 w : World} {nb p : Nat} {N : Ns} {b : Nb} {base s : Nat} {v : Value} {R : Nat → Cn} (h : Sw w0 w nb p N b base s v R) (m : Nat) : Sw w0 (w.drewN m) nb p N b base s v R := h.on (below_dN (Below.refl _ _) m)
theorem Sw.drew {w0 w : World} {nb p : Nat} {N : Ns} {b : Nb} {base s : Nat} {v : Value} {R : Nat → Cn} (h : Sw w0 w nb p N b base s v R) : Sw w0 w.drew nb p N b base s v R := h.dN 1
theorem dplace_any {w0 w : World} {nb p : Nat} {N : Ns} {b : Nb} {base s : Nat} {v : Value} {R : Nat → Cn} (h : Sw w0 w nb p N b base s v R) (t : ByteArray) (ht : t.size ≤ 100000) :
    Calls Tryz.prog 161 #[.pointer (some ⟨s, 0, none⟩), .string t] w fun e w' => e = .returned (.int .i64 (plI N t)) ∧ w' = w := by
  have c0 := h.sd.c0
  have HP := hidS (plc_made h.net t ht)
  by_cases k : bl t ∈ N.nd
  · have hk : plI N t = (posL N.nd (bl t) : Int) := by unfold plI; rw [if_pos k]
    rw [hk]
    go_enter Tryz.func161, Tryz.ntmps161
    go_wp2_with (go_at_call 45; (with_reducible refine (HP.out).mono ?_); rintro e w1 ⟨rfl, hw⟩; subst w1; rw [decide_eq_true k])
    go_ret
    exact ⟨rfl, rfl⟩
  · have hk : plI N t = -1 := by unfold plI; rw [if_neg k]
    rw [hk]
    go_enter Tryz.func161, Tryz.ntmps161
    go_wp2_with (go_at_call 45; (with_reducible refine (HP.out).mono ?_); rintro e w1 ⟨rfl, hw⟩; subst w1; rw [decide_eq_false k])
    go_ret
    exact ⟨rfl, rfl⟩
theorem drow_any {w0 w : World} {nb p : Nat} {N : Ns} {b : Nb} {base s : Nat} {v : Value} {R : Nat → Cn} (h : Sw w0 w nb p N b base s v R) (x : Elm) (hx : x.n.size ≤ 100000) :
    Calls Tryz.prog 162 #[.pointer (some ⟨s, 0, none⟩), elV x] w fun e w' => e = .returned (.int .i64 (rwI N x)) ∧ Below w.heap.size w w' := by
  have HN := hidS (h.on (bal w (.cells (elA x) 96)))
  have E0 : Hid (EC w (w.alloc (.cells (elA x) 96)) w.heap.size x) := ec_new w x
  have HB := hidS (bal w (.cells (elA x) 96))
  obtain ⟨l1, c10, c11, c12, c13, c14, c15, c16, c17⟩ := E0.out.f
  obtain ⟨wa, hwa⟩ : ∃ wa, w.alloc (.cells (elA x) 96) = wa := ⟨_, rfl⟩
  rw [hwa] at HN E0 HB l1 c10 c11 c12 c13 c14 c15 c16 c17
  have c0 := HN.out.sd.c0
  have c2 := HN.out.sd.c1
  have HP := hidS (fun W (hb : Below wa.heap.size wa W) => brn_made (HN.out.on hb).net x.n hx)
  have HB0 := hidS (Below.refl wa.heap.size wa)
  have h1 := h.nd
  have h2 := h.nb
  have h3 := posL_le N.br (bl x.n)
  unfold elA at hwa
  unfold elV rwI
  obtain ⟨q, hq⟩ : ∃ q, posL N.br (bl x.n) = q := ⟨_, rfl⟩
  obtain ⟨d, hd⟩ : ∃ d, N.nd.length = d := ⟨_, rfl⟩
  rw [hq] at h3 ⊢
  rw [hd] at h1 h2 c2 ⊢
  have HQ := hidS hq
  clear hq hd h
  go_enter Tryz.func162, Tryz.ntmps162
  go_wp2
  go_region_held_law (fun W => W.cell? ⟨s, 0, none⟩ = some (.pointer (some ⟨p, 0, none⟩)) ∧ W.cell? ⟨w.heap.size, 1, none⟩ = some (.string x.n)) (first | exact ⟨c0, c11⟩ | go_keep) (first | (go_at_call 48; (with_reducible refine (HP.out _ (by repeat first | with_reducible exact HB0.out | with_reducible refine Below.drew ?_)).mono ?_); rintro e w1 ⟨rfl, hw⟩; subst w1; rw [HQ.out]))
  all_goals rename_i hHeld
  all_goals clear hHeld
  all_goals go_wp2_with fail
  all_goals go_ret
  all_goals exact ⟨rfl, by repeat first | with_reducible exact HB.out | with_reducible refine Below.drew ?_⟩
theorem ent_instead : Ent 163 := fun args w => by kernel_rfl
theorem op2_instead : Op2 163 (fun _ y => y) := by
  intro W x y hx hy
  have h1 : rep (ans y.1) y.1 := rep_ans hy.1
  have h2 : rep (ans y.2) y.2 := rep_ans hy.2
  go_enter Tryz.func163, Tryz.ntmps163
  go_wp2_with fail
  go_ret
  exact ⟨y, 0, rfl, ⟨h1, h2⟩, rfl⟩
/-- is it a net? one that is made -/
theorem smade_yes {w : World} {nb p : Nat} {N : Ns} {b : Nb} (h : Nt w nb p N b) (hn : [] ∉ N.nm) : Calls Tryz.prog 119 #[.pointer (some ⟨p, 0, none⟩)] w fun e w' => e = .returned (.bool true) ∧ w' = w := by
  have HW := hidS (without_no h hn)
  go_enter Tryz.func119, Tryz.ntmps119
  go_wp2_with (go_at_call 92; (with_reducible refine (HW.out).mono ?_); rintro e w1 ⟨rfl, hw⟩; subst w1)
  go_ret
  exact ⟨rfl, rfl⟩
def noC : Nat → Cn := fun _ => (some 0, some 0)
theorem nr_made {w : World} {n base : Nat} (hn : n ≤ 100000) (hb : base ≤ w.heap.size) : Nr (w.alloc (.cells (madeCells #[.complex .f64 0 0] n) 39)) base (.slice (some ⟨w.heap.size, 0, none⟩) n n) n noC := by
  refine ⟨List.replicate n (0, 0), ⟨List.length_replicate, ?_⟩, fun j hj => ?_⟩
  · have := made_zeroC n
    rw [Nat.mul_one] at this
    rw [← this]
    exact World.ownsRow_lit w _ n hb (by unfold maxLen; omega) (by simp [madeCells])
  · rw [show zat (List.replicate n ((0, 0) : Cw)) j = (0, 0) by simp [zat, List.getD_eq_getElem?_getD, hj]]
    exact ⟨rep_0, rep_0⟩
set_option maxHeartbeats 1000000 in
/-- a new side -/
theorem snew_any {w : World} {nb p : Nat} {N : Ns} {b : Nb} (h : Nt w nb p N b) (h1 : N.nd.length ≤ 32) (h2 : N.nd.length + N.br.length ≤ 64) :
    Calls Tryz.prog 120 #[.pointer (some ⟨p, 0, none⟩)] w fun e w' => ∃ s v, e = .returned (.pointer (some ⟨s, 0, none⟩)) ∧ w.heap.size ≤ s ∧ Sw w w' nb p N b w.heap.size s v noC ∧ Below w.heap.size w w' := by
  obtain ⟨m, hm⟩ : ∃ m, N.nd.length + N.br.length = m := ⟨_, rfl⟩
  obtain ⟨d, hd⟩ : ∃ d, N.nd.length = d := ⟨_, rfl⟩
  have hsz : m ≤ 64 := by omega
  have hsd : d ≤ 32 := by omega
  have HO : Hid (∀ W, Below w.heap.size w W → Calls Tryz.prog 74 #[.pointer (some ⟨p, 0, none⟩)] W fun e w' => e = .returned (.int .i64 (m : Int)) ∧ Below W.heap.size W w') := by
    rw [← hm]
    exact fun W hb => norder_made (h.below hb) (by omega) (by omega)
  have HD : Hid (Calls Tryz.prog 87 #[.pointer (some ⟨p, 0, none⟩)] w fun e w' => ∃ A c, e = .returned (.slice A d c) ∧ Below w.heap.size w w') := (nodes_made h (by omega)).mono (by
    rintro e w' ⟨v, rfl, ho, hb⟩
    obtain ⟨A1, c1, rfl⟩ := drow_slice ho
    exact ⟨A1, c1, by rw [hd], hb⟩)
  have HM := hidS (fun W => run_mkC m (by omega) W)
  have HH := hidS (And.intro h (And.intro h1 (And.intro h2 (And.intro hm hd))))
  clear h h1 h2 hm hd
  go_enter Tryz.func120, Tryz.ntmps120
  go_wp2_with (first
    | (go_at_call 87; (with_reducible refine HD.out.mono ?_); rintro e w1 ⟨A1, c1, rfl, hb⟩; (have HB := hidS hb); clear hb)
    | (go_at_call 74; (with_reducible refine (HO.out _ HB.out).mono ?_); rintro e w2 ⟨rfl, hb⟩; (have HB2 := hidS (HB.out.trans (hb.mono HB.out.size))); clear hb; (have hmk := HM.out w2)))
  go_ret
  obtain ⟨hn, q1, q2, q3, q4⟩ := HH.out
  have b0 := HB2.out
  have b1 : Below w.heap.size w (w2.alloc (.cells (madeCells #[.complex .f64 0 0] m) 39)) := b0.alloc b0.size _
  have r1 : Nr (w2.alloc (.cells (madeCells #[.complex .f64 0 0] m) 39)) w.heap.size (.slice (some ⟨w2.heap.size, 0, none⟩) m m) m noC := nr_made (by omega) b0.size
  have hz : (w2.alloc (.cells (madeCells #[.complex .f64 0 0] m) 39)).heap.size = w2.heap.size + 1 := by simp
  obtain ⟨w3, hw3⟩ : ∃ w3, w2.alloc (.cells (madeCells #[.complex .f64 0 0] m) 39) = w3 := ⟨_, rfl⟩
  rw [hw3] at b1 r1 hz ⊢
  rw [← hz]
  have hc := fun (j : Nat) => cell_of_row _ _ j _ _ (0, 0) (heap_alloc_new w3 (.cells #[.pointer (some ⟨p, 0, none⟩), .int .i64 (d : Int), .slice (some ⟨w2.heap.size, 0, none⟩) m m] 190))
  have b2 := b1.alloc b1.size (.cells #[.pointer (some ⟨p, 0, none⟩), .int .i64 (d : Int), .slice (some ⟨w2.heap.size, 0, none⟩) m m] 190)
  refine ⟨_, .slice (some ⟨w2.heap.size, 0, none⟩) m m, rfl, b1.size, ⟨hn, b2, Nat.le_refl _, q1, q2, ?_⟩, b2⟩
  rw [q3, q4]
  refine ⟨?_, ?_, ?_, r1.on (bal w3 _), ?_, b2.size⟩
  · rw [hc 0]; rfl
  · rw [hc 1]; rfl
  · rw [hc 2]; rfl
  · intro e
    simp only [Value.ownBlock] at e
    have e2 : w2.heap.size = w3.heap.size := by simpa using e
    omega
end Go.Proofs.YtmpkcioeodlbcaaGreatDoor
namespace Go.Proofs.YtmpkcioeodlbcaaGreatDoor
open Fl Go.Maps RowKit Joins Deep
set_option linter.unusedVariables false
/-- the function that the j-th entry holds -/
def eF (x : Elm) (j : Nat) : FuncId := if x.k = 4 then (if j = 0 then 47 else 129) else 163
/-- entries that lie in memory -/
def Ety (lo : Nat) (w : World) (A : Option Addr) (m : Nat) (I : Nat → Int) (F : Nat → FuncId) : Prop := ∀ j, j < m → ∃ q, A = some ⟨q, 0, none⟩ ∧ lo ≤ q ∧ q < w.heap.size ∧ w.cell? ⟨q, j * 2, none⟩ = some (.int .i64 (I j)) ∧ w.cell? ⟨q, j * 2 + 1, none⟩ = some (.func (.func (F j)) #[] #[])
theorem Ety.blk {lo : Nat} {w w' : World} {A : Option Addr} {m : Nat} {I : Nat → Int} {F : Nat → FuncId} (h : Ety lo w A m I F) (hs : w.heap.size ≤ w'.heap.size) (hb : ∀ q, lo ≤ q → q < w.heap.size → w'.heap[q]? = w.heap[q]?) : Ety lo w' A m I F := fun j hj => by
  obtain ⟨q, h1, h0, h2, h3, h4⟩ := h j hj
  have k := hb q h0 h2
  exact ⟨q, h1, h0, Nat.lt_of_lt_of_le h2 hs, (World.cell?_of_block k).trans h3, (World.cell?_of_block k).trans h4⟩
theorem Ety.on {lo : Nat} {w w' : World} {A : Option Addr} {m : Nat} {I : Nat → Int} {F : Nat → FuncId} (h : Ety lo w A m I F) (hb : Below w.heap.size w w') : Ety lo w' A m I F := h.blk hb.size (fun q _ h2 => hb.block q h2)
theorem Ety.drew {lo : Nat} {w : World} {A : Option Addr} {m : Nat} {I : Nat → Int} {F : Nat → FuncId} (h : Ety lo w A m I F) : Ety lo w.drew A m I F := h.on ((Below.refl _ _).drew)
theorem Ety.kv {lo base : Nat} {v : Value} {w w' : World} {A : Option Addr} {m : Nat} {I : Nat → Int} {F : Nat → FuncId} (h : Ety lo w A m I F) (k : Kv base v w w') (hv : ∀ g, v.ownBlock = some g → g < lo) : Ety lo w' A m I F := h.blk k.bel.size (fun q h1 h2 => k.ot q h2 (fun e => by have := hv q e; omega))
theorem ent_eF (x : Elm) (j : Nat) : Ent (eF x j) := by
  unfold eF
  split
  · split
    · exact ent2_sub
    · exact ent2_add
  · exact ent_instead
theorem op2_eF (x : Elm) (j : Nat) : Op2 (eF x j) (eO x j) := by
  unfold eF eO
  split
  · split
    · exact op2_sub
    · exact op2_add
  · exact op2_instead
set_option maxHeartbeats 4000000 in
theorem entries_any {w0 w : World} {nb p : Nat} {N : Ns} {b : Nb} {base s : Nat} {v : Value} {R : Nat → Cn} (h : Sw w0 w nb p N b base s v R) (x : Elm) (hx : x.n.size ≤ 100000) (ha : x.a.size ≤ 100000) (hb : x.b.size ≤ 100000) :
    Calls Tryz.prog 122 #[.pointer (some ⟨s, 0, none⟩), elV x] w fun e w' => ∃ A, e = .returned (.slice A (eM x) (eM x)) ∧ Ety w.heap.size w' A (eM x) (eI N x) (eF x) ∧ Below w.heap.size w w' := by
  have HN := hidS (h.on (bal w (.cells (elA x) 96)))
  have E0 : Hid (EC w (w.alloc (.cells (elA x) 96)) w.heap.size x) := ec_new w x
  have HB := hidS (bal w (.cells (elA x) 96))
  obtain ⟨l1, c10, c11, c12, c13, c14, c15, c16, c17⟩ := E0.out.f
  obtain ⟨wa, hwa⟩ : ∃ wa, w.alloc (.cells (elA x) 96) = wa := ⟨_, rfl⟩
  rw [hwa] at HN E0 HB l1 c10 c11 c12 c13 c14 c15 c16 c17
  have HROW := hidS (fun (W : World) (q : Sw w0 W nb p N b base s v R) => drow_any q x hx)
  have HPA := hidS (fun (W : World) (q : Sw w0 W nb p N b base s v R) => dplace_any q x.a ha)
  have HPB := hidS (fun (W : World) (q : Sw w0 W nb p N b base s v R) => dplace_any q x.b hb)
  unfold elV at HROW
  have HB0 := hidS (Below.refl wa.heap.size wa)
  unfold elA at hwa
  rcases kinds45 x.k with hk | hk | ⟨k4, k5⟩
  · have e1 : eM x = 2 := by unfold eM; rw [if_pos hk]
    have e2 : eI N x 0 = plI N x.a := by unfold eI; rw [if_pos hk, if_pos rfl]
    have e3 : eI N x 1 = plI N x.b := by unfold eI; rw [if_pos hk, if_neg (by decide)]
    have e4 : eF x 0 = 47 := by unfold eF; rw [if_pos hk, if_pos rfl]
    have e5 : eF x 1 = 129 := by unfold eF; rw [if_pos hk, if_neg (by decide)]
    rw [e1]
    have HE := hidS (And.intro e2 (And.intro e3 (And.intro e4 e5)))
    have b4 : ((x.k : Int) == 4) = true := by rw [hk]; rfl
    clear e1 e2 e3 e4 e5 hk h hx ha hb HROW
    unfold elV
    go_enter Tryz.func122, Tryz.ntmps122
    go_wp2
    go_region_held_law (fun W => W.cell? ⟨w.heap.size, 2, none⟩ = some (.string x.a) ∧ W.cell? ⟨w.heap.size, 3, none⟩ = some (.string x.b)) (first | exact ⟨c12, c13⟩ | go_keep) (first
      | (go_at_call 161; (with_reducible refine (HPA.out _ (by repeat first | with_reducible exact HN.out | with_reducible refine Sw.drew ?_)).mono ?_); rintro e w2 ⟨rfl, hw⟩; subst w2)
      | (go_at_call 161; (with_reducible refine (HPB.out _ (by repeat first | with_reducible exact HN.out | with_reducible refine Sw.drew ?_)).mono ?_); rintro e w2 ⟨rfl, hw⟩; subst w2))
    all_goals rename_i hHeld
    all_goals clear hHeld
    all_goals go_wp2_with fail
    go_ret
    obtain ⟨e2, e3, e4, e5⟩ := HE.out
    have hc := fun (j : Nat) => cell_of_row _ _ j _ _ (0, 0) (heap_alloc_new wa (.cells #[.int .i64 (plI N x.a), .func (.func 47) #[] #[], .int .i64 (plI N x.b), .func (.func 129) #[] #[]] 187))
    refine ⟨some ⟨wa.heap.size, 0, none⟩, rfl, Ety.drew ?_, (HB.out.alloc HB.out.size _).drew⟩
    intro j hj
    refine ⟨wa.heap.size, rfl, HB.out.size, by simp, ?_, ?_⟩
    · rw [hc (j * 2)]
      rcases (by omega : j = 0 ∨ j = 1) with rfl | rfl
      · rw [e2]; rfl
      · rw [e3]; rfl
    · rw [hc (j * 2 + 1)]
      rcases (by omega : j = 0 ∨ j = 1) with rfl | rfl
      · rw [e4]; rfl
      · rw [e5]; rfl
  · have e1 : eM x = 1 := by unfold eM; rw [if_neg (by omega), if_pos hk]
    have e2 : eI N x 0 = rwI N x := by unfold eI; rw [if_neg (by omega)]
    have e4 : eF x 0 = 163 := by unfold eF; rw [if_neg (by omega)]
    rw [e1]
    have HE := hidS (And.intro e2 e4)
    have b4 : ((x.k : Int) == 4) = false := by rw [hk]; rfl
    have b5 : ((x.k : Int) == 5) = true := by rw [hk]; rfl
    clear e1 e2 e4 hk h hx ha hb HPA HPB
    unfold elV
    go_enter Tryz.func122, Tryz.ntmps122
    go_wp2_with (first
      | (go_at_call 162; (with_reducible refine (HROW.out _ HN.out).mono ?_); rintro e w2 ⟨rfl, hb⟩; (have HB2 := hidS (HB.out.trans (hb.mono (Nat.le_of_lt l1)))); clear hb))
    go_ret
    obtain ⟨e2, e4⟩ := HE.out
    have hc := fun (j : Nat) => cell_of_row _ _ j _ _ (0, 0) (heap_alloc_new w2 (.cells #[.int .i64 (rwI N x), .func (.func 163) #[] #[]] 187))
    refine ⟨some ⟨w2.heap.size, 0, none⟩, rfl, ?_, HB2.out.alloc HB2.out.size _⟩
    intro j hj
    refine ⟨w2.heap.size, rfl, HB2.out.size, by simp, ?_, ?_⟩
    · rw [hc (j * 2)]
      obtain rfl : j = 0 := by omega
      rw [e2]; rfl
    · rw [hc (j * 2 + 1)]
      obtain rfl : j = 0 := by omega
      rw [e4]; rfl
  · have e1 : eM x = 0 := by unfold eM; rw [if_neg k4, if_neg k5]
    rw [e1]
    have b4 : ((x.k : Int) == 4) = false := by rw [beq_eq_false_iff_ne]; omega
    have b5 : ((x.k : Int) == 5) = false := by rw [beq_eq_false_iff_ne]; omega
    clear e1 k4 k5 h hx ha hb HPA HPB HROW
    unfold elV
    go_enter Tryz.func122, Tryz.ntmps122
    go_wp2_with fail
    go_ret
    exact ⟨none, rfl, fun j hj => absurd hj (Nat.not_lt_zero j), HB.out⟩
end Go.Proofs.YtmpkcioeodlbcaaGreatDoor
