/-
  Several texts in one: Srd Sre Srr Sdr Swp.
-/
import Derived.Test.YtmpkcioeodlbcaaGreatDoorK39
import Derived.Test.YtmpkcioeodlbcaaGreatDoorK27
import Derived.Test.YtmpkcioeodlbcaaGreatDoorK29
import Derived.Test.YtmpkcioeodlbcaaGreatDoorK36
import Derived.Deep.RegionHeldLaw
import Derived.Test.YtmpkcioeodlbcaaGreatDoorK34
import Derived.Test.YtmpkcioeodlbcaaGreatDoorK40
import Derived.Test.YtmpkcioeodlbcaaGreatDoorK37
import Derived.Deep.Onto
namespace Go.Proofs.YtmpkcioeodlbcaaGreatDoor
open Fl Go.Maps RowKit Joins Deep
set_option linter.unusedVariables false
/-- a side beside the net that it is of; base: from there on lies what is new -/
structure Sw (w0 w : World) (nb p : Nat) (N : Ns) (b : Nb) (base s : Nat) (v : Value) (R : Nat → Cn) : Prop where
  nt : Nt w0 nb p N b
  bel : Below w0.heap.size w0 w
  lo : w0.heap.size ≤ base
  nd : N.nd.length ≤ 32
  nb : N.nd.length + N.br.length ≤ 64
  sd : Sd w base s p v (N.nd.length + N.br.length) N.nd.length R
theorem Sw.step {w0 w w' : World} {nb p : Nat} {N : Ns} {b : Nb} {base s : Nat} {v : Value} {R R' : Nat → Cn} (h : Sw w0 w nb p N b base s v R) (h1 : Sd w' base s p v (N.nd.length + N.br.length) N.nd.length R') (h2 : Kv base v w w') : Sw w0 w' nb p N b base s v R' := ⟨h.nt, h.bel.trans (h2.bel.mono h.lo), h.lo, h.nd, h.nb, h1⟩
theorem Sw.net {w0 w : World} {nb p : Nat} {N : Ns} {b : Nb} {base s : Nat} {v : Value} {R : Nat → Cn} (h : Sw w0 w nb p N b base s v R) : Nt w nb p N b := h.nt.below h.bel
theorem Sw.on {w0 w w' : World} {nb p : Nat} {N : Ns} {b : Nb} {base s : Nat} {v : Value} {R : Nat → Cn} (h : Sw w0 w nb p N b base s v R) (hb : Below w.heap.size w w') : Sw w0 w' nb p N b base s v R := h.step (h.sd.on hb) (Kv.of hb h.sd.lo)
theorem Sw.dN {w0 w : World} {nb p : Nat} {N : Ns} {b : Nb} {base s : Nat} {v : Value} {R : Nat → Cn} (h : Sw w0 w nb p N b base s v R) (m : Nat) : Sw w0 (w.drewN m) nb p N b base s v R := h.on (below_dN (Below.refl _ _) m)
theorem Sw.drew {w0 w : World} {nb p : Nat} {N : Ns} {b : Nb} {base s : Nat} {v : Value} {R : Nat → Cn} (h : Sw w0 w nb p N b base s v R) : Sw w0 w.drew nb p N b base s v R := h.dN 1
theorem dplace_any {w0 w : World} {nb p : Nat} {N : Ns} {b : Nb} {base s : Nat} {v : Value} {R : Nat → Cn} (h : Sw w0 w nb p N b base s v R) (t : ByteArray) (ht : t.size ≤ 100000) :
    Calls Tryz.prog 161 #[.pointer (some ⟨s, 0, none⟩), .string t] w fun e w' => e = .returned (.int .i64 (plI N t)) ∧ w' = w := by
  have c0 := h.sd.c0
  have HP := hidS (plc_made h.net t ht)
  by_cases k : bl t ∈ N.nd
  · have hk : plI N t = (posL N.nd (bl t) : Int) := by unfold plI; rw [if_pos k]
    rw [hk]
    go_enter Tryz.func161, Tryz.ntmps161
    go_wp2_with (go_at_call 45; (with_reducible refine (HP.out).mono ?_); rintro e w1 ⟨rfl, hw⟩; subst w1; rw [decide_eq_true k])
    go_ret
    exact ⟨rfl, rfl⟩
  · have hk : plI N t = -1 := by unfold plI; rw [if_neg k]
    rw [hk]
    go_enter Tryz.func161, Tryz.ntmps161
    go_wp2_with (go_at_call 45; (with_reducible refine (HP.out).mono ?_); rintro e w1 ⟨rfl, hw⟩; subst w1; rw [decide_eq_false k])
    go_ret
    exact ⟨rfl, rfl⟩
theorem drow_any {w0 w : World} {nb p : Nat} {N : Ns} {b : Nb} {base s : Nat} {v : Value} {R : Nat → Cn} (h : Sw w0 w nb p N b base s v R) (x : Elm) (hx : x.n.size ≤ 100000) :
    Calls Tryz.prog 162 #[.pointer (some ⟨s, 0, none⟩), elV x] w fun e w' => e = .returned (.int .i64 (rwI N x)) ∧ Below w.heap.size w w' := by
  have HN := hidS (h.on (bal w (.cells (elA x) 96)))
  have E0 : Hid (EC w (w.alloc (.cells (elA x) 96)) w.heap.size x) := ec_new w x
  have HB := hidS (bal w (.cells (elA x) 96))
  obtain ⟨l1, c10, c11, c12, c13, c14, c15, c16, c17⟩ := E0.out.f
  obtain ⟨wa, hwa⟩ : ∃ wa, w.alloc (.cells (elA x) 96) = wa := ⟨_, rfl⟩
  rw [hwa] at HN E0 HB l1 c10 c11 c12 c13 c14 c15 c16 c17
  have c0 := HN.out.sd.c0
  have c2 := HN.out.sd.c1
  have HP := hidS (fun W (hb : Below wa.heap.size wa W) => brn_made (HN.out.on hb).net x.n hx)
  have HB0 := hidS (Below.refl wa.heap.size wa)
  have h1 := h.nd
  have h2 := h.nb
  have h3 := posL_le N.br (bl x.n)
  unfold elA at hwa
  unfold elV rwI
  obtain ⟨q, hq⟩ : ∃ q, posL N.br (bl x.n) = q := ⟨_, rfl⟩
  obtain ⟨d, hd⟩ : ∃ d, N.nd.length = d := ⟨_, rfl⟩
  rw [hq] at h3 ⊢
  rw [hd] at h1 h2 c2 ⊢
  have HQ := hidS hq
  clear hq hd h
  go_enter Tryz.func162, Tryz.ntmps162
  go_wp2
  go_region_held_law (fun W => W.cell? ⟨s, 0, none⟩ = some (.pointer (some ⟨p, 0, none⟩)) ∧ W.cell? ⟨w.heap.size, 1, none⟩ = some (.string x.n)) (first | exact ⟨c0, c11⟩ | go_keep) (first | (go_at_call 48; (with_reducible refine (HP.out _ (by repeat first | with_reducible exact HB0.out | with_reducible refine Below.drew ?_)).mono ?_); rintro e w1 ⟨rfl, hw⟩; subst w1; rw [HQ.out]))
  all_goals rename_i hHeld
  all_goals clear hHeld
  all_goals go_wp2_with fail
  all_goals go_ret
  all_goals exact ⟨rfl, by repeat first | with_reducible exact HB.out | with_reducible refine Below.drew ?_⟩
theorem ent_instead : Ent 163 := fun args w => by kernel_rfl
theorem op2_instead : Op2 163 (fun _ y => y) := by
  intro W x y hx hy
  have h1 : rep (ans y.1) y.1 := rep_ans hy.1
  have h2 : rep (ans y.2) y.2 := rep_ans hy.2
  go_enter Tryz.func163, Tryz.ntmps163
  go_wp2_with fail
  go_ret
  exact ⟨y, 0, rfl, ⟨h1, h2⟩, rfl⟩
/-- is it a net? one that is made -/
theorem smade_yes {w : World} {nb p : Nat} {N : Ns} {b : Nb} (h : Nt w nb p N b) (hn : [] ∉ N.nm) : Calls Tryz.prog 119 #[.pointer (some ⟨p, 0, none⟩)] w fun e w' => e = .returned (.bool true) ∧ w' = w := by
  have HW := hidS (without_no h hn)
  go_enter Tryz.func119, Tryz.ntmps119
  go_wp2_with (go_at_call 92; (with_reducible refine (HW.out).mono ?_); rintro e w1 ⟨rfl, hw⟩; subst w1)
  go_ret
  exact ⟨rfl, rfl⟩
def noC : Nat → Cn := fun _ => (some 0, some 0)
theorem nr_made {w : World} {n base : Nat} (hn : n ≤ 100000) (hb : base ≤ w.heap.size) : Nr (w.alloc (.cells (madeCells #[.complex .f64 0 0] n) 39)) base (.slice (some ⟨w.heap.size, 0, none⟩) n n) n noC := by
  refine ⟨List.replicate n (0, 0), ⟨List.length_replicate, ?_⟩, fun j hj => ?_⟩
  · have := made_zeroC n
    rw [Nat.mul_one] at this
    rw [← this]
    exact World.ownsRow_lit w _ n hb (by unfold maxLen; omega) (by simp [madeCells])
  · rw [show zat (List.replicate n ((0, 0) : Cw)) j = (0, 0) by simp [zat, List.getD_eq_getElem?_getD, hj]]
    exact ⟨rep_0, rep_0⟩
set_option maxHeartbeats 1000000 in
/-- a new side -/
theorem snew_any {w : World} {nb p : Nat} {N : Ns} {b : Nb} (h : Nt w nb p N b) (h1 : N.nd.length ≤ 32) (h2 : N.nd.length + N.br.length ≤ 64) :
    Calls Tryz.prog 120 #[.pointer (some ⟨p, 0, none⟩)] w fun e w' => ∃ s v, e = .returned (.pointer (some ⟨s, 0, none⟩)) ∧ w.heap.size ≤ s ∧ Sw w w' nb p N b w.heap.size s v noC ∧ Below w.heap.size w w' := by
  obtain ⟨m, hm⟩ : ∃ m, N.nd.length + N.br.length = m := ⟨_, rfl⟩
  obtain ⟨d, hd⟩ : ∃ d, N.nd.length = d := ⟨_, rfl⟩
  have hsz : m ≤ 64 := by omega
  have hsd : d ≤ 32 := by omega
  have HO : Hid (∀ W, Below w.heap.size w W → Calls Tryz.prog 74 #[.pointer (some ⟨p, 0, none⟩)] W fun e w' => e = .returned (.int .i64 (m : Int)) ∧ Below W.heap.size W w') := by
    rw [← hm]
    exact fun W hb => norder_made (h.below hb) (by omega) (by omega)
  have HD : Hid (Calls Tryz.prog 87 #[.pointer (some ⟨p, 0, none⟩)] w fun e w' => ∃ A c, e = .returned (.slice A d c) ∧ Below w.heap.size w w') := (nodes_made h (by omega)).mono (by
    rintro e w' ⟨v, rfl, ho, hb⟩
    obtain ⟨A1, c1, rfl⟩ := drow_slice ho
    exact ⟨A1, c1, by rw [hd], hb⟩)
  have HM := hidS (fun W => run_mkC m (by omega) W)
  have HH := hidS (And.intro h (And.intro h1 (And.intro h2 (And.intro hm hd))))
  clear h h1 h2 hm hd
  go_enter Tryz.func120, Tryz.ntmps120
  go_wp2_with (first
    | (go_at_call 87; (with_reducible refine HD.out.mono ?_); rintro e w1 ⟨A1, c1, rfl, hb⟩; (have HB := hidS hb); clear hb)
    | (go_at_call 74; (with_reducible refine (HO.out _ HB.out).mono ?_); rintro e w2 ⟨rfl, hb⟩; (have HB2 := hidS (HB.out.trans (hb.mono HB.out.size))); clear hb; (have hmk := HM.out w2)))
  go_ret
  obtain ⟨hn, q1, q2, q3, q4⟩ := HH.out
  have b0 := HB2.out
  have b1 : Below w.heap.size w (w2.alloc (.cells (madeCells #[.complex .f64 0 0] m) 39)) := b0.alloc b0.size _
  have r1 : Nr (w2.alloc (.cells (madeCells #[.complex .f64 0 0] m) 39)) w.heap.size (.slice (some ⟨w2.heap.size, 0, none⟩) m m) m noC := nr_made (by omega) b0.size
  have hz : (w2.alloc (.cells (madeCells #[.complex .f64 0 0] m) 39)).heap.size = w2.heap.size + 1 := by simp
  obtain ⟨w3, hw3⟩ : ∃ w3, w2.alloc (.cells (madeCells #[.complex .f64 0 0] m) 39) = w3 := ⟨_, rfl⟩
  rw [hw3] at b1 r1 hz ⊢
  rw [← hz]
  have hc := fun (j : Nat) => cell_of_row _ _ j _ _ (0, 0) (heap_alloc_new w3 (.cells #[.pointer (some ⟨p, 0, none⟩), .int .i64 (d : Int), .slice (some ⟨w2.heap.size, 0, none⟩) m m] 190))
  have b2 := b1.alloc b1.size (.cells #[.pointer (some ⟨p, 0, none⟩), .int .i64 (d : Int), .slice (some ⟨w2.heap.size, 0, none⟩) m m] 190)
  refine ⟨_, .slice (some ⟨w2.heap.size, 0, none⟩) m m, rfl, b1.size, ⟨hn, b2, Nat.le_refl _, q1, q2, ?_⟩, b2⟩
  rw [q3, q4]
  refine ⟨?_, ?_, ?_, r1.on (bal w3 _), ?_, b2.size⟩
  · rw [hc 0]; rfl
  · rw [hc 1]; rfl
  · rw [hc 2]; rfl
  · intro e
    simp only [Value.ownBlock] at e
    have e2 : w2.heap.size = w3.heap.size := by simpa using e
    omega
end Go.Proofs.YtmpkcioeodlbcaaGreatDoor
namespace Go.Proofs.YtmpkcioeodlbcaaGreatDoor
open Fl Go.Maps RowKit Joins Deep
set_option linter.unusedVariables false
/-- the function that the j-th entry holds -/
def eF (x : Elm) (j : Nat) : FuncId := if x.k = 4 then (if j = 0 then 47 else 129) else 163
/-- entries that lie in memory -/
def Ety (lo : Nat) (w : World) (A : Option Addr) (m : Nat) (I : Nat → Int) (F : Nat → FuncId) : Prop := ∀ j, j < m → ∃ q, A = some ⟨q, 0, none⟩ ∧ lo ≤ q ∧ q < w.heap.size ∧ w.cell? ⟨q, j * 2, none⟩ = some (.int .i64 (I j)) ∧ w.cell? ⟨q, j * 2 + 1, none⟩ = some (.func (.func (F j)) #[] #[])
theorem Ety.blk {lo : Nat} {w w' : World} {A : Option Addr} {m : Nat} {I : Nat → Int} {F : Nat → FuncId} (h : Ety lo w A m I F) (hs : w.heap.size ≤ w'.heap.size) (hb : ∀ q, lo ≤ q → q < w.heap.size → w'.heap[q]? = w.heap[q]?) : Ety lo w' A m I F := fun j hj => by
  obtain ⟨q, h1, h0, h2, h3, h4⟩ := h j hj
  have k := hb q h0 h2
  exact ⟨q, h1, h0, Nat.lt_of_lt_of_le h2 hs, (World.cell?_of_block k).trans h3, (World.cell?_of_block k).trans h4⟩
theorem Ety.on {lo : Nat} {w w' : World} {A : Option Addr} {m : Nat} {I : Nat → Int} {F : Nat → FuncId} (h : Ety lo w A m I F) (hb : Below w.heap.size w w') : Ety lo w' A m I F := h.blk hb.size (fun q _ h2 => hb.block q h2)
theorem Ety.drew {lo : Nat} {w : World} {A : Option Addr} {m : Nat} {I : Nat → Int} {F : Nat → FuncId} (h : Ety lo w A m I F) : Ety lo w.drew A m I F := h.on ((Below.refl _ _).drew)
theorem Ety.kv {lo base : Nat} {v : Value} {w w' : World} {A : Option Addr} {m : Nat} {I : Nat → Int} {F : Nat → FuncId} (h : Ety lo w A m I F) (k : Kv base v w w') (hv : ∀ g, v.ownBlock = some g → g < lo) : Ety lo w' A m I F := h.blk k.bel.size (fun q h1 h2 => k.ot q h2 (fun e => by have := hv q e; omega))
theorem ent_eF (x : Elm) (j : Nat) : Ent (eF x j) := by
  unfold eF
  split
  · split
    · exact ent2_sub
    · exact ent2_add
  · exact ent_instead
theorem op2_eF (x : Elm) (j : Nat) : Op2 (eF x j) (eO x j) := by
  unfold eF eO
  split
  · split
    · exact op2_sub
    · exact op2_add
  · exact op2_instead
set_option maxHeartbeats 4000000 in
theorem entries_any {w0 w : World} {nb p : Nat} {N : Ns} {b : Nb} {base s : Nat} {v : Value} {R : Nat → Cn} (h : Sw w0 w nb p N b base s v R) (x : Elm) (hx : x.n.size ≤ 100000) (ha : x.a.size ≤ 100000) (hb : x.b.size ≤ 100000) :
    Calls Tryz.prog 122 #[.pointer (some ⟨s, 0, none⟩), elV x] w fun e w' => ∃ A, e = .returned (.slice A (eM x) (eM x)) ∧ Ety w.heap.size w' A (eM x) (eI N x) (eF x) ∧ Below w.heap.size w w' := by
  have HN := hidS (h.on (bal w (.cells (elA x) 96)))
  have E0 : Hid (EC w (w.alloc (.cells (elA x) 96)) w.heap.size x) := ec_new w x
  have HB := hidS (bal w (.cells (elA x) 96))
  obtain ⟨l1, c10, c11, c12, c13, c14, c15, c16, c17⟩ := E0.out.f
  obtain ⟨wa, hwa⟩ : ∃ wa, w.alloc (.cells (elA x) 96) = wa := ⟨_, rfl⟩
  rw [hwa] at HN E0 HB l1 c10 c11 c12 c13 c14 c15 c16 c17
  have HROW := hidS (fun (W : World) (q : Sw w0 W nb p N b base s v R) => drow_any q x hx)
  have HPA := hidS (fun (W : World) (q : Sw w0 W nb p N b base s v R) => dplace_any q x.a ha)
  have HPB := hidS (fun (W : World) (q : Sw w0 W nb p N b base s v R) => dplace_any q x.b hb)
  unfold elV at HROW
  have HB0 := hidS (Below.refl wa.heap.size wa)
  unfold elA at hwa
  rcases kinds45 x.k with hk | hk | ⟨k4, k5⟩
  · have e1 : eM x = 2 := by unfold eM; rw [if_pos hk]
    have e2 : eI N x 0 = plI N x.a := by unfold eI; rw [if_pos hk, if_pos rfl]
    have e3 : eI N x 1 = plI N x.b := by unfold eI; rw [if_pos hk, if_neg (by decide)]
    have e4 : eF x 0 = 47 := by unfold eF; rw [if_pos hk, if_pos rfl]
    have e5 : eF x 1 = 129 := by unfold eF; rw [if_pos hk, if_neg (by decide)]
    rw [e1]
    have HE := hidS (And.intro e2 (And.intro e3 (And.intro e4 e5)))
    have b4 : ((x.k : Int) == 4) = true := by rw [hk]; rfl
    clear e1 e2 e3 e4 e5 hk h hx ha hb HROW
    unfold elV
    go_enter Tryz.func122, Tryz.ntmps122
    go_wp2
    go_region_held_law (fun W => W.cell? ⟨w.heap.size, 2, none⟩ = some (.string x.a) ∧ W.cell? ⟨w.heap.size, 3, none⟩ = some (.string x.b)) (first | exact ⟨c12, c13⟩ | go_keep) (first
      | (go_at_call 161; (with_reducible refine (HPA.out _ (by repeat first | with_reducible exact HN.out | with_reducible refine Sw.drew ?_)).mono ?_); rintro e w2 ⟨rfl, hw⟩; subst w2)
      | (go_at_call 161; (with_reducible refine (HPB.out _ (by repeat first | with_reducible exact HN.out | with_reducible refine Sw.drew ?_)).mono ?_); rintro e w2 ⟨rfl, hw⟩; subst w2))
    all_goals rename_i hHeld
    all_goals clear hHeld
    all_goals go_wp2_with fail
    go_ret
    obtain ⟨e2, e3, e4, e5⟩ := HE.out
    have hc := fun (j : Nat) => cell_of_row _ _ j _ _ (0, 0) (heap_alloc_new wa (.cells #[.int .i64 (plI N x.a), .func (.func 47) #[] #[], .int .i64 (plI N x.b), .func (.func 129) #[] #[]] 187))
    refine ⟨some ⟨wa.heap.size, 0, none⟩, rfl, Ety.drew ?_, (HB.out.alloc HB.out.size _).drew⟩
    intro j hj
    refine ⟨wa.heap.size, rfl, HB.out.size, by simp, ?_, ?_⟩
    · rw [hc (j * 2)]
      rcases (by omega : j = 0 ∨ j = 1) with rfl | rfl
      · rw [e2]; rfl
      · rw [e3]; rfl
    · rw [hc (j * 2 + 1)]
      rcases (by omega : j = 0 ∨ j = 1) with rfl | rfl
      · rw [e4]; rfl
      · rw [e5]; rfl
  · have e1 : eM x = 1 := by unfold eM; rw [if_neg (by omega), if_pos hk]
    have e2 : eI N x 0 = rwI N x := by unfold eI; rw [if_neg (by omega)]
    have e4 : eF x 0 = 163 := by unfold eF; rw [if_neg (by omega)]
    rw [e1]
    have HE := hidS (And.intro e2 e4)
    have b4 : ((x.k : Int) == 4) = false := by rw [hk]; rfl
    have b5 : ((x.k : Int) == 5) = true := by rw [hk]; rfl
    clear e1 e2 e4 hk h hx ha hb HPA HPB
    unfold elV
    go_enter Tryz.func122, Tryz.ntmps122
    go_wp2_with (first
      | (go_at_call 162; (with_reducible refine (HROW.out _ HN.out).mono ?_); rintro e w2 ⟨rfl, hb⟩; (have HB2 := hidS (HB.out.trans (hb.mono (Nat.le_of_lt l1)))); clear hb))
    go_ret
    obtain ⟨e2, e4⟩ := HE.out
    have hc := fun (j : Nat) => cell_of_row _ _ j _ _ (0, 0) (heap_alloc_new w2 (.cells #[.int .i64 (rwI N x), .func (.func 163) #[] #[]] 187))
    refine ⟨some ⟨w2.heap.size, 0, none⟩, rfl, ?_, HB2.out.alloc HB2.out.size _⟩
    intro j hj
    refine ⟨w2.heap.size, rfl, HB2.out.size, by simp, ?_, ?_⟩
    · rw [hc (j * 2)]
      obtain rfl : j = 0 := by omega
      rw [e2]; rfl
    · rw [hc (j * 2 + 1)]
      obtain rfl : j = 0 := by omega
      rw [e4]; rfl
  · have e1 : eM x = 0 := by unfold eM; rw [if_neg k4, if_neg k5]
    rw [e1]
    have b4 : ((x.k : Int) == 4) = false := by rw [beq_eq_false_iff_ne]; omega
    have b5 : ((x.k : Int) == 5) = false := by rw [beq_eq_false_iff_ne]; omega
    clear e1 k4 k5 h hx ha hb HPA HPB HROW
    unfold elV
    go_enter Tryz.func122, Tryz.ntmps122
    go_wp2_with fail
    go_ret
    exact ⟨none, rfl, fun j hj => absurd hj (Nat.not_lt_zero j), HB.out⟩
end Go.Proofs.YtmpkcioeodlbcaaGreatDoor
namespace Go.Proofs.YtmpkcioeodlbcaaGreatDoor
open Fl Go.Maps RowKit Joins Deep
set_option linter.unusedVariables false
/-- what Right tells of a net that is made -/
def RgP (w : World) (N : Ns) (e : Ending) (w' : World) : Prop :=
  Below w.heap.size w w' ∧ ((rgL N N.es noC 0).1 = (0, 0) ∧ (∃ v, e = .returned (.tuple #[v, .agg #[.int .i64 0, .int .i64 0]]) ∧ Nr w' w.heap.size v (N.nd.length + N.br.length) (rgL N N.es noC 0).2) ∨ ∃ i : Nat, (rgL N N.es noC 0).1 = (6, (i : Int)) ∧ i < N.es.length ∧ e = .returned (.tuple #[.slice none 0 0, .agg #[.int .i64 6, .int .i64 i]]))
/-- while Right goes on -/
structure Rt_Srr (wF wr : World) (nb p : Nat) (N : Ns) (b : Nb) (B1 s : Nat) (v v2 : Value) (R : Nat → Cn) : Prop where
  sw : Sw wF wr nb p N b wF.heap.size s v R
  el : wr.ownsRow B1 96 8 v2 N.es.length (elCs N.es)
  vb : ∀ g, v.ownBlock = some g → g < B1
theorem Rt_Srr.on {wF w w' : World} {nb p : Nat} {N : Ns} {b : Nb} {B1 s : Nat} {v v2 : Value} {R : Nat → Cn} (h : Rt_Srr wF w nb p N b B1 s v v2 R) (hb : Below w.heap.size w w') : Rt_Srr wF w' nb p N b B1 s v v2 R := ⟨h.sw.on hb, own_below h.el hb, h.vb⟩
theorem Rt_Srr.drew {wF w : World} {nb p : Nat} {N : Ns} {b : Nb} {B1 s : Nat} {v v2 : Value} {R : Nat → Cn} (h : Rt_Srr wF w nb p N b B1 s v v2 R) : Rt_Srr wF w.drew nb p N b B1 s v v2 R := h.on ((Below.refl _ _).drew)
theorem Rt_Srr.put {wF w w' : World} {nb p : Nat} {N : Ns} {b : Nb} {B1 s : Nat} {v v2 : Value} {R R' : Nat → Cn} (h : Rt_Srr wF w nb p N b B1 s v v2 R) (h1 : Sd w' wF.heap.size s p v (N.nd.length + N.br.length) N.nd.length R') (k : Kv wF.heap.size v w w') : Rt_Srr wF w' nb p N b B1 s v v2 R' :=
  ⟨h.sw.step h1 k, row_block h.el (fun g hg => k.ot g (h.el.lt g hg).2 (fun e => by have h2 := h.vb g e; have h3 := (h.el.lt g hg).1; omega)), h.vb⟩
theorem Nr.but {w w' : World} {base n : Nat} {v : Value} {R : Nat → Cn} (h : Nr w base v n R) (hb : ∀ q, base ≤ q → q < w.heap.size → w'.heap[q]? = w.heap[q]?) : Nr w' base v n R := by
  obtain ⟨xs, h1, h2⟩ := h
  exact ⟨xs, ⟨h1.len, row_block h1.own (fun g hg => hb g (h1.own.lt g hg).1 (h1.own.lt g hg).2)⟩, h2⟩
theorem Nr.lower {w : World} {base base' n : Nat} {v : Value} {R : Nat → Cn} (h : Nr w base v n R) (hb : base' ≤ base) : Nr w base' v n R := by
  obtain ⟨xs, h1, h2⟩ := h
  exact ⟨xs, ⟨h1.len, h1.own.mono hb⟩, h2⟩
set_option maxHeartbeats 8000000 in
theorem sright_any {w : World} {nb p : Nat} {N : Ns} {b : Nb} (h : Nt w nb p N b) (hm : Md N) :
    Calls Tryz.prog 94 #[.pointer (some ⟨p, 0, none⟩)] w (RgP w N) := by
  have HM := hidS hm
  have HNT := hidS (h.below (bal w (.cells #[.int .i64 0, .int .i64 0] 69)))
  obtain ⟨wF, hwF⟩ : ∃ wF, w.alloc (.cells #[.int .i64 0, .int .i64 0] 69) = wF := ⟨_, rfl⟩
  obtain ⟨F, hF⟩ : ∃ F, w.heap.size = F := ⟨_, rfl⟩
  have HF : Hid (wF.heap[F]? = some (.cells #[.int .i64 0, .int .i64 0] 69 (0, 0)) ∧ wF.heap.size = F + 1 ∧ Below F w wF ∧ w.heap.size = F) := by
    rw [← hwF, ← hF]
    exact ⟨heap_alloc_new w _, by simp, (Below.refl _ w).alloc (Nat.le_refl _) _, rfl⟩
  rw [hwF] at HNT
  go_enter Tryz.func94, Tryz.ntmps94
  go_wp2_with fail
  clear hwF hF h hm
  refine (smade_yes HNT.out HM.out.nn).mono ?_
  rintro e1 w1 ⟨rfl, hw⟩
  subst w1
  go_wp2_with fail
  refine (snew_any HNT.out HM.out.nd HM.out.nb).mono ?_
  rintro e1 w1 ⟨s, v, rfl, hs, hsw, hb1⟩
  have HS := hidS hsw
  have HB1 := hidS hb1
  clear hsw hb1
  go_wp2_with fail
  refine (elements_made HS.out.net (by have := HM.out.ln; omega)).mono ?_
  rintro e2 w2 ⟨v2, rfl, ho2, hb2⟩
  obtain ⟨A2, cA, rfl⟩ := drow_slice ho2
  have HT : Hid (Rt_Srr wF w2 nb p N b w1.heap.size s v (.slice A2 N.es.length cA) noC) := ⟨HS.out.on hb2, ho2, fun g hg => by
    obtain ⟨xs, h1, _⟩ := HS.out.sd.row
    exact (h1.own.lt g hg).2⟩
  obtain ⟨B1, hB1⟩ : ∃ B1, w1.heap.size = B1 := ⟨_, rfl⟩
  rw [hB1] at HT
  clear ho2 hb2 HS HB1 hB1
  have HLN := hidS HM.out.ln
  obtain ⟨n, hn⟩ : ∃ n, N.es.length = n := ⟨_, rfl⟩
  have HN := hidS hn
  rw [hn]
  have HT0 : Hid (∃ R, Rt_Srr wF w2 nb p N b B1 s v (.slice A2 n cA) R ∧ rgL N (N.es.drop 0) R 0 = rgL N N.es noC 0) := ⟨noC, by rw [← hn]; exact HT.out, rfl⟩
  clear hn HT
  go_wp2_with fail
  go_loopw [20] (fun iv wr => ∃ (i : Nat), i ≤ n ∧ iv = .int .i64 i ∧ Hid (∃ R, Rt_Srr wF wr nb p N b B1 s v (.slice A2 n cA) R ∧ rgL N (N.es.drop i) R i = rgL N N.es noC 0)) (fun iv _ => n - (intOf iv).toNat)
  case atStart => exact ⟨0, Nat.zero_le _, rfl, HT0⟩
  case round =>
    obtain ⟨i, hle, rfl, HI0⟩ := hrel
    clear HT0
    obtain ⟨R, hRt, hrest⟩ := HI0.out
    have HI := hidS hRt
    have HRS := hidS hrest
    clear hRt hrest HI0
    by_cases hlt : i < n
    · have hli : (i : Int) < (n : Int) := by omega
      obtain ⟨x, hx⟩ : ∃ x, N.es[i]? = some x := ⟨_, List.getElem?_eq_getElem (by have := HN.out; omega)⟩
      have hel := HI.out.el
      rw [HN.out] at hel
      obtain ⟨ga, ca, he, hE⟩ := de8_row hel HN.out hx
      clear hel
      injection he with he1 he2 he3
      subst he1 he3
      clear he2
      obtain ⟨c0, c1, c2, c3, c4, c5, c6, c7⟩ := hE
      have HXM := hidS (List.mem_of_getElem? hx)
      have HX := hidS hx
      clear hx
      have HPH := hidS (fun W => sphasor_any x W (HM.out.ok x HXM.out) (HM.out.pb x HXM.out) (HM.out.ok x HXM.out).v)
      unfold elV at HPH
      obtain ⟨we, hwe⟩ : ∃ we, wr.alloc (.cells #[.int .u8 (x.k : Int), .string x.n, .string x.a, .string x.b, .string x.c, .string x.d, .float .f64 x.v, .int .i64 x.ph] 96) = we := ⟨_, rfl⟩
      obtain ⟨q, hq⟩ : ∃ q, wr.heap.size = q := ⟨_, rfl⟩
      have HE : Hid (Rt_Srr wF we nb p N b B1 s v (.slice (some ⟨ga, 0, none⟩) n cA) R ∧ we.heap[q]? = some (.cells (elA x) 96 (0, 0)) ∧ q < we.heap.size) := by
        rw [← hwe, ← hq]
        exact ⟨HI.out.on (bal wr _), heap_alloc_new wr _, by simp⟩
      obtain ⟨⟨d0, d1, d2, d3, d4, d5, d6, d7⟩, z8⟩ := eight HE.out.2.1
      clear z8
      clear HI
      go_wp2_with fail
      clear d0 d1 d2 d3 d4 d5 d6 d7 hwe hq c0 c1 c2 c3 c4 c5 c6 c7
      refine (HPH.out _).mono ?_
      rintro e3 w3 ⟨re, im, rfl, hr1, hr2, hb3⟩
      have HR3 := hidS (And.intro hr1 hr2)
      have HE3 : Hid (Rt_Srr wF w3 nb p N b B1 s v (.slice (some ⟨ga, 0, none⟩) n cA) R ∧ w3.heap[q]? = some (.cells (elA x) 96 (0, 0)) ∧ q < w3.heap.size) := ⟨HE.out.1.on hb3, by rw [hb3.block q HE.out.2.2]; exact HE.out.2.1, Nat.lt_of_lt_of_le HE.out.2.2 hb3.size⟩
      obtain ⟨⟨d0, d1, d2, d3, d4, d5, d6, d7⟩, z8⟩ := eight HE3.out.2.1
      clear z8
      clear hr1 hr2 hb3 HE HPH
      have HEN := hidS (fun W (q : Sw wF W nb p N b wF.heap.size s v R) => entries_any q x (by have := (HM.out.sh HXM.out).1; omega) (by have := (HM.out.sh HXM.out).2.1; omega) (by have := (HM.out.sh HXM.out).2.2.1; omega))
      unfold elV at HEN
      go_wp2_with fail
      clear d0 d1 d2 d3 d4 d5 d6 d7
      have HLO : Hid (B1 ≤ w3.heap.size) := by
        have h1 := HE3.out.1.el.lt ga rfl
        exact Nat.le_of_lt (Nat.lt_of_le_of_lt h1.1 h1.2)
      refine (HEN.out _ HE3.out.1.sw).mono ?_
      rintro e4 w4 ⟨A4, rfl, hty, hb4⟩
      have HY : Hid (anz (re, im) = phC x ∧ okz (re, im)) := by
        have h1 : repz (phC x) (re, im) := HR3.out
        exact ⟨h1.anz, h1.ok⟩
      have HI4 : Hid (Rt_Srr wF w4 nb p N b B1 s v (.slice (some ⟨ga, 0, none⟩) n cA) (rJ N x (phC x) R 0) ∧ Ety w3.heap.size w4 A4 (eM x) (eI N x) (eF x) ∧ ∀ k, k < 0 → rG N x (phC x) R k = true) := ⟨HE3.out.1.on hb4, hty, fun k hk => absurd hk (Nat.not_lt_zero k)⟩
      obtain ⟨lo, hlo⟩ : ∃ lo, w3.heap.size = lo := ⟨_, rfl⟩
      rw [hlo] at HI4 HLO
      have HML := hidS (eM_le x)
      obtain ⟨m, hm⟩ : ∃ m, eM x = m := ⟨_, rfl⟩
      have HMM := hidS hm
      rw [hm] at HI4 HML ⊢
      have hm2 := HML.out
      clear hty hb4 HE3 HEN HR3 hlo hm
      go_wp2_with fail
      go_loopw [34] (fun jv wr => ∃ (j : Nat), j ≤ m ∧ jv = .int .i64 j ∧ Hid (Rt_Srr wF wr nb p N b B1 s v (.slice (some ⟨ga, 0, none⟩) n cA) (rJ N x (phC x) R j) ∧ Ety lo wr A4 m (eI N x) (eF x) ∧ ∀ k, k < j → rG N x (phC x) R k = true)) (fun jv _ => m - (intOf jv).toNat)
      case atStart => exact ⟨0, Nat.zero_le _, rfl, HI4⟩
      case round =>
        obtain ⟨j, hjle, rfl, HJ⟩ := hrel
        clear HI4
        by_cases hjlt : j < m
        · have hjli : (j : Int) < (m : Int) := by omega
          obtain ⟨q4, rfl, hq1, hq2, k0, k1⟩ := HJ.out.2.1 j hjlt
          obtain ⟨wb, hwb⟩ : ∃ wb, wr.alloc (.cells #[.int .i64 (eI N x j), .func (.func (eF x j)) #[] #[]] 187) = wb := ⟨_, rfl⟩
          obtain ⟨qb, hqb⟩ : ∃ qb, wr.heap.size = qb := ⟨_, rfl⟩
          have HWB : Hid (Below wr.heap.size wr wb ∧ Rt_Srr wF wb nb p N b B1 s v (.slice (some ⟨ga, 0, none⟩) n cA) (rJ N x (phC x) R j) ∧ Ety lo wb (some ⟨q4, 0, none⟩) m (eI N x) (eF x)) := by
            rw [← hwb]
            exact ⟨bal wr _, HJ.out.1.on (bal wr _), HJ.out.2.1.on (bal wr _)⟩
          have b0 : wb.cell? ⟨qb, 0, none⟩ = some (.int .i64 (eI N x j)) := by rw [← hwb, ← hqb, cell_of_row _ _ _ _ _ (0, 0) (heap_alloc_new wr _)]; rfl
          have b1 : wb.cell? ⟨qb, 1, none⟩ = some (.func (.func (eF x j)) #[] #[]) := by rw [← hwb, ← hqb, cell_of_row _ _ _ _ _ (0, 0) (heap_alloc_new wr _)]; rfl
          obtain ⟨f, hf⟩ : ∃ f, rG N x (phC x) R j = f := ⟨_, rfl⟩
          have HFF := hidS hf
          have HPUT : Hid (Calls Tryz.prog 123 #[.pointer (some ⟨s, 0, none⟩), .agg #[.int .i64 (eI N x j), .func (.func (eF x j)) #[] #[]], .complex .f64 re im] wb fun e w' => e = .returned (.int .i64 (if f = true then 0 else 6)) ∧ Sd w' wF.heap.size s p v (N.nd.length + N.br.length) N.nd.length (rJ N x (phC x) R (j + 1)) ∧ Kv wF.heap.size v wb w') := by
            have hh := sdput_any (ent_eF x j) (op2_eF x j) HWB.out.2.1.sw.sd (eI_lo N x j) (eI_hi (by rw [HMM.out]; exact hjlt) (fun k => HM.out.br5 HXM.out k)) HY.out.2 f (by rw [HY.out.1]; exact hf)
            rw [HY.out.1] at hh
            exact hh
          obtain ⟨ei, hei⟩ : ∃ ei, eI N x j = ei := ⟨_, rfl⟩
          obtain ⟨ef, hef⟩ : ∃ ef, eF x j = ef := ⟨_, rfl⟩
          rw [hei, hef] at HPUT hwb
          rw [hei] at k0 b0
          rw [hef] at k1 b1
          clear hei hef hf
          cases f
          · go_wp2_with fail
            clear k0 k1 b0 b1 hwb hqb
            refine HPUT.out.mono ?_
            rintro e5 w5 ⟨rfl, h51, h52⟩
            have HR5 := hidS (HWB.out.2.1.put h51 h52)
            have hF5 : w5.heap[F]? = some (.cells #[.int .i64 0, .int .i64 0] 69 (0, 0)) := by rw [HR5.out.sw.bel.block F (by have := HF.out.2.1; omega)]; exact HF.out.1
            obtain ⟨z0, z1, z2, z3⟩ := tw_c hF5
            obtain ⟨y0, y1⟩ := tw_set hF5 (.int .i64 6) (.int .i64 (i : Int))
            clear h51 h52
            go_wp2_with fail
            (try simp only [Exit.inBlock, Exit.then])
            refine bodyPost_ret (by simp [results, Tryz.results94, go_sem, y0, y1]; try rfl) rfl ?_
            have hbad : rgL N N.es noC 0 = ((6, (i : Int)), R) := by
              rw [← HRS.out, rgL_step HX.out, if_neg]
              rw [rok_no (j := j) (by rw [HMM.out]; exact hjlt) HFF.out]
              decide
            refine ⟨tw_bel ?_ (by have := HF.out.2.2.2; omega) _ _, .inr ⟨i, by rw [hbad], by have := HN.out; omega, rfl⟩⟩
            exact (HF.out.2.2.1.mono (by have := HF.out.2.2.2; omega)).trans (HR5.out.sw.bel.mono (by have := HF.out.2.1; have := HF.out.2.2.2; omega))
          · go_wp2_with fail
            clear k0 k1 b0 b1 hwb hqb
            refine HPUT.out.mono ?_
            rintro e5 w5 ⟨rfl, h51, h52⟩
            have HJ5 : Hid (Rt_Srr wF w5 nb p N b B1 s v (.slice (some ⟨ga, 0, none⟩) n cA) (rJ N x (phC x) R (j + 1)) ∧ Ety lo w5 (some ⟨q4, 0, none⟩) m (eI N x) (eF x) ∧ ∀ k, k < j + 1 → rG N x (phC x) R k = true) := ⟨HWB.out.2.1.put h51 h52, HWB.out.2.2.kv h52 (fun g hg => Nat.lt_of_lt_of_le (HWB.out.2.1.vb g hg) HLO.out), fun k hk => by
              by_cases e : k = j
              · rw [e]; exact HFF.out
              · exact HJ.out.2.2 k (by omega)⟩
            clear h51 h52
            go_wp2_with fail
            go_roundw
            case rel => exact ⟨j + 1, by omega, by go_num, HJ5⟩
            case measure => simp [intOf]; omega
        · have ej : j = m := by omega
          subst ej
          have hjli : ¬ ((j : Int) < (j : Int)) := by omega
          have HI5 : Hid (∃ R', Rt_Srr wF wr nb p N b B1 s v (.slice (some ⟨ga, 0, none⟩) n cA) R' ∧ rgL N (N.es.drop (i + 1)) R' (i + 1) = rgL N N.es noC 0) := by
            refine ⟨rJ N x (phC x) R (eM x), by rw [HMM.out]; exact HJ.out.1, ?_⟩
            rw [← HRS.out, rgL_step HX.out, if_pos (rok_yes (by rw [HMM.out]; exact HJ.out.2.2))]
          have hn9 : n ≤ 256 := by have := HLN.out; have := HN.out; omega
          go_wp2_with fail
          go_roundw
          case rel => exact ⟨i + 1, by omega, by go_num, HI5⟩
          case measure => simp [intOf]; omega
    · have ei : i = n := by omega
      subst ei
      have hnlt : ¬ ((i : Int) < (i : Int)) := by omega
      have hend : rgL N N.es noC 0 = ((0, 0), R) := by rw [← HRS.out, rgL_end (by have := HN.out; omega)]
      have c2 := HI.out.sw.sd.c2
      have hFr : wr.heap[F]? = some (.cells #[.int .i64 0, .int .i64 0] 69 (0, 0)) := by rw [HI.out.sw.bel.block F (by have := HF.out.2.1; omega)]; exact HF.out.1
      obtain ⟨z0, z1, z2, z3⟩ := tw_c hFr
      obtain ⟨y0, y1⟩ := tw_set hFr (.int .i64 0) (.int .i64 0)
      have HE := hidS hend
      clear hend
      go_wp2_with fail
      (try simp only [Exit.inBlock, Exit.then])
      refine bodyPost_ret (by simp [results, Tryz.results94, go_sem, y0, y1]; try rfl) rfl ?_
      refine ⟨tw_bel ?_ (by have := HF.out.2.2.2; omega) _ _, .inl ⟨by rw [HE.out], v, rfl, ?_⟩⟩
      · exact (HF.out.2.2.1.mono (by have := HF.out.2.2.2; omega)).trans (HI.out.sw.bel.mono (by have := HF.out.2.1; have := HF.out.2.2.2; omega))
      · rw [HE.out]
        refine (HI.out.sw.sd.row.but (fun q h1 h2 => ?_)).lower (by have := HF.out.2.1; have := HF.out.2.2.2; omega)
        rw [heap_setCell_other _ _ _ _ (by have := HF.out.2.1; simp; omega), heap_setCell_other _ _ _ _ (by have := HF.out.2.1; simp; omega)]
end Go.Proofs.YtmpkcioeodlbcaaGreatDoor
namespace Go.Proofs.YtmpkcioeodlbcaaGreatDoor
open Fl Go.Maps RowKit Joins Deep
set_option linter.unusedVariables false
/-- one ampere -/
def o1 : Cn := anz (4607182418800017408, 0)
end Go.Proofs.YtmpkcioeodlbcaaGreatDoor
namespace Go.Proofs.YtmpkcioeodlbcaaGreatDoor
open Fl RowKit
set_option linter.unusedVariables false
theorem rep_in {y x : Nat} (h : rep (some y) x) : x = y := by
  have := h.2
  unfold ans at this
  split at this
  · cases this
  · exact Option.some.inj this
theorem repz_in {a b : Nat} {z : Cw} (h : repz (some a, some b) z) : z = (a, b) := by
  rw [← rep_in h.1, ← rep_in h.2]
end Go.Proofs.YtmpkcioeodlbcaaGreatDoor
