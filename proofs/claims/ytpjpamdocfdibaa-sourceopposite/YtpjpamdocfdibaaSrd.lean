/-
  The side beside its net: a node's place, a branch's row, a new side; what stands where another stood.
-/
import Derived.Test.YtpjpamdocfdibaaSrc
import Derived.Test.YtpjpamdocfdibaaPnt
import Derived.Test.YtpjpamdocfdibaaDnb
import Derived.Test.YtpjpamdocfdibaaSra
import Derived.Deep.RegionHeldLaw
namespace Go.Proofs.Ytpjpamdocfdibaa
open Fl Go.Maps RowKit Joins Deep
set_option linter.unusedVariables false

/-- a side beside the net that it is of; base: from there on lies what is new -/
structure Sw (w0 w : World) (nb p : Nat) (N : Ns) (b : Nb) (base s : Nat) (v : Value) (R : Nat → Cn) : Prop where
  nt : Nt w0 nb p N b
  bel : Below w0.heap.size w0 w
  lo : w0.heap.size ≤ base
  nd : N.nd.length ≤ 32
  nb : N.nd.length + N.br.length ≤ 64
  sd : Sd w base s p v (N.nd.length + N.br.length) N.nd.length R
theorem Sw.step {w0 w w' : World} {nb p : Nat} {N : Ns} {b : Nb} {base s : Nat} {v : Value} {R R' : Nat → Cn} (h : Sw w0 w nb p N b base s v R) (h1 : Sd w' base s p v (N.nd.length + N.br.length) N.nd.length R') (h2 : Kv base v w w') : Sw w0 w' nb p N b base s v R' := ⟨h.nt, h.bel.trans (h2.bel.mono h.lo), h.lo, h.nd, h.nb, h1⟩
theorem Sw.net {w0 w : World} {nb p : Nat} {N : Ns} {b : Nb} {base s : Nat} {v : Value} {R : Nat → Cn} (h : Sw w0 w nb p N b base s v R) : Nt w nb p N b := h.nt.below h.bel
theorem Sw.on {w0 w w' : World} {nb p : Nat} {N : Ns} {b : Nb} {base s : Nat} {v : Value} {R : Nat → Cn} (h : Sw w0 w nb p N b base s v R) (hb : Below w.heap.size w w') : Sw w0 w' nb p N b base s v R := h.step (h.sd.on hb) (Kv.of hb h.sd.lo)
theorem Sw.dN {w0 w : World} {nb p : Nat} {N : Ns} {b : Nb} {base s : Nat} {v : Value} {R : Nat → Cn} (h : Sw w0 w nb p N b base s v R) (m : Nat) : Sw w0 (w.drewN m) nb p N b base s v R := h.on (below_dN (Below.refl _ _) m)
theorem Sw.drew {w0 w : World} {nb p : Nat} {N : Ns} {b : Nb} {base s : Nat} {v : Value} {R : Nat → Cn} (h : Sw w0 w nb p N b base s v R) : Sw w0 w.drew nb p N b base s v R := h.dN 1
theorem dplace_any {w0 w : World} {nb p : Nat} {N : Ns} {b : Nb} {base s : Nat} {v : Value} {R : Nat → Cn} (h : Sw w0 w nb p N b base s v R) (t : ByteArray) (ht : t.size ≤ 100000) :
    Calls Try.prog 70 #[.pointer (some ⟨s, 0, none⟩), .string t] w fun e w' => e = .returned (.int .i64 (plI N t)) ∧ w' = w := by
  have c0 := h.sd.c0
  have HP := hidS (plc_made h.net t ht)
  by_cases k : bl t ∈ N.nd
  · have hk : plI N t = (posL N.nd (bl t) : Int) := by unfold plI; rw [if_pos k]
    rw [hk]
    go_enter Try.func70, Try.ntmps70
    go_wp2_with (go_at_call 111; (with_reducible refine (HP.out).mono ?_); rintro e w1 ⟨rfl, hw⟩; subst w1; rw [decide_eq_true k])
    go_ret
    exact ⟨rfl, rfl⟩
  · have hk : plI N t = -1 := by unfold plI; rw [if_neg k]
    rw [hk]
    go_enter Try.func70, Try.ntmps70
    go_wp2_with (go_at_call 111; (with_reducible refine (HP.out).mono ?_); rintro e w1 ⟨rfl, hw⟩; subst w1; rw [decide_eq_false k])
    go_ret
    exact ⟨rfl, rfl⟩
theorem drow_any {w0 w : World} {nb p : Nat} {N : Ns} {b : Nb} {base s : Nat} {v : Value} {R : Nat → Cn} (h : Sw w0 w nb p N b base s v R) (x : Elm) (hx : x.n.size ≤ 100000) :
    Calls Try.prog 106 #[.pointer (some ⟨s, 0, none⟩), elV x] w fun e w' => e = .returned (.int .i64 (rwI N x)) ∧ Below w.heap.size w w' := by
  have HN := hidS (h.on (bal w (.cells (elA x) 57)))
  have E0 : Hid (EC w (w.alloc (.cells (elA x) 57)) w.heap.size x) := ec_new w x
  have HB := hidS (bal w (.cells (elA x) 57))
  obtain ⟨l1, c10, c11, c12, c13, c14, c15, c16, c17⟩ := E0.out.f
  obtain ⟨wa, hwa⟩ : ∃ wa, w.alloc (.cells (elA x) 57) = wa := ⟨_, rfl⟩
  rw [hwa] at HN E0 HB l1 c10 c11 c12 c13 c14 c15 c16 c17
  have c0 := HN.out.sd.c0
  have c2 := HN.out.sd.c1
  have HP := hidS (fun W (hb : Below wa.heap.size wa W) => brn_made (HN.out.on hb).net x.n hx)
  have HB0 := hidS (Below.refl wa.heap.size wa)
  have h1 := h.nd
  have h2 := h.nb
  have h3 := posL_le N.br (bl x.n)
  unfold elA at hwa
  unfold elV rwI
  obtain ⟨q, hq⟩ : ∃ q, posL N.br (bl x.n) = q := ⟨_, rfl⟩
  obtain ⟨d, hd⟩ : ∃ d, N.nd.length = d := ⟨_, rfl⟩
  rw [hq] at h3 ⊢
  rw [hd] at h1 h2 c2 ⊢
  have HQ := hidS hq
  clear hq hd h
  go_enter Try.func106, Try.ntmps106
  go_wp2
  go_region_held_law (fun W => W.cell? ⟨s, 0, none⟩ = some (.pointer (some ⟨p, 0, none⟩)) ∧ W.cell? ⟨w.heap.size, 1, none⟩ = some (.string x.n)) (first | exact ⟨c0, c11⟩ | go_keep) (first | (go_at_call 129; (with_reducible refine (HP.out _ (by repeat first | with_reducible exact HB0.out | with_reducible refine Below.drew ?_)).mono ?_); rintro e w1 ⟨rfl, hw⟩; subst w1; rw [HQ.out]))
  all_goals rename_i hHeld
  all_goals clear hHeld
  all_goals go_wp2_with fail
  all_goals go_ret
  all_goals exact ⟨rfl, by repeat first | with_reducible exact HB.out | with_reducible refine Below.drew ?_⟩
theorem ent_instead : Ent 107 := fun args w => by kernel_rfl
theorem op2_instead : Op2 107 (fun _ y => y) := by
  intro W x y hx hy
  have h1 : rep (ans y.1) y.1 := rep_ans hy.1
  have h2 : rep (ans y.2) y.2 := rep_ans hy.2
  go_enter Try.func107, Try.ntmps107
  go_wp2_with fail
  go_ret
  exact ⟨y, 0, rfl, ⟨h1, h2⟩, rfl⟩
/-- is it a net? one that is made -/
theorem smade_yes {w : World} {nb p : Nat} {N : Ns} {b : Nb} (h : Nt w nb p N b) (hn : [] ∉ N.nm) : Calls Try.prog 59 #[.pointer (some ⟨p, 0, none⟩)] w fun e w' => e = .returned (.bool true) ∧ w' = w := by
  have HW := hidS (without_no h hn)
  go_enter Try.func59, Try.ntmps59
  go_wp2_with (go_at_call 89; (with_reducible refine (HW.out).mono ?_); rintro e w1 ⟨rfl, hw⟩; subst w1)
  go_ret
  exact ⟨rfl, rfl⟩
theorem smade_no {w : World} {v : Value} (h : NoNet v w) : Calls Try.prog 59 #[v] w fun e w' => e = .returned (.bool false) ∧ w' = w := by
  have HW := hidS (nwithout_none h ⟨#[]⟩)
  go_enter Try.func59, Try.ntmps59
  go_wp2_with (go_at_call 89; (with_reducible refine (HW.out).mono ?_); rintro e w1 ⟨rfl, hw⟩; subst w1)
  go_ret
  exact ⟨rfl, rfl⟩
def noC : Nat → Cn := fun _ => (some 0, some 0)
theorem nr_made {w : World} {n base : Nat} (hn : n ≤ 100000) (hb : base ≤ w.heap.size) : Nr (w.alloc (.cells (madeCells #[.complex .f64 0 0] n) 59)) base (.slice (some ⟨w.heap.size, 0, none⟩) n n) n noC := by
  refine ⟨List.replicate n (0, 0), ⟨List.length_replicate, ?_⟩, fun j hj => ?_⟩
  · have := made_zeroC n
    rw [Nat.mul_one] at this
    rw [← this]
    exact World.ownsRow_lit w _ n hb (by unfold maxLen; omega) (by simp [madeCells])
  · rw [show zat (List.replicate n ((0, 0) : Cw)) j = (0, 0) by simp [zat, List.getD_eq_getElem?_getD, hj]]
    exact ⟨rep_0, rep_0⟩
set_option maxHeartbeats 1000000 in
/-- a new side -/
theorem snew_any {w : World} {nb p : Nat} {N : Ns} {b : Nb} (h : Nt w nb p N b) (h1 : N.nd.length ≤ 32) (h2 : N.nd.length + N.br.length ≤ 64) :
    Calls Try.prog 60 #[.pointer (some ⟨p, 0, none⟩)] w fun e w' => ∃ s v, e = .returned (.pointer (some ⟨s, 0, none⟩)) ∧ w.heap.size ≤ s ∧ Sw w w' nb p N b w.heap.size s v noC ∧ Below w.heap.size w w' := by
  obtain ⟨m, hm⟩ : ∃ m, N.nd.length + N.br.length = m := ⟨_, rfl⟩
  obtain ⟨d, hd⟩ : ∃ d, N.nd.length = d := ⟨_, rfl⟩
  have hsz : m ≤ 64 := by omega
  have hsd : d ≤ 32 := by omega
  have HO : Hid (∀ W, Below w.heap.size w W → Calls Try.prog 44 #[.pointer (some ⟨p, 0, none⟩)] W fun e w' => e = .returned (.int .i64 (m : Int)) ∧ Below W.heap.size W w') := by
    rw [← hm]
    exact fun W hb => norder_made (h.below hb) (by omega) (by omega)
  have HD : Hid (Calls Try.prog 31 #[.pointer (some ⟨p, 0, none⟩)] w fun e w' => ∃ A c, e = .returned (.slice A d c) ∧ Below w.heap.size w w') := (nodes_made h (by omega)).mono (by
    rintro e w' ⟨v, rfl, ho, hb⟩
    obtain ⟨A1, c1, rfl⟩ := drow_slice ho
    exact ⟨A1, c1, by rw [hd], hb⟩)
  have HM := hidS (fun W => run_mkC m (by omega) W)
  have HH := hidS (And.intro h (And.intro h1 (And.intro h2 (And.intro hm hd))))
  clear h h1 h2 hm hd
  go_enter Try.func60, Try.ntmps60
  go_wp2_with (first
    | (go_at_call 31; (with_reducible refine HD.out.mono ?_); rintro e w1 ⟨A1, c1, rfl, hb⟩; (have HB := hidS hb); clear hb)
    | (go_at_call 44; (with_reducible refine (HO.out _ HB.out).mono ?_); rintro e w2 ⟨rfl, hb⟩; (have HB2 := hidS (HB.out.trans (hb.mono HB.out.size))); clear hb; (have hmk := HM.out w2)))
  go_ret
  obtain ⟨hn, q1, q2, q3, q4⟩ := HH.out
  have b0 := HB2.out
  have b1 : Below w.heap.size w (w2.alloc (.cells (madeCells #[.complex .f64 0 0] m) 59)) := b0.alloc b0.size _
  have r1 : Nr (w2.alloc (.cells (madeCells #[.complex .f64 0 0] m) 59)) w.heap.size (.slice (some ⟨w2.heap.size, 0, none⟩) m m) m noC := nr_made (by omega) b0.size
  have hz : (w2.alloc (.cells (madeCells #[.complex .f64 0 0] m) 59)).heap.size = w2.heap.size + 1 := by simp
  obtain ⟨w3, hw3⟩ : ∃ w3, w2.alloc (.cells (madeCells #[.complex .f64 0 0] m) 59) = w3 := ⟨_, rfl⟩
  rw [hw3] at b1 r1 hz ⊢
  rw [← hz]
  have hc := fun (j : Nat) => cell_of_row _ _ j _ _ (0, 0) (heap_alloc_new w3 (.cells #[.pointer (some ⟨p, 0, none⟩), .int .i64 (d : Int), .slice (some ⟨w2.heap.size, 0, none⟩) m m] 122))
  have b2 := b1.alloc b1.size (.cells #[.pointer (some ⟨p, 0, none⟩), .int .i64 (d : Int), .slice (some ⟨w2.heap.size, 0, none⟩) m m] 122)
  refine ⟨_, .slice (some ⟨w2.heap.size, 0, none⟩) m m, rfl, b1.size, ⟨hn, b2, Nat.le_refl _, q1, q2, ?_⟩, b2⟩
  rw [q3, q4]
  refine ⟨?_, ?_, ?_, r1.on (bal w3 _), ?_, b2.size⟩
  · rw [hc 0]; rfl
  · rw [hc 1]; rfl
  · rw [hc 2]; rfl
  · intro e
    simp only [Value.ownBlock] at e
    have e2 : w2.heap.size = w3.heap.size := by simpa using e
    omega
end Go.Proofs.Ytpjpamdocfdibaa
