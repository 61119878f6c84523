/-
  Several texts in one: Str Sts Add.
-/
import Derived.Test.YtmpkcioeodlbcaaGreatDoorK33
import Derived.Deep.RegionHeldLaw
namespace Go.Proofs.YtmpkcioeodlbcaaGreatDoor
open Fl Go.Maps RowKit Joins Deep
set_option linter.unusedVariables false
/-- a sheet beside the net that it is of -/
structure Sn (w0 w : World) (s base p : Nat) (N : Ns) (b : Nb) (o : Nat) (S : Sh) : Prop where
  nt : Nt w0 base p N b
  bel : Below w0.heap.size w0 w
  lo : w0.heap.size ≤ s
  nd : N.nd.length ≤ 32
  nb : N.nd.length + N.br.length ≤ 64
  sp : Sp w s (.pointer (some ⟨p, 0, none⟩)) o N.nd.length S
theorem Sn.step {w0 w w' : World} {s base p : Nat} {N : Ns} {b : Nb} {o : Nat} {S S' : Sh} (h : Sn w0 w s base p N b o S) (h1 : Sp w' s (.pointer (some ⟨p, 0, none⟩)) o N.nd.length S') (h2 : Kp s w w') : Sn w0 w' s base p N b o S' := ⟨h.nt, h.bel.trans (h2.bel.mono h.lo), h.lo, h.nd, h.nb, h1⟩
theorem Sn.net {w0 w : World} {s base p : Nat} {N : Ns} {b : Nb} {o : Nat} {S : Sh} (h : Sn w0 w s base p N b o S) : Nt w base p N b := h.nt.below h.bel
theorem Sn.row_hi {w0 w : World} {s base p : Nat} {N : Ns} {b : Nb} {o : Nat} {S : Sh} (h : Sn w0 w s base p N b o S) (x : Elm) : rwI N x < 64 := by
  unfold rwI
  have h1 := h.nd
  have h2 := h.nb
  by_cases k : bl x.n ∈ N.br
  · have := posL_lt k; omega
  · have : posL N.br (bl x.n) = 0 := by unfold posL; rw [if_neg k]
    omega
theorem Sn.pl_hi {w0 w : World} {s base p : Nat} {N : Ns} {b : Nb} {o : Nat} {S : Sh} (h : Sn w0 w s base p N b o S) (t : ByteArray) : plI N t < 64 := by
  have h1 := h.nd
  have := @plI_hi N t
  omega
theorem splace_any {w0 w : World} {s base p : Nat} {N : Ns} {b : Nb} {o : Nat} {S : Sh} (h : Sn w0 w s base p N b o S) (t : ByteArray) (ht : t.size ≤ 100000) :
    Calls Tryz.prog 208 #[.pointer (some ⟨s, 0, none⟩), .string t] w fun e w' => e = .returned (.int .i64 (plI N t)) ∧ w' = w := by
  have c0 := h.sp.c0
  have HP := hidS (plc_made h.net t ht)
  by_cases k : bl t ∈ N.nd
  · have hk : plI N t = (posL N.nd (bl t) : Int) := by unfold plI; rw [if_pos k]
    rw [hk]
    go_enter Tryz.func208, Tryz.ntmps208
    go_wp2_with (go_at_call 45; (with_reducible refine (HP.out).mono ?_); rintro e w1 ⟨rfl, hw⟩; subst w1; rw [decide_eq_true k])
    go_ret
    exact ⟨rfl, rfl⟩
  · have hk : plI N t = -1 := by unfold plI; rw [if_neg k]
    rw [hk]
    go_enter Tryz.func208, Tryz.ntmps208
    go_wp2_with (go_at_call 45; (with_reducible refine (HP.out).mono ?_); rintro e w1 ⟨rfl, hw⟩; subst w1; rw [decide_eq_false k])
    go_ret
    exact ⟨rfl, rfl⟩
theorem Sn.lt {w0 w : World} {s base p : Nat} {N : Ns} {b : Nb} {o : Nat} {S : Sh} (h : Sn w0 w s base p N b o S) : s < w.heap.size := World.block_lt_of_cell? w _ h.sp.c0
theorem Sn.on {w0 w w' : World} {s base p : Nat} {N : Ns} {b : Nb} {o : Nat} {S : Sh} (h : Sn w0 w s base p N b o S) (hb : Below w.heap.size w w') : Sn w0 w' s base p N b o S := h.step (h.sp.below hb h.lt) (Kp.of hb h.lt)
theorem srow_any {w0 w : World} {s base p : Nat} {N : Ns} {b : Nb} {o : Nat} {S : Sh} (h : Sn w0 w s base p N b o S) (x : Elm) (hx : x.n.size ≤ 100000) :
    Calls Tryz.prog 211 #[.pointer (some ⟨s, 0, none⟩), elV x] w fun e w' => e = .returned (.int .i64 (rwI N x)) ∧ Below w.heap.size w w' := by
  have HN := hidS (h.on (bal w (.cells (elA x) 96)))
  have E0 : Hid (EC w (w.alloc (.cells (elA x) 96)) w.heap.size x) := ec_new w x
  have HB := hidS (bal w (.cells (elA x) 96))
  obtain ⟨l1, c10, c11, c12, c13, c14, c15, c16, c17⟩ := E0.out.f
  obtain ⟨wa, hwa⟩ : ∃ wa, w.alloc (.cells (elA x) 96) = wa := ⟨_, rfl⟩
  rw [hwa] at HN E0 HB l1 c10 c11 c12 c13 c14 c15 c16 c17
  have c0 := HN.out.sp.c0
  have c2 := HN.out.sp.c2
  have HP := hidS (fun W (hb : Below wa.heap.size wa W) => brn_made (HN.out.on hb).net x.n hx)
  have HB0 := hidS (Below.refl wa.heap.size wa)
  have h1 := h.nd
  have h2 := h.nb
  have h3 := posL_le N.br (bl x.n)
  unfold elA at hwa
  unfold elV rwI
  obtain ⟨q, hq⟩ : ∃ q, posL N.br (bl x.n) = q := ⟨_, rfl⟩
  obtain ⟨d, hd⟩ : ∃ d, N.nd.length = d := ⟨_, rfl⟩
  rw [hq] at h3 ⊢
  rw [hd] at h1 h2 c2 ⊢
  have HQ := hidS hq
  clear hq hd h
  go_enter Tryz.func211, Tryz.ntmps211
  go_wp2
  go_region_held_law (fun W => W.cell? ⟨s, 0, none⟩ = some (.pointer (some ⟨p, 0, none⟩)) ∧ W.cell? ⟨w.heap.size, 1, none⟩ = some (.string x.n)) (first | exact ⟨c0, c11⟩ | go_keep) (first | (go_at_call 48; (with_reducible refine (HP.out _ (by repeat first | with_reducible exact HB0.out | with_reducible refine Below.drew ?_)).mono ?_); rintro e w1 ⟨rfl, hw⟩; subst w1; rw [HQ.out]))
  all_goals rename_i hHeld
  all_goals clear hHeld
  all_goals go_wp2_with fail
  all_goals go_ret
  all_goals exact ⟨rfl, by repeat first | with_reducible exact HB.out | with_reducible refine Below.drew ?_⟩
theorem Sn.drew {w0 w : World} {s base p : Nat} {N : Ns} {b : Nb} {o : Nat} {S : Sh} (h : Sn w0 w s base p N b o S) : Sn w0 w.drew s base p N b o S := h.on ((Below.refl _ _).drew)
theorem EC.drew {w W : World} {p : Nat} {x : Elm} (h : EC w W p x) : EC w W.drew p x := h.below ((Below.refl _ _).drew)
set_option maxHeartbeats 4000000 in
theorem sbranch_any {w0 w : World} {s base p : Nat} {N : Ns} {b : Nb} {o : Nat} {S : Sh} (h : Sn w0 w s base p N b o S) (x : Elm) (hx : x.n.size ≤ 100000) (ha : x.a.size ≤ 100000) (hb : x.b.size ≤ 100000) :
    Calls Tryz.prog 176 #[.pointer (some ⟨s, 0, none⟩), elV x] w fun e w' => e = .returned (.tuple #[]) ∧ Sn w0 w' s base p N b o (bra N x S) ∧ Kp s w w' := by
  have HN := hidS (h.on (bal w (.cells (elA x) 96)))
  have E0 : Hid (EC w (w.alloc (.cells (elA x) 96)) w.heap.size x) := ec_new w x
  have HB := hidS (Kp.of (bal w (.cells (elA x) 96)) h.lt)
  obtain ⟨l1, c10, c11, c12, c13, c14, c15, c16, c17⟩ := E0.out.f
  obtain ⟨wa, hwa⟩ : ∃ wa, w.alloc (.cells (elA x) 96) = wa := ⟨_, rfl⟩
  rw [hwa] at HN E0 HB l1 c10 c11 c12 c13 c14 c15 c16 c17
  have HROW := hidS (fun (W : World) (q : Sn w0 W s base p N b o S) => srow_any q x hx)
  have HPA := hidS (fun (W : World) (q : Sn w0 W s base p N b o S) => splace_any q x.a ha)
  have HPB := hidS (fun (W : World) (q : Sn w0 W s base p N b o S) => splace_any q x.b hb)
  have HAD : Hid (∀ (W : World) (S' : Sh) (i j : Int), Sn w0 W s base p N b o S' → -1 ≤ i → i < 64 → -1 ≤ j → j < 64 → Calls Tryz.prog 209 #[.pointer (some ⟨s, 0, none⟩), .int .i64 i, .int .i64 j, .complex .f64 4607182418800017408 0] W fun e w' => e = .returned (.tuple #[]) ∧ Sn w0 w' s base p N b o (S'.chg addZ i j one1) ∧ Kp s W w') := fun W S' i j q h1 h2 h3 h4 => (sadd_c W s _ o _ S' i j (4607182418800017408, 0) q.sp h1 h2 h3 h4 ⟨by decide, by decide⟩).mono (by rintro e w' ⟨rfl, k1, k2⟩; exact ⟨rfl, q.step k1 k2, k2⟩)
  have HSU : Hid (∀ (W : World) (S' : Sh) (i j : Int), Sn w0 W s base p N b o S' → -1 ≤ i → i < 64 → -1 ≤ j → j < 64 → Calls Tryz.prog 210 #[.pointer (some ⟨s, 0, none⟩), .int .i64 i, .int .i64 j, .complex .f64 4607182418800017408 0] W fun e w' => e = .returned (.tuple #[]) ∧ Sn w0 w' s base p N b o (S'.chg subZ i j one1) ∧ Kp s W w') := fun W S' i j q h1 h2 h3 h4 => (ssub_c W s _ o _ S' i j (4607182418800017408, 0) q.sp h1 h2 h3 h4 ⟨by decide, by decide⟩).mono (by rintro e w' ⟨rfl, k1, k2⟩; exact ⟨rfl, q.step k1 k2, k2⟩)
  unfold elV at HROW
  have a1 := plI_lo N x.a
  have a2 := h.pl_hi x.a
  have b1 := plI_lo N x.b
  have b2 := h.pl_hi x.b
  have r1 := rwI_lo N x
  have r2 := h.row_hi x
  have hsl := h.lt
  unfold bra
  obtain ⟨pa, hpa⟩ : ∃ pa, plI N x.a = pa := ⟨_, rfl⟩
  obtain ⟨pb, hpb⟩ : ∃ pb, plI N x.b = pb := ⟨_, rfl⟩
  obtain ⟨rw0, hrw⟩ : ∃ rw0, rwI N x = rw0 := ⟨_, rfl⟩
  rw [hpa] at HPA a1 a2 ⊢
  rw [hpb] at HPB b1 b2 ⊢
  rw [hrw] at HROW r1 r2 ⊢
  clear hpa hpb hrw h hx ha hb
  have HL : Hid (s < wa.heap.size) := Nat.lt_trans hsl l1
  have HB0 := hidS (Below.refl wa.heap.size wa)
  clear hsl
  unfold elA at hwa
  unfold elV
  go_enter Tryz.func176, Tryz.ntmps176
  go_wp2
  go_region_held_law (fun W => W.cell? ⟨w.heap.size, 0, none⟩ = some (.int .u8 (x.k : Int)) ∧ W.cell? ⟨w.heap.size, 1, none⟩ = some (.string x.n) ∧ W.cell? ⟨w.heap.size, 2, none⟩ = some (.string x.a) ∧ W.cell? ⟨w.heap.size, 3, none⟩ = some (.string x.b) ∧ W.cell? ⟨w.heap.size, 4, none⟩ = some (.string x.c) ∧ W.cell? ⟨w.heap.size, 5, none⟩ = some (.string x.d) ∧ W.cell? ⟨w.heap.size, 6, none⟩ = some (.float .f64 x.v) ∧ W.cell? ⟨w.heap.size, 7, none⟩ = some (.int .i64 x.ph)) (first | exact ⟨c10, c11, c12, c13, c14, c15, c16, c17⟩ | exact ⟨d10, d11, d12, d13, d14, d15, d16, d17⟩ | go_keep) (first
    | (go_at_call 211; (with_reducible refine (HROW.out _ (by repeat first | with_reducible exact HN.out | with_reducible refine Sn.drew ?_)).mono ?_); rintro e w1 ⟨rfl, hb1⟩; (have KB : Below wa.heap.size wa w1 := Below.trans (by repeat first | with_reducible exact HB0.out | with_reducible refine Below.drew ?_) hb1); (have HB1 : Hid (Kp s wa w1) := Kp.of KB HL.out); (have HN1 := hidS (HN.out.on KB)); (have E1 := hidS (E0.out.below KB)); (obtain ⟨l2, d10, d11, d12, d13, d14, d15, d16, d17⟩ := E1.out.f); clear hb1 KB)
    | (go_at_call 208; (with_reducible refine (HPA.out _ (by repeat first | with_reducible exact HN1.out | with_reducible refine Sn.drew ?_)).mono ?_); rintro e w2 ⟨rfl, hw⟩; subst w2)
    | (go_at_call 208; (with_reducible refine (HPB.out _ (by repeat first | with_reducible exact HN1.out | with_reducible refine Sn.drew ?_)).mono ?_); rintro e w2 ⟨rfl, hw⟩; subst w2))
  all_goals rename_i hHeld
  all_goals clear hHeld
  all_goals clear c10 c11 c12 c13 c14 c15 c16 c17 d10 d11 d12 d13 d14 d15 d16 d17
  all_goals go_wp2_with (first
    | (go_at_call 209; (with_reducible refine (HAD.out _ _ _ _ (by repeat first | with_reducible exact HN1.out | with_reducible refine Sn.drew ?_) (by assumption) (by assumption) (by assumption) (by assumption)).mono ?_); rintro e w3 ⟨rfl, hn3, hb3⟩; (have HB1 : Hid (Kp s wa w3) := HB1.out.trans (by first | exact hb3 | exact (Kp.dN s _ 1).trans hb3)); (have HN1 := hidS hn3); clear hn3 hb3)
    | (go_at_call 210; (with_reducible refine (HSU.out _ _ _ _ (by repeat first | with_reducible exact HN1.out | with_reducible refine Sn.drew ?_) (by assumption) (by assumption) (by assumption) (by assumption)).mono ?_); rintro e w3 ⟨rfl, hn3, hb3⟩; (have HB1 : Hid (Kp s wa w3) := HB1.out.trans (by first | exact hb3 | exact (Kp.dN s _ 1).trans hb3)); (have HN1 := hidS hn3); clear hn3 hb3))
  all_goals refine bodyPost_end (by simp [results, Tryz.results176, go_sem]; try rfl) rfl ?_
  all_goals exact ⟨rfl, HN1.out, HB.out.trans HB1.out⟩
end Go.Proofs.YtmpkcioeodlbcaaGreatDoor
namespace Go.Proofs.YtmpkcioeodlbcaaGreatDoor
open Fl Go.Maps RowKit Joins Deep
set_option linter.unusedVariables false
/-- an element of short texts -/
structure Elm.small (x : Elm) : Prop where
  n : x.n.size ≤ 100000
  a : x.a.size ≤ 100000
  b : x.b.size ≤ 100000
  c : x.c.size ≤ 100000
  d : x.d.size ≤ 100000
  v : x.v < 18446744073709551616
theorem el8 {W : World} {p : Nat} {x : Elm} (h : W.heap[p]? = some (.cells (elA x) 96 (0, 0))) : W.cell? ⟨p, 0, none⟩ = some (.int .u8 (x.k : Int)) ∧ W.cell? ⟨p, 1, none⟩ = some (.string x.n) ∧ W.cell? ⟨p, 2, none⟩ = some (.string x.a) ∧ W.cell? ⟨p, 3, none⟩ = some (.string x.b) ∧ W.cell? ⟨p, 4, none⟩ = some (.string x.c) ∧ W.cell? ⟨p, 5, none⟩ = some (.string x.d) ∧ W.cell? ⟨p, 6, none⟩ = some (.float .f64 x.v) ∧ W.cell? ⟨p, 7, none⟩ = some (.int .i64 x.ph) := by
  refine ⟨?_, ?_, ?_, ?_, ?_, ?_, ?_, ?_⟩ <;> rw [cell_of_row W p _ _ _ (0, 0) h] <;> rfl
set_option maxHeartbeats 4000000 in
theorem stransfer_any {w0 w : World} {s base p : Nat} {N : Ns} {b : Nb} {o : Nat} {S : Sh} (h : Sn w0 w s base p N b o S) (x : Elm) (hx : x.small) :
    Calls Tryz.prog 177 #[.pointer (some ⟨s, 0, none⟩), elV x] w fun e w' => e = .returned (.tuple #[]) ∧ Sn w0 w' s base p N b o (tra N x S) ∧ Kp s w w' := by
  have HN := hidS (h.on (bal w (.cells (elA x) 96)))
  have E0 : Hid (EC w (w.alloc (.cells (elA x) 96)) w.heap.size x) := ec_new w x
  have HB := hidS (Kp.of (bal w (.cells (elA x) 96)) h.lt)
  obtain ⟨l1, c10, c11, c12, c13, c14, c15, c16, c17⟩ := E0.out.f
  obtain ⟨wa, hwa⟩ : ∃ wa, w.alloc (.cells (elA x) 96) = wa := ⟨_, rfl⟩
  rw [hwa] at HN E0 HB l1 c10 c11 c12 c13 c14 c15 c16 c17
  have HPa := hidS (fun (W : World) (q : Sn w0 W s base p N b o S) => splace_any q x.a hx.a)
  have HPb := hidS (fun (W : World) (q : Sn w0 W s base p N b o S) => splace_any q x.b hx.b)
  have HPc := hidS (fun (W : World) (q : Sn w0 W s base p N b o S) => splace_any q x.c hx.c)
  have HPd := hidS (fun (W : World) (q : Sn w0 W s base p N b o S) => splace_any q x.d hx.d)
  have HAD : Hid (∀ (W : World) (S' : Sh) (i j : Int), Sn w0 W s base p N b o S' → -1 ≤ i → i < 64 → -1 ≤ j → j < 64 → Calls Tryz.prog 209 #[.pointer (some ⟨s, 0, none⟩), .int .i64 i, .int .i64 j, .complex .f64 x.v 0] W fun e w' => e = .returned (.tuple #[]) ∧ Sn w0 w' s base p N b o (S'.chg addZ i j (valC x)) ∧ Kp s W w') := fun W S' i j q h1 h2 h3 h4 => (sadd_c W s _ o _ S' i j (x.v, 0) q.sp h1 h2 h3 h4 ⟨hx.v, by show (0 : Nat) < 18446744073709551616; omega⟩).mono (by rintro e w' ⟨rfl, k1, k2⟩; exact ⟨rfl, q.step k1 k2, k2⟩)
  have HSU : Hid (∀ (W : World) (S' : Sh) (i j : Int), Sn w0 W s base p N b o S' → -1 ≤ i → i < 64 → -1 ≤ j → j < 64 → Calls Tryz.prog 210 #[.pointer (some ⟨s, 0, none⟩), .int .i64 i, .int .i64 j, .complex .f64 x.v 0] W fun e w' => e = .returned (.tuple #[]) ∧ Sn w0 w' s base p N b o (S'.chg subZ i j (valC x)) ∧ Kp s W w') := fun W S' i j q h1 h2 h3 h4 => (ssub_c W s _ o _ S' i j (x.v, 0) q.sp h1 h2 h3 h4 ⟨hx.v, by show (0 : Nat) < 18446744073709551616; omega⟩).mono (by rintro e w' ⟨rfl, k1, k2⟩; exact ⟨rfl, q.step k1 k2, k2⟩)
  have a1 := plI_lo N x.a
  have a2 := h.pl_hi x.a
  have b1 := plI_lo N x.b
  have b2 := h.pl_hi x.b
  have c1 := plI_lo N x.c
  have c2 := h.pl_hi x.c
  have d1 := plI_lo N x.d
  have d2 := h.pl_hi x.d
  have hsl := h.lt
  unfold tra
  obtain ⟨pa, hpa⟩ : ∃ pa, plI N x.a = pa := ⟨_, rfl⟩
  rw [hpa] at HPa a1 a2 ⊢
  obtain ⟨pb, hpb⟩ : ∃ pb, plI N x.b = pb := ⟨_, rfl⟩
  rw [hpb] at HPb b1 b2 ⊢
  obtain ⟨pc, hpc⟩ : ∃ pc, plI N x.c = pc := ⟨_, rfl⟩
  rw [hpc] at HPc c1 c2 ⊢
  obtain ⟨pd, hpd⟩ : ∃ pd, plI N x.d = pd := ⟨_, rfl⟩
  rw [hpd] at HPd d1 d2 ⊢
  clear hpa hpb hpc hpd h hx
  have HL : Hid (s < wa.heap.size) := Nat.lt_trans hsl l1
  have HNE : Hid (w.heap.size ≠ s) := fun e => by omega
  clear hsl
  have HB0 := hidS (Below.refl wa.heap.size wa)
  unfold elA at hwa
  unfold elV
  go_enter Tryz.func177, Tryz.ntmps177
  have HN1 := HN
  have HB1 := hidS (Kp.refl s wa)
  go_wp2
  go_region_held_law (fun W => W.cell? ⟨w.heap.size, 0, none⟩ = some (.int .u8 (x.k : Int)) ∧ W.cell? ⟨w.heap.size, 1, none⟩ = some (.string x.n) ∧ W.cell? ⟨w.heap.size, 2, none⟩ = some (.string x.a) ∧ W.cell? ⟨w.heap.size, 3, none⟩ = some (.string x.b) ∧ W.cell? ⟨w.heap.size, 4, none⟩ = some (.string x.c) ∧ W.cell? ⟨w.heap.size, 5, none⟩ = some (.string x.d) ∧ W.cell? ⟨w.heap.size, 6, none⟩ = some (.float .f64 x.v) ∧ W.cell? ⟨w.heap.size, 7, none⟩ = some (.int .i64 x.ph)) (first | exact ⟨c10, c11, c12, c13, c14, c15, c16, c17⟩ | go_keep) (first
    | (go_at_call 208; (with_reducible refine (HPa.out _ (by repeat first | with_reducible exact HN1.out | with_reducible refine Sn.drew ?_)).mono ?_); rintro e w2 ⟨rfl, hw⟩; subst w2)
    | (go_at_call 208; (with_reducible refine (HPb.out _ (by repeat first | with_reducible exact HN1.out | with_reducible refine Sn.drew ?_)).mono ?_); rintro e w2 ⟨rfl, hw⟩; subst w2)
    | (go_at_call 208; (with_reducible refine (HPc.out _ (by repeat first | with_reducible exact HN1.out | with_reducible refine Sn.drew ?_)).mono ?_); rintro e w2 ⟨rfl, hw⟩; subst w2)
    | (go_at_call 208; (with_reducible refine (HPd.out _ (by repeat first | with_reducible exact HN1.out | with_reducible refine Sn.drew ?_)).mono ?_); rintro e w2 ⟨rfl, hw⟩; subst w2))
  all_goals rename_i hHeld
  all_goals obtain ⟨e0, e1, e2, e3, e4, e5, e6, e7⟩ := hHeld
  all_goals have HN1 := hidS HN1.out.drew
  all_goals have HB1 : Hid (Kp s wa wa.drew) := Kp.dN s wa 1
  all_goals go_wp2_with (first
    | (go_at_call 209; (with_reducible refine (HAD.out _ _ _ _ (by repeat first | with_reducible exact HN1.out | with_reducible refine Sn.drew ?_) (by assumption) (by assumption) (by assumption) (by assumption)).mono ?_); rintro e w3 ⟨rfl, hn3, hb3⟩; (have HB1 : Hid (Kp s wa w3) := HB1.out.trans (by first | exact hb3 | exact (Kp.dN s _ 1).trans hb3)); (have HN1 := hidS hn3); clear hn3 hb3)
    | (go_at_call 210; (with_reducible refine (HSU.out _ _ _ _ (by repeat first | with_reducible exact HN1.out | with_reducible refine Sn.drew ?_) (by assumption) (by assumption) (by assumption) (by assumption)).mono ?_); rintro e w3 ⟨rfl, hn3, hb3⟩; (have HB1 : Hid (Kp s wa w3) := HB1.out.trans (by first | exact hb3 | exact (Kp.dN s _ 1).trans hb3)); (have HN1 := hidS hn3); clear hn3 hb3))
  all_goals refine bodyPost_end (by simp [results, Tryz.results177, go_sem]; try rfl) rfl ?_
  all_goals exact ⟨rfl, HN1.out, HB.out.trans HB1.out⟩
set_option maxHeartbeats 4000000 in
theorem samplifier_any {w0 w : World} {s base p : Nat} {N : Ns} {b : Nb} {o : Nat} {S : Sh} (h : Sn w0 w s base p N b o S) (x : Elm) (hx : x.small) :
    Calls Tryz.prog 178 #[.pointer (some ⟨s, 0, none⟩), elV x] w fun e w' => e = .returned (.tuple #[]) ∧ Sn w0 w' s base p N b o (amp N x S) ∧ Kp s w w' := by
  have HN := hidS (h.on (bal w (.cells (elA x) 96)))
  have E0 : Hid (EC w (w.alloc (.cells (elA x) 96)) w.heap.size x) := ec_new w x
  have HB := hidS (Kp.of (bal w (.cells (elA x) 96)) h.lt)
  obtain ⟨l1, c10, c11, c12, c13, c14, c15, c16, c17⟩ := E0.out.f
  obtain ⟨wa, hwa⟩ : ∃ wa, w.alloc (.cells (elA x) 96) = wa := ⟨_, rfl⟩
  rw [hwa] at HN E0 HB l1 c10 c11 c12 c13 c14 c15 c16 c17
  have HBR := hidS (fun (W : World) (q : Sn w0 W s base p N b o S) => sbranch_any q x hx.n hx.a hx.b)
  unfold elV at HBR
  have HROW := hidS (fun (W : World) (q : Sn w0 W s base p N b o (bra N x S)) => srow_any q x hx.n)
  unfold elV at HROW
  have HPc := hidS (fun (W : World) (q : Sn w0 W s base p N b o (bra N x S)) => splace_any q x.c hx.c)
  have HPd := hidS (fun (W : World) (q : Sn w0 W s base p N b o (bra N x S)) => splace_any q x.d hx.d)
  have HAD : Hid (∀ (W : World) (S' : Sh) (i j : Int), Sn w0 W s base p N b o S' → -1 ≤ i → i < 64 → -1 ≤ j → j < 64 → Calls Tryz.prog 209 #[.pointer (some ⟨s, 0, none⟩), .int .i64 i, .int .i64 j, .complex .f64 x.v 0] W fun e w' => e = .returned (.tuple #[]) ∧ Sn w0 w' s base p N b o (S'.chg addZ i j (valC x)) ∧ Kp s W w') := fun W S' i j q h1 h2 h3 h4 => (sadd_c W s _ o _ S' i j (x.v, 0) q.sp h1 h2 h3 h4 ⟨hx.v, by show (0 : Nat) < 18446744073709551616; omega⟩).mono (by rintro e w' ⟨rfl, k1, k2⟩; exact ⟨rfl, q.step k1 k2, k2⟩)
  have HSU : Hid (∀ (W : World) (S' : Sh) (i j : Int), Sn w0 W s base p N b o S' → -1 ≤ i → i < 64 → -1 ≤ j → j < 64 → Calls Tryz.prog 210 #[.pointer (some ⟨s, 0, none⟩), .int .i64 i, .int .i64 j, .complex .f64 x.v 0] W fun e w' => e = .returned (.tuple #[]) ∧ Sn w0 w' s base p N b o (S'.chg subZ i j (valC x)) ∧ Kp s W w') := fun W S' i j q h1 h2 h3 h4 => (ssub_c W s _ o _ S' i j (x.v, 0) q.sp h1 h2 h3 h4 ⟨hx.v, by show (0 : Nat) < 18446744073709551616; omega⟩).mono (by rintro e w' ⟨rfl, k1, k2⟩; exact ⟨rfl, q.step k1 k2, k2⟩)
  have c1 := plI_lo N x.c
  have c2 := h.pl_hi x.c
  have d1 := plI_lo N x.d
  have d2 := h.pl_hi x.d
  have r1 := rwI_lo N x
  have r2 := h.row_hi x
  have hsl := h.lt
  unfold amp
  obtain ⟨S1, hS1⟩ : ∃ S1, bra N x S = S1 := ⟨_, rfl⟩
  rw [hS1] at HBR HROW HPc HPd ⊢
  obtain ⟨pc, hpc⟩ : ∃ pc, plI N x.c = pc := ⟨_, rfl⟩
  rw [hpc] at HPc c1 c2 ⊢
  obtain ⟨pd, hpd⟩ : ∃ pd, plI N x.d = pd := ⟨_, rfl⟩
  rw [hpd] at HPd d1 d2 ⊢
  obtain ⟨rw0, hrw⟩ : ∃ rw0, rwI N x = rw0 := ⟨_, rfl⟩
  rw [hrw] at HROW r1 r2 ⊢
  clear hpc hpd hrw hS1 h hx
  have HL : Hid (s < wa.heap.size) := Nat.lt_trans hsl l1
  have HNE : Hid (w.heap.size ≠ s) := fun e => by omega
  clear hsl
  have HB0 := hidS (Below.refl wa.heap.size wa)
  unfold elA at hwa
  unfold elV
  go_enter Tryz.func178, Tryz.ntmps178
  go_wp2_with (go_at_call 176; (with_reducible refine (HBR.out _ (by repeat first | with_reducible exact HN.out | with_reducible refine Sn.drew ?_)).mono ?_); rintro e w1 ⟨rfl, hn1, hb1⟩; (have HN1 := hidS hn1); (have HB1 : Hid (Kp s wa w1) := (by first | exact hb1 | exact (Kp.dN s _ 1).trans hb1)); (have HE1 := hidS ((HB1.out.ot _ l1 HNE.out).trans E0.out.e)); (have l1b := Nat.lt_of_lt_of_le l1 HB1.out.size); clear hn1 hb1 c10 c11 c12 c13 c14 c15 c16 c17; (obtain ⟨c10, c11, c12, c13, c14, c15, c16, c17⟩ := el8 HE1.out); (have HB01 := hidS (Below.refl w1.heap.size w1)))
  go_region_held_law (fun W => W.cell? ⟨w.heap.size, 0, none⟩ = some (.int .u8 (x.k : Int)) ∧ W.cell? ⟨w.heap.size, 1, none⟩ = some (.string x.n) ∧ W.cell? ⟨w.heap.size, 2, none⟩ = some (.string x.a) ∧ W.cell? ⟨w.heap.size, 3, none⟩ = some (.string x.b) ∧ W.cell? ⟨w.heap.size, 4, none⟩ = some (.string x.c) ∧ W.cell? ⟨w.heap.size, 5, none⟩ = some (.string x.d) ∧ W.cell? ⟨w.heap.size, 6, none⟩ = some (.float .f64 x.v) ∧ W.cell? ⟨w.heap.size, 7, none⟩ = some (.int .i64 x.ph)) (first | exact ⟨c10, c11, c12, c13, c14, c15, c16, c17⟩ | exact ⟨d10, d11, d12, d13, d14, d15, d16, d17⟩ | go_keep) (first
    | (go_at_call 211; (with_reducible refine (HROW.out _ (by repeat first | with_reducible exact HN1.out | with_reducible refine Sn.drew ?_)).mono ?_); rintro e w2 ⟨rfl, hb2⟩; (have KB : Below w1.heap.size w1 w2 := Below.trans (by repeat first | with_reducible exact HB01.out | with_reducible refine Below.drew ?_) hb2); (have HB1 : Hid (Kp s wa w2) := HB1.out.trans (Kp.of KB (Nat.lt_of_lt_of_le HL.out HB1.out.size))); (have HN1 := hidS (HN1.out.on KB)); (have HE2 := hidS ((KB.block _ l1b).trans HE1.out)); (obtain ⟨d10, d11, d12, d13, d14, d15, d16, d17⟩ := el8 HE2.out); clear hb2 KB)
    | (go_at_call 208; (with_reducible refine (HPc.out _ (by repeat first | with_reducible exact HN1.out | with_reducible refine Sn.drew ?_)).mono ?_); rintro e w2 ⟨rfl, hw⟩; subst w2)
    | (go_at_call 208; (with_reducible refine (HPd.out _ (by repeat first | with_reducible exact HN1.out | with_reducible refine Sn.drew ?_)).mono ?_); rintro e w2 ⟨rfl, hw⟩; subst w2))
  all_goals rename_i hHeld
  all_goals obtain ⟨e0, e1, e2, e3, e4, e5, e6, e7⟩ := hHeld
  all_goals go_wp2_with (first
    | (go_at_call 209; (with_reducible refine (HAD.out _ _ _ _ (by repeat first | with_reducible exact HN1.out | with_reducible refine Sn.drew ?_) (by assumption) (by assumption) (by assumption) (by assumption)).mono ?_); rintro e w3 ⟨rfl, hn3, hb3⟩; (have HB1 : Hid (Kp s wa w3) := HB1.out.trans (by first | exact hb3 | exact (Kp.dN s _ 1).trans hb3)); (have HN1 := hidS hn3); clear hn3 hb3)
    | (go_at_call 210; (with_reducible refine (HSU.out _ _ _ _ (by repeat first | with_reducible exact HN1.out | with_reducible refine Sn.drew ?_) (by assumption) (by assumption) (by assumption) (by assumption)).mono ?_); rintro e w3 ⟨rfl, hn3, hb3⟩; (have HB1 : Hid (Kp s wa w3) := HB1.out.trans (by first | exact hb3 | exact (Kp.dN s _ 1).trans hb3)); (have HN1 := hidS hn3); clear hn3 hb3))
  all_goals refine bodyPost_end (by simp [results, Tryz.results178, go_sem]; try rfl) rfl ?_
  all_goals exact ⟨rfl, HN1.out, HB.out.trans HB1.out⟩
end Go.Proofs.YtmpkcioeodlbcaaGreatDoor
namespace Go.Proofs.YtmpkcioeodlbcaaGreatDoor
open Fl RowKit
set_option linter.unusedVariables false
theorem aof_w (x : Elm) (o : Nat) (w : World) (h : x.ok) (ho : o < 18446744073709551616) (u : Tr3) (hu : ofT x o = u) :
    Calls Tryz.prog 207 #[.agg #[.int .u8 (x.k : Int), .string x.n, .string x.a, .string x.b, .string x.c, .string x.d, .float .f64 x.v, .int .i64 x.ph], .float .f64 o] w fun e w' => e = .returned (.tuple #[.complex .f64 u.1 u.2.1, .int .i64 u.2.2]) ∧ Below w.heap.size w w' := by subst hu; exact aof_any x o w h ho
theorem toA_bd {a b : Nat} (ha : a < 18446744073709551616) (hb : b < 18446744073709551616) : (toA a b).1 < 18446744073709551616 ∧ (toA a b).2.1 < 18446744073709551616 := by
  unfold toA; split
  · exact ⟨ha, hb⟩
  · exact ⟨by decide, by decide⟩
theorem prA_bd {o v : Nat} (ho : fin o) (hv : fin v) : (prA o v).1 < 18446744073709551616 ∧ (prA o v).2.1 < 18446744073709551616 :=
  toA_bd (by decide) (mul_bd (mul_some ho hv)).1
theorem ovA_bd {o v : Nat} (ho : fin o) (hv : fin v) : (ovA o v).1 < 18446744073709551616 ∧ (ovA o v).2.1 < 18446744073709551616 := by
  unfold ovA; split
  · exact toA_bd (by decide) (ngW_lt (dW_bd (mW_nan ho hv)).1)
  · exact ⟨by decide, by decide⟩
theorem ofT_bd {x : Elm} {o : Nat} : (ofT x o).1 < 18446744073709551616 ∧ (ofT x o).2.1 < 18446744073709551616 := by
  unfold ofT
  by_cases hc : ckA x o = 0
  · rw [if_pos hc]
    have fo := (fr_zero (ck_zero hc).1).1
    have fv := (chk_zero (ck_zero hc).2).1
    split
    · exact toA_bd (dW_bd (fin_not_nan fv)).1 (by decide)
    · split
      · exact prA_bd fo fv
      · split
        · exact ovA_bd fo fv
        · exact ⟨by decide, by decide⟩
  · rw [if_neg hc]; exact ⟨by show 0 < _; omega, by show 0 < _; omega⟩
end Go.Proofs.YtmpkcioeodlbcaaGreatDoor
