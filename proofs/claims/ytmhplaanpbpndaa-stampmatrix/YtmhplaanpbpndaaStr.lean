/-
  The program's sheet beside its net: places, rows, and what each kind stamps.
-/
import Derived.Test.YtmhplaanpbpndaaStq
import Derived.Test.YtmhplaanpbpndaaBse
import Derived.Deep.RegionHeldLaw
namespace Go.Proofs.Ytmhplaanpbpndaa
open Fl Go.Maps RowKit Joins Deep
set_option linter.unusedVariables false

/-- a sheet beside the net that it is of -/
structure Sn (w0 w : World) (s base p : Nat) (N : Ns) (b : Nb) (o : Nat) (S : Sh) : Prop where
  nt : Nt w0 base p N b
  bel : Below w0.heap.size w0 w
  lo : w0.heap.size ≤ s
  nd : N.nd.length ≤ 32
  nb : N.nd.length + N.br.length ≤ 64
  sp : Sp w s (.pointer (some ⟨p, 0, none⟩)) o N.nd.length S
theorem Sn.step {w0 w w' : World} {s base p : Nat} {N : Ns} {b : Nb} {o : Nat} {S S' : Sh} (h : Sn w0 w s base p N b o S) (h1 : Sp w' s (.pointer (some ⟨p, 0, none⟩)) o N.nd.length S') (h2 : Kp s w w') : Sn w0 w' s base p N b o S' := ⟨h.nt, h.bel.trans (h2.bel.mono h.lo), h.lo, h.nd, h.nb, h1⟩
theorem Sn.net {w0 w : World} {s base p : Nat} {N : Ns} {b : Nb} {o : Nat} {S : Sh} (h : Sn w0 w s base p N b o S) : Nt w base p N b := h.nt.below h.bel
theorem Sn.row_hi {w0 w : World} {s base p : Nat} {N : Ns} {b : Nb} {o : Nat} {S : Sh} (h : Sn w0 w s base p N b o S) (x : Elm) : rwI N x < 64 := by
  unfold rwI
  have h1 := h.nd
  have h2 := h.nb
  by_cases k : bl x.n ∈ N.br
  · have := posL_lt k; omega
  · have : posL N.br (bl x.n) = 0 := by unfold posL; rw [if_neg k]
    omega
theorem Sn.pl_hi {w0 w : World} {s base p : Nat} {N : Ns} {b : Nb} {o : Nat} {S : Sh} (h : Sn w0 w s base p N b o S) (t : ByteArray) : plI N t < 64 := by
  have h1 := h.nd
  have := @plI_hi N t
  omega
theorem splace_any {w0 w : World} {s base p : Nat} {N : Ns} {b : Nb} {o : Nat} {S : Sh} (h : Sn w0 w s base p N b o S) (t : ByteArray) (ht : t.size ≤ 100000) :
    Calls Try.prog 75 #[.pointer (some ⟨s, 0, none⟩), .string t] w fun e w' => e = .returned (.int .i64 (plI N t)) ∧ w' = w := by
  have c0 := h.sp.c0
  have HP := hidS (plc_made h.net t ht)
  by_cases k : bl t ∈ N.nd
  · have hk : plI N t = (posL N.nd (bl t) : Int) := by unfold plI; rw [if_pos k]
    rw [hk]
    go_enter Try.func75, Try.ntmps75
    go_wp2_with (go_at_call 92; (with_reducible refine (HP.out).mono ?_); rintro e w1 ⟨rfl, hw⟩; subst w1; rw [decide_eq_true k])
    go_ret
    exact ⟨rfl, rfl⟩
  · have hk : plI N t = -1 := by unfold plI; rw [if_neg k]
    rw [hk]
    go_enter Try.func75, Try.ntmps75
    go_wp2_with (go_at_call 92; (with_reducible refine (HP.out).mono ?_); rintro e w1 ⟨rfl, hw⟩; subst w1; rw [decide_eq_false k])
    go_ret
    exact ⟨rfl, rfl⟩
theorem Sn.lt {w0 w : World} {s base p : Nat} {N : Ns} {b : Nb} {o : Nat} {S : Sh} (h : Sn w0 w s base p N b o S) : s < w.heap.size := World.block_lt_of_cell? w _ h.sp.c0
theorem Sn.on {w0 w w' : World} {s base p : Nat} {N : Ns} {b : Nb} {o : Nat} {S : Sh} (h : Sn w0 w s base p N b o S) (hb : Below w.heap.size w w') : Sn w0 w' s base p N b o S := h.step (h.sp.below hb h.lt) (Kp.of hb h.lt)
theorem srow_any {w0 w : World} {s base p : Nat} {N : Ns} {b : Nb} {o : Nat} {S : Sh} (h : Sn w0 w s base p N b o S) (x : Elm) (hx : x.n.size ≤ 100000) :
    Calls Try.prog 78 #[.pointer (some ⟨s, 0, none⟩), elV x] w fun e w' => e = .returned (.int .i64 (rwI N x)) ∧ Below w.heap.size w w' := by
  have HN := hidS (h.on (bal w (.cells (elA x) 55)))
  have E0 : Hid (EC w (w.alloc (.cells (elA x) 55)) w.heap.size x) := ec_new w x
  have HB := hidS (bal w (.cells (elA x) 55))
  obtain ⟨l1, c10, c11, c12, c13, c14, c15, c16, c17⟩ := E0.out.f
  obtain ⟨wa, hwa⟩ : ∃ wa, w.alloc (.cells (elA x) 55) = wa := ⟨_, rfl⟩
  rw [hwa] at HN E0 HB l1 c10 c11 c12 c13 c14 c15 c16 c17
  have c0 := HN.out.sp.c0
  have c2 := HN.out.sp.c2
  have HP := hidS (fun W (hb : Below wa.heap.size wa W) => brn_made (HN.out.on hb).net x.n hx)
  have HB0 := hidS (Below.refl wa.heap.size wa)
  have h1 := h.nd
  have h2 := h.nb
  have h3 := posL_le N.br (bl x.n)
  unfold elA at hwa
  unfold elV rwI
  obtain ⟨q, hq⟩ : ∃ q, posL N.br (bl x.n) = q := ⟨_, rfl⟩
  obtain ⟨d, hd⟩ : ∃ d, N.nd.length = d := ⟨_, rfl⟩
  rw [hq] at h3 ⊢
  rw [hd] at h1 h2 c2 ⊢
  have HQ := hidS hq
  clear hq hd h
  go_enter Try.func78, Try.ntmps78
  go_wp2
  go_region_held_law (fun W => W.cell? ⟨s, 0, none⟩ = some (.pointer (some ⟨p, 0, none⟩)) ∧ W.cell? ⟨w.heap.size, 1, none⟩ = some (.string x.n)) (first | exact ⟨c0, c11⟩ | go_keep) (first | (go_at_call 96; (with_reducible refine (HP.out _ (by repeat first | with_reducible exact HB0.out | with_reducible refine Below.drew ?_)).mono ?_); rintro e w1 ⟨rfl, hw⟩; subst w1; rw [HQ.out]))
  all_goals rename_i hHeld
  all_goals clear hHeld
  all_goals go_wp2_with fail
  all_goals go_ret
  all_goals exact ⟨rfl, by repeat first | with_reducible exact HB.out | with_reducible refine Below.drew ?_⟩
theorem Sn.drew {w0 w : World} {s base p : Nat} {N : Ns} {b : Nb} {o : Nat} {S : Sh} (h : Sn w0 w s base p N b o S) : Sn w0 w.drew s base p N b o S := h.on ((Below.refl _ _).drew)
theorem EC.drew {w W : World} {p : Nat} {x : Elm} (h : EC w W p x) : EC w W.drew p x := h.below ((Below.refl _ _).drew)
set_option maxHeartbeats 4000000 in
theorem sbranch_any {w0 w : World} {s base p : Nat} {N : Ns} {b : Nb} {o : Nat} {S : Sh} (h : Sn w0 w s base p N b o S) (x : Elm) (hx : x.n.size ≤ 100000) (ha : x.a.size ≤ 100000) (hb : x.b.size ≤ 100000) :
    Calls Try.prog 54 #[.pointer (some ⟨s, 0, none⟩), elV x] w fun e w' => e = .returned (.tuple #[]) ∧ Sn w0 w' s base p N b o (bra N x S) ∧ Kp s w w' := by
  have HN := hidS (h.on (bal w (.cells (elA x) 55)))
  have E0 : Hid (EC w (w.alloc (.cells (elA x) 55)) w.heap.size x) := ec_new w x
  have HB := hidS (Kp.of (bal w (.cells (elA x) 55)) h.lt)
  obtain ⟨l1, c10, c11, c12, c13, c14, c15, c16, c17⟩ := E0.out.f
  obtain ⟨wa, hwa⟩ : ∃ wa, w.alloc (.cells (elA x) 55) = wa := ⟨_, rfl⟩
  rw [hwa] at HN E0 HB l1 c10 c11 c12 c13 c14 c15 c16 c17
  have HROW := hidS (fun (W : World) (q : Sn w0 W s base p N b o S) => srow_any q x hx)
  have HPA := hidS (fun (W : World) (q : Sn w0 W s base p N b o S) => splace_any q x.a ha)
  have HPB := hidS (fun (W : World) (q : Sn w0 W s base p N b o S) => splace_any q x.b hb)
  have HAD : Hid (∀ (W : World) (S' : Sh) (i j : Int), Sn w0 W s base p N b o S' → -1 ≤ i → i < 64 → -1 ≤ j → j < 64 → Calls Try.prog 76 #[.pointer (some ⟨s, 0, none⟩), .int .i64 i, .int .i64 j, .complex .f64 4607182418800017408 0] W fun e w' => e = .returned (.tuple #[]) ∧ Sn w0 w' s base p N b o (S'.chg addZ i j one1) ∧ Kp s W w') := fun W S' i j q h1 h2 h3 h4 => (sadd_c W s _ o _ S' i j (4607182418800017408, 0) q.sp h1 h2 h3 h4 ⟨by decide, by decide⟩).mono (by rintro e w' ⟨rfl, k1, k2⟩; exact ⟨rfl, q.step k1 k2, k2⟩)
  have HSU : Hid (∀ (W : World) (S' : Sh) (i j : Int), Sn w0 W s base p N b o S' → -1 ≤ i → i < 64 → -1 ≤ j → j < 64 → Calls Try.prog 77 #[.pointer (some ⟨s, 0, none⟩), .int .i64 i, .int .i64 j, .complex .f64 4607182418800017408 0] W fun e w' => e = .returned (.tuple #[]) ∧ Sn w0 w' s base p N b o (S'.chg subZ i j one1) ∧ Kp s W w') := fun W S' i j q h1 h2 h3 h4 => (ssub_c W s _ o _ S' i j (4607182418800017408, 0) q.sp h1 h2 h3 h4 ⟨by decide, by decide⟩).mono (by rintro e w' ⟨rfl, k1, k2⟩; exact ⟨rfl, q.step k1 k2, k2⟩)
  unfold elV at HROW
  have a1 := plI_lo N x.a
  have a2 := h.pl_hi x.a
  have b1 := plI_lo N x.b
  have b2 := h.pl_hi x.b
  have r1 := rwI_lo N x
  have r2 := h.row_hi x
  have hsl := h.lt
  unfold bra
  obtain ⟨pa, hpa⟩ : ∃ pa, plI N x.a = pa := ⟨_, rfl⟩
  obtain ⟨pb, hpb⟩ : ∃ pb, plI N x.b = pb := ⟨_, rfl⟩
  obtain ⟨rw0, hrw⟩ : ∃ rw0, rwI N x = rw0 := ⟨_, rfl⟩
  rw [hpa] at HPA a1 a2 ⊢
  rw [hpb] at HPB b1 b2 ⊢
  rw [hrw] at HROW r1 r2 ⊢
  clear hpa hpb hrw h hx ha hb
  have HL : Hid (s < wa.heap.size) := Nat.lt_trans hsl l1
  have HB0 := hidS (Below.refl wa.heap.size wa)
  clear hsl
  unfold elA at hwa
  unfold elV
  go_enter Try.func54, Try.ntmps54
  go_wp2
  go_region_held_law (fun W => W.cell? ⟨w.heap.size, 0, none⟩ = some (.int .u8 (x.k : Int)) ∧ W.cell? ⟨w.heap.size, 1, none⟩ = some (.string x.n) ∧ W.cell? ⟨w.heap.size, 2, none⟩ = some (.string x.a) ∧ W.cell? ⟨w.heap.size, 3, none⟩ = some (.string x.b) ∧ W.cell? ⟨w.heap.size, 4, none⟩ = some (.string x.c) ∧ W.cell? ⟨w.heap.size, 5, none⟩ = some (.string x.d) ∧ W.cell? ⟨w.heap.size, 6, none⟩ = some (.float .f64 x.v) ∧ W.cell? ⟨w.heap.size, 7, none⟩ = some (.int .i64 x.ph)) (first | exact ⟨c10, c11, c12, c13, c14, c15, c16, c17⟩ | exact ⟨d10, d11, d12, d13, d14, d15, d16, d17⟩ | go_keep) (first
    | (go_at_call 78; (with_reducible refine (HROW.out _ (by repeat first | with_reducible exact HN.out | with_reducible refine Sn.drew ?_)).mono ?_); rintro e w1 ⟨rfl, hb1⟩; (have KB : Below wa.heap.size wa w1 := Below.trans (by repeat first | with_reducible exact HB0.out | with_reducible refine Below.drew ?_) hb1); (have HB1 : Hid (Kp s wa w1) := Kp.of KB HL.out); (have HN1 := hidS (HN.out.on KB)); (have E1 := hidS (E0.out.below KB)); (obtain ⟨l2, d10, d11, d12, d13, d14, d15, d16, d17⟩ := E1.out.f); clear hb1 KB)
    | (go_at_call 75; (with_reducible refine (HPA.out _ (by repeat first | with_reducible exact HN1.out | with_reducible refine Sn.drew ?_)).mono ?_); rintro e w2 ⟨rfl, hw⟩; subst w2)
    | (go_at_call 75; (with_reducible refine (HPB.out _ (by repeat first | with_reducible exact HN1.out | with_reducible refine Sn.drew ?_)).mono ?_); rintro e w2 ⟨rfl, hw⟩; subst w2))
  all_goals rename_i hHeld
  all_goals clear hHeld
  all_goals clear c10 c11 c12 c13 c14 c15 c16 c17 d10 d11 d12 d13 d14 d15 d16 d17
  all_goals go_wp2_with (first
    | (go_at_call 76; (with_reducible refine (HAD.out _ _ _ _ (by repeat first | with_reducible exact HN1.out | with_reducible refine Sn.drew ?_) (by assumption) (by assumption) (by assumption) (by assumption)).mono ?_); rintro e w3 ⟨rfl, hn3, hb3⟩; (have HB1 : Hid (Kp s wa w3) := HB1.out.trans (by first | exact hb3 | exact (Kp.dN s _ 1).trans hb3)); (have HN1 := hidS hn3); clear hn3 hb3)
    | (go_at_call 77; (with_reducible refine (HSU.out _ _ _ _ (by repeat first | with_reducible exact HN1.out | with_reducible refine Sn.drew ?_) (by assumption) (by assumption) (by assumption) (by assumption)).mono ?_); rintro e w3 ⟨rfl, hn3, hb3⟩; (have HB1 : Hid (Kp s wa w3) := HB1.out.trans (by first | exact hb3 | exact (Kp.dN s _ 1).trans hb3)); (have HN1 := hidS hn3); clear hn3 hb3))
  all_goals refine bodyPost_end (by simp [results, Try.results54, go_sem]; try rfl) rfl ?_
  all_goals exact ⟨rfl, HN1.out, HB.out.trans HB1.out⟩
end Go.Proofs.Ytmhplaanpbpndaa
