/-
  What transfers and amplifiers stamp.
-/
import Derived.Test.YtmhplaanpbpndaaStr
namespace Go.Proofs.Ytmhplaanpbpndaa
open Fl Go.Maps RowKit Joins Deep
set_option linter.unusedVariables false

/-- an element of short texts -/
structure Elm.small (x : Elm) : Prop where
  n : x.n.size ≤ 100000
  a : x.a.size ≤ 100000
  b : x.b.size ≤ 100000
  c : x.c.size ≤ 100000
  d : x.d.size ≤ 100000
  v : x.v < 18446744073709551616
theorem el8 {W : World} {p : Nat} {x : Elm} (h : W.heap[p]? = some (.cells (elA x) 55 (0, 0))) : W.cell? ⟨p, 0, none⟩ = some (.int .u8 (x.k : Int)) ∧ W.cell? ⟨p, 1, none⟩ = some (.string x.n) ∧ W.cell? ⟨p, 2, none⟩ = some (.string x.a) ∧ W.cell? ⟨p, 3, none⟩ = some (.string x.b) ∧ W.cell? ⟨p, 4, none⟩ = some (.string x.c) ∧ W.cell? ⟨p, 5, none⟩ = some (.string x.d) ∧ W.cell? ⟨p, 6, none⟩ = some (.float .f64 x.v) ∧ W.cell? ⟨p, 7, none⟩ = some (.int .i64 x.ph) := by
  refine ⟨?_, ?_, ?_, ?_, ?_, ?_, ?_, ?_⟩ <;> rw [cell_of_row W p _ _ _ (0, 0) h] <;> rfl
set_option maxHeartbeats 4000000 in
theorem stransfer_any {w0 w : World} {s base p : Nat} {N : Ns} {b : Nb} {o : Nat} {S : Sh} (h : Sn w0 w s base p N b o S) (x : Elm) (hx : x.small) :
    Calls Try.prog 55 #[.pointer (some ⟨s, 0, none⟩), elV x] w fun e w' => e = .returned (.tuple #[]) ∧ Sn w0 w' s base p N b o (tra N x S) ∧ Kp s w w' := by
  have HN := hidS (h.on (bal w (.cells (elA x) 55)))
  have E0 : Hid (EC w (w.alloc (.cells (elA x) 55)) w.heap.size x) := ec_new w x
  have HB := hidS (Kp.of (bal w (.cells (elA x) 55)) h.lt)
  obtain ⟨l1, c10, c11, c12, c13, c14, c15, c16, c17⟩ := E0.out.f
  obtain ⟨wa, hwa⟩ : ∃ wa, w.alloc (.cells (elA x) 55) = wa := ⟨_, rfl⟩
  rw [hwa] at HN E0 HB l1 c10 c11 c12 c13 c14 c15 c16 c17
  have HPa := hidS (fun (W : World) (q : Sn w0 W s base p N b o S) => splace_any q x.a hx.a)
  have HPb := hidS (fun (W : World) (q : Sn w0 W s base p N b o S) => splace_any q x.b hx.b)
  have HPc := hidS (fun (W : World) (q : Sn w0 W s base p N b o S) => splace_any q x.c hx.c)
  have HPd := hidS (fun (W : World) (q : Sn w0 W s base p N b o S) => splace_any q x.d hx.d)
  have HAD : Hid (∀ (W : World) (S' : Sh) (i j : Int), Sn w0 W s base p N b o S' → -1 ≤ i → i < 64 → -1 ≤ j → j < 64 → Calls Try.prog 76 #[.pointer (some ⟨s, 0, none⟩), .int .i64 i, .int .i64 j, .complex .f64 x.v 0] W fun e w' => e = .returned (.tuple #[]) ∧ Sn w0 w' s base p N b o (S'.chg addZ i j (valC x)) ∧ Kp s W w') := fun W S' i j q h1 h2 h3 h4 => (sadd_c W s _ o _ S' i j (x.v, 0) q.sp h1 h2 h3 h4 ⟨hx.v, by show (0 : Nat) < 18446744073709551616; omega⟩).mono (by rintro e w' ⟨rfl, k1, k2⟩; exact ⟨rfl, q.step k1 k2, k2⟩)
  have HSU : Hid (∀ (W : World) (S' : Sh) (i j : Int), Sn w0 W s base p N b o S' → -1 ≤ i → i < 64 → -1 ≤ j → j < 64 → Calls Try.prog 77 #[.pointer (some ⟨s, 0, none⟩), .int .i64 i, .int .i64 j, .complex .f64 x.v 0] W fun e w' => e = .returned (.tuple #[]) ∧ Sn w0 w' s base p N b o (S'.chg subZ i j (valC x)) ∧ Kp s W w') := fun W S' i j q h1 h2 h3 h4 => (ssub_c W s _ o _ S' i j (x.v, 0) q.sp h1 h2 h3 h4 ⟨hx.v, by show (0 : Nat) < 18446744073709551616; omega⟩).mono (by rintro e w' ⟨rfl, k1, k2⟩; exact ⟨rfl, q.step k1 k2, k2⟩)
  have a1 := plI_lo N x.a
  have a2 := h.pl_hi x.a
  have b1 := plI_lo N x.b
  have b2 := h.pl_hi x.b
  have c1 := plI_lo N x.c
  have c2 := h.pl_hi x.c
  have d1 := plI_lo N x.d
  have d2 := h.pl_hi x.d
  have hsl := h.lt
  unfold tra
  obtain ⟨pa, hpa⟩ : ∃ pa, plI N x.a = pa := ⟨_, rfl⟩
  rw [hpa] at HPa a1 a2 ⊢
  obtain ⟨pb, hpb⟩ : ∃ pb, plI N x.b = pb := ⟨_, rfl⟩
  rw [hpb] at HPb b1 b2 ⊢
  obtain ⟨pc, hpc⟩ : ∃ pc, plI N x.c = pc := ⟨_, rfl⟩
  rw [hpc] at HPc c1 c2 ⊢
  obtain ⟨pd, hpd⟩ : ∃ pd, plI N x.d = pd := ⟨_, rfl⟩
  rw [hpd] at HPd d1 d2 ⊢
  clear hpa hpb hpc hpd h hx
  have HL : Hid (s < wa.heap.size) := Nat.lt_trans hsl l1
  have HNE : Hid (w.heap.size ≠ s) := fun e => by omega
  clear hsl
  have HB0 := hidS (Below.refl wa.heap.size wa)
  unfold elA at hwa
  unfold elV
  go_enter Try.func55, Try.ntmps55
  have HN1 := HN
  have HB1 := hidS (Kp.refl s wa)
  go_wp2
  go_region_held_law (fun W => W.cell? ⟨w.heap.size, 0, none⟩ = some (.int .u8 (x.k : Int)) ∧ W.cell? ⟨w.heap.size, 1, none⟩ = some (.string x.n) ∧ W.cell? ⟨w.heap.size, 2, none⟩ = some (.string x.a) ∧ W.cell? ⟨w.heap.size, 3, none⟩ = some (.string x.b) ∧ W.cell? ⟨w.heap.size, 4, none⟩ = some (.string x.c) ∧ W.cell? ⟨w.heap.size, 5, none⟩ = some (.string x.d) ∧ W.cell? ⟨w.heap.size, 6, none⟩ = some (.float .f64 x.v) ∧ W.cell? ⟨w.heap.size, 7, none⟩ = some (.int .i64 x.ph)) (first | exact ⟨c10, c11, c12, c13, c14, c15, c16, c17⟩ | go_keep) (first
    | (go_at_call 75; (with_reducible refine (HPa.out _ (by repeat first | with_reducible exact HN1.out | with_reducible refine Sn.drew ?_)).mono ?_); rintro e w2 ⟨rfl, hw⟩; subst w2)
    | (go_at_call 75; (with_reducible refine (HPb.out _ (by repeat first | with_reducible exact HN1.out | with_reducible refine Sn.drew ?_)).mono ?_); rintro e w2 ⟨rfl, hw⟩; subst w2)
    | (go_at_call 75; (with_reducible refine (HPc.out _ (by repeat first | with_reducible exact HN1.out | with_reducible refine Sn.drew ?_)).mono ?_); rintro e w2 ⟨rfl, hw⟩; subst w2)
    | (go_at_call 75; (with_reducible refine (HPd.out _ (by repeat first | with_reducible exact HN1.out | with_reducible refine Sn.drew ?_)).mono ?_); rintro e w2 ⟨rfl, hw⟩; subst w2))
  all_goals rename_i hHeld
  all_goals obtain ⟨e0, e1, e2, e3, e4, e5, e6, e7⟩ := hHeld
  all_goals have HN1 := hidS HN1.out.drew
  all_goals have HB1 : Hid (Kp s wa wa.drew) := Kp.dN s wa 1
  all_goals go_wp2_with (first
    | (go_at_call 76; (with_reducible refine (HAD.out _ _ _ _ (by repeat first | with_reducible exact HN1.out | with_reducible refine Sn.drew ?_) (by assumption) (by assumption) (by assumption) (by assumption)).mono ?_); rintro e w3 ⟨rfl, hn3, hb3⟩; (have HB1 : Hid (Kp s wa w3) := HB1.out.trans (by first | exact hb3 | exact (Kp.dN s _ 1).trans hb3)); (have HN1 := hidS hn3); clear hn3 hb3)
    | (go_at_call 77; (with_reducible refine (HSU.out _ _ _ _ (by repeat first | with_reducible exact HN1.out | with_reducible refine Sn.drew ?_) (by assumption) (by assumption) (by assumption) (by assumption)).mono ?_); rintro e w3 ⟨rfl, hn3, hb3⟩; (have HB1 : Hid (Kp s wa w3) := HB1.out.trans (by first | exact hb3 | exact (Kp.dN s _ 1).trans hb3)); (have HN1 := hidS hn3); clear hn3 hb3))
  all_goals refine bodyPost_end (by simp [results, Try.results55, go_sem]; try rfl) rfl ?_
  all_goals exact ⟨rfl, HN1.out, HB.out.trans HB1.out⟩
set_option maxHeartbeats 4000000 in
theorem samplifier_any {w0 w : World} {s base p : Nat} {N : Ns} {b : Nb} {o : Nat} {S : Sh} (h : Sn w0 w s base p N b o S) (x : Elm) (hx : x.small) :
    Calls Try.prog 56 #[.pointer (some ⟨s, 0, none⟩), elV x] w fun e w' => e = .returned (.tuple #[]) ∧ Sn w0 w' s base p N b o (amp N x S) ∧ Kp s w w' := by
  have HN := hidS (h.on (bal w (.cells (elA x) 55)))
  have E0 : Hid (EC w (w.alloc (.cells (elA x) 55)) w.heap.size x) := ec_new w x
  have HB := hidS (Kp.of (bal w (.cells (elA x) 55)) h.lt)
  obtain ⟨l1, c10, c11, c12, c13, c14, c15, c16, c17⟩ := E0.out.f
  obtain ⟨wa, hwa⟩ : ∃ wa, w.alloc (.cells (elA x) 55) = wa := ⟨_, rfl⟩
  rw [hwa] at HN E0 HB l1 c10 c11 c12 c13 c14 c15 c16 c17
  have HBR := hidS (fun (W : World) (q : Sn w0 W s base p N b o S) => sbranch_any q x hx.n hx.a hx.b)
  unfold elV at HBR
  have HROW := hidS (fun (W : World) (q : Sn w0 W s base p N b o (bra N x S)) => srow_any q x hx.n)
  unfold elV at HROW
  have HPc := hidS (fun (W : World) (q : Sn w0 W s base p N b o (bra N x S)) => splace_any q x.c hx.c)
  have HPd := hidS (fun (W : World) (q : Sn w0 W s base p N b o (bra N x S)) => splace_any q x.d hx.d)
  have HAD : Hid (∀ (W : World) (S' : Sh) (i j : Int), Sn w0 W s base p N b o S' → -1 ≤ i → i < 64 → -1 ≤ j → j < 64 → Calls Try.prog 76 #[.pointer (some ⟨s, 0, none⟩), .int .i64 i, .int .i64 j, .complex .f64 x.v 0] W fun e w' => e = .returned (.tuple #[]) ∧ Sn w0 w' s base p N b o (S'.chg addZ i j (valC x)) ∧ Kp s W w') := fun W S' i j q h1 h2 h3 h4 => (sadd_c W s _ o _ S' i j (x.v, 0) q.sp h1 h2 h3 h4 ⟨hx.v, by show (0 : Nat) < 18446744073709551616; omega⟩).mono (by rintro e w' ⟨rfl, k1, k2⟩; exact ⟨rfl, q.step k1 k2, k2⟩)
  have HSU : Hid (∀ (W : World) (S' : Sh) (i j : Int), Sn w0 W s base p N b o S' → -1 ≤ i → i < 64 → -1 ≤ j → j < 64 → Calls Try.prog 77 #[.pointer (some ⟨s, 0, none⟩), .int .i64 i, .int .i64 j, .complex .f64 x.v 0] W fun e w' => e = .returned (.tuple #[]) ∧ Sn w0 w' s base p N b o (S'.chg subZ i j (valC x)) ∧ Kp s W w') := fun W S' i j q h1 h2 h3 h4 => (ssub_c W s _ o _ S' i j (x.v, 0) q.sp h1 h2 h3 h4 ⟨hx.v, by show (0 : Nat) < 18446744073709551616; omega⟩).mono (by rintro e w' ⟨rfl, k1, k2⟩; exact ⟨rfl, q.step k1 k2, k2⟩)
  have c1 := plI_lo N x.c
  have c2 := h.pl_hi x.c
  have d1 := plI_lo N x.d
  have d2 := h.pl_hi x.d
  have r1 := rwI_lo N x
  have r2 := h.row_hi x
  have hsl := h.lt
  unfold amp
  obtain ⟨S1, hS1⟩ : ∃ S1, bra N x S = S1 := ⟨_, rfl⟩
  rw [hS1] at HBR HROW HPc HPd ⊢
  obtain ⟨pc, hpc⟩ : ∃ pc, plI N x.c = pc := ⟨_, rfl⟩
  rw [hpc] at HPc c1 c2 ⊢
  obtain ⟨pd, hpd⟩ : ∃ pd, plI N x.d = pd := ⟨_, rfl⟩
  rw [hpd] at HPd d1 d2 ⊢
  obtain ⟨rw0, hrw⟩ : ∃ rw0, rwI N x = rw0 := ⟨_, rfl⟩
  rw [hrw] at HROW r1 r2 ⊢
  clear hpc hpd hrw hS1 h hx
  have HL : Hid (s < wa.heap.size) := Nat.lt_trans hsl l1
  have HNE : Hid (w.heap.size ≠ s) := fun e => by omega
  clear hsl
  have HB0 := hidS (Below.refl wa.heap.size wa)
  unfold elA at hwa
  unfold elV
  go_enter Try.func56, Try.ntmps56
  go_wp2_with (go_at_call 54; (with_reducible refine (HBR.out _ (by repeat first | with_reducible exact HN.out | with_reducible refine Sn.drew ?_)).mono ?_); rintro e w1 ⟨rfl, hn1, hb1⟩; (have HN1 := hidS hn1); (have HB1 : Hid (Kp s wa w1) := (by first | exact hb1 | exact (Kp.dN s _ 1).trans hb1)); (have HE1 := hidS ((HB1.out.ot _ l1 HNE.out).trans E0.out.e)); (have l1b := Nat.lt_of_lt_of_le l1 HB1.out.size); clear hn1 hb1 c10 c11 c12 c13 c14 c15 c16 c17; (obtain ⟨c10, c11, c12, c13, c14, c15, c16, c17⟩ := el8 HE1.out); (have HB01 := hidS (Below.refl w1.heap.size w1)))
  go_region_held_law (fun W => W.cell? ⟨w.heap.size, 0, none⟩ = some (.int .u8 (x.k : Int)) ∧ W.cell? ⟨w.heap.size, 1, none⟩ = some (.string x.n) ∧ W.cell? ⟨w.heap.size, 2, none⟩ = some (.string x.a) ∧ W.cell? ⟨w.heap.size, 3, none⟩ = some (.string x.b) ∧ W.cell? ⟨w.heap.size, 4, none⟩ = some (.string x.c) ∧ W.cell? ⟨w.heap.size, 5, none⟩ = some (.string x.d) ∧ W.cell? ⟨w.heap.size, 6, none⟩ = some (.float .f64 x.v) ∧ W.cell? ⟨w.heap.size, 7, none⟩ = some (.int .i64 x.ph)) (first | exact ⟨c10, c11, c12, c13, c14, c15, c16, c17⟩ | exact ⟨d10, d11, d12, d13, d14, d15, d16, d17⟩ | go_keep) (first
    | (go_at_call 78; (with_reducible refine (HROW.out _ (by repeat first | with_reducible exact HN1.out | with_reducible refine Sn.drew ?_)).mono ?_); rintro e w2 ⟨rfl, hb2⟩; (have KB : Below w1.heap.size w1 w2 := Below.trans (by repeat first | with_reducible exact HB01.out | with_reducible refine Below.drew ?_) hb2); (have HB1 : Hid (Kp s wa w2) := HB1.out.trans (Kp.of KB (Nat.lt_of_lt_of_le HL.out HB1.out.size))); (have HN1 := hidS (HN1.out.on KB)); (have HE2 := hidS ((KB.block _ l1b).trans HE1.out)); (obtain ⟨d10, d11, d12, d13, d14, d15, d16, d17⟩ := el8 HE2.out); clear hb2 KB)
    | (go_at_call 75; (with_reducible refine (HPc.out _ (by repeat first | with_reducible exact HN1.out | with_reducible refine Sn.drew ?_)).mono ?_); rintro e w2 ⟨rfl, hw⟩; subst w2)
    | (go_at_call 75; (with_reducible refine (HPd.out _ (by repeat first | with_reducible exact HN1.out | with_reducible refine Sn.drew ?_)).mono ?_); rintro e w2 ⟨rfl, hw⟩; subst w2))
  all_goals rename_i hHeld
  all_goals obtain ⟨e0, e1, e2, e3, e4, e5, e6, e7⟩ := hHeld
  all_goals go_wp2_with (first
    | (go_at_call 76; (with_reducible refine (HAD.out _ _ _ _ (by repeat first | with_reducible exact HN1.out | with_reducible refine Sn.drew ?_) (by assumption) (by assumption) (by assumption) (by assumption)).mono ?_); rintro e w3 ⟨rfl, hn3, hb3⟩; (have HB1 : Hid (Kp s wa w3) := HB1.out.trans (by first | exact hb3 | exact (Kp.dN s _ 1).trans hb3)); (have HN1 := hidS hn3); clear hn3 hb3)
    | (go_at_call 77; (with_reducible refine (HSU.out _ _ _ _ (by repeat first | with_reducible exact HN1.out | with_reducible refine Sn.drew ?_) (by assumption) (by assumption) (by assumption) (by assumption)).mono ?_); rintro e w3 ⟨rfl, hn3, hb3⟩; (have HB1 : Hid (Kp s wa w3) := HB1.out.trans (by first | exact hb3 | exact (Kp.dN s _ 1).trans hb3)); (have HN1 := hidS hn3); clear hn3 hb3))
  all_goals refine bodyPost_end (by simp [results, Try.results56, go_sem]; try rfl) rfl ?_
  all_goals exact ⟨rfl, HN1.out, HB.out.trans HB1.out⟩
end Go.Proofs.Ytmhplaanpbpndaa
