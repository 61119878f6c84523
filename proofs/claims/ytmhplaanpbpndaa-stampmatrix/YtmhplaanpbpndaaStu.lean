/-
  What an admittance stamps.
-/
import Derived.Test.YtmhplaanpbpndaaSts
import Derived.Test.YtmhplaanpbpndaaBse
namespace Go.Proofs.Ytmhplaanpbpndaa
open Fl Go.Maps RowKit Joins Deep
set_option linter.unusedVariables false

set_option maxHeartbeats 4000000 in
theorem sadm_ok {w0 w : World} {s base p : Nat} {N : Ns} {b : Nb} {o : Nat} {S : Sh} (h : Sn w0 w s base p N b o S) (x : Elm) (hx : x.small) (hk : x.ok) (ho : o < 18446744073709551616) {y1 y2 : Nat} (hu : ofT x o = (y1, y2, 0)) :
    Calls Try.prog 52 #[.pointer (some ⟨s, 0, none⟩), elV x] w fun e w' => e = .returned (.tuple #[]) ∧ Sn w0 w' s base p N b o (adm N x (ans y1, ans y2) S) ∧ Kp s w w' := by
  have HN := hidS (h.on (bal w (.cells (elA x) 55)))
  have E0 : Hid (EC w (w.alloc (.cells (elA x) 55)) w.heap.size x) := ec_new w x
  have HB := hidS (Kp.of (bal w (.cells (elA x) 55)) h.lt)
  obtain ⟨l1, c10, c11, c12, c13, c14, c15, c16, c17⟩ := E0.out.f
  obtain ⟨wa, hwa⟩ : ∃ wa, w.alloc (.cells (elA x) 55) = wa := ⟨_, rfl⟩
  rw [hwa] at HN E0 HB l1 c10 c11 c12 c13 c14 c15 c16 c17
  have HPa := hidS (fun (W : World) (q : Sn w0 W s base p N b o S) => splace_any q x.a hx.a)
  have HPb := hidS (fun (W : World) (q : Sn w0 W s base p N b o S) => splace_any q x.b hx.b)
  have HOF := hidS (fun (W : World) => aof_w x o W hk ho (y1, y2, 0) hu)
  have hyy : y1 < 18446744073709551616 ∧ y2 < 18446744073709551616 := by have := @ofT_bd x o; rw [hu] at this; exact this
  unfold elV at HOF
  have HAD : Hid (∀ (W : World) (S' : Sh) (i j : Int), Sn w0 W s base p N b o S' → -1 ≤ i → i < 64 → -1 ≤ j → j < 64 → Calls Try.prog 76 #[.pointer (some ⟨s, 0, none⟩), .int .i64 i, .int .i64 j, .complex .f64 y1 y2] W fun e w' => e = .returned (.tuple #[]) ∧ Sn w0 w' s base p N b o (S'.chg addZ i j (ans y1, ans y2)) ∧ Kp s W w') := fun W S' i j q h1 h2 h3 h4 => (sadd_c W s _ o _ S' i j (y1, y2) q.sp h1 h2 h3 h4 hyy).mono (by rintro e w' ⟨rfl, k1, k2⟩; exact ⟨rfl, q.step k1 k2, k2⟩)
  have HSU : Hid (∀ (W : World) (S' : Sh) (i j : Int), Sn w0 W s base p N b o S' → -1 ≤ i → i < 64 → -1 ≤ j → j < 64 → Calls Try.prog 77 #[.pointer (some ⟨s, 0, none⟩), .int .i64 i, .int .i64 j, .complex .f64 y1 y2] W fun e w' => e = .returned (.tuple #[]) ∧ Sn w0 w' s base p N b o (S'.chg subZ i j (ans y1, ans y2)) ∧ Kp s W w') := fun W S' i j q h1 h2 h3 h4 => (ssub_c W s _ o _ S' i j (y1, y2) q.sp h1 h2 h3 h4 hyy).mono (by rintro e w' ⟨rfl, k1, k2⟩; exact ⟨rfl, q.step k1 k2, k2⟩)
  have a1 := plI_lo N x.a
  have a2 := h.pl_hi x.a
  have b1 := plI_lo N x.b
  have b2 := h.pl_hi x.b
  have hsl := h.lt
  unfold adm
  obtain ⟨pa, hpa⟩ : ∃ pa, plI N x.a = pa := ⟨_, rfl⟩
  rw [hpa] at HPa a1 a2 ⊢
  obtain ⟨pb, hpb⟩ : ∃ pb, plI N x.b = pb := ⟨_, rfl⟩
  rw [hpb] at HPb b1 b2 ⊢
  clear hpa hpb h hx hk hu hyy ho
  have HL : Hid (s < wa.heap.size) := Nat.lt_trans hsl l1
  have HNE : Hid (w.heap.size ≠ s) := fun e => by omega
  clear hsl
  have HB0 := hidS (Below.refl wa.heap.size wa)
  unfold elA at hwa
  unfold elV
  go_enter Try.func52, Try.ntmps52
  have k0 := HN.out.sp.c1
  have HE0 := hidS E0.out.e
  go_wp2
  go_region_held_law (fun W => W.cell? ⟨s, 1, none⟩ = some (.float .f64 o) ∧ W.cell? ⟨w.heap.size, 0, none⟩ = some (.int .u8 (x.k : Int)) ∧ W.cell? ⟨w.heap.size, 1, none⟩ = some (.string x.n) ∧ W.cell? ⟨w.heap.size, 2, none⟩ = some (.string x.a) ∧ W.cell? ⟨w.heap.size, 3, none⟩ = some (.string x.b) ∧ W.cell? ⟨w.heap.size, 4, none⟩ = some (.string x.c) ∧ W.cell? ⟨w.heap.size, 5, none⟩ = some (.string x.d) ∧ W.cell? ⟨w.heap.size, 6, none⟩ = some (.float .f64 x.v) ∧ W.cell? ⟨w.heap.size, 7, none⟩ = some (.int .i64 x.ph)) (first | exact ⟨k0, c10, c11, c12, c13, c14, c15, c16, c17⟩ | exact ⟨k1, d10, d11, d12, d13, d14, d15, d16, d17⟩ | go_keep) (first
    | (go_at_call 74; (with_reducible refine (HOF.out _).mono ?_); rintro e w1 ⟨rfl, hb2⟩; (have KB : Below wa.heap.size wa w1 := Below.trans (by repeat first | with_reducible exact HB0.out | with_reducible refine Below.drew ?_) hb2); (have HB1 : Hid (Kp s wa w1) := Kp.of KB HL.out); (have HN1 := hidS (HN.out.on KB)); (have HE2 := hidS ((KB.block _ l1).trans HE0.out)); (have k1 := HN1.out.sp.c1); (obtain ⟨d10, d11, d12, d13, d14, d15, d16, d17⟩ := el8 HE2.out); clear hb2 KB))
  all_goals rename_i hHeld
  all_goals obtain ⟨k2, e0, e1, e2, e3, e4, e5, e6, e7⟩ := hHeld
  all_goals clear k0 k1 c10 c11 c12 c13 c14 c15 c16 c17
  all_goals go_wp2
  go_region_held_law (fun W => W.cell? ⟨w.heap.size, 0, none⟩ = some (.int .u8 (x.k : Int)) ∧ W.cell? ⟨w.heap.size, 1, none⟩ = some (.string x.n) ∧ W.cell? ⟨w.heap.size, 2, none⟩ = some (.string x.a) ∧ W.cell? ⟨w.heap.size, 3, none⟩ = some (.string x.b) ∧ W.cell? ⟨w.heap.size, 4, none⟩ = some (.string x.c) ∧ W.cell? ⟨w.heap.size, 5, none⟩ = some (.string x.d) ∧ W.cell? ⟨w.heap.size, 6, none⟩ = some (.float .f64 x.v) ∧ W.cell? ⟨w.heap.size, 7, none⟩ = some (.int .i64 x.ph)) (first | exact ⟨e0, e1, e2, e3, e4, e5, e6, e7⟩ | go_keep) (first
    | (go_at_call 75; (with_reducible refine (HPa.out _ (by repeat first | with_reducible exact HN1.out | with_reducible refine Sn.drew ?_)).mono ?_); rintro e w2 ⟨rfl, hw⟩; subst w2)
    | (go_at_call 75; (with_reducible refine (HPb.out _ (by repeat first | with_reducible exact HN1.out | with_reducible refine Sn.drew ?_)).mono ?_); rintro e w2 ⟨rfl, hw⟩; subst w2))
  all_goals rename_i hHeld
  all_goals clear hHeld
  all_goals have HN1 := hidS HN1.out.drew
  all_goals have HB1 : Hid (Kp s wa w1.drew) := HB1.out.trans (Kp.dN s w1 1)
  all_goals go_wp2_with (first
    | (go_at_call 76; (with_reducible refine (HAD.out _ _ _ _ (by repeat first | with_reducible exact HN1.out | with_reducible refine Sn.drew ?_) (by assumption) (by assumption) (by assumption) (by assumption)).mono ?_); rintro e w3 ⟨rfl, hn3, hb3⟩; (have HB1 : Hid (Kp s wa w3) := HB1.out.trans (by first | exact hb3 | exact (Kp.dN s _ 1).trans hb3)); (have HN1 := hidS hn3); clear hn3 hb3)
    | (go_at_call 77; (with_reducible refine (HSU.out _ _ _ _ (by repeat first | with_reducible exact HN1.out | with_reducible refine Sn.drew ?_) (by assumption) (by assumption) (by assumption) (by assumption)).mono ?_); rintro e w3 ⟨rfl, hn3, hb3⟩; (have HB1 : Hid (Kp s wa w3) := HB1.out.trans (by first | exact hb3 | exact (Kp.dN s _ 1).trans hb3)); (have HN1 := hidS hn3); clear hn3 hb3))
  all_goals refine bodyPost_end (by simp [results, Try.results52, go_sem]; try rfl) rfl ?_
  all_goals exact ⟨rfl, HN1.out, HB.out.trans HB1.out⟩
set_option maxHeartbeats 4000000 in
theorem sadm_no {w0 w : World} {s base p : Nat} {N : Ns} {b : Nb} {o : Nat} {S : Sh} (h : Sn w0 w s base p N b o S) (x : Elm) (hx : x.small) (hk : x.ok) (ho : o < 18446744073709551616) {y1 y2 : Nat} {c : Int} (hu : ofT x o = (y1, y2, c)) (hc : c ≠ 0) :
    Calls Try.prog 52 #[.pointer (some ⟨s, 0, none⟩), elV x] w fun e w' => e = .returned (.tuple #[]) ∧ w'.cell? ⟨s, 4099, none⟩ = some (.int .i64 c) ∧ Kp s w w' := by
  have HN := hidS (h.on (bal w (.cells (elA x) 55)))
  have E0 : Hid (EC w (w.alloc (.cells (elA x) 55)) w.heap.size x) := ec_new w x
  have HB := hidS (Kp.of (bal w (.cells (elA x) 55)) h.lt)
  obtain ⟨l1, c10, c11, c12, c13, c14, c15, c16, c17⟩ := E0.out.f
  obtain ⟨wa, hwa⟩ : ∃ wa, w.alloc (.cells (elA x) 55) = wa := ⟨_, rfl⟩
  rw [hwa] at HN E0 HB l1 c10 c11 c12 c13 c14 c15 c16 c17
  have HOF := hidS (fun (W : World) => aof_w x o W hk ho (y1, y2, c) hu)
  unfold elV at HOF
  have hsl := h.lt
  clear h hx hk hu ho
  have HL : Hid (s < wa.heap.size) := Nat.lt_trans hsl l1
  have HNE : Hid (w.heap.size ≠ s) := fun e => by omega
  clear hsl
  have HB0 := hidS (Below.refl wa.heap.size wa)
  unfold elA at hwa
  unfold elV
  go_enter Try.func52, Try.ntmps52
  have k0 := HN.out.sp.c1
  have HE0 := hidS E0.out.e
  go_wp2
  go_region_held_law (fun W => W.cell? ⟨s, 1, none⟩ = some (.float .f64 o) ∧ W.cell? ⟨w.heap.size, 0, none⟩ = some (.int .u8 (x.k : Int)) ∧ W.cell? ⟨w.heap.size, 1, none⟩ = some (.string x.n) ∧ W.cell? ⟨w.heap.size, 2, none⟩ = some (.string x.a) ∧ W.cell? ⟨w.heap.size, 3, none⟩ = some (.string x.b) ∧ W.cell? ⟨w.heap.size, 4, none⟩ = some (.string x.c) ∧ W.cell? ⟨w.heap.size, 5, none⟩ = some (.string x.d) ∧ W.cell? ⟨w.heap.size, 6, none⟩ = some (.float .f64 x.v) ∧ W.cell? ⟨w.heap.size, 7, none⟩ = some (.int .i64 x.ph)) (first | exact ⟨k0, c10, c11, c12, c13, c14, c15, c16, c17⟩ | exact ⟨k1, d10, d11, d12, d13, d14, d15, d16, d17⟩ | go_keep) (first
    | (go_at_call 74; (with_reducible refine (HOF.out _).mono ?_); rintro e w1 ⟨rfl, hb2⟩; (have KB : Below wa.heap.size wa w1 := Below.trans (by repeat first | with_reducible exact HB0.out | with_reducible refine Below.drew ?_) hb2); (have HB1 : Hid (Kp s wa w1) := Kp.of KB HL.out); (have HN1 := hidS (HN.out.on KB)); (have HE2 := hidS ((KB.block _ l1).trans HE0.out)); (have k1 := HN1.out.sp.c1); (obtain ⟨d10, d11, d12, d13, d14, d15, d16, d17⟩ := el8 HE2.out); clear hb2 KB))
  all_goals rename_i hHeld
  all_goals obtain ⟨k2, e0, e1, e2, e3, e4, e5, e6, e7⟩ := hHeld
  all_goals clear k0 k1 c10 c11 c12 c13 c14 c15 c16 c17
  all_goals (have hz := HN1.out.sp.fz 4099; have hk := HN1.out.sp.err)
  all_goals go_wp2_with fail
  all_goals refine bodyPost_ret (by simp [results, Try.results52, go_sem]; try rfl) rfl ?_
  all_goals exact ⟨rfl, World.cell?_setCell_same _ _ _ hk, HB.out.trans (HB1.out.setCell 4099 _)⟩
end Go.Proofs.Ytmhplaanpbpndaa
