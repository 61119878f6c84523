/-
  Several texts in one: Stu Stv Dna Tu Tw0 Tk WRoots Ade Sra.
-/
import Derived.Test.YtmpkcioeodlbcaaGreatDoorK34
import Derived.Test.YtmpkcioeodlbcaaGreatDoorK33
import Derived.Test.YtmpkcioeodlbcaaGreatDoorK32
import Derived.Test.YtmpkcioeodlbcaaGreatDoorK14
import Derived.Deep.RegionWith
import Derived.Test.YtmpkcioeodlbcaaGreatDoorK19
namespace Go.Proofs.YtmpkcioeodlbcaaGreatDoor
open Fl Go.Maps RowKit Joins Deep
set_option linter.unusedVariables false
set_option maxHeartbeats 4000000 in
theorem sadm_ok {w0 w : World} {s base p : Nat} {N : Ns} {b : Nb} {o : Nat} {S : Sh} (h : Sn w0 w s base p N b o S) (x : Elm) (hx : x.small) (hk : x.ok) (ho : o < 18446744073709551616) {y1 y2 : Nat} (hu : ofT x o = (y1, y2, 0)) :
    Calls Tryz.prog 174 #[.pointer (some ⟨s, 0, none⟩), elV x] w fun e w' => e = .returned (.tuple #[]) ∧ Sn w0 w' s base p N b o (adm N x (ans y1, ans y2) S) ∧ Kp s w w' := by
  have HN := hidS (h.on (bal w (.cells (elA x) 96)))
  have E0 : Hid (EC w (w.alloc (.cells (elA x) 96)) w.heap.size x) := ec_new w x
  have HB := hidS (Kp.of (bal w (.cells (elA x) 96)) h.lt)
  obtain ⟨l1, c10, c11, c12, c13, c14, c15, c16, c17⟩ := E0.out.f
  obtain ⟨wa, hwa⟩ : ∃ wa, w.alloc (.cells (elA x) 96) = wa := ⟨_, rfl⟩
  rw [hwa] at HN E0 HB l1 c10 c11 c12 c13 c14 c15 c16 c17
  have HPa := hidS (fun (W : World) (q : Sn w0 W s base p N b o S) => splace_any q x.a hx.a)
  have HPb := hidS (fun (W : World) (q : Sn w0 W s base p N b o S) => splace_any q x.b hx.b)
  have HOF := hidS (fun (W : World) => aof_w x o W hk ho (y1, y2, 0) hu)
  have hyy : y1 < 18446744073709551616 ∧ y2 < 18446744073709551616 := by have := @ofT_bd x o; rw [hu] at this; exact this
  unfold elV at HOF
  have HAD : Hid (∀ (W : World) (S' : Sh) (i j : Int), Sn w0 W s base p N b o S' → -1 ≤ i → i < 64 → -1 ≤ j → j < 64 → Calls Tryz.prog 209 #[.pointer (some ⟨s, 0, none⟩), .int .i64 i, .int .i64 j, .complex .f64 y1 y2] W fun e w' => e = .returned (.tuple #[]) ∧ Sn w0 w' s base p N b o (S'.chg addZ i j (ans y1, ans y2)) ∧ Kp s W w') := fun W S' i j q h1 h2 h3 h4 => (sadd_c W s _ o _ S' i j (y1, y2) q.sp h1 h2 h3 h4 hyy).mono (by rintro e w' ⟨rfl, k1, k2⟩; exact ⟨rfl, q.step k1 k2, k2⟩)
  have HSU : Hid (∀ (W : World) (S' : Sh) (i j : Int), Sn w0 W s base p N b o S' → -1 ≤ i → i < 64 → -1 ≤ j → j < 64 → Calls Tryz.prog 210 #[.pointer (some ⟨s, 0, none⟩), .int .i64 i, .int .i64 j, .complex .f64 y1 y2] W fun e w' => e = .returned (.tuple #[]) ∧ Sn w0 w' s base p N b o (S'.chg subZ i j (ans y1, ans y2)) ∧ Kp s W w') := fun W S' i j q h1 h2 h3 h4 => (ssub_c W s _ o _ S' i j (y1, y2) q.sp h1 h2 h3 h4 hyy).mono (by rintro e w' ⟨rfl, k1, k2⟩; exact ⟨rfl, q.step k1 k2, k2⟩)
  have a1 := plI_lo N x.a
  have a2 := h.pl_hi x.a
  have b1 := plI_lo N x.b
  have b2 := h.pl_hi x.b
  have hsl := h.lt
  unfold adm
  obtain ⟨pa, hpa⟩ : ∃ pa, plI N x.a = pa := ⟨_, rfl⟩
  rw [hpa] at HPa a1 a2 ⊢
  obtain ⟨pb, hpb⟩ : ∃ pb, plI N x.b = pb := ⟨_, rfl⟩
  rw [hpb] at HPb b1 b2 ⊢
  clear hpa hpb h hx hk hu hyy ho
  have HL : Hid (s < wa.heap.size) := Nat.lt_trans hsl l1
  have HNE : Hid (w.heap.size ≠ s) := fun e => by omega
  clear hsl
  have HB0 := hidS (Below.refl wa.heap.size wa)
  unfold elA at hwa
  unfold elV
  go_enter Tryz.func174, Tryz.ntmps174
  have k0 := HN.out.sp.c1
  have HE0 := hidS E0.out.e
  go_wp2
  go_region_held_law (fun W => W.cell? ⟨s, 1, none⟩ = some (.float .f64 o) ∧ W.cell? ⟨w.heap.size, 0, none⟩ = some (.int .u8 (x.k : Int)) ∧ W.cell? ⟨w.heap.size, 1, none⟩ = some (.string x.n) ∧ W.cell? ⟨w.heap.size, 2, none⟩ = some (.string x.a) ∧ W.cell? ⟨w.heap.size, 3, none⟩ = some (.string x.b) ∧ W.cell? ⟨w.heap.size, 4, none⟩ = some (.string x.c) ∧ W.cell? ⟨w.heap.size, 5, none⟩ = some (.string x.d) ∧ W.cell? ⟨w.heap.size, 6, none⟩ = some (.float .f64 x.v) ∧ W.cell? ⟨w.heap.size, 7, none⟩ = some (.int .i64 x.ph)) (first | exact ⟨k0, c10, c11, c12, c13, c14, c15, c16, c17⟩ | exact ⟨k1, d10, d11, d12, d13, d14, d15, d16, d17⟩ | go_keep) (first
    | (go_at_call 207; (with_reducible refine (HOF.out _).mono ?_); rintro e w1 ⟨rfl, hb2⟩; (have KB : Below wa.heap.size wa w1 := Below.trans (by repeat first | with_reducible exact HB0.out | with_reducible refine Below.drew ?_) hb2); (have HB1 : Hid (Kp s wa w1) := Kp.of KB HL.out); (have HN1 := hidS (HN.out.on KB)); (have HE2 := hidS ((KB.block _ l1).trans HE0.out)); (have k1 := HN1.out.sp.c1); (obtain ⟨d10, d11, d12, d13, d14, d15, d16, d17⟩ := el8 HE2.out); clear hb2 KB))
  all_goals rename_i hHeld
  all_goals obtain ⟨k2, e0, e1, e2, e3, e4, e5, e6, e7⟩ := hHeld
  all_goals clear k0 k1 c10 c11 c12 c13 c14 c15 c16 c17
  all_goals go_wp2
  go_region_held_law (fun W => W.cell? ⟨w.heap.size, 0, none⟩ = some (.int .u8 (x.k : Int)) ∧ W.cell? ⟨w.heap.size, 1, none⟩ = some (.string x.n) ∧ W.cell? ⟨w.heap.size, 2, none⟩ = some (.string x.a) ∧ W.cell? ⟨w.heap.size, 3, none⟩ = some (.string x.b) ∧ W.cell? ⟨w.heap.size, 4, none⟩ = some (.string x.c) ∧ W.cell? ⟨w.heap.size, 5, none⟩ = some (.string x.d) ∧ W.cell? ⟨w.heap.size, 6, none⟩ = some (.float .f64 x.v) ∧ W.cell? ⟨w.heap.size, 7, none⟩ = some (.int .i64 x.ph)) (first | exact ⟨e0, e1, e2, e3, e4, e5, e6, e7⟩ | go_keep) (first
    | (go_at_call 208; (with_reducible refine (HPa.out _ (by repeat first | with_reducible exact HN1.out | with_reducible refine Sn.drew ?_)).mono ?_); rintro e w2 ⟨rfl, hw⟩; subst w2)
    | (go_at_call 208; (with_reducible refine (HPb.out _ (by repeat first | with_reducible exact HN1.out | with_reducible refine Sn.drew ?_)).mono ?_); rintro e w2 ⟨rfl, hw⟩; subst w2))
  all_goals rename_i hHeld
  all_goals clear hHeld
  all_goals have HN1 := hidS HN1.out.drew
  all_goals have HB1 : Hid (Kp s wa w1.drew) := HB1.out.trans (Kp.dN s w1 1)
  all_goals go_wp2_with (first
    | (go_at_call 209; (with_reducible refine (HAD.out _ _ _ _ (by repeat first | with_reducible exact HN1.out | with_reducible refine Sn.drew ?_) (by assumption) (by assumption) (by assumption) (by assumption)).mono ?_); rintro e w3 ⟨rfl, hn3, hb3⟩; (have HB1 : Hid (Kp s wa w3) := HB1.out.trans (by first | exact hb3 | exact (Kp.dN s _ 1).trans hb3)); (have HN1 := hidS hn3); clear hn3 hb3)
    | (go_at_call 210; (with_reducible refine (HSU.out _ _ _ _ (by repeat first | with_reducible exact HN1.out | with_reducible refine Sn.drew ?_) (by assumption) (by assumption) (by assumption) (by assumption)).mono ?_); rintro e w3 ⟨rfl, hn3, hb3⟩; (have HB1 : Hid (Kp s wa w3) := HB1.out.trans (by first | exact hb3 | exact (Kp.dN s _ 1).trans hb3)); (have HN1 := hidS hn3); clear hn3 hb3))
  all_goals refine bodyPost_end (by simp [results, Tryz.results174, go_sem]; try rfl) rfl ?_
  all_goals exact ⟨rfl, HN1.out, HB.out.trans HB1.out⟩
set_option maxHeartbeats 4000000 in
theorem sadm_no {w0 w : World} {s base p : Nat} {N : Ns} {b : Nb} {o : Nat} {S : Sh} (h : Sn w0 w s base p N b o S) (x : Elm) (hx : x.small) (hk : x.ok) (ho : o < 18446744073709551616) {y1 y2 : Nat} {c : Int} (hu : ofT x o = (y1, y2, c)) (hc : c ≠ 0) :
    Calls Tryz.prog 174 #[.pointer (some ⟨s, 0, none⟩), elV x] w fun e w' => e = .returned (.tuple #[]) ∧ w'.cell? ⟨s, 4099, none⟩ = some (.int .i64 c) ∧ Kp s w w' := by
  have HN := hidS (h.on (bal w (.cells (elA x) 96)))
  have E0 : Hid (EC w (w.alloc (.cells (elA x) 96)) w.heap.size x) := ec_new w x
  have HB := hidS (Kp.of (bal w (.cells (elA x) 96)) h.lt)
  obtain ⟨l1, c10, c11, c12, c13, c14, c15, c16, c17⟩ := E0.out.f
  obtain ⟨wa, hwa⟩ : ∃ wa, w.alloc (.cells (elA x) 96) = wa := ⟨_, rfl⟩
  rw [hwa] at HN E0 HB l1 c10 c11 c12 c13 c14 c15 c16 c17
  have HOF := hidS (fun (W : World) => aof_w x o W hk ho (y1, y2, c) hu)
  unfold elV at HOF
  have hsl := h.lt
  clear h hx hk hu ho
  have HL : Hid (s < wa.heap.size) := Nat.lt_trans hsl l1
  have HNE : Hid (w.heap.size ≠ s) := fun e => by omega
  clear hsl
  have HB0 := hidS (Below.refl wa.heap.size wa)
  unfold elA at hwa
  unfold elV
  go_enter Tryz.func174, Tryz.ntmps174
  have k0 := HN.out.sp.c1
  have HE0 := hidS E0.out.e
  go_wp2
  go_region_held_law (fun W => W.cell? ⟨s, 1, none⟩ = some (.float .f64 o) ∧ W.cell? ⟨w.heap.size, 0, none⟩ = some (.int .u8 (x.k : Int)) ∧ W.cell? ⟨w.heap.size, 1, none⟩ = some (.string x.n) ∧ W.cell? ⟨w.heap.size, 2, none⟩ = some (.string x.a) ∧ W.cell? ⟨w.heap.size, 3, none⟩ = some (.string x.b) ∧ W.cell? ⟨w.heap.size, 4, none⟩ = some (.string x.c) ∧ W.cell? ⟨w.heap.size, 5, none⟩ = some (.string x.d) ∧ W.cell? ⟨w.heap.size, 6, none⟩ = some (.float .f64 x.v) ∧ W.cell? ⟨w.heap.size, 7, none⟩ = some (.int .i64 x.ph)) (first | exact ⟨k0, c10, c11, c12, c13, c14, c15, c16, c17⟩ | exact ⟨k1, d10, d11, d12, d13, d14, d15, d16, d17⟩ | go_keep) (first
    | (go_at_call 207; (with_reducible refine (HOF.out _).mono ?_); rintro e w1 ⟨rfl, hb2⟩; (have KB : Below wa.heap.size wa w1 := Below.trans (by repeat first | with_reducible exact HB0.out | with_reducible refine Below.drew ?_) hb2); (have HB1 : Hid (Kp s wa w1) := Kp.of KB HL.out); (have HN1 := hidS (HN.out.on KB)); (have HE2 := hidS ((KB.block _ l1).trans HE0.out)); (have k1 := HN1.out.sp.c1); (obtain ⟨d10, d11, d12, d13, d14, d15, d16, d17⟩ := el8 HE2.out); clear hb2 KB))
  all_goals rename_i hHeld
  all_goals obtain ⟨k2, e0, e1, e2, e3, e4, e5, e6, e7⟩ := hHeld
  all_goals clear k0 k1 c10 c11 c12 c13 c14 c15 c16 c17
  all_goals (have hz := HN1.out.sp.fz 4099; have hk := HN1.out.sp.err)
  all_goals go_wp2_with fail
  all_goals refine bodyPost_ret (by simp [results, Tryz.results174, go_sem]; try rfl) rfl ?_
  all_goals exact ⟨rfl, World.cell?_setCell_same _ _ _ hk, HB.out.trans (HB1.out.setCell 4099 _)⟩
end Go.Proofs.YtmpkcioeodlbcaaGreatDoor
namespace Go.Proofs.YtmpkcioeodlbcaaGreatDoor
open Fl Go.Maps RowKit Joins Deep
set_option linter.unusedVariables false
theorem snothing_any (w : World) (s : Nat) (x : Elm) : Calls Tryz.prog 175 #[.pointer (some ⟨s, 0, none⟩), elV x] w fun e w' => e = .returned (.tuple #[]) ∧ Below w.heap.size w w' := by
  unfold elV
  go_enter Tryz.func175, Tryz.ntmps175
  go_wp2
  refine bodyPost_end (by simp [results, Tryz.results175, go_sem]; try rfl) rfl ?_
  exact ⟨rfl, bal w _⟩
theorem srefused_any {w : World} {base p : Nat} {N : Ns} {b : Nb} (h : Nt w base p N b) (hn : bl ⟨#[]⟩ ∉ N.nm) {o : Nat} (ho : o < 18446744073709551616) : Calls Tryz.prog 134 #[.pointer (some ⟨p, 0, none⟩), .float .f64 o] w fun e w' => e = .returned (.int .i64 (frI o)) ∧ w' = w := by
  have HW := hidS (wto_made h hn)
  clear h hn
  cases hf : finB o
  · have hr : frI o = 5 := by unfold frI; rw [if_pos hf]
    rw [hr]
    have HF : Hid ((finB o && finB 0) = false) := by show _ = _; rw [hf]; rfl
    clear hr hf
    go_enter Tryz.func134, Tryz.ntmps134
    go_wp2_with (first
      | (go_at_call 92; (with_reducible refine (HW.out).mono ?_); rintro e w1 ⟨rfl, hw⟩; subst w1)
      | (go_at_call 59; refine (fin_any o 0 _ ho (by decide)).mono ?_; rintro e w' ⟨rfl, rfl⟩; rw [HF.out]))
    all_goals go_ret
    all_goals first | exact ⟨rfl, rfl⟩ | simp_all
  · have hn := fin_nan_Adb hf
    have HF : Hid ((finB o && finB 0) = true) := by show _ = _; rw [hf]; decide
    cases hp : posV o
    · have hr : frI o = 2 := by unfold frI; rw [hf, hp]; rfl
      rw [hr]
      have h1 := (leq_iff hn).1 hp
      clear hr hf hp hn
      go_enter Tryz.func134, Tryz.ntmps134
      go_wp2_with (first
        | (go_at_call 92; (with_reducible refine (HW.out).mono ?_); rintro e w1 ⟨rfl, hw⟩; subst w1)
        | (go_at_call 59; refine (fin_any o 0 _ ho (by decide)).mono ?_; rintro e w' ⟨rfl, rfl⟩; rw [HF.out]))
      all_goals go_ret
      all_goals first | exact ⟨rfl, rfl⟩ | simp_all
    · have hr : frI o = 0 := by unfold frI; rw [hf, hp]; rfl
      rw [hr]
      have h1 : ¬ (FloatKind.f64.format.order o 0 = some .lt ∨ FloatKind.f64.format.order o 0 = some .eq) := fun q => by rw [(leq_iff hn).2 q] at hp; cases hp
      clear hr hf hp hn
      go_enter Tryz.func134, Tryz.ntmps134
      go_wp2_with (first
        | (go_at_call 92; (with_reducible refine (HW.out).mono ?_); rintro e w1 ⟨rfl, hw⟩; subst w1)
        | (go_at_call 59; refine (fin_any o 0 _ ho (by decide)).mono ?_; rintro e w' ⟨rfl, rfl⟩; rw [HF.out]))
      all_goals go_ret
      all_goals first | exact ⟨rfl, rfl⟩ | simp_all
end Go.Proofs.YtmpkcioeodlbcaaGreatDoor
namespace Go.Proofs.YtmpkcioeodlbcaaGreatDoor
set_option linter.unusedVariables false
/-- the nodes of a list -/
def ndR (l : List Elm) : List (List UInt8) := l.foldl ndE []
/-- the branches of a list -/
def brR (l : List Elm) : List (List UInt8) := (l.filter isB).map fun x => bl x.n
theorem ndR_snoc (l : List Elm) (x : Elm) : ndR (l ++ [x]) = ndE (ndR l) x := by unfold ndR; rw [List.foldl_append]; rfl
theorem brR_snoc (l : List Elm) (x : Elm) : brR (l ++ [x]) = if isB x = true then brR l ++ [bl x.n] else brR l := by
  unfold brR
  rw [List.filter_append, List.map_append]
  by_cases h : isB x = true
  · rw [if_pos h, List.filter_cons_of_pos h]; rfl
  · rw [if_neg h, List.filter_cons_of_neg h]; simp
theorem brR_sub {l : List Elm} {s : List UInt8} (h : s ∈ brR l) : s ∈ l.map fun x => bl x.n := by
  unfold brR at h
  obtain ⟨x, hx, rfl⟩ := List.mem_map.1 h
  exact List.mem_map.2 ⟨x, (List.mem_filter.1 hx).1, rfl⟩
/-- what Of lays is what the document counts -/
theorem ofR_counts : ∀ (l : List Elm) (N N' : Ns) (i : Nat), Nv N → N.nd = ndR N.es → N.br = brR N.es → ofR N i l = ((0, 0), N') → N'.nd = ndR N'.es ∧ N'.br = brR N'.es ∧ N'.nd.length ≤ 32 ∧ N'.nd.length + N'.br.length ≤ 64 := by
  intro l
  induction l with
  | nil =>
    intro N N' i hv h1 h2 ho
    unfold ofR at ho
    split at ho
    · simp at ho
    · rename_i hb
      have : N = N' := by simpa using ho
      subst this
      exact ⟨h1, h2, by omega, by omega⟩
  | cons x t ih =>
    intro N N' i hv h1 h2 ho
    by_cases hc : chkI x = 0
    · by_cases hn : bl x.n ∈ N.nm
      · rw [ofR_there hc hn] at ho
        simp at ho
      · rw [ofR_go hc hn] at ho
        refine ih (N.lay x) N' (i + 1) (hv.lay hc hn) ?_ ?_ ho
        · show ndE N.nd x = ndR (N.es ++ [x]); rw [ndR_snoc, h1]
        · show brE N.br x = brR (N.es ++ [x])
          rw [brR_snoc, h2]
          unfold brE
          by_cases hx : isB x = true
          · rw [if_pos hx, if_pos hx]
            refine if_neg fun q => hn ?_
            rw [hv.nm]
            exact brR_sub q
          · rw [if_neg hx, if_neg hx]
    · rw [ofR_bad hc] at ho
      simp at ho
      exact absurd ho.1.1 hc
theorem ofA_counts {l : List Elm} {N : Ns} (h : ofA l = ((0, 0), N)) : N.es = l ∧ N.nd = ndR l ∧ N.br = brR l ∧ N.nd.length ≤ 32 ∧ N.nd.length + N.br.length ≤ 64 := by
  have he := (ofA_facts h).2.1
  unfold ofA at h
  split at h
  · simp at h
  · obtain ⟨h1, h2, h3, h4⟩ := ofR_counts l Ns.nil N 0 Nv.nil rfl rfl h
    rw [he] at h1 h2
    exact ⟨he, h1, h2, h3, h4⟩
end Go.Proofs.YtmpkcioeodlbcaaGreatDoor
namespace Go.Proofs.YtmpkcioeodlbcaaGreatDoor
open Fl RowKit
/-- The word of the cosine of k steps, 0 to 6; of 0 to 23. -/
def cK (k : Int) : Nat := if k = 0 then 4607182418800017408 else if k = 1 then 4606875505927962389 else if k = 2 then 4605975682916830378 else if k = 3 then 4604544271217802189 else if k = 4 then 4602678819172646912 else if k = 5 then 4598334089338226320 else 0
def cw (k : Int) : Nat := if k ≤ 6 then cK k else if k ≤ 12 then ngW (cK (12 - k)) else if k < 18 then ngW (cK (k - 12)) else cK (24 - k)

theorem tconst_bits (k : Int) (w : World) (h0 : 0 ≤ k) (h1 : k ≤ 6) : Calls Tryz.prog 282 #[.int .i64 k] w fun e w' => e = .returned (.int .u64 ((cK k : Nat) : Int)) ∧ w' = w := by
  have hk : k = 0 ∨ k = 1 ∨ k = 2 ∨ k = 3 ∨ k = 4 ∨ k = 5 ∨ k = 6 := by omega
  rcases hk with rfl | rfl | rfl | rfl | rfl | rfl | rfl
  all_goals
    go_enter Tryz.func282, Tryz.ntmps282
    go_wp2
    go_ret
    exact ⟨rfl, rfl⟩
theorem tconst (k : Int) (w : World) (h0 : 0 ≤ k) (h1 : k ≤ 6) : Calls Tryz.prog 253 #[.int .i64 k] w fun e w' => e = .returned (.float .f64 (cK k)) ∧ w' = w := by
  go_enter Tryz.func253, Tryz.ntmps253
  go_wp2_with (first | (go_at_call 282; refine (tconst_bits _ _ h0 h1).mono ?_; rintro e w' ⟨rfl, rfl⟩))
  go_ret
  exact ⟨rfl, rfl⟩
theorem tcosine (k : Int) (w : World) (h0 : 0 ≤ k) (h1 : k < 24) : Calls Tryz.prog 225 #[.int .i64 k] w fun e w' => e = .returned (.float .f64 (cw k)) ∧ w' = w := by
  have hk : k = 0 ∨ k = 1 ∨ k = 2 ∨ k = 3 ∨ k = 4 ∨ k = 5 ∨ k = 6 ∨ k = 7 ∨ k = 8 ∨ k = 9 ∨ k = 10 ∨ k = 11 ∨ k = 12 ∨ k = 13 ∨ k = 14 ∨ k = 15 ∨ k = 16 ∨ k = 17 ∨ k = 18 ∨ k = 19 ∨ k = 20 ∨ k = 21 ∨ k = 22 ∨ k = 23 := by omega
  rcases hk with rfl | rfl | rfl | rfl | rfl | rfl | rfl | rfl | rfl | rfl | rfl | rfl | rfl | rfl | rfl | rfl | rfl | rfl | rfl | rfl | rfl | rfl | rfl | rfl
  all_goals
    go_enter Tryz.func225, Tryz.ntmps225
    go_wp2_with (first | (go_at_call 253; refine (tconst _ _ (by decide) (by decide)).mono ?_; rintro e w' ⟨rfl, rfl⟩))
    go_ret
    exact ⟨retf (by kernel_rfl), rfl⟩

end Go.Proofs.YtmpkcioeodlbcaaGreatDoor
namespace Go.Proofs.YtmpkcioeodlbcaaGreatDoor
open Fl RowKit
set_option linter.unusedVariables false
theorem within_any (k : Int) (w : World) (h0 : -9223372036854775808 ≤ k) (h1 : k < 9223372036854775808) : Calls Tryz.prog 224 #[.int .i64 k] w fun e w' => e = .returned (.int .i64 (k % 24)) ∧ w' = w := by
  have hb := Int.emod_nonneg k (show (24 : Int) ≠ 0 by decide)
  have hl := Int.emod_lt_of_pos k (show (0 : Int) < 24 by decide)
  by_cases hn : k.tmod 24 < 0
  · have ht : k % 24 = k.tmod 24 + 24 := by rw [Int.tmod_eq_emod] at *; split at hn <;> split <;> omega
    have ht2 := Int.lt_tmod_of_pos k (show (0 : Int) < 24 by decide)
    go_enter Tryz.func224, Tryz.ntmps224
    go_wp2
    go_ret
    exact ⟨by rw [ht]; rfl, rfl⟩
  · have ht : k % 24 = k.tmod 24 := by rw [Int.tmod_eq_emod] at *; split at hn <;> split <;> omega
    go_enter Tryz.func224, Tryz.ntmps224
    go_wp2
    go_ret
    exact ⟨rfl, rfl⟩

/-- The parts of the number at k steps. -/
def rtR (k : Int) : Nat := cw (k % 24)
def rtI (k : Int) : Nat := cw ((k - 6) % 24)
theorem root_any (k : Int) (w : World) (h0 : -9223372036854775808 ≤ k) (h1 : k < 9223372036854775808) : Calls Tryz.prog 200 #[.int .i64 k] w fun e w' => e = .returned (.complex .f64 (rtR k) (rtI k)) ∧ w' = w := by
  have hb := Int.emod_nonneg k (show (24 : Int) ≠ 0 by decide)
  have hl := Int.emod_lt_of_pos k (show (0 : Int) < 24 by decide)
  go_enter Tryz.func200, Tryz.ntmps200
  go_wp2_with (first
    | (go_at_call 224; refine (within_any _ _ (by omega) (by omega)).mono ?_; rintro e w' ⟨rfl, rfl⟩)
    | (go_at_call 225; refine (tcosine _ _ (by omega) (by omega)).mono ?_; rintro e w' ⟨rfl, rfl⟩))
  go_ret
  exact ⟨retc rfl rfl, rfl⟩

end Go.Proofs.YtmpkcioeodlbcaaGreatDoor
namespace Go.Proofs.YtmpkcioeodlbcaaGreatDoor
open Fl RowKit
theorem ksameR_any (a b : Nat) (w : World) : Calls Tryz.prog 54 #[.float .f64 a, .float .f64 b] w fun e w' => e = .returned (.bool (smB a b)) ∧ w' = w := by
  by_cases hab : a = b
  · subst hab
    rw [smB_self]
    go_enter Tryz.func54, Tryz.ntmps54
    go_wp2
    go_ret
    exact ⟨rfl, rfl⟩
  · have hne : ¬ ((a : Int) = (b : Int)) := by omega
    have hnb : (a == b) = false := beq_false_of_ne hab
    cases ha : nan a <;> cases hb : nan b
    all_goals
      first | (have h1 := order_num ha) | (have h1 := order_nan ha)
      first | (have h2 := order_num hb) | (have h2 := order_nan hb)
      go_enter Tryz.func54, Tryz.ntmps54
      go_wp2
      go_ret
      refine ⟨retb ?_, rfl⟩
      simp [smB, ha, hb, hnb]
      try exact hne
theorem ksame_any (a b c d : Nat) (w : World) : Calls Tryz.prog 17 #[.complex .f64 a b, .complex .f64 c d] w fun e w' => e = .returned (.bool (smB a c && smB b d)) ∧ w' = w := by
  cases h1 : smB a c <;> cases h2 : smB b d
  all_goals
    go_enter Tryz.func17, Tryz.ntmps17
    go_wp2_with (first | (go_at_call 54; refine (ksameR_any _ _ _).mono ?_; rintro e w' ⟨rfl, rfl⟩))
    go_ret
    exact ⟨rfl, rfl⟩

end Go.Proofs.YtmpkcioeodlbcaaGreatDoor
namespace Go.Proofs.YtmpkcioeodlbcaaGreatDoor
open Fl RowKit
theorem cK_lt (k : Int) : cK k < 9223372036854775808 := by unfold cK; repeat' split
                                                           all_goals decide
theorem cw_lt (k : Int) : cw k < 18446744073709551616 := by
  have h := cK_lt
  unfold cw
  have h1 := h k; have h2 := h (24 - k)
  have h3 := ngW_lt (x := cK (12 - k)) (by have := h (12 - k); omega)
  have h4 := ngW_lt (x := cK (k - 12)) (by have := h (k - 12); omega)
  split
  · omega
  · split
    · exact h3
    · split
      · exact h4
      · omega
theorem rep_rtR (k : Int) : rep (ans (rtR k)) (rtR k) := rep_ans (cw_lt _)
theorem rep_rtI (k : Int) : rep (ans (rtI k)) (rtI k) := rep_ans (cw_lt _)

section one
variable {X : Option Nat} {x : Nat} (k : Int) (w : World) (hx : rep X x) (h0 : -9223372036854775808 ≤ k) (h1 : k < 9223372036854775808)
include hx h0 h1
theorem phasor_any : Calls Tryz.prog 160 #[.float .f64 x, .int .i64 k] w fun e w' => ∃ re im, e = .returned (.complex .f64 re im) ∧ rep (mulA X (ans (rtR k))) re ∧ rep (mulA X (ans (rtI k))) im ∧ Below w.heap.size w w' := by
  go_enter Tryz.func160, Tryz.ntmps160
  go_wp2_with (first
    | (go_at_call 200; refine (root_any k _ h0 h1).mono ?_; rintro e w' ⟨rfl, rfl⟩)
    | (go_at_call 199; refine (scale_any _ (rep_rtR k) (rep_rtI k) hx).mono ?_; rintro e w' ⟨re, im, n, rfl, h1, h2, rfl⟩))
  go_ret
  exact ⟨_, _, rfl, by assumption, by assumption, below_drewN (below_self _) _⟩
end one
section two
variable {A B : Option Nat} {a b : Nat} (k : Int) (w : World) (ha : rep A a) (hb : rep B b) (h0 : -9223372036854775808 ≤ k) (h1 : k < 9223372036854775808)
include ha hb h0 h1
end two
end Go.Proofs.YtmpkcioeodlbcaaGreatDoor
namespace Go.Proofs.YtmpkcioeodlbcaaGreatDoor
open Fl RowKit
set_option linter.unusedVariables false
theorem below_dN {m : Nat} {a b : World} (h : Below m a b) (n : Nat) : Below m a (b.drewN n) := by
  obtain ⟨h1, h2, h3, h4, h5⟩ := h
  exact ⟨h1, h2, h3, h4, h5⟩
theorem EC.dN {w W : World} {p n : Nat} {x : Elm} (h : EC w W p x) : EC w (W.drewN n) p x := ⟨below_dN h.bel n, h.e⟩
end Go.Proofs.YtmpkcioeodlbcaaGreatDoor
namespace Go.Proofs.YtmpkcioeodlbcaaGreatDoor
open Fl RowKit
set_option linter.unusedVariables false
/-- what a source's phasor is refused for -/
def phK (x : Elm) : Int := if chkI x = 0 then (if x.k = 4 ∨ x.k = 5 then 0 else 2) else chkI x
/-- a source's phasor -/
def phC (x : Elm) : Option Nat × Option Nat := if phK x = 0 then (mulA (ans x.v) (ans (rtR x.ph)), mulA (ans x.v) (ans (rtI x.ph))) else (some 0, some 0)
structure Elm.phb (x : Elm) : Prop where
  lo : -9223372036854775808 ≤ x.ph
  hi : x.ph < 9223372036854775808
theorem rep0 : rep (some 0) 0 := ⟨by decide, rfl⟩
theorem kinds45 (k : Nat) : k = 4 ∨ k = 5 ∨ (k ≠ 4 ∧ k ≠ 5) := by omega
theorem sphasor_any (x : Elm) (w : World) (h : x.ok) (hp : x.phb) (hv : x.v < 18446744073709551616) :
    Calls Tryz.prog 121 #[elV x] w fun e w' => ∃ re im, e = .returned (.tuple #[.complex .f64 re im, .int .i64 (phK x)]) ∧ rep (phC x).1 re ∧ rep (phC x).2 im ∧ Below w.heap.size w w' := by
  have E0 : Hid (EC w (w.alloc (.cells (elA x) 96)) w.heap.size x) := ec_new w x
  have HP := fun W => phasor_any (X := ans x.v) (x := x.v) x.ph W (rep_ans hv) hp.lo hp.hi
  have HPH : Hid _ := HP
  clear HP
  by_cases hc : chkI x = 0
  · have HC : Hid (∀ W, Calls Tryz.prog 81 #[.agg #[.int .u8 (x.k : Int), .string x.n, .string x.a, .string x.b, .string x.c, .string x.d, .float .f64 x.v, .int .i64 x.ph]] W fun e w' => e = .returned (.int .i64 0) ∧ Below W.heap.size W w') := fun W => by have := chk_wA x W h; rwa [hc] at this
    rcases kinds45 x.k with hk | hk | ⟨k4, k5⟩
    · have hr : phK x = 0 := by unfold phK; rw [if_pos hc, if_pos (.inl hk)]
      unfold phC
      rw [hr, if_pos rfl]
      have b4 : ((x.k : Int) != 4) = false := by rw [hk]; rfl
      clear hr hc hk
      unfold elV
      go_enter Tryz.func121, Tryz.ntmps121
      go_wp2_with (first
        | (go_at_call 81; (with_reducible refine (HC.out _).mono ?_); rintro e w1 ⟨rfl, hb⟩; (have E1 : Hid _ := E0.out.below hb); (obtain ⟨l1, c10, c11, c12, c13, c14, c15, c16, c17⟩ := E1.out.f); clear hb E0)
        | (go_at_call 160; (with_reducible refine (HPH.out _).mono ?_); rintro e w2 ⟨re, im, rfl, h1, h2, hb⟩; (have E2 : Hid _ := E1.out.below hb); clear hb E1))
      go_ret2
      exact ⟨_, _, rfl, h1, h2, E2.out.bel⟩
    · have hr : phK x = 0 := by unfold phK; rw [if_pos hc, if_pos (.inr hk)]
      unfold phC
      rw [hr, if_pos rfl]
      have b4 : ((x.k : Int) != 4) = true := by rw [hk]; rfl
      have b5 : ((x.k : Int) != 5) = false := by rw [hk]; rfl
      clear hr hc hk
      unfold elV
      go_enter Tryz.func121, Tryz.ntmps121
      go_wp2_with (first
        | (go_at_call 81; (with_reducible refine (HC.out _).mono ?_); rintro e w1 ⟨rfl, hb⟩; (have E1 : Hid _ := E0.out.below hb); (obtain ⟨l1, c10, c11, c12, c13, c14, c15, c16, c17⟩ := E1.out.f); clear hb E0)
        | (go_at_call 160; (with_reducible refine (HPH.out _).mono ?_); rintro e w2 ⟨re, im, rfl, h1, h2, hb⟩; (have E2 : Hid _ := E1.out.below hb); clear hb E1))
      go_ret2
      exact ⟨_, _, rfl, h1, h2, E2.out.bel⟩
    · have hr : phK x = 2 := by unfold phK; rw [if_pos hc, if_neg (by omega)]
      unfold phC
      rw [hr, if_neg (by decide)]
      have b4 : ((x.k : Int) != 4) = true := by rw [bne_iff_ne]; omega
      have b5 : ((x.k : Int) != 5) = true := by rw [bne_iff_ne]; omega
      clear hr hc k4 k5
      unfold elV
      go_enter Tryz.func121, Tryz.ntmps121
      go_wp2_with (first
        | (go_at_call 81; (with_reducible refine (HC.out _).mono ?_); rintro e w1 ⟨rfl, hb⟩; (have E1 : Hid _ := E0.out.below hb); (obtain ⟨l1, c10, c11, c12, c13, c14, c15, c16, c17⟩ := E1.out.f); clear hb E0))
      go_ret2
      exact ⟨_, _, rfl, rep0, rep0, E1.out.bel⟩
  · have hr : phK x = chkI x := by unfold phK; rw [if_neg hc]
    unfold phC
    rw [hr, if_neg hc]
    have hq : (chkI x != 0) = true := by simp [hc]
    clear hr hc
    unfold elV
    go_enter Tryz.func121, Tryz.ntmps121
    go_wp2_with (first
      | (go_at_call 81; (with_reducible refine (chk_wA x _ h).mono ?_); rintro e w1 ⟨rfl, hb⟩; (have E1 : Hid _ := E0.out.below hb); (obtain ⟨l1, c10, c11, c12, c13, c14, c15, c16, c17⟩ := E1.out.f); clear hb E0))
    go_ret2
    exact ⟨_, _, rfl, rep0, rep0, E1.out.bel⟩
end Go.Proofs.YtmpkcioeodlbcaaGreatDoor
