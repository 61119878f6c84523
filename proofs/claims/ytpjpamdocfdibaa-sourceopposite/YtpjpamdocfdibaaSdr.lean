/-
  The program's right side of a port; what is told of no net.
-/
import Derived.Test.YtpjpamdocfdibaaSrr
import Derived.Test.YtpjpamdocfdibaaSfd
namespace Go.Proofs.Ytpjpamdocfdibaa
open Fl Go.Maps RowKit Joins Deep
set_option linter.unusedVariables false

/-- one ampere -/
def o1 : Cn := anz (4607182418800017408, 0)
theorem o1_ok : okz (4607182418800017408, 0) := ⟨by decide, by decide⟩
/-- the numbers of a port -/
def drR (N : Ns) (x : Elm) : Nat → Cn := rput subZ (plI N x.b) o1 (rput addZ (plI N x.a) o1 noC)
theorem sright_none {w : World} {v : Value} (h : NoNet v w) : Calls Try.prog 25 #[v] w fun e w' => e = .returned (.tuple #[.slice none 0 0, .agg #[.int .i64 1, .int .i64 (-1)]]) ∧ Below w.heap.size w w' := by
  have HW := hidS (smade_no (h.al (.cells #[.int .i64 0, .int .i64 0] 29)))
  go_enter Try.func25, Try.ntmps25
  go_wp2_with (go_at_call 59; (with_reducible refine (HW.out).mono ?_); rintro e w1 ⟨rfl, hw⟩; subst w1)
  (try simp only [Exit.inBlock, Exit.then])
  refine bodyPost_ret (by simp [results, Try.results25, go_sem]; try rfl) rfl ?_
  exact ⟨rfl, bal w _⟩
theorem sdriven_none {w : World} {v : Value} (h : NoNet v w) (s : ByteArray) : Calls Try.prog 27 #[v, .string s] w fun e w' => e = .returned (.tuple #[.slice none 0 0, .agg #[.int .i64 1, .int .i64 (-1)]]) ∧ Below w.heap.size w w' := by
  have HW := hidS (smade_no (h.al (.cells #[.int .i64 0, .int .i64 0] 29)))
  go_enter Try.func27, Try.ntmps27
  go_wp2_with (go_at_call 59; (with_reducible refine (HW.out).mono ?_); rintro e w1 ⟨rfl, hw⟩; subst w1)
  (try simp only [Exit.inBlock, Exit.then])
  refine bodyPost_ret (by simp [results, Try.results27, go_sem]; try rfl) rfl ?_
  exact ⟨rfl, bal w _⟩
set_option maxHeartbeats 400000 in
theorem sdriven_no {w : World} {nb p : Nat} {N : Ns} {b : Nb} (h : Nt w nb p N b) (hm : Md N) (s : ByteArray) (hs : s.size ≤ 140737488351232) (hx : ∀ x, fnd N.es (bl s) = some x → x.k ≠ 8) :
    Calls Try.prog 27 #[.pointer (some ⟨p, 0, none⟩), .string s] w fun e w' => e = .returned (.tuple #[.slice none 0 0, .agg #[.int .i64 10, .int .i64 (-1)]]) ∧ Below w.heap.size w w' := by
  have HM := hidS hm
  have HNT := hidS (h.below (bal w (.cells #[.int .i64 0, .int .i64 0] 29)))
  obtain ⟨wF, hwF⟩ : ∃ wF, w.alloc (.cells #[.int .i64 0, .int .i64 0] 29) = wF := ⟨_, rfl⟩
  obtain ⟨F, hF⟩ : ∃ F, w.heap.size = F := ⟨_, rfl⟩
  have HF : Hid (wF.heap[F]? = some (.cells #[.int .i64 0, .int .i64 0] 29 (0, 0)) ∧ wF.heap.size = F + 1 ∧ Below F w wF ∧ w.heap.size = F) := by
    rw [← hwF, ← hF]
    exact ⟨heap_alloc_new w _, by simp, (Below.refl _ w).alloc (Nat.le_refl _) _, rfl⟩
  rw [hwF] at HNT
  have HMD := hidS (smade_yes HNT.out HM.out.nn)
  rcases hfx : fnd N.es (bl s) with _ | x
  · have HFD := hidS (find_no HNT.out HM.out.nv s hs hfx)
    have hz : elV elZ = .agg #[.int .u8 0, .string ⟨#[]⟩, .string ⟨#[]⟩, .string ⟨#[]⟩, .string ⟨#[]⟩, .string ⟨#[]⟩, .float .f64 0, .int .i64 0] := rfl
    rw [hz] at HFD
    clear hz
    clear hx hfx h hm hs
    go_enter Try.func27, Try.ntmps27
    go_wp2_with (first
      | (go_at_call 59; (with_reducible refine (HMD.out).mono ?_); rintro e w1 ⟨rfl, hw⟩; subst w1)
      | (go_at_call 39; (with_reducible refine (HFD.out).mono ?_); rintro e w1 ⟨rfl, hb1⟩; (have hbe := hb1.alloc hb1.size (.cells #[.int .u8 0, .string ⟨#[]⟩, .string ⟨#[]⟩, .string ⟨#[]⟩, .string ⟨#[]⟩, .string ⟨#[]⟩, .float .f64 0, .int .i64 0] 57)); (have hF1 : (w1.alloc (.cells #[.int .u8 0, .string ⟨#[]⟩, .string ⟨#[]⟩, .string ⟨#[]⟩, .string ⟨#[]⟩, .string ⟨#[]⟩, .float .f64 0, .int .i64 0] 57)).heap[F]? = some (.cells #[.int .i64 0, .int .i64 0] 29 (0, 0)) := (by rw [hbe.block F (by have := HF.out.2.1; omega)]; exact HF.out.1)); (obtain ⟨t0, t1, t2, t3⟩ := tw_c hF1); (obtain ⟨y0, y1⟩ := tw_set hF1 (.int .i64 10) (.int .i64 (-1))); (have HB1 := hidS hbe); clear hb1 hbe))
    (try simp only [Exit.inBlock, Exit.then])
    refine bodyPost_ret (by simp [results, Try.results27, go_sem, y0, y1]; try rfl) rfl ?_
    refine ⟨rfl, tw_bel ?_ (by have := HF.out.2.2.2; omega) _ _⟩
    exact (HF.out.2.2.1.mono (by have := HF.out.2.2.2; omega)).trans (HB1.out.mono (by have := HF.out.2.1; have := HF.out.2.2.2; omega))
  · have hk := hx x hfx
    have HFD := hidS (find_yes HNT.out HM.out.nv HM.out.ln s hs hfx)
    unfold elV at HFD
    have bk : ((x.k : Int) != 8) = true := by rw [bne_iff_ne]; omega
    clear hx hfx h hm hs hk
    go_enter Try.func27, Try.ntmps27
    go_wp2_with (first
      | (go_at_call 59; (with_reducible refine (HMD.out).mono ?_); rintro e w1 ⟨rfl, hw⟩; subst w1)
      | (go_at_call 39; (with_reducible refine (HFD.out).mono ?_); rintro e w1 ⟨rfl, hb1⟩; (have hbe := hb1.alloc hb1.size (.cells #[.int .u8 (x.k : Int), .string x.n, .string x.a, .string x.b, .string x.c, .string x.d, .float .f64 x.v, .int .i64 x.ph] 57)); (obtain ⟨we, hwe⟩ : ∃ we, w1.alloc (.cells #[.int .u8 (x.k : Int), .string x.n, .string x.a, .string x.b, .string x.c, .string x.d, .float .f64 x.v, .int .i64 x.ph] 57) = we := ⟨_, rfl⟩); (obtain ⟨qe, hqe⟩ : ∃ qe, w1.heap.size = qe := ⟨_, rfl⟩); (have hel := heap_alloc_new w1 (.cells #[.int .u8 (x.k : Int), .string x.n, .string x.a, .string x.b, .string x.c, .string x.d, .float .f64 x.v, .int .i64 x.ph] 57)); rw [hwe] at hbe hel; rw [hqe] at hel; (obtain ⟨⟨d0, d1, d2, d3, d4, d5, d6, d7⟩, z8⟩ := eight hel); (have hF1 : we.heap[F]? = some (.cells #[.int .i64 0, .int .i64 0] 29 (0, 0)) := (by rw [hbe.block F (by have := HF.out.2.1; omega)]; exact HF.out.1)); (obtain ⟨t0, t1, t2, t3⟩ := tw_c hF1); (obtain ⟨y0, y1⟩ := tw_set hF1 (.int .i64 10) (.int .i64 (-1))); (have HB1 := hidS hbe); clear hb1 hbe hel z8))
    (try simp only [Exit.inBlock, Exit.then])
    refine bodyPost_ret (by simp [results, Try.results27, go_sem, y0, y1]; try rfl) rfl ?_
    refine ⟨rfl, tw_bel ?_ (by have := HF.out.2.2.2; omega) _ _⟩
    exact (HF.out.2.2.1.mono (by have := HF.out.2.2.2; omega)).trans (HB1.out.mono (by have := HF.out.2.1; have := HF.out.2.2.2; omega))
set_option maxHeartbeats 4000000 in
theorem sdriven_yes {w : World} {nb p : Nat} {N : Ns} {b : Nb} (h : Nt w nb p N b) (hm : Md N) (s : ByteArray) (hs : s.size ≤ 140737488351232) {x : Elm} (hfx : fnd N.es (bl s) = some x) (hk : x.k = 8) :
    Calls Try.prog 27 #[.pointer (some ⟨p, 0, none⟩), .string s] w fun e w' => ∃ v, e = .returned (.tuple #[v, .agg #[.int .i64 0, .int .i64 0]]) ∧ Nr w' w.heap.size v (N.nd.length + N.br.length) (drR N x) ∧ Below w.heap.size w w' := by
  have HM := hidS hm
  have HNT := hidS (h.below (bal w (.cells #[.int .i64 0, .int .i64 0] 29)))
  obtain ⟨wF, hwF⟩ : ∃ wF, w.alloc (.cells #[.int .i64 0, .int .i64 0] 29) = wF := ⟨_, rfl⟩
  obtain ⟨F, hF⟩ : ∃ F, w.heap.size = F := ⟨_, rfl⟩
  have HF : Hid (wF.heap[F]? = some (.cells #[.int .i64 0, .int .i64 0] 29 (0, 0)) ∧ wF.heap.size = F + 1 ∧ Below F w wF ∧ w.heap.size = F) := by
    rw [← hwF, ← hF]
    exact ⟨heap_alloc_new w _, by simp, (Below.refl _ w).alloc (Nat.le_refl _) _, rfl⟩
  rw [hwF] at HNT
  have HMD := hidS (smade_yes HNT.out HM.out.nn)
  have HFD := hidS (find_yes HNT.out HM.out.nv HM.out.ln s hs hfx)
  have HX := hidS (fnd_mem hfx)
  unfold elV at HFD
  have bk : ((x.k : Int) != 8) = false := by rw [hk]; rfl
  clear hfx h hm hs hk
  go_enter Try.func27, Try.ntmps27
  go_wp2_with (first
    | (go_at_call 59; (with_reducible refine (HMD.out).mono ?_); rintro e w1 ⟨rfl, hw⟩; subst w1)
    | (go_at_call 39; (with_reducible refine (HFD.out).mono ?_); rintro e w1 ⟨rfl, hb1⟩; (have hbe := hb1.alloc hb1.size (.cells #[.int .u8 (x.k : Int), .string x.n, .string x.a, .string x.b, .string x.c, .string x.d, .float .f64 x.v, .int .i64 x.ph] 57)); (obtain ⟨we, hwe⟩ : ∃ we, w1.alloc (.cells #[.int .u8 (x.k : Int), .string x.n, .string x.a, .string x.b, .string x.c, .string x.d, .float .f64 x.v, .int .i64 x.ph] 57) = we := ⟨_, rfl⟩); (obtain ⟨qe, hqe⟩ : ∃ qe, w1.heap.size = qe := ⟨_, rfl⟩); (have hel := heap_alloc_new w1 (.cells #[.int .u8 (x.k : Int), .string x.n, .string x.a, .string x.b, .string x.c, .string x.d, .float .f64 x.v, .int .i64 x.ph] 57)); (have hz : qe < we.heap.size := (by rw [← hqe, ← hwe]; simp)); (have hz0 : wF.heap.size ≤ qe := (by rw [← hqe]; exact hb1.size)); rw [hwe] at hbe hel; rw [hqe] at hel; (obtain ⟨⟨d0, d1, d2, d3, d4, d5, d6, d7⟩, z8⟩ := eight hel); (have HB1 := hidS hbe); (have HEL := hidS (And.intro hel (And.intro hz hz0))); (have HN1 := hidS (HNT.out.below hbe)); clear hb1 hbe hel z8 hz hz0)
    | (go_at_call 60; (with_reducible refine (snew_any HN1.out HM.out.nd HM.out.nb).mono ?_); rintro e w2 ⟨s2, v2, rfl, hs2, hsw, hb2⟩; (have HS2 := hidS hsw); (have HE2 : Hid (w2.heap[qe]? = some (.cells #[.int .u8 (x.k : Int), .string x.n, .string x.a, .string x.b, .string x.c, .string x.d, .float .f64 x.v, .int .i64 x.ph] 57 (0, 0))) := (by rw [hb2.block qe HEL.out.2.1]; exact HEL.out.1)); (obtain ⟨⟨d0, d1, d2, d3, d4, d5, d6, d7⟩, z8⟩ := eight HE2.out); clear hb2 hsw z8))
  clear d0 d1 d4 d5 d6 d7
  refine (dplace_any HS2.out x.a (by have := (HM.out.sh HX.out).2.1; omega)).mono ?_
  rintro e3 w3 ⟨rfl, hw⟩
  subst w3
  clear d2
  have HPA := hidS (sdput_any ent2_add op2_add HS2.out.sd (plI_lo N x.a) (by have := @plI_hi N x.a; omega) o1_ok _ rfl)
  have HPA := hidS (HPA.out.mono (R' := fun e w' => (∃ k : Int, e = .returned (.int .i64 k)) ∧ Sd w' we.heap.size s2 p v2 (N.nd.length + N.br.length) N.nd.length (rput addZ (plI N x.a) o1 noC) ∧ Kv we.heap.size v2 w2 w') (by rintro e w' ⟨rfl, h1, h2⟩; exact ⟨⟨_, rfl⟩, h1, h2⟩))
  go_wp2_with fail
  clear d3
  refine HPA.out.mono ?_
  rintro e4 w4 ⟨⟨k4, rfl⟩, h1, h2⟩
  have HS4 := hidS (HS2.out.step h1 h2)
  have HE4 : Hid (w4.heap[qe]? = some (.cells #[.int .u8 (x.k : Int), .string x.n, .string x.a, .string x.b, .string x.c, .string x.d, .float .f64 x.v, .int .i64 x.ph] 57 (0, 0))) := by
    rw [h2.bel.block qe HEL.out.2.1]; exact HE2.out
  obtain ⟨⟨d0, d1, d2, d3, d4, d5, d6, d7⟩, z8⟩ := eight HE4.out
  clear h1 h2 z8 d0 d1 d2 d4 d5 d6 d7 HPA
  go_wp2_with fail
  refine (dplace_any HS4.out x.b (by have := (HM.out.sh HX.out).2.2.1; omega)).mono ?_
  rintro e5 w5 ⟨rfl, hw⟩
  subst w5
  clear d3
  have HPB := hidS (sdput_any ent2_sub op2_sub HS4.out.sd (plI_lo N x.b) (by have := @plI_hi N x.b; omega) o1_ok _ rfl)
  have HPB := hidS (HPB.out.mono (R' := fun e w' => (∃ k : Int, e = .returned (.int .i64 k)) ∧ Sd w' we.heap.size s2 p v2 (N.nd.length + N.br.length) N.nd.length (drR N x) ∧ Kv we.heap.size v2 w4 w') (by rintro e w' ⟨rfl, h1, h2⟩; exact ⟨⟨_, rfl⟩, h1, h2⟩))
  go_wp2_with fail
  refine HPB.out.mono ?_
  rintro e6 w6 ⟨⟨k6, rfl⟩, h1, h2⟩
  have HS6 := hidS (HS4.out.step h1 h2)
  clear h1 h2 HPB
  have c2 := HS6.out.sd.c2
  have hFr : w6.heap[F]? = some (.cells #[.int .i64 0, .int .i64 0] 29 (0, 0)) := by
    rw [HS6.out.bel.block F (by have := HF.out.2.1; have := HB1.out.size; omega), HB1.out.block F (by have := HF.out.2.1; omega)]; exact HF.out.1
  obtain ⟨z0, z1, z2, z3⟩ := tw_c hFr
  obtain ⟨y0, y1⟩ := tw_set hFr (.int .i64 0) (.int .i64 0)
  go_wp2_with fail
  (try simp only [Exit.inBlock, Exit.then])
  refine bodyPost_ret (by simp [results, Try.results27, go_sem, y0, y1]; try rfl) rfl ?_
  have hw0 := HF.out.2.2.2
  have hw1 := HF.out.2.1
  have hw2 := HB1.out.size
  refine ⟨v2, rfl, ?_, tw_bel ?_ (by omega) _ _⟩
  · refine (HS6.out.sd.row.but (fun q k1 k2 => ?_)).lower (by omega)
    rw [heap_setCell_other _ _ _ _ (by simp; omega), heap_setCell_other _ _ _ _ (by simp; omega)]
  · exact ((HF.out.2.2.1.mono (by omega)).trans (HB1.out.mono (by omega))).trans (HS6.out.bel.mono (by omega))
end Go.Proofs.Ytpjpamdocfdibaa
