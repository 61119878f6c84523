/-
  Several texts in one: Srr Sdr Swp Srx Gpa Stx.
-/
import Derived.Test.YtmpkcioeodlbcaaGreatDoorK37
import Derived.Test.YtmpkcioeodlbcaaGreatDoorK36
import Derived.Deep.Onto
import Derived.Test.YtmpkcioeodlbcaaGreatDoorK32
import Derived.Test.YtmpkcioeodlbcaaGreatDoorK35
import Derived.Test.YtmpkcioeodlbcaaGreatDoorK19
import Derived.BigQuiet
import Derived.Deep.QuietTactic
import Derived.Deep.RegionWith
import Derived.ProofKit
import Derived.OpenShut
import Derived.ShutString
import Derived.ChangeOld
import Derived.Below
import Derived.SizedLaws
import Derived.Lib.SmallJoins
import Derived.Test.YtmpkcioeodlbcaaGreatDoorK23
import Derived.Test.YtmpkcioeodlbcaaGreatDoorK26
import Derived.Deep.Slices
import Derived.Deep.SlicePairs
import Derived.Deep.RegionHeldLaw
namespace Go.Proofs.YtmpkcioeodlbcaaGreatDoor
open Fl Go.Maps RowKit Joins Deep
set_option linter.unusedVariables false
/-- what Right tells of a net that is made -/
def RgP (w : World) (N : Ns) (e : Ending) (w' : World) : Prop :=
  Below w.heap.size w w' ∧ ((rgL N N.es noC 0).1 = (0, 0) ∧ (∃ v, e = .returned (.tuple #[v, .agg #[.int .i64 0, .int .i64 0]]) ∧ Nr w' w.heap.size v (N.nd.length + N.br.length) (rgL N N.es noC 0).2) ∨ ∃ i : Nat, (rgL N N.es noC 0).1 = (6, (i : Int)) ∧ i < N.es.length ∧ e = .returned (.tuple #[.slice none 0 0, .agg #[.int .i64 6, .int .i64 i]]))
/-- while Right goes on -/
structure Rt_Srr (wF wr : World) (nb p : Nat) (N : Ns) (b : Nb) (B1 s : Nat) (v v2 : Value) (R : Nat → Cn) : Prop where
  sw : Sw wF wr nb p N b wF.heap.size s v R
  el : wr.ownsRow B1 96 8 v2 N.es.length (elCs N.es)
  vb : ∀ g, v.ownBlock = some g → g < B1
theorem Rt_Srr.on {wF w w' : World} {nb p : Nat} {N : Ns} {b : Nb} {B1 s : Nat} {v v2 : Value} {R : Nat → Cn} (h : Rt_Srr wF w nb p N b B1 s v v2 R) (hb : Below w.heap.size w w') : Rt_Srr wF w' nb p N b B1 s v v2 R := ⟨h.sw.on hb, own_below h.el hb, h.vb⟩
theorem Rt_Srr.drew {wF w : World} {nb p : Nat} {N : Ns} {b : Nb} {B1 s : Nat} {v v2 : Value} {R : Nat → Cn} (h : Rt_Srr wF w nb p N b B1 s v v2 R) : Rt_Srr wF w.drew nb p N b B1 s v v2 R := h.on ((Below.refl _ _).drew)
theorem Rt_Srr.put {wF w w' : World} {nb p : Nat} {N : Ns} {b : Nb} {B1 s : Nat} {v v2 : Value} {R R' : Nat → Cn} (h : Rt_Srr wF w nb p N b B1 s v v2 R) (h1 : Sd w' wF.heap.size s p v (N.nd.length + N.br.length) N.nd.length R') (k : Kv wF.heap.size v w w') : Rt_Srr wF w' nb p N b B1 s v v2 R' :=
  ⟨h.sw.step h1 k, row_block h.el (fun g hg => k.ot g (h.el.lt g hg).2 (fun e => by have h2 := h.vb g e; have h3 := (h.el.lt g hg).1; omega)), h.vb⟩
theorem Nr.but {w w' : World} {base n : Nat} {v : Value} {R : Nat → Cn} (h : Nr w base v n R) (hb : ∀ q, base ≤ q → q < w.heap.size → w'.heap[q]? = w.heap[q]?) : Nr w' base v n R := by
  obtain ⟨xs, h1, h2⟩ := h
  exact ⟨xs, ⟨h1.len, row_block h1.own (fun g hg => hb g (h1.own.lt g hg).1 (h1.own.lt g hg).2)⟩, h2⟩
theorem Nr.lower {w : World} {base base' n : Nat} {v : Value} {R : Nat → Cn} (h : Nr w base v n R) (hb : base' ≤ base) : Nr w base' v n R := by
  obtain ⟨xs, h1, h2⟩ := h
  exact ⟨xs, ⟨h1.len, h1.own.mono hb⟩, h2⟩
set_option maxHeartbeats 8000000 in
theorem sright_any {w : World} {nb p : Nat} {N : Ns} {b : Nb} (h : Nt w nb p N b) (hm : Md N) :
    Calls Tryz.prog 94 #[.pointer (some ⟨p, 0, none⟩)] w (RgP w N) := by
  have HM := hidS hm
  have HNT := hidS (h.below (bal w (.cells #[.int .i64 0, .int .i64 0] 69)))
  obtain ⟨wF, hwF⟩ : ∃ wF, w.alloc (.cells #[.int .i64 0, .int .i64 0] 69) = wF := ⟨_, rfl⟩
  obtain ⟨F, hF⟩ : ∃ F, w.heap.size = F := ⟨_, rfl⟩
  have HF : Hid (wF.heap[F]? = some (.cells #[.int .i64 0, .int .i64 0] 69 (0, 0)) ∧ wF.heap.size = F + 1 ∧ Below F w wF ∧ w.heap.size = F) := by
    rw [← hwF, ← hF]
    exact ⟨heap_alloc_new w _, by simp, (Below.refl _ w).alloc (Nat.le_refl _) _, rfl⟩
  rw [hwF] at HNT
  go_enter Tryz.func94, Tryz.ntmps94
  go_wp2_with fail
  clear hwF hF h hm
  refine (smade_yes HNT.out HM.out.nn).mono ?_
  rintro e1 w1 ⟨rfl, hw⟩
  subst w1
  go_wp2_with fail
  refine (snew_any HNT.out HM.out.nd HM.out.nb).mono ?_
  rintro e1 w1 ⟨s, v, rfl, hs, hsw, hb1⟩
  have HS := hidS hsw
  have HB1 := hidS hb1
  clear hsw hb1
  go_wp2_with fail
  refine (elements_made HS.out.net (by have := HM.out.ln; omega)).mono ?_
  rintro e2 w2 ⟨v2, rfl, ho2, hb2⟩
  obtain ⟨A2, cA, rfl⟩ := drow_slice ho2
  have HT : Hid (Rt_Srr wF w2 nb p N b w1.heap.size s v (.slice A2 N.es.length cA) noC) := ⟨HS.out.on hb2, ho2, fun g hg => by
    obtain ⟨xs, h1, _⟩ := HS.out.sd.row
    exact (h1.own.lt g hg).2⟩
  obtain ⟨B1, hB1⟩ : ∃ B1, w1.heap.size = B1 := ⟨_, rfl⟩
  rw [hB1] at HT
  clear ho2 hb2 HS HB1 hB1
  have HLN := hidS HM.out.ln
  obtain ⟨n, hn⟩ : ∃ n, N.es.length = n := ⟨_, rfl⟩
  have HN := hidS hn
  rw [hn]
  have HT0 : Hid (∃ R, Rt_Srr wF w2 nb p N b B1 s v (.slice A2 n cA) R ∧ rgL N (N.es.drop 0) R 0 = rgL N N.es noC 0) := ⟨noC, by rw [← hn]; exact HT.out, rfl⟩
  clear hn HT
  go_wp2_with fail
  go_loopw [20] (fun iv wr => ∃ (i : Nat), i ≤ n ∧ iv = .int .i64 i ∧ Hid (∃ R, Rt_Srr wF wr nb p N b B1 s v (.slice A2 n cA) R ∧ rgL N (N.es.drop i) R i = rgL N N.es noC 0)) (fun iv _ => n - (intOf iv).toNat)
  case atStart => exact ⟨0, Nat.zero_le _, rfl, HT0⟩
  case round =>
    obtain ⟨i, hle, rfl, HI0⟩ := hrel
    clear HT0
    obtain ⟨R, hRt, hrest⟩ := HI0.out
    have HI := hidS hRt
    have HRS := hidS hrest
    clear hRt hrest HI0
    by_cases hlt : i < n
    · have hli : (i : Int) < (n : Int) := by omega
      obtain ⟨x, hx⟩ : ∃ x, N.es[i]? = some x := ⟨_, List.getElem?_eq_getElem (by have := HN.out; omega)⟩
      have hel := HI.out.el
      rw [HN.out] at hel
      obtain ⟨ga, ca, he, hE⟩ := de8_row hel HN.out hx
      clear hel
      injection he with he1 he2 he3
      subst he1 he3
      clear he2
      obtain ⟨c0, c1, c2, c3, c4, c5, c6, c7⟩ := hE
      have HXM := hidS (List.mem_of_getElem? hx)
      have HX := hidS hx
      clear hx
      have HPH := hidS (fun W => sphasor_any x W (HM.out.ok x HXM.out) (HM.out.pb x HXM.out) (HM.out.ok x HXM.out).v)
      unfold elV at HPH
      obtain ⟨we, hwe⟩ : ∃ we, wr.alloc (.cells #[.int .u8 (x.k : Int), .string x.n, .string x.a, .string x.b, .string x.c, .string x.d, .float .f64 x.v, .int .i64 x.ph] 96) = we := ⟨_, rfl⟩
      obtain ⟨q, hq⟩ : ∃ q, wr.heap.size = q := ⟨_, rfl⟩
      have HE : Hid (Rt_Srr wF we nb p N b B1 s v (.slice (some ⟨ga, 0, none⟩) n cA) R ∧ we.heap[q]? = some (.cells (elA x) 96 (0, 0)) ∧ q < we.heap.size) := by
        rw [← hwe, ← hq]
        exact ⟨HI.out.on (bal wr _), heap_alloc_new wr _, by simp⟩
      obtain ⟨⟨d0, d1, d2, d3, d4, d5, d6, d7⟩, z8⟩ := eight HE.out.2.1
      clear z8
      clear HI
      go_wp2_with fail
      clear d0 d1 d2 d3 d4 d5 d6 d7 hwe hq c0 c1 c2 c3 c4 c5 c6 c7
      refine (HPH.out _).mono ?_
      rintro e3 w3 ⟨re, im, rfl, hr1, hr2, hb3⟩
      have HR3 := hidS (And.intro hr1 hr2)
      have HE3 : Hid (Rt_Srr wF w3 nb p N b B1 s v (.slice (some ⟨ga, 0, none⟩) n cA) R ∧ w3.heap[q]? = some (.cells (elA x) 96 (0, 0)) ∧ q < w3.heap.size) := ⟨HE.out.1.on hb3, by rw [hb3.block q HE.out.2.2]; exact HE.out.2.1, Nat.lt_of_lt_of_le HE.out.2.2 hb3.size⟩
      obtain ⟨⟨d0, d1, d2, d3, d4, d5, d6, d7⟩, z8⟩ := eight HE3.out.2.1
      clear z8
      clear hr1 hr2 hb3 HE HPH
      have HEN := hidS (fun W (q : Sw wF W nb p N b wF.heap.size s v R) => entries_any q x (by have := (HM.out.sh HXM.out).1; omega) (by have := (HM.out.sh HXM.out).2.1; omega) (by have := (HM.out.sh HXM.out).2.2.1; omega))
      unfold elV at HEN
      go_wp2_with fail
      clear d0 d1 d2 d3 d4 d5 d6 d7
      have HLO : Hid (B1 ≤ w3.heap.size) := by
        have h1 := HE3.out.1.el.lt ga rfl
        exact Nat.le_of_lt (Nat.lt_of_le_of_lt h1.1 h1.2)
      refine (HEN.out _ HE3.out.1.sw).mono ?_
      rintro e4 w4 ⟨A4, rfl, hty, hb4⟩
      have HY : Hid (anz (re, im) = phC x ∧ okz (re, im)) := by
        have h1 : repz (phC x) (re, im) := HR3.out
        exact ⟨h1.anz, h1.ok⟩
      have HI4 : Hid (Rt_Srr wF w4 nb p N b B1 s v (.slice (some ⟨ga, 0, none⟩) n cA) (rJ N x (phC x) R 0) ∧ Ety w3.heap.size w4 A4 (eM x) (eI N x) (eF x) ∧ ∀ k, k < 0 → rG N x (phC x) R k = true) := ⟨HE3.out.1.on hb4, hty, fun k hk => absurd hk (Nat.not_lt_zero k)⟩
      obtain ⟨lo, hlo⟩ : ∃ lo, w3.heap.size = lo := ⟨_, rfl⟩
      rw [hlo] at HI4 HLO
      have HML := hidS (eM_le x)
      obtain ⟨m, hm⟩ : ∃ m, eM x = m := ⟨_, rfl⟩
      have HMM := hidS hm
      rw [hm] at HI4 HML ⊢
      have hm2 := HML.out
      clear hty hb4 HE3 HEN HR3 hlo hm
      go_wp2_with fail
      go_loopw [34] (fun jv wr => ∃ (j : Nat), j ≤ m ∧ jv = .int .i64 j ∧ Hid (Rt_Srr wF wr nb p N b B1 s v (.slice (some ⟨ga, 0, none⟩) n cA) (rJ N x (phC x) R j) ∧ Ety lo wr A4 m (eI N x) (eF x) ∧ ∀ k, k < j → rG N x (phC x) R k = true)) (fun jv _ => m - (intOf jv).toNat)
      case atStart => exact ⟨0, Nat.zero_le _, rfl, HI4⟩
      case round =>
        obtain ⟨j, hjle, rfl, HJ⟩ := hrel
        clear HI4
        by_cases hjlt : j < m
        · have hjli : (j : Int) < (m : Int) := by omega
          obtain ⟨q4, rfl, hq1, hq2, k0, k1⟩ := HJ.out.2.1 j hjlt
          obtain ⟨wb, hwb⟩ : ∃ wb, wr.alloc (.cells #[.int .i64 (eI N x j), .func (.func (eF x j)) #[] #[]] 187) = wb := ⟨_, rfl⟩
          obtain ⟨qb, hqb⟩ : ∃ qb, wr.heap.size = qb := ⟨_, rfl⟩
          have HWB : Hid (Below wr.heap.size wr wb ∧ Rt_Srr wF wb nb p N b B1 s v (.slice (some ⟨ga, 0, none⟩) n cA) (rJ N x (phC x) R j) ∧ Ety lo wb (some ⟨q4, 0, none⟩) m (eI N x) (eF x)) := by
            rw [← hwb]
            exact ⟨bal wr _, HJ.out.1.on (bal wr _), HJ.out.2.1.on (bal wr _)⟩
          have b0 : wb.cell? ⟨qb, 0, none⟩ = some (.int .i64 (eI N x j)) := by rw [← hwb, ← hqb, cell_of_row _ _ _ _ _ (0, 0) (heap_alloc_new wr _)]; rfl
          have b1 : wb.cell? ⟨qb, 1, none⟩ = some (.func (.func (eF x j)) #[] #[]) := by rw [← hwb, ← hqb, cell_of_row _ _ _ _ _ (0, 0) (heap_alloc_new wr _)]; rfl
          obtain ⟨f, hf⟩ : ∃ f, rG N x (phC x) R j = f := ⟨_, rfl⟩
          have HFF := hidS hf
          have HPUT : Hid (Calls Tryz.prog 123 #[.pointer (some ⟨s, 0, none⟩), .agg #[.int .i64 (eI N x j), .func (.func (eF x j)) #[] #[]], .complex .f64 re im] wb fun e w' => e = .returned (.int .i64 (if f = true then 0 else 6)) ∧ Sd w' wF.heap.size s p v (N.nd.length + N.br.length) N.nd.length (rJ N x (phC x) R (j + 1)) ∧ Kv wF.heap.size v wb w') := by
            have hh := sdput_any (ent_eF x j) (op2_eF x j) HWB.out.2.1.sw.sd (eI_lo N x j) (eI_hi (by rw [HMM.out]; exact hjlt) (fun k => HM.out.br5 HXM.out k)) HY.out.2 f (by rw [HY.out.1]; exact hf)
            rw [HY.out.1] at hh
            exact hh
          obtain ⟨ei, hei⟩ : ∃ ei, eI N x j = ei := ⟨_, rfl⟩
          obtain ⟨ef, hef⟩ : ∃ ef, eF x j = ef := ⟨_, rfl⟩
          rw [hei, hef] at HPUT hwb
          rw [hei] at k0 b0
          rw [hef] at k1 b1
          clear hei hef hf
          cases f
          · go_wp2_with fail
            clear k0 k1 b0 b1 hwb hqb
            refine HPUT.out.mono ?_
            rintro e5 w5 ⟨rfl, h51, h52⟩
            have HR5 := hidS (HWB.out.2.1.put h51 h52)
            have hF5 : w5.heap[F]? = some (.cells #[.int .i64 0, .int .i64 0] 69 (0, 0)) := by rw [HR5.out.sw.bel.block F (by have := HF.out.2.1; omega)]; exact HF.out.1
            obtain ⟨z0, z1, z2, z3⟩ := tw_c hF5
            obtain ⟨y0, y1⟩ := tw_set hF5 (.int .i64 6) (.int .i64 (i : Int))
            clear h51 h52
            go_wp2_with fail
            (try simp only [Exit.inBlock, Exit.then])
            refine bodyPost_ret (by simp [results, Tryz.results94, go_sem, y0, y1]; try rfl) rfl ?_
            have hbad : rgL N N.es noC 0 = ((6, (i : Int)), R) := by
              rw [← HRS.out, rgL_step HX.out, if_neg]
              rw [rok_no (j := j) (by rw [HMM.out]; exact hjlt) HFF.out]
              decide
            refine ⟨tw_bel ?_ (by have := HF.out.2.2.2; omega) _ _, .inr ⟨i, by rw [hbad], by have := HN.out; omega, rfl⟩⟩
            exact (HF.out.2.2.1.mono (by have := HF.out.2.2.2; omega)).trans (HR5.out.sw.bel.mono (by have := HF.out.2.1; have := HF.out.2.2.2; omega))
          · go_wp2_with fail
            clear k0 k1 b0 b1 hwb hqb
            refine HPUT.out.mono ?_
            rintro e5 w5 ⟨rfl, h51, h52⟩
            have HJ5 : Hid (Rt_Srr wF w5 nb p N b B1 s v (.slice (some ⟨ga, 0, none⟩) n cA) (rJ N x (phC x) R (j + 1)) ∧ Ety lo w5 (some ⟨q4, 0, none⟩) m (eI N x) (eF x) ∧ ∀ k, k < j + 1 → rG N x (phC x) R k = true) := ⟨HWB.out.2.1.put h51 h52, HWB.out.2.2.kv h52 (fun g hg => Nat.lt_of_lt_of_le (HWB.out.2.1.vb g hg) HLO.out), fun k hk => by
              by_cases e : k = j
              · rw [e]; exact HFF.out
              · exact HJ.out.2.2 k (by omega)⟩
            clear h51 h52
            go_wp2_with fail
            go_roundw
            case rel => exact ⟨j + 1, by omega, by go_num, HJ5⟩
            case measure => simp [intOf]; omega
        · have ej : j = m := by omega
          subst ej
          have hjli : ¬ ((j : Int) < (j : Int)) := by omega
          have HI5 : Hid (∃ R', Rt_Srr wF wr nb p N b B1 s v (.slice (some ⟨ga, 0, none⟩) n cA) R' ∧ rgL N (N.es.drop (i + 1)) R' (i + 1) = rgL N N.es noC 0) := by
            refine ⟨rJ N x (phC x) R (eM x), by rw [HMM.out]; exact HJ.out.1, ?_⟩
            rw [← HRS.out, rgL_step HX.out, if_pos (rok_yes (by rw [HMM.out]; exact HJ.out.2.2))]
          have hn9 : n ≤ 256 := by have := HLN.out; have := HN.out; omega
          go_wp2_with fail
          go_roundw
          case rel => exact ⟨i + 1, by omega, by go_num, HI5⟩
          case measure => simp [intOf]; omega
    · have ei : i = n := by omega
      subst ei
      have hnlt : ¬ ((i : Int) < (i : Int)) := by omega
      have hend : rgL N N.es noC 0 = ((0, 0), R) := by rw [← HRS.out, rgL_end (by have := HN.out; omega)]
      have c2 := HI.out.sw.sd.c2
      have hFr : wr.heap[F]? = some (.cells #[.int .i64 0, .int .i64 0] 69 (0, 0)) := by rw [HI.out.sw.bel.block F (by have := HF.out.2.1; omega)]; exact HF.out.1
      obtain ⟨z0, z1, z2, z3⟩ := tw_c hFr
      obtain ⟨y0, y1⟩ := tw_set hFr (.int .i64 0) (.int .i64 0)
      have HE := hidS hend
      clear hend
      go_wp2_with fail
      (try simp only [Exit.inBlock, Exit.then])
      refine bodyPost_ret (by simp [results, Tryz.results94, go_sem, y0, y1]; try rfl) rfl ?_
      refine ⟨tw_bel ?_ (by have := HF.out.2.2.2; omega) _ _, .inl ⟨by rw [HE.out], v, rfl, ?_⟩⟩
      · exact (HF.out.2.2.1.mono (by have := HF.out.2.2.2; omega)).trans (HI.out.sw.bel.mono (by have := HF.out.2.1; have := HF.out.2.2.2; omega))
      · rw [HE.out]
        refine (HI.out.sw.sd.row.but (fun q h1 h2 => ?_)).lower (by have := HF.out.2.1; have := HF.out.2.2.2; omega)
        rw [heap_setCell_other _ _ _ _ (by have := HF.out.2.1; simp; omega), heap_setCell_other _ _ _ _ (by have := HF.out.2.1; simp; omega)]
end Go.Proofs.YtmpkcioeodlbcaaGreatDoor
namespace Go.Proofs.YtmpkcioeodlbcaaGreatDoor
open Fl Go.Maps RowKit Joins Deep
set_option linter.unusedVariables false
/-- one ampere -/
def o1 : Cn := anz (4607182418800017408, 0)
end Go.Proofs.YtmpkcioeodlbcaaGreatDoor
namespace Go.Proofs.YtmpkcioeodlbcaaGreatDoor
open Fl RowKit
set_option linter.unusedVariables false
theorem rep_in {y x : Nat} (h : rep (some y) x) : x = y := by
  have := h.2
  unfold ans at this
  split at this
  · cases this
  · exact Option.some.inj this
theorem repz_in {a b : Nat} {z : Cw} (h : repz (some a, some b) z) : z = (a, b) := by
  rw [← rep_in h.1, ← rep_in h.2]
end Go.Proofs.YtmpkcioeodlbcaaGreatDoor
namespace Go.Proofs.YtmpkcioeodlbcaaGreatDoor
open Fl Go.Maps RowKit Joins Deep
set_option linter.unusedVariables false
/-- a fault and numbers -/
def Res (f1 f2 : Int) (K : Nat) (R : Nat → Cn) (w : World) (e : Ending) (w' : World) : Prop := ∃ A c, e = .returned (.tuple #[.slice A K c, .agg #[.int .i64 f1, .int .i64 f2]]) ∧ Nr w' w.heap.size (.slice A K c) K R ∧ Below w.heap.size w w'
/-- no net's -/
theorem nr_nil (w : World) (b : Nat) (R : Nat → Cn) : Nr w b (.slice none 0 0) 0 R := ⟨[], rw_nil _ _, fun j hj => absurd hj (Nat.not_lt_zero j)⟩
theorem Nr.sh {w : World} {b K : Nat} {v : Value} {R : Nat → Cn} (h : Nr w b v K R) : ∃ A c, v = .slice A K c := by
  obtain ⟨xs, h1, _⟩ := h
  exact drow_slice h1.own
/-- the fault of a made net's right side; how many numbers; the numbers -/
def rgF (N : Ns) : Int × Int := (rgL N N.es noC 0).1
def rgK (N : Ns) : Nat := if rgF N = (0, 0) then N.nd.length + N.br.length else 0
def rgR (N : Ns) : Nat → Cn := (rgL N N.es noC 0).2
theorem rgp_res {w w' : World} {N : Ns} {e : Ending} (h : RgP w N e w') : Res (rgF N).1 (rgF N).2 (rgK N) (rgR N) w e w' := by
  obtain ⟨hb, ⟨h1, v, rfl, hN⟩ | ⟨i, h1, hi, rfl⟩⟩ := h
  · have hF : rgF N = (0, 0) := h1
    have hK : rgK N = N.nd.length + N.br.length := by unfold rgK; rw [if_pos hF]
    unfold Res
    rw [hF, hK]
    obtain ⟨A, c, rfl⟩ := hN.sh
    exact ⟨A, c, rfl, hN, hb⟩
  · have hF : rgF N = (6, (i : Int)) := h1
    have hK : rgK N = 0 := by unfold rgK; rw [if_neg (by rw [hF]; intro q; have h6 : (6 : Int) = 0 := congrArg Prod.fst q; exact absurd h6 (by decide))]
    unfold Res
    rw [hF, hK]
    exact ⟨none, 0, rfl, nr_nil _ _ _, hb⟩
theorem sright_res {w : World} {nb p : Nat} {N : Ns} {b : Nb} (h : Nt w nb p N b) (hm : Md N) : Calls Tryz.prog 94 #[.pointer (some ⟨p, 0, none⟩)] w (Res (rgF N).1 (rgF N).2 (rgK N) (rgR N) w) := (sright_any h hm).mono fun _ _ k => rgp_res k
theorem three {P : Nat → Prop} (h0 : P 0) (h1 : P 1) (h2 : P 2) : ∀ j, j < 3 → P j := by
  intro j hj
  rcases (by omega : j = 0 ∨ j = 1 ∨ j = 2) with rfl | rfl | rfl
  · exact h0
  · exact h1
  · exact h2
end Go.Proofs.YtmpkcioeodlbcaaGreatDoor
namespace Go.Proofs.YtmpkcioeodlbcaaGreatDoor
open Go.ChangeShapes Go.WideShapes Go.ChangeAt Go.RowKit Go.Joins Go.Deep Go.Maps
set_option linter.unusedVariables false
set_option maxRecDepth 100000
structure Elm.bd (x : Elm) : Prop where
  k : x.k < 256
  v : x.v < 18446744073709551616
  plo : -9223372036854775808 ≤ x.ph
  phi : x.ph < 9223372036854775808
instance : Inhabited Elm := ⟨⟨0, ⟨#[]⟩, ⟨#[]⟩, ⟨#[]⟩, ⟨#[]⟩, ⟨#[]⟩, 0, 0⟩⟩
end Go.Proofs.YtmpkcioeodlbcaaGreatDoor
namespace Go.Proofs.YtmpkcioeodlbcaaGreatDoor
open Fl Go.Maps RowKit Joins Deep
set_option linter.unusedVariables false
set_option maxRecDepth 20000
/-- what a kind's stamp does -/
def StP (w0 w : World) (s nb p : Nat) (N : Ns) (b : Nb) (o : Nat) (x : Elm) (S : Sh) (e : Ending) (w' : World) : Prop :=
  e = .returned (.tuple #[]) ∧ Kp s w w' ∧ (stR o x = 0 → Sn w0 w' s nb p N b o (stE N o x S)) ∧ (stR o x ≠ 0 → w'.cell? ⟨s, 4099, none⟩ = some (.int .i64 (stR o x)))
theorem Md.small {N : Ns} (h : Md N) {x : Elm} (hx : x ∈ N.es) : x.small := by
  obtain ⟨h1, h2, h3, h4, h5⟩ := h.sh hx
  exact ⟨by omega, by omega, by omega, by omega, by omega, (h.ok x hx).v⟩
theorem stamp_any {w0 w : World} {s nb p : Nat} {N : Ns} {b : Nb} {o : Nat} {S : Sh} (h : Sn w0 w s nb p N b o S) (ho : o < 18446744073709551616) {x : Elm} (hx : x.small) (hk : x.ok) : Calls Tryz.prog (stF_Stw x.k) #[.pointer (some ⟨s, 0, none⟩), elV x] w (StP w0 w s nb p N b o x S) := by
  unfold stF_Stw
  by_cases k4 : x.k = 4
  · rw [if_pos k4]
    refine (snothing_any w s x).mono ?_
    rintro e w' ⟨rfl, hb⟩
    have h0 : stR o x = 0 := by unfold stR; rw [if_pos (.inl k4)]
    refine ⟨rfl, Kp.of hb h.lt, fun _ => ?_, fun q => absurd h0 q⟩
    have : stE N o x S = S := by unfold stE; rw [if_pos k4]
    rw [this]; exact h.on hb
  rw [if_neg k4]
  by_cases k5 : x.k = 5
  · rw [if_pos k5]
    refine (sbranch_any h x hx.n hx.a hx.b).mono ?_
    rintro e w' ⟨rfl, h1, h2⟩
    have h0 : stR o x = 0 := by unfold stR; rw [if_pos (.inr (.inl k5))]
    refine ⟨rfl, h2, fun _ => ?_, fun q => absurd h0 q⟩
    have : stE N o x S = bra N x S := by unfold stE; rw [if_neg k4, if_pos k5]
    rw [this]; exact h1
  rw [if_neg k5]
  by_cases k6 : x.k = 6
  · rw [if_pos k6]
    refine (stransfer_any h x hx).mono ?_
    rintro e w' ⟨rfl, h1, h2⟩
    have h0 : stR o x = 0 := by unfold stR; rw [if_pos (.inr (.inr (.inl k6)))]
    refine ⟨rfl, h2, fun _ => ?_, fun q => absurd h0 q⟩
    have : stE N o x S = tra N x S := by unfold stE; rw [if_neg k4, if_neg k5, if_pos k6]
    rw [this]; exact h1
  rw [if_neg k6]
  by_cases k7 : x.k = 7
  · rw [if_pos k7]
    refine (samplifier_any h x hx).mono ?_
    rintro e w' ⟨rfl, h1, h2⟩
    have h0 : stR o x = 0 := by unfold stR; rw [if_pos (.inr (.inr (.inr k7)))]
    refine ⟨rfl, h2, fun _ => ?_, fun q => absurd h0 q⟩
    have : stE N o x S = amp N x S := by unfold stE; rw [if_neg k4, if_neg k5, if_neg k6, if_pos k7]
    rw [this]; exact h1
  rw [if_neg k7]
  have hR : stR o x = (ofT x o).2.2 := by unfold stR; rw [if_neg (by omega)]
  have hE : stE N o x S = adm N x (ans (ofT x o).1, ans (ofT x o).2.1) S := by unfold stE; rw [if_neg k4, if_neg k5, if_neg k6, if_neg k7]
  by_cases h0 : (ofT x o).2.2 = 0
  · refine (sadm_ok h x hx hk ho (y1 := (ofT x o).1) (y2 := (ofT x o).2.1) (by rw [← h0])).mono ?_
    rintro e w' ⟨rfl, h1, h2⟩
    exact ⟨rfl, h2, fun _ => by rw [hE]; exact h1, fun q => absurd (hR.trans h0) q⟩
  · refine (sadm_no h x hx hk ho (y1 := (ofT x o).1) (y2 := (ofT x o).2.1) rfl h0).mono ?_
    rintro e w' ⟨rfl, h1, h2⟩
    exact ⟨rfl, h2, fun q => absurd (hR ▸ q) h0, fun _ => by rw [hR]; exact h1⟩
theorem ent_stF (k : Nat) : Ent (stF_Stw k) := by
  unfold stF_Stw
  split
  · exact fun args w => by kernel_rfl
  split
  · exact fun args w => by kernel_rfl
  split
  · exact fun args w => by kernel_rfl
  split
  · exact fun args w => by kernel_rfl
  · exact fun args w => by kernel_rfl
/-- the stamps by kind, in memory -/
def stC : Array Value := #[.nilFunc, .func (.func 174) #[] #[], .func (.func 174) #[] #[], .func (.func 174) #[] #[], .func (.func 175) #[] #[], .func (.func 176) #[] #[], .func (.func 177) #[] #[], .func (.func 178) #[] #[], .func (.func 174) #[] #[]]
theorem ltr_k {k : Nat} (h : ltr k ≠ 0) : 1 ≤ k ∧ k ≤ 8 := by
  refine ⟨?_, ?_⟩
  · rcases Nat.eq_zero_or_pos k with e | e
    · rw [e] at h; exact absurd rfl h
    · exact e
  · rcases Nat.lt_or_ge 8 k with e | e
    · exact absurd (nat_none (.inr e)).1 h
    · exact e
theorem stC_at {k : Nat} (h : 1 ≤ k ∧ k ≤ 8) : stC[k]? = some (.func (.func (stF_Stw k)) #[] #[]) := by
  obtain ⟨h1, h2⟩ := h
  rcases (by omega : k = 1 ∨ k = 2 ∨ k = 3 ∨ k = 4 ∨ k = 5 ∨ k = 6 ∨ k = 7 ∨ k = 8) with rfl | rfl | rfl | rfl | rfl | rfl | rfl | rfl <;> rfl
theorem Md.kd {N : Ns} (h : Md N) {x : Elm} (hx : x ∈ N.es) : 1 ≤ x.k ∧ x.k ≤ 8 := ltr_k (h.nv.el x hx).2.2.lt
end Go.Proofs.YtmpkcioeodlbcaaGreatDoor
