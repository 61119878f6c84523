/-
  The program's right side of a net that is made.
-/
import Derived.Test.YtpjpamdocfdibaaSre
import Derived.Test.YtpjpamdocfdibaaSrm
import Derived.Test.YtpjpamdocfdibaaDnb
import Derived.Deep.Onto
namespace Go.Proofs.Ytpjpamdocfdibaa
open Fl Go.Maps RowKit Joins Deep
set_option linter.unusedVariables false

/-- what Right tells of a net that is made -/
def RgP (w : World) (N : Ns) (e : Ending) (w' : World) : Prop :=
  Below w.heap.size w w' ∧ ((rgL N N.es noC 0).1 = (0, 0) ∧ (∃ v, e = .returned (.tuple #[v, .agg #[.int .i64 0, .int .i64 0]]) ∧ Nr w' w.heap.size v (N.nd.length + N.br.length) (rgL N N.es noC 0).2) ∨ ∃ i : Nat, (rgL N N.es noC 0).1 = (6, (i : Int)) ∧ i < N.es.length ∧ e = .returned (.tuple #[.slice none 0 0, .agg #[.int .i64 6, .int .i64 i]]))
/-- while Right goes on -/
structure Rt (wF wr : World) (nb p : Nat) (N : Ns) (b : Nb) (B1 s : Nat) (v v2 : Value) (R : Nat → Cn) : Prop where
  sw : Sw wF wr nb p N b wF.heap.size s v R
  el : wr.ownsRow B1 57 8 v2 N.es.length (elCs N.es)
  vb : ∀ g, v.ownBlock = some g → g < B1
theorem Rt.on {wF w w' : World} {nb p : Nat} {N : Ns} {b : Nb} {B1 s : Nat} {v v2 : Value} {R : Nat → Cn} (h : Rt wF w nb p N b B1 s v v2 R) (hb : Below w.heap.size w w') : Rt wF w' nb p N b B1 s v v2 R := ⟨h.sw.on hb, own_below h.el hb, h.vb⟩
theorem Rt.drew {wF w : World} {nb p : Nat} {N : Ns} {b : Nb} {B1 s : Nat} {v v2 : Value} {R : Nat → Cn} (h : Rt wF w nb p N b B1 s v v2 R) : Rt wF w.drew nb p N b B1 s v v2 R := h.on ((Below.refl _ _).drew)
theorem Rt.put {wF w w' : World} {nb p : Nat} {N : Ns} {b : Nb} {B1 s : Nat} {v v2 : Value} {R R' : Nat → Cn} (h : Rt wF w nb p N b B1 s v v2 R) (h1 : Sd w' wF.heap.size s p v (N.nd.length + N.br.length) N.nd.length R') (k : Kv wF.heap.size v w w') : Rt wF w' nb p N b B1 s v v2 R' :=
  ⟨h.sw.step h1 k, row_block h.el (fun g hg => k.ot g (h.el.lt g hg).2 (fun e => by have h2 := h.vb g e; have h3 := (h.el.lt g hg).1; omega)), h.vb⟩
theorem Nr.but {w w' : World} {base n : Nat} {v : Value} {R : Nat → Cn} (h : Nr w base v n R) (hb : ∀ q, base ≤ q → q < w.heap.size → w'.heap[q]? = w.heap[q]?) : Nr w' base v n R := by
  obtain ⟨xs, h1, h2⟩ := h
  exact ⟨xs, ⟨h1.len, row_block h1.own (fun g hg => hb g (h1.own.lt g hg).1 (h1.own.lt g hg).2)⟩, h2⟩
theorem Nr.lower {w : World} {base base' n : Nat} {v : Value} {R : Nat → Cn} (h : Nr w base v n R) (hb : base' ≤ base) : Nr w base' v n R := by
  obtain ⟨xs, h1, h2⟩ := h
  exact ⟨xs, ⟨h1.len, h1.own.mono hb⟩, h2⟩
set_option maxHeartbeats 8000000 in
theorem sright_any {w : World} {nb p : Nat} {N : Ns} {b : Nb} (h : Nt w nb p N b) (hm : Md N) :
    Calls Try.prog 25 #[.pointer (some ⟨p, 0, none⟩)] w (RgP w N) := by
  have HM := hidS hm
  have HNT := hidS (h.below (bal w (.cells #[.int .i64 0, .int .i64 0] 29)))
  obtain ⟨wF, hwF⟩ : ∃ wF, w.alloc (.cells #[.int .i64 0, .int .i64 0] 29) = wF := ⟨_, rfl⟩
  obtain ⟨F, hF⟩ : ∃ F, w.heap.size = F := ⟨_, rfl⟩
  have HF : Hid (wF.heap[F]? = some (.cells #[.int .i64 0, .int .i64 0] 29 (0, 0)) ∧ wF.heap.size = F + 1 ∧ Below F w wF ∧ w.heap.size = F) := by
    rw [← hwF, ← hF]
    exact ⟨heap_alloc_new w _, by simp, (Below.refl _ w).alloc (Nat.le_refl _) _, rfl⟩
  rw [hwF] at HNT
  go_enter Try.func25, Try.ntmps25
  go_wp2_with fail
  clear hwF hF h hm
  refine (smade_yes HNT.out HM.out.nn).mono ?_
  rintro e1 w1 ⟨rfl, hw⟩
  subst w1
  go_wp2_with fail
  refine (snew_any HNT.out HM.out.nd HM.out.nb).mono ?_
  rintro e1 w1 ⟨s, v, rfl, hs, hsw, hb1⟩
  have HS := hidS hsw
  have HB1 := hidS hb1
  clear hsw hb1
  go_wp2_with fail
  refine (elements_made HS.out.net (by have := HM.out.ln; omega)).mono ?_
  rintro e2 w2 ⟨v2, rfl, ho2, hb2⟩
  obtain ⟨A2, cA, rfl⟩ := drow_slice ho2
  have HT : Hid (Rt wF w2 nb p N b w1.heap.size s v (.slice A2 N.es.length cA) noC) := ⟨HS.out.on hb2, ho2, fun g hg => by
    obtain ⟨xs, h1, _⟩ := HS.out.sd.row
    exact (h1.own.lt g hg).2⟩
  obtain ⟨B1, hB1⟩ : ∃ B1, w1.heap.size = B1 := ⟨_, rfl⟩
  rw [hB1] at HT
  clear ho2 hb2 HS HB1 hB1
  have HLN := hidS HM.out.ln
  obtain ⟨n, hn⟩ : ∃ n, N.es.length = n := ⟨_, rfl⟩
  have HN := hidS hn
  rw [hn]
  have HT0 : Hid (∃ R, Rt wF w2 nb p N b B1 s v (.slice A2 n cA) R ∧ rgL N (N.es.drop 0) R 0 = rgL N N.es noC 0) := ⟨noC, by rw [← hn]; exact HT.out, rfl⟩
  clear hn HT
  go_wp2_with fail
  go_loopw [20] (fun iv wr => ∃ (i : Nat), i ≤ n ∧ iv = .int .i64 i ∧ Hid (∃ R, Rt wF wr nb p N b B1 s v (.slice A2 n cA) R ∧ rgL N (N.es.drop i) R i = rgL N N.es noC 0)) (fun iv _ => n - (intOf iv).toNat)
  case atStart => exact ⟨0, Nat.zero_le _, rfl, HT0⟩
  case round =>
    obtain ⟨i, hle, rfl, HI0⟩ := hrel
    clear HT0
    obtain ⟨R, hRt, hrest⟩ := HI0.out
    have HI := hidS hRt
    have HRS := hidS hrest
    clear hRt hrest HI0
    by_cases hlt : i < n
    · have hli : (i : Int) < (n : Int) := by omega
      obtain ⟨x, hx⟩ : ∃ x, N.es[i]? = some x := ⟨_, List.getElem?_eq_getElem (by have := HN.out; omega)⟩
      have hel := HI.out.el
      rw [HN.out] at hel
      obtain ⟨ga, ca, he, hE⟩ := de8_row hel HN.out hx
      clear hel
      injection he with he1 he2 he3
      subst he1 he3
      clear he2
      obtain ⟨c0, c1, c2, c3, c4, c5, c6, c7⟩ := hE
      have HXM := hidS (List.mem_of_getElem? hx)
      have HX := hidS hx
      clear hx
      have HPH := hidS (fun W => sphasor_any x W (HM.out.ok x HXM.out) (HM.out.pb x HXM.out) (HM.out.ok x HXM.out).v)
      unfold elV at HPH
      obtain ⟨we, hwe⟩ : ∃ we, wr.alloc (.cells #[.int .u8 (x.k : Int), .string x.n, .string x.a, .string x.b, .string x.c, .string x.d, .float .f64 x.v, .int .i64 x.ph] 57) = we := ⟨_, rfl⟩
      obtain ⟨q, hq⟩ : ∃ q, wr.heap.size = q := ⟨_, rfl⟩
      have HE : Hid (Rt wF we nb p N b B1 s v (.slice (some ⟨ga, 0, none⟩) n cA) R ∧ we.heap[q]? = some (.cells (elA x) 57 (0, 0)) ∧ q < we.heap.size) := by
        rw [← hwe, ← hq]
        exact ⟨HI.out.on (bal wr _), heap_alloc_new wr _, by simp⟩
      obtain ⟨⟨d0, d1, d2, d3, d4, d5, d6, d7⟩, z8⟩ := eight HE.out.2.1
      clear z8
      clear HI
      go_wp2_with fail
      clear d0 d1 d2 d3 d4 d5 d6 d7 hwe hq c0 c1 c2 c3 c4 c5 c6 c7
      refine (HPH.out _).mono ?_
      rintro e3 w3 ⟨re, im, rfl, hr1, hr2, hb3⟩
      have HR3 := hidS (And.intro hr1 hr2)
      have HE3 : Hid (Rt wF w3 nb p N b B1 s v (.slice (some ⟨ga, 0, none⟩) n cA) R ∧ w3.heap[q]? = some (.cells (elA x) 57 (0, 0)) ∧ q < w3.heap.size) := ⟨HE.out.1.on hb3, by rw [hb3.block q HE.out.2.2]; exact HE.out.2.1, Nat.lt_of_lt_of_le HE.out.2.2 hb3.size⟩
      obtain ⟨⟨d0, d1, d2, d3, d4, d5, d6, d7⟩, z8⟩ := eight HE3.out.2.1
      clear z8
      clear hr1 hr2 hb3 HE HPH
      have HEN := hidS (fun W (q : Sw wF W nb p N b wF.heap.size s v R) => entries_any q x (by have := (HM.out.sh HXM.out).1; omega) (by have := (HM.out.sh HXM.out).2.1; omega) (by have := (HM.out.sh HXM.out).2.2.1; omega))
      unfold elV at HEN
      go_wp2_with fail
      clear d0 d1 d2 d3 d4 d5 d6 d7
      have HLO : Hid (B1 ≤ w3.heap.size) := by
        have h1 := HE3.out.1.el.lt ga rfl
        exact Nat.le_of_lt (Nat.lt_of_le_of_lt h1.1 h1.2)
      refine (HEN.out _ HE3.out.1.sw).mono ?_
      rintro e4 w4 ⟨A4, rfl, hty, hb4⟩
      have HY : Hid (anz (re, im) = phC x ∧ okz (re, im)) := by
        have h1 : repz (phC x) (re, im) := HR3.out
        exact ⟨h1.anz, h1.ok⟩
      have HI4 : Hid (Rt wF w4 nb p N b B1 s v (.slice (some ⟨ga, 0, none⟩) n cA) (rJ N x (phC x) R 0) ∧ Ety w3.heap.size w4 A4 (eM x) (eI N x) (eF x) ∧ ∀ k, k < 0 → rG N x (phC x) R k = true) := ⟨HE3.out.1.on hb4, hty, fun k hk => absurd hk (Nat.not_lt_zero k)⟩
      obtain ⟨lo, hlo⟩ : ∃ lo, w3.heap.size = lo := ⟨_, rfl⟩
      rw [hlo] at HI4 HLO
      have HML := hidS (eM_le x)
      obtain ⟨m, hm⟩ : ∃ m, eM x = m := ⟨_, rfl⟩
      have HMM := hidS hm
      rw [hm] at HI4 HML ⊢
      have hm2 := HML.out
      clear hty hb4 HE3 HEN HR3 hlo hm
      go_wp2_with fail
      go_loopw [34] (fun jv wr => ∃ (j : Nat), j ≤ m ∧ jv = .int .i64 j ∧ Hid (Rt wF wr nb p N b B1 s v (.slice (some ⟨ga, 0, none⟩) n cA) (rJ N x (phC x) R j) ∧ Ety lo wr A4 m (eI N x) (eF x) ∧ ∀ k, k < j → rG N x (phC x) R k = true)) (fun jv _ => m - (intOf jv).toNat)
      case atStart => exact ⟨0, Nat.zero_le _, rfl, HI4⟩
      case round =>
        obtain ⟨j, hjle, rfl, HJ⟩ := hrel
        clear HI4
        by_cases hjlt : j < m
        · have hjli : (j : Int) < (m : Int) := by omega
          obtain ⟨q4, rfl, hq1, hq2, k0, k1⟩ := HJ.out.2.1 j hjlt
          obtain ⟨wb, hwb⟩ : ∃ wb, wr.alloc (.cells #[.int .i64 (eI N x j), .func (.func (eF x j)) #[] #[]] 119) = wb := ⟨_, rfl⟩
          obtain ⟨qb, hqb⟩ : ∃ qb, wr.heap.size = qb := ⟨_, rfl⟩
          have HWB : Hid (Below wr.heap.size wr wb ∧ Rt wF wb nb p N b B1 s v (.slice (some ⟨ga, 0, none⟩) n cA) (rJ N x (phC x) R j) ∧ Ety lo wb (some ⟨q4, 0, none⟩) m (eI N x) (eF x)) := by
            rw [← hwb]
            exact ⟨bal wr _, HJ.out.1.on (bal wr _), HJ.out.2.1.on (bal wr _)⟩
          have b0 : wb.cell? ⟨qb, 0, none⟩ = some (.int .i64 (eI N x j)) := by rw [← hwb, ← hqb, cell_of_row _ _ _ _ _ (0, 0) (heap_alloc_new wr _)]; rfl
          have b1 : wb.cell? ⟨qb, 1, none⟩ = some (.func (.func (eF x j)) #[] #[]) := by rw [← hwb, ← hqb, cell_of_row _ _ _ _ _ (0, 0) (heap_alloc_new wr _)]; rfl
          obtain ⟨f, hf⟩ : ∃ f, rG N x (phC x) R j = f := ⟨_, rfl⟩
          have HFF := hidS hf
          have HPUT : Hid (Calls Try.prog 62 #[.pointer (some ⟨s, 0, none⟩), .agg #[.int .i64 (eI N x j), .func (.func (eF x j)) #[] #[]], .complex .f64 re im] wb fun e w' => e = .returned (.int .i64 (if f = true then 0 else 6)) ∧ Sd w' wF.heap.size s p v (N.nd.length + N.br.length) N.nd.length (rJ N x (phC x) R (j + 1)) ∧ Kv wF.heap.size v wb w') := by
            have hh := sdput_any (ent_eF x j) (op2_eF x j) HWB.out.2.1.sw.sd (eI_lo N x j) (eI_hi (by rw [HMM.out]; exact hjlt) (fun k => HM.out.br5 HXM.out k)) HY.out.2 f (by rw [HY.out.1]; exact hf)
            rw [HY.out.1] at hh
            exact hh
          obtain ⟨ei, hei⟩ : ∃ ei, eI N x j = ei := ⟨_, rfl⟩
          obtain ⟨ef, hef⟩ : ∃ ef, eF x j = ef := ⟨_, rfl⟩
          rw [hei, hef] at HPUT hwb
          rw [hei] at k0 b0
          rw [hef] at k1 b1
          clear hei hef hf
          cases f
          · go_wp2_with fail
            clear k0 k1 b0 b1 hwb hqb
            refine HPUT.out.mono ?_
            rintro e5 w5 ⟨rfl, h51, h52⟩
            have HR5 := hidS (HWB.out.2.1.put h51 h52)
            have hF5 : w5.heap[F]? = some (.cells #[.int .i64 0, .int .i64 0] 29 (0, 0)) := by rw [HR5.out.sw.bel.block F (by have := HF.out.2.1; omega)]; exact HF.out.1
            obtain ⟨z0, z1, z2, z3⟩ := tw_c hF5
            obtain ⟨y0, y1⟩ := tw_set hF5 (.int .i64 6) (.int .i64 (i : Int))
            clear h51 h52
            go_wp2_with fail
            (try simp only [Exit.inBlock, Exit.then])
            refine bodyPost_ret (by simp [results, Try.results25, go_sem, y0, y1]; try rfl) rfl ?_
            have hbad : rgL N N.es noC 0 = ((6, (i : Int)), R) := by
              rw [← HRS.out, rgL_step HX.out, if_neg]
              rw [rok_no (j := j) (by rw [HMM.out]; exact hjlt) HFF.out]
              decide
            refine ⟨tw_bel ?_ (by have := HF.out.2.2.2; omega) _ _, .inr ⟨i, by rw [hbad], by have := HN.out; omega, rfl⟩⟩
            exact (HF.out.2.2.1.mono (by have := HF.out.2.2.2; omega)).trans (HR5.out.sw.bel.mono (by have := HF.out.2.1; have := HF.out.2.2.2; omega))
          · go_wp2_with fail
            clear k0 k1 b0 b1 hwb hqb
            refine HPUT.out.mono ?_
            rintro e5 w5 ⟨rfl, h51, h52⟩
            have HJ5 : Hid (Rt wF w5 nb p N b B1 s v (.slice (some ⟨ga, 0, none⟩) n cA) (rJ N x (phC x) R (j + 1)) ∧ Ety lo w5 (some ⟨q4, 0, none⟩) m (eI N x) (eF x) ∧ ∀ k, k < j + 1 → rG N x (phC x) R k = true) := ⟨HWB.out.2.1.put h51 h52, HWB.out.2.2.kv h52 (fun g hg => Nat.lt_of_lt_of_le (HWB.out.2.1.vb g hg) HLO.out), fun k hk => by
              by_cases e : k = j
              · rw [e]; exact HFF.out
              · exact HJ.out.2.2 k (by omega)⟩
            clear h51 h52
            go_wp2_with fail
            go_roundw
            case rel => exact ⟨j + 1, by omega, by go_num, HJ5⟩
            case measure => simp [intOf]; omega
        · have ej : j = m := by omega
          subst ej
          have hjli : ¬ ((j : Int) < (j : Int)) := by omega
          have HI5 : Hid (∃ R', Rt wF wr nb p N b B1 s v (.slice (some ⟨ga, 0, none⟩) n cA) R' ∧ rgL N (N.es.drop (i + 1)) R' (i + 1) = rgL N N.es noC 0) := by
            refine ⟨rJ N x (phC x) R (eM x), by rw [HMM.out]; exact HJ.out.1, ?_⟩
            rw [← HRS.out, rgL_step HX.out, if_pos (rok_yes (by rw [HMM.out]; exact HJ.out.2.2))]
          have hn9 : n ≤ 256 := by have := HLN.out; have := HN.out; omega
          go_wp2_with fail
          go_roundw
          case rel => exact ⟨i + 1, by omega, by go_num, HI5⟩
          case measure => simp [intOf]; omega
    · have ei : i = n := by omega
      subst ei
      have hnlt : ¬ ((i : Int) < (i : Int)) := by omega
      have hend : rgL N N.es noC 0 = ((0, 0), R) := by rw [← HRS.out, rgL_end (by have := HN.out; omega)]
      have c2 := HI.out.sw.sd.c2
      have hFr : wr.heap[F]? = some (.cells #[.int .i64 0, .int .i64 0] 29 (0, 0)) := by rw [HI.out.sw.bel.block F (by have := HF.out.2.1; omega)]; exact HF.out.1
      obtain ⟨z0, z1, z2, z3⟩ := tw_c hFr
      obtain ⟨y0, y1⟩ := tw_set hFr (.int .i64 0) (.int .i64 0)
      have HE := hidS hend
      clear hend
      go_wp2_with fail
      (try simp only [Exit.inBlock, Exit.then])
      refine bodyPost_ret (by simp [results, Try.results25, go_sem, y0, y1]; try rfl) rfl ?_
      refine ⟨tw_bel ?_ (by have := HF.out.2.2.2; omega) _ _, .inl ⟨by rw [HE.out], v, rfl, ?_⟩⟩
      · exact (HF.out.2.2.1.mono (by have := HF.out.2.2.2; omega)).trans (HI.out.sw.bel.mono (by have := HF.out.2.1; have := HF.out.2.2.2; omega))
      · rw [HE.out]
        refine (HI.out.sw.sd.row.but (fun q h1 h2 => ?_)).lower (by have := HF.out.2.1; have := HF.out.2.2.2; omega)
        rw [heap_setCell_other _ _ _ _ (by have := HF.out.2.1; simp; omega), heap_setCell_other _ _ _ _ (by have := HF.out.2.1; simp; omega)]
end Go.Proofs.Ytpjpamdocfdibaa
