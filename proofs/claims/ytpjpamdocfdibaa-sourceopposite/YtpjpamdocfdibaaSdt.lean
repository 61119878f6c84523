/-
  The document's right side of a net that is made: it is the program's.
-/
import Derived.Test.YtpjpamdocfdibaaSds
import Derived.Test.YtpjpamdocfdibaaSrb
namespace Go.Proofs.Ytpjpamdocfdibaa
open Fl Go.Maps RowKit Joins Deep
set_option linter.unusedVariables false

set_option maxRecDepth 20000
/-- a place, or the ground's -/
def pI (b : Bool) (p : Nat) : Int := if b = true then (p : Int) else -1
theorem pI_t (p : Nat) : pI true p = (p : Int) := rfl
theorem pI_f (p : Nat) : pI false p = -1 := rfl
set_option maxHeartbeats 8000000 in
theorem dright_any {w : World} {p : Nat} {N : Ns} (h : Dn w p N.es) (hm : Md N) :
    Calls Try.prog 26 #[.pointer (some ⟨p, 0, none⟩)] w (RgP w N) := by
  have HM := hidS hm
  have HNT := hidS (h.below (bal w (.cells #[.int .i64 0, .int .i64 0] 29)))
  obtain ⟨wF, hwF⟩ : ∃ wF, w.alloc (.cells #[.int .i64 0, .int .i64 0] 29) = wF := ⟨_, rfl⟩
  obtain ⟨F, hF⟩ : ∃ F, w.heap.size = F := ⟨_, rfl⟩
  have HF : Hid (wF.heap[F]? = some (.cells #[.int .i64 0, .int .i64 0] 29 (0, 0)) ∧ wF.heap.size = F + 1 ∧ Below F w wF ∧ w.heap.size = F) := by
    rw [← hwF, ← hF]
    exact ⟨heap_alloc_new w _, by simp, (Below.refl _ w).alloc (Nat.le_refl _) _, rfl⟩
  rw [hwF] at HNT
  have HCM := hidS (dnone19_made HNT.out.made)
  have HCB := hidS (blank_any HNT.out (by have := hm.nb; rw [← hm.ndR, ← hm.brR]; exact this))
  rw [← hm.ndR, ← hm.brR] at HCB
  have HMB := hidS hm.nb
  have HMD := hidS hm.nd
  obtain ⟨m, hmm⟩ : ∃ m, N.nd.length + N.br.length = m := ⟨_, rfl⟩
  have HMM := hidS hmm
  rw [hmm] at HCB
  clear hmm
  go_enter Try.func26, Try.ntmps26
  go_wp2_with fail
  clear hwF hF h hm
  refine HCM.out.mono ?_
  rintro e1 w1 ⟨rfl, hw⟩
  subst w1
  go_wp2_with fail
  refine HCB.out.mono ?_
  rintro e1 w1 ⟨g, rfl, hrow, hb1⟩
  have HB1 := hidS (And.intro hrow hb1)
  clear hrow hb1 HCB
  go_wp2_with fail
  refine (dnodes (HNT.out.below HB1.out.2)).mono ?_
  rintro e2 w2 ⟨v2, rfl, ho2, hb2⟩
  obtain ⟨A2, cA2, rfl⟩ := drow_slice ho2
  rw [← HM.out.ndR]
  have HB2 := hidS (And.intro (HB1.out.1.on hb2) (HB1.out.2.trans (hb2.mono HB1.out.2.size)))
  have HG1 : Hid (g < w2.heap.size ∧ wF.heap.size ≤ g) := by
    obtain ⟨xs, q1, _⟩ := HB2.out.1
    have := q1.own.lt g rfl
    exact ⟨this.2, this.1⟩
  clear ho2 hb2 HB1
  obtain ⟨d, hd⟩ : ∃ d, N.nd.length = d := ⟨_, rfl⟩
  have HDD := hidS hd
  rw [hd]
  have hd32 : d ≤ 32 := by have := HMD.out; omega
  clear hd
  go_wp2_with fail
  refine (delements (HNT.out.below HB2.out.2)).mono ?_
  rintro e3 w3 ⟨v3, rfl, ho3, hb3⟩
  obtain ⟨A3, cA, rfl⟩ := drow_slice ho3
  have HT : Hid (Dt wF w3 N w2.heap.size m g (.slice A3 N.es.length cA) noC) := ⟨HB2.out.2.trans (hb3.mono HB2.out.2.size), HB2.out.1.on hb3, ho3, HG1.out.1, HG1.out.2⟩
  obtain ⟨lo, hlo⟩ : ∃ lo, w2.heap.size = lo := ⟨_, rfl⟩
  rw [hlo] at HT
  clear ho3 hb3 hlo HB2 HG1
  have HLN := hidS HM.out.ln
  obtain ⟨n, hn⟩ : ∃ n, N.es.length = n := ⟨_, rfl⟩
  have HN := hidS hn
  rw [hn]
  have hn9 : n ≤ 256 := by have := HLN.out; omega
  have HT0 : Hid (∃ R, Dt wF w3 N lo m g (.slice A3 n cA) R ∧ rgL N (N.es.drop 0) R 0 = rgL N N.es noC 0 ∧ ∀ j, j < m → finC (R j) = true) := ⟨noC, by rw [← hn]; exact HT.out, rfl, fun j _ => by unfold noC; kernel_rfl⟩
  clear hn HT
  go_wp2_with fail
  go_loopw [7, 5] (fun iv bv wr => ∃ (i : Nat), i ≤ n ∧ iv = .int .i64 i ∧ bv = .int .i64 ((d + (brR (N.es.take i)).length : Nat) : Int) ∧ Hid (∃ R, Dt wF wr N lo m g (.slice A3 n cA) R ∧ rgL N (N.es.drop i) R i = rgL N N.es noC 0 ∧ ∀ j, j < m → finC (R j) = true)) (fun iv bv _ => n - (intOf iv).toNat)
  case atStart => exact ⟨0, Nat.zero_le _, rfl, rfl, HT0⟩
  case round =>
    obtain ⟨i, hle, rfl, hbv, HI0⟩ := hrel
    subst hbv
    clear HT0
    obtain ⟨R, hDt, hrest, hfin⟩ := HI0.out
    have HI := hidS hDt
    have HRS := hidS (And.intro hrest hfin)
    clear hDt hrest hfin HI0
    have hm9 : m ≤ 64 := by have := HMB.out; have := HMM.out; omega
    obtain ⟨q5, hq5⟩ : ∃ q5, d + (brR (N.es.take i)).length = q5 := ⟨_, rfl⟩
    have HQ5 := hidS hq5
    have hq9 : q5 ≤ 1000 := by
      have h1 := brR_len (N.es.take i)
      rw [List.length_take] at h1
      omega
    rw [hq5]
    clear hq5
    by_cases hlt : i < n
    · have hli : (i : Int) < (n : Int) := by omega
      obtain ⟨x, hx⟩ : ∃ x, N.es[i]? = some x := ⟨_, List.getElem?_eq_getElem (by have := HN.out; omega)⟩
      have hel := HI.out.el
      rw [HN.out] at hel
      obtain ⟨ga, ca, he, hE⟩ := de8_row hel HN.out hx
      clear hel
      injection he with he1 he2 he3
      subst he1 he3
      clear he2
      obtain ⟨c0, c1, c2, c3, c4, c5, c6, c7⟩ := hE
      have HXM := hidS (List.mem_of_getElem? hx)
      have HX := hidS hx
      clear hx
      have HPH := hidS (fun W => rsphasor_any x W (HM.out.ok x HXM.out) (HM.out.pb x HXM.out) (HM.out.ok x HXM.out).v)
      unfold elV at HPH
      obtain ⟨pa, hpa⟩ : ∃ pa, posL N.nd (bl x.a) = pa := ⟨_, rfl⟩
      obtain ⟨ba, hba⟩ : ∃ ba, decide (bl x.a ∈ N.nd) = ba := ⟨_, rfl⟩
      obtain ⟨pb, hpb⟩ : ∃ pb, posL N.nd (bl x.b) = pb := ⟨_, rfl⟩
      obtain ⟨bb, hbb⟩ : ∃ bb, decide (bl x.b ∈ N.nd) = bb := ⟨_, rfl⟩
      have HPA : Hid (∀ W, Below wF.heap.size wF W → Calls Try.prog 66 #[.pointer (some ⟨p, 0, none⟩), .string x.a] W fun e w' => e = .returned (.tuple #[.int .i64 (pa : Int), .bool ba]) ∧ Below W.heap.size W w') := fun W hW => by
        have h1 := dplaceN (HNT.out.below hW) x.a
        rw [← HM.out.ndR, hpa, hba] at h1
        exact h1
      have HPB : Hid (∀ W, Below wF.heap.size wF W → Calls Try.prog 66 #[.pointer (some ⟨p, 0, none⟩), .string x.b] W fun e w' => e = .returned (.tuple #[.int .i64 (pb : Int), .bool bb]) ∧ Below W.heap.size W w') := fun W hW => by
        have h1 := dplaceN (HNT.out.below hW) x.b
        rw [← HM.out.ndR, hpb, hbb] at h1
        exact h1
      have HIA : Hid (plI N x.a = (pI ba pa)) := by
        show _ = _
        unfold plI pI
        rw [← hba, ← hpa]
        by_cases q : bl x.a ∈ N.nd
        · rw [if_pos q, if_pos (decide_eq_true q)]
        · rw [if_neg q, if_neg (by rw [decide_eq_false q]; decide)]
      have HIB : Hid (plI N x.b = (pI bb pb)) := by
        show _ = _
        unfold plI pI
        rw [← hbb, ← hpb]
        by_cases q : bl x.b ∈ N.nd
        · rw [if_pos q, if_pos (decide_eq_true q)]
        · rw [if_neg q, if_neg (by rw [decide_eq_false q]; decide)]
      have hpam : ba = true → pa < m := fun q => by
        have h1 := posL_lt (xs := N.nd) (s := bl x.a) (of_decide_eq_true (hba.trans q))
        have := HMM.out
        omega
      have hpbm : bb = true → pb < m := fun q => by
        have h1 := posL_lt (xs := N.nd) (s := bl x.b) (of_decide_eq_true (hbb.trans q))
        have := HMM.out
        omega
      clear hpa hba hpb hbb
      obtain ⟨kp, hkp⟩ : ∃ kp, phK x = kp := ⟨_, rfl⟩
      have HKP := hidS hkp
      rw [hkp] at HPH
      clear hkp
      go_wp2_with fail
      refine (HPH.out _).mono ?_
      rintro e4 w4 ⟨re, im, rfl, hr1, hr2, hb4⟩
      have HY : Hid (anz (re, im) = phC x ∧ okz (re, im)) := by
        have h1 : repz (phC x) (re, im) := ⟨hr1, hr2⟩
        exact ⟨h1.anz, h1.ok⟩
      have HD4 := hidS (HI.out.on hb4)
      clear hr1 hr2 hb4 HI HPH c0 c1 c2 c3 c4 c5 c6 c7
      obtain ⟨c0, c1, c2, c3, c4, c5, c6, c7⟩ := HD4.out.e8 HN.out HX.out
      go_wp2_with fail
      refine (HPA.out _ HD4.out.bel).mono ?_
      rintro e5 w5 ⟨rfl, hb5⟩
      have HD5 := hidS (HD4.out.on hb5)
      clear hb5 HD4 c0 c1 c2 c3 c4 c5 c6 c7
      obtain ⟨c0, c1, c2, c3, c4, c5, c6, c7⟩ := HD5.out.e8 HN.out HX.out
      go_wp2_with fail
      refine (HPB.out _ HD5.out.bel).mono ?_
      rintro e6 w6 ⟨rfl, hb6⟩
      have HD_w6 := hidS (HD5.out.on hb6)
      clear hb6 HD5 c0 c1 c2 c3 c4 c5 c6 c7 HPA HPB
      obtain ⟨c0, c1, c2, c3, c4, c5, c6, c7⟩ := HD_w6.out.e8 HN.out HX.out
      rcases kinds45 x.k with hk | hk | ⟨k4, k5⟩
      · have hkp0 : kp = 0 := by
          rw [← HKP.out]
          unfold phK
          rw [if_pos (HM.out.ck x HXM.out), if_pos (.inl hk)]
        subst hkp0
        have b4 : ((x.k : Int) == 4) = true := by rw [hk]; rfl
        have b5 : ((x.k : Int) == 5) = false := by rw [hk]; rfl
        have b7 : ((x.k : Int) == 7) = false := by rw [hk]; rfl
        have HBN : Hid (d + (brR (N.es.take (i + 1))).length = q5) := by
          show _ = _
          rw [brR_take HX.out, if_neg (by unfold isB; rw [hk]; decide)]; exact HQ5.out
        have HRE : Hid (rJ N x (phC x) R (eM x) = rput addZ (pI bb pb) (phC x) (rput subZ (pI ba pa) (phC x) R)) := by
          show _ = _
          have m2 : eM x = 2 := by unfold eM; rw [if_pos hk]
          have i0 : eI N x 0 = plI N x.a := by unfold eI; rw [if_pos hk, if_pos rfl]
          have i1 : eI N x 1 = plI N x.b := by unfold eI; rw [if_pos hk, if_neg (by decide)]
          have o0 : eO x 0 = subZ := by unfold eO; rw [if_pos hk, if_pos rfl]
          have o1 : eO x 1 = addZ := by unfold eO; rw [if_pos hk, if_neg (by decide)]
          rw [m2]
          show rput (eO x 1) (eI N x 1) (phC x) (rput (eO x 0) (eI N x 0) (phC x) R) = _
          rw [i0, i1, o0, o1, HIA.out, HIB.out]
        clear hk
        cases ba
        · cases bb
          · skip
            clear hpam
            clear hpbm
            have HQ : Hid (Dt wF w6 N lo m g (.slice (some ⟨ga, 0, none⟩) n cA) (rJ N x (phC x) R (eM x))) := by
              rw [HRE.out, pI_f, pI_f, rput_no, rput_no]; exact HD_w6.out
            obtain ⟨c0, c1, c2, c3, c4, c5, c6, c7⟩ := HQ.out.e8 HN.out HX.out
            have HQ0 : Hid (Dt wF w6 N lo m g (.slice (some ⟨ga, 0, none⟩) n cA) (rJ N x (phC x) R (eM x)) ∧ ∀ k, k < 0 → finC (rJ N x (phC x) R (eM x) k) = true) := ⟨HQ.out, fun k hk => absurd hk (Nat.not_lt_zero k)⟩
            go_wp2_with fail
            clear c0 c1 c2 c3 c4 c5 c6 c7 HQ
            go_loopw [14] (fun jv wr => ∃ (j : Nat), j ≤ m ∧ jv = .int .i64 j ∧ Hid (Dt wF wr N lo m g (.slice (some ⟨ga, 0, none⟩) n cA) (rJ N x (phC x) R (eM x)) ∧ ∀ k, k < j → finC (rJ N x (phC x) R (eM x) k) = true)) (fun jv _ => m - (intOf jv).toNat)
            case atStart => exact ⟨0, Nat.zero_le _, rfl, HQ0⟩
            case round =>
              obtain ⟨j, hjle, rfl, HJ⟩ := hrel
              clear HQ0
              by_cases hjlt : j < m
              · have hjli : (j : Int) < (m : Int) := by omega
                obtain ⟨z, hz1, hz2, hz3⟩ := HJ.out.1.get hjlt
                unfold cx at hz1
                obtain ⟨f, hf⟩ : ∃ f, finC (rJ N x (phC x) R (eM x) j) = f := ⟨_, rfl⟩
                have HFI : Hid (∀ W, Calls Try.prog 69 #[.complex .f64 z.1 z.2] W fun e w' => ∃ k, e = .returned (.bool f) ∧ w' = W.drewN k) := by
                  intro W
                  have h1 := rfin_any (a := z.1) (b := z.2) (w := W)
                  rw [show (finB z.1 && finB z.2) = f from (finZ_of hz3).trans hf] at h1
                  exact h1
                have HFF := hidS hf
                clear hf hz2 hz3
                cases f
                · go_wp2_with fail
                  refine (HFI.out _).mono ?_
                  rintro e9 w9 ⟨k9, rfl, hw9⟩
                  have HJ9 := hidS (HJ.out.1.dN k9)
                  rw [← hw9] at HJ9
                  clear hw9 hz1
                  have hF5 : w9.heap[F]? = some (.cells #[.int .i64 0, .int .i64 0] 29 (0, 0)) := by rw [HJ9.out.bel.block F (by have := HF.out.2.1; omega)]; exact HF.out.1
                  obtain ⟨z0, z1, z2, z3⟩ := tw_c hF5
                  obtain ⟨y0, y1⟩ := tw_set hF5 (.int .i64 6) (.int .i64 (i : Int))
                  go_wp2_with fail
                  (try simp only [Exit.inBlock, Exit.then])
                  refine bodyPost_ret (by simp [results, Try.results26, go_sem, y0, y1]; try rfl) rfl ?_
                  have hbad : rgL N N.es noC 0 = ((6, (i : Int)), R) := by
                    rw [← HRS.out.1, rgL_step HX.out, if_neg]
                    intro q
                    have := (rok_fin HM.out HXM.out (by rw [HMM.out]; exact HRS.out.2)).1 q j (by rw [HMM.out]; exact hjlt)
                    rw [HFF.out] at this
                    cases this
                  refine ⟨tw_bel ?_ (by have := HF.out.2.2.2; omega) _ _, .inr ⟨i, by rw [hbad], by have := HN.out; omega, rfl⟩⟩
                  exact (HF.out.2.2.1.mono (by have := HF.out.2.2.2; omega)).trans (HJ9.out.bel.mono (by have := HF.out.2.1; have := HF.out.2.2.2; omega))
                · go_wp2_with fail
                  refine (HFI.out _).mono ?_
                  rintro e9 w9 ⟨k9, rfl, hw9⟩
                  have HJ9 := hidS (HJ.out.1.dN k9)
                  rw [← hw9] at HJ9
                  clear hw9 hz1
                  have HJ5 : Hid (Dt wF w9 N lo m g (.slice (some ⟨ga, 0, none⟩) n cA) (rJ N x (phC x) R (eM x)) ∧ ∀ k, k < j + 1 → finC (rJ N x (phC x) R (eM x) k) = true) := ⟨HJ9.out, fun k hk => by
                    by_cases e : k = j
                    · rw [e]; exact HFF.out
                    · exact HJ.out.2 k (by omega)⟩
                  go_wp2_with fail
                  go_roundw
                  case rel => exact ⟨j + 1, by omega, by go_num, HJ5⟩
                  case measure => simp [intOf]; omega
              · have ej : j = m := by omega
                subst ej
                have hjli : ¬ ((j : Int) < (j : Int)) := by omega
                have HI5 : Hid (∃ R', Dt wF wr N lo j g (.slice (some ⟨ga, 0, none⟩) n cA) R' ∧ rgL N (N.es.drop (i + 1)) R' (i + 1) = rgL N N.es noC 0 ∧ ∀ k, k < j → finC (R' k) = true) := by
                  refine ⟨rJ N x (phC x) R (eM x), HJ.out.1, ?_, HJ.out.2⟩
                  rw [← HRS.out.1, rgL_step HX.out, if_pos]
                  exact (rok_fin HM.out HXM.out (by rw [HMM.out]; exact HRS.out.2)).2 (by rw [HMM.out]; exact HJ.out.2)
                go_wp2_with fail
                go_roundw
                case rel => exact ⟨i + 1, by omega, by go_num, by first | (rw [HBN.out]; done) | (rw [HBN.out]; go_num), HI5⟩
                case measure => simp [intOf]; omega
          · skip
            clear hpam
            have hpbm := hpbm rfl
            obtain ⟨tB, hcB, hzB, hrB⟩ := HD_w6.out.get (i := pb) (by omega)
            have HTB := hidS hrB
            clear hrB
            unfold cx at hcB
            go_wp2_with fail
            refine (op2_radd _ tB (re, im) HTB.out.ok HY.out.2).mono ?_
            rintro eB wdB ⟨rB, kB, rfl, hqB, hwB⟩
            rw [HTB.out.anz, HY.out.1] at hqB
            have HD_wdB := hidS (HD_w6.out.dN kB)
            rw [← hwB] at HD_wdB
            have HQB := hidS hqB
            clear hcB hzB hqB hwB
            obtain ⟨uB, hcB, hzB, hrB⟩ := HD_wdB.out.get (i := pb) (by omega)
            clear hrB
            have HD_wB := hidS (HD_wdB.out.put (op := addZ) (i := pb) (Y := phC x) (by omega) HQB.out)
            unfold cx at HD_wB
            obtain ⟨wB, hwB⟩ : ∃ W, wdB.setCell ⟨g, pb, none⟩ (.complex .f64 rB.1 rB.2) = W := ⟨_, rfl⟩
            rw [hwB] at HD_wB
            obtain ⟨a0, a1, a2, a3, a4, a5, a6, a7⟩ := HD_wB.out.e8 HN.out HX.out
            have HQ : Hid (Dt wF wB N lo m g (.slice (some ⟨ga, 0, none⟩) n cA) (rJ N x (phC x) R (eM x))) := by
              rw [HRE.out, pI_t, pI_f, rput_no]; exact HD_wB.out
            obtain ⟨c0, c1, c2, c3, c4, c5, c6, c7⟩ := HQ.out.e8 HN.out HX.out
            have HQ0 : Hid (Dt wF wB N lo m g (.slice (some ⟨ga, 0, none⟩) n cA) (rJ N x (phC x) R (eM x)) ∧ ∀ k, k < 0 → finC (rJ N x (phC x) R (eM x) k) = true) := ⟨HQ.out, fun k hk => absurd hk (Nat.not_lt_zero k)⟩
            go_wp2_with fail
            clear c0 c1 c2 c3 c4 c5 c6 c7 HQ
            go_loopw [14] (fun jv wr => ∃ (j : Nat), j ≤ m ∧ jv = .int .i64 j ∧ Hid (Dt wF wr N lo m g (.slice (some ⟨ga, 0, none⟩) n cA) (rJ N x (phC x) R (eM x)) ∧ ∀ k, k < j → finC (rJ N x (phC x) R (eM x) k) = true)) (fun jv _ => m - (intOf jv).toNat)
            case atStart => exact ⟨0, Nat.zero_le _, rfl, HQ0⟩
            case round =>
              obtain ⟨j, hjle, rfl, HJ⟩ := hrel
              clear HQ0
              by_cases hjlt : j < m
              · have hjli : (j : Int) < (m : Int) := by omega
                obtain ⟨z, hz1, hz2, hz3⟩ := HJ.out.1.get hjlt
                unfold cx at hz1
                obtain ⟨f, hf⟩ : ∃ f, finC (rJ N x (phC x) R (eM x) j) = f := ⟨_, rfl⟩
                have HFI : Hid (∀ W, Calls Try.prog 69 #[.complex .f64 z.1 z.2] W fun e w' => ∃ k, e = .returned (.bool f) ∧ w' = W.drewN k) := by
                  intro W
                  have h1 := rfin_any (a := z.1) (b := z.2) (w := W)
                  rw [show (finB z.1 && finB z.2) = f from (finZ_of hz3).trans hf] at h1
                  exact h1
                have HFF := hidS hf
                clear hf hz2 hz3
                cases f
                · go_wp2_with fail
                  refine (HFI.out _).mono ?_
                  rintro e9 w9 ⟨k9, rfl, hw9⟩
                  have HJ9 := hidS (HJ.out.1.dN k9)
                  rw [← hw9] at HJ9
                  clear hw9 hz1
                  have hF5 : w9.heap[F]? = some (.cells #[.int .i64 0, .int .i64 0] 29 (0, 0)) := by rw [HJ9.out.bel.block F (by have := HF.out.2.1; omega)]; exact HF.out.1
                  obtain ⟨z0, z1, z2, z3⟩ := tw_c hF5
                  obtain ⟨y0, y1⟩ := tw_set hF5 (.int .i64 6) (.int .i64 (i : Int))
                  go_wp2_with fail
                  (try simp only [Exit.inBlock, Exit.then])
                  refine bodyPost_ret (by simp [results, Try.results26, go_sem, y0, y1]; try rfl) rfl ?_
                  have hbad : rgL N N.es noC 0 = ((6, (i : Int)), R) := by
                    rw [← HRS.out.1, rgL_step HX.out, if_neg]
                    intro q
                    have := (rok_fin HM.out HXM.out (by rw [HMM.out]; exact HRS.out.2)).1 q j (by rw [HMM.out]; exact hjlt)
                    rw [HFF.out] at this
                    cases this
                  refine ⟨tw_bel ?_ (by have := HF.out.2.2.2; omega) _ _, .inr ⟨i, by rw [hbad], by have := HN.out; omega, rfl⟩⟩
                  exact (HF.out.2.2.1.mono (by have := HF.out.2.2.2; omega)).trans (HJ9.out.bel.mono (by have := HF.out.2.1; have := HF.out.2.2.2; omega))
                · go_wp2_with fail
                  refine (HFI.out _).mono ?_
                  rintro e9 w9 ⟨k9, rfl, hw9⟩
                  have HJ9 := hidS (HJ.out.1.dN k9)
                  rw [← hw9] at HJ9
                  clear hw9 hz1
                  have HJ5 : Hid (Dt wF w9 N lo m g (.slice (some ⟨ga, 0, none⟩) n cA) (rJ N x (phC x) R (eM x)) ∧ ∀ k, k < j + 1 → finC (rJ N x (phC x) R (eM x) k) = true) := ⟨HJ9.out, fun k hk => by
                    by_cases e : k = j
                    · rw [e]; exact HFF.out
                    · exact HJ.out.2 k (by omega)⟩
                  go_wp2_with fail
                  go_roundw
                  case rel => exact ⟨j + 1, by omega, by go_num, HJ5⟩
                  case measure => simp [intOf]; omega
              · have ej : j = m := by omega
                subst ej
                have hjli : ¬ ((j : Int) < (j : Int)) := by omega
                have HI5 : Hid (∃ R', Dt wF wr N lo j g (.slice (some ⟨ga, 0, none⟩) n cA) R' ∧ rgL N (N.es.drop (i + 1)) R' (i + 1) = rgL N N.es noC 0 ∧ ∀ k, k < j → finC (R' k) = true) := by
                  refine ⟨rJ N x (phC x) R (eM x), HJ.out.1, ?_, HJ.out.2⟩
                  rw [← HRS.out.1, rgL_step HX.out, if_pos]
                  exact (rok_fin HM.out HXM.out (by rw [HMM.out]; exact HRS.out.2)).2 (by rw [HMM.out]; exact HJ.out.2)
                go_wp2_with fail
                go_roundw
                case rel => exact ⟨i + 1, by omega, by go_num, by first | (rw [HBN.out]; done) | (rw [HBN.out]; go_num), HI5⟩
                case measure => simp [intOf]; omega
        · cases bb
          · skip
            have hpam := hpam rfl
            clear hpbm
            obtain ⟨tA, hcA, hzA, hrA⟩ := HD_w6.out.get (i := pa) (by omega)
            have HTA := hidS hrA
            clear hrA
            unfold cx at hcA
            go_wp2_with fail
            refine (op2_rsub _ tA (re, im) HTA.out.ok HY.out.2).mono ?_
            rintro eA wdA ⟨rA, kA, rfl, hqA, hwA⟩
            rw [HTA.out.anz, HY.out.1] at hqA
            have HD_wdA := hidS (HD_w6.out.dN kA)
            rw [← hwA] at HD_wdA
            have HQA := hidS hqA
            clear hcA hzA hqA hwA
            obtain ⟨uA, hcA, hzA, hrA⟩ := HD_wdA.out.get (i := pa) (by omega)
            clear hrA
            have HD_wA := hidS (HD_wdA.out.put (op := subZ) (i := pa) (Y := phC x) (by omega) HQA.out)
            unfold cx at HD_wA
            obtain ⟨wA, hwA⟩ : ∃ W, wdA.setCell ⟨g, pa, none⟩ (.complex .f64 rA.1 rA.2) = W := ⟨_, rfl⟩
            rw [hwA] at HD_wA
            obtain ⟨a0, a1, a2, a3, a4, a5, a6, a7⟩ := HD_wA.out.e8 HN.out HX.out
            have HQ : Hid (Dt wF wA N lo m g (.slice (some ⟨ga, 0, none⟩) n cA) (rJ N x (phC x) R (eM x))) := by
              rw [HRE.out, pI_f, pI_t, rput_no]; exact HD_wA.out
            obtain ⟨c0, c1, c2, c3, c4, c5, c6, c7⟩ := HQ.out.e8 HN.out HX.out
            have HQ0 : Hid (Dt wF wA N lo m g (.slice (some ⟨ga, 0, none⟩) n cA) (rJ N x (phC x) R (eM x)) ∧ ∀ k, k < 0 → finC (rJ N x (phC x) R (eM x) k) = true) := ⟨HQ.out, fun k hk => absurd hk (Nat.not_lt_zero k)⟩
            go_wp2_with fail
            clear c0 c1 c2 c3 c4 c5 c6 c7 HQ
            go_loopw [14] (fun jv wr => ∃ (j : Nat), j ≤ m ∧ jv = .int .i64 j ∧ Hid (Dt wF wr N lo m g (.slice (some ⟨ga, 0, none⟩) n cA) (rJ N x (phC x) R (eM x)) ∧ ∀ k, k < j → finC (rJ N x (phC x) R (eM x) k) = true)) (fun jv _ => m - (intOf jv).toNat)
            case atStart => exact ⟨0, Nat.zero_le _, rfl, HQ0⟩
            case round =>
              obtain ⟨j, hjle, rfl, HJ⟩ := hrel
              clear HQ0
              by_cases hjlt : j < m
              · have hjli : (j : Int) < (m : Int) := by omega
                obtain ⟨z, hz1, hz2, hz3⟩ := HJ.out.1.get hjlt
                unfold cx at hz1
                obtain ⟨f, hf⟩ : ∃ f, finC (rJ N x (phC x) R (eM x) j) = f := ⟨_, rfl⟩
                have HFI : Hid (∀ W, Calls Try.prog 69 #[.complex .f64 z.1 z.2] W fun e w' => ∃ k, e = .returned (.bool f) ∧ w' = W.drewN k) := by
                  intro W
                  have h1 := rfin_any (a := z.1) (b := z.2) (w := W)
                  rw [show (finB z.1 && finB z.2) = f from (finZ_of hz3).trans hf] at h1
                  exact h1
                have HFF := hidS hf
                clear hf hz2 hz3
                cases f
                · go_wp2_with fail
                  refine (HFI.out _).mono ?_
                  rintro e9 w9 ⟨k9, rfl, hw9⟩
                  have HJ9 := hidS (HJ.out.1.dN k9)
                  rw [← hw9] at HJ9
                  clear hw9 hz1
                  have hF5 : w9.heap[F]? = some (.cells #[.int .i64 0, .int .i64 0] 29 (0, 0)) := by rw [HJ9.out.bel.block F (by have := HF.out.2.1; omega)]; exact HF.out.1
                  obtain ⟨z0, z1, z2, z3⟩ := tw_c hF5
                  obtain ⟨y0, y1⟩ := tw_set hF5 (.int .i64 6) (.int .i64 (i : Int))
                  go_wp2_with fail
                  (try simp only [Exit.inBlock, Exit.then])
                  refine bodyPost_ret (by simp [results, Try.results26, go_sem, y0, y1]; try rfl) rfl ?_
                  have hbad : rgL N N.es noC 0 = ((6, (i : Int)), R) := by
                    rw [← HRS.out.1, rgL_step HX.out, if_neg]
                    intro q
                    have := (rok_fin HM.out HXM.out (by rw [HMM.out]; exact HRS.out.2)).1 q j (by rw [HMM.out]; exact hjlt)
                    rw [HFF.out] at this
                    cases this
                  refine ⟨tw_bel ?_ (by have := HF.out.2.2.2; omega) _ _, .inr ⟨i, by rw [hbad], by have := HN.out; omega, rfl⟩⟩
                  exact (HF.out.2.2.1.mono (by have := HF.out.2.2.2; omega)).trans (HJ9.out.bel.mono (by have := HF.out.2.1; have := HF.out.2.2.2; omega))
                · go_wp2_with fail
                  refine (HFI.out _).mono ?_
                  rintro e9 w9 ⟨k9, rfl, hw9⟩
                  have HJ9 := hidS (HJ.out.1.dN k9)
                  rw [← hw9] at HJ9
                  clear hw9 hz1
                  have HJ5 : Hid (Dt wF w9 N lo m g (.slice (some ⟨ga, 0, none⟩) n cA) (rJ N x (phC x) R (eM x)) ∧ ∀ k, k < j + 1 → finC (rJ N x (phC x) R (eM x) k) = true) := ⟨HJ9.out, fun k hk => by
                    by_cases e : k = j
                    · rw [e]; exact HFF.out
                    · exact HJ.out.2 k (by omega)⟩
                  go_wp2_with fail
                  go_roundw
                  case rel => exact ⟨j + 1, by omega, by go_num, HJ5⟩
                  case measure => simp [intOf]; omega
              · have ej : j = m := by omega
                subst ej
                have hjli : ¬ ((j : Int) < (j : Int)) := by omega
                have HI5 : Hid (∃ R', Dt wF wr N lo j g (.slice (some ⟨ga, 0, none⟩) n cA) R' ∧ rgL N (N.es.drop (i + 1)) R' (i + 1) = rgL N N.es noC 0 ∧ ∀ k, k < j → finC (R' k) = true) := by
                  refine ⟨rJ N x (phC x) R (eM x), HJ.out.1, ?_, HJ.out.2⟩
                  rw [← HRS.out.1, rgL_step HX.out, if_pos]
                  exact (rok_fin HM.out HXM.out (by rw [HMM.out]; exact HRS.out.2)).2 (by rw [HMM.out]; exact HJ.out.2)
                go_wp2_with fail
                go_roundw
                case rel => exact ⟨i + 1, by omega, by go_num, by first | (rw [HBN.out]; done) | (rw [HBN.out]; go_num), HI5⟩
                case measure => simp [intOf]; omega
          · skip
            have hpam := hpam rfl
            have hpbm := hpbm rfl
            obtain ⟨tA, hcA, hzA, hrA⟩ := HD_w6.out.get (i := pa) (by omega)
            have HTA := hidS hrA
            clear hrA
            unfold cx at hcA
            go_wp2_with fail
            refine (op2_rsub _ tA (re, im) HTA.out.ok HY.out.2).mono ?_
            rintro eA wdA ⟨rA, kA, rfl, hqA, hwA⟩
            rw [HTA.out.anz, HY.out.1] at hqA
            have HD_wdA := hidS (HD_w6.out.dN kA)
            rw [← hwA] at HD_wdA
            have HQA := hidS hqA
            clear hcA hzA hqA hwA
            obtain ⟨uA, hcA, hzA, hrA⟩ := HD_wdA.out.get (i := pa) (by omega)
            clear hrA
            have HD_wA := hidS (HD_wdA.out.put (op := subZ) (i := pa) (Y := phC x) (by omega) HQA.out)
            unfold cx at HD_wA
            obtain ⟨wA, hwA⟩ : ∃ W, wdA.setCell ⟨g, pa, none⟩ (.complex .f64 rA.1 rA.2) = W := ⟨_, rfl⟩
            rw [hwA] at HD_wA
            obtain ⟨a0, a1, a2, a3, a4, a5, a6, a7⟩ := HD_wA.out.e8 HN.out HX.out
            obtain ⟨tB, hcB, hzB, hrB⟩ := HD_wA.out.get (i := pb) (by omega)
            have HTB := hidS hrB
            clear hrB
            unfold cx at hcB
            go_wp2_with fail
            refine (op2_radd _ tB (re, im) HTB.out.ok HY.out.2).mono ?_
            rintro eB wdB ⟨rB, kB, rfl, hqB, hwB⟩
            rw [HTB.out.anz, HY.out.1] at hqB
            have HD_wdB := hidS (HD_wA.out.dN kB)
            rw [← hwB] at HD_wdB
            have HQB := hidS hqB
            clear hcB hzB hqB hwB
            obtain ⟨uB, hcB, hzB, hrB⟩ := HD_wdB.out.get (i := pb) (by omega)
            clear hrB
            have HD_wB := hidS (HD_wdB.out.put (op := addZ) (i := pb) (Y := phC x) (by omega) HQB.out)
            unfold cx at HD_wB
            obtain ⟨wB, hwB⟩ : ∃ W, wdB.setCell ⟨g, pb, none⟩ (.complex .f64 rB.1 rB.2) = W := ⟨_, rfl⟩
            rw [hwB] at HD_wB
            obtain ⟨a0, a1, a2, a3, a4, a5, a6, a7⟩ := HD_wB.out.e8 HN.out HX.out
            have HQ : Hid (Dt wF wB N lo m g (.slice (some ⟨ga, 0, none⟩) n cA) (rJ N x (phC x) R (eM x))) := by
              rw [HRE.out, pI_t, pI_t]; exact HD_wB.out
            obtain ⟨c0, c1, c2, c3, c4, c5, c6, c7⟩ := HQ.out.e8 HN.out HX.out
            have HQ0 : Hid (Dt wF wB N lo m g (.slice (some ⟨ga, 0, none⟩) n cA) (rJ N x (phC x) R (eM x)) ∧ ∀ k, k < 0 → finC (rJ N x (phC x) R (eM x) k) = true) := ⟨HQ.out, fun k hk => absurd hk (Nat.not_lt_zero k)⟩
            go_wp2_with fail
            clear c0 c1 c2 c3 c4 c5 c6 c7 HQ
            go_loopw [14] (fun jv wr => ∃ (j : Nat), j ≤ m ∧ jv = .int .i64 j ∧ Hid (Dt wF wr N lo m g (.slice (some ⟨ga, 0, none⟩) n cA) (rJ N x (phC x) R (eM x)) ∧ ∀ k, k < j → finC (rJ N x (phC x) R (eM x) k) = true)) (fun jv _ => m - (intOf jv).toNat)
            case atStart => exact ⟨0, Nat.zero_le _, rfl, HQ0⟩
            case round =>
              obtain ⟨j, hjle, rfl, HJ⟩ := hrel
              clear HQ0
              by_cases hjlt : j < m
              · have hjli : (j : Int) < (m : Int) := by omega
                obtain ⟨z, hz1, hz2, hz3⟩ := HJ.out.1.get hjlt
                unfold cx at hz1
                obtain ⟨f, hf⟩ : ∃ f, finC (rJ N x (phC x) R (eM x) j) = f := ⟨_, rfl⟩
                have HFI : Hid (∀ W, Calls Try.prog 69 #[.complex .f64 z.1 z.2] W fun e w' => ∃ k, e = .returned (.bool f) ∧ w' = W.drewN k) := by
                  intro W
                  have h1 := rfin_any (a := z.1) (b := z.2) (w := W)
                  rw [show (finB z.1 && finB z.2) = f from (finZ_of hz3).trans hf] at h1
                  exact h1
                have HFF := hidS hf
                clear hf hz2 hz3
                cases f
                · go_wp2_with fail
                  refine (HFI.out _).mono ?_
                  rintro e9 w9 ⟨k9, rfl, hw9⟩
                  have HJ9 := hidS (HJ.out.1.dN k9)
                  rw [← hw9] at HJ9
                  clear hw9 hz1
                  have hF5 : w9.heap[F]? = some (.cells #[.int .i64 0, .int .i64 0] 29 (0, 0)) := by rw [HJ9.out.bel.block F (by have := HF.out.2.1; omega)]; exact HF.out.1
                  obtain ⟨z0, z1, z2, z3⟩ := tw_c hF5
                  obtain ⟨y0, y1⟩ := tw_set hF5 (.int .i64 6) (.int .i64 (i : Int))
                  go_wp2_with fail
                  (try simp only [Exit.inBlock, Exit.then])
                  refine bodyPost_ret (by simp [results, Try.results26, go_sem, y0, y1]; try rfl) rfl ?_
                  have hbad : rgL N N.es noC 0 = ((6, (i : Int)), R) := by
                    rw [← HRS.out.1, rgL_step HX.out, if_neg]
                    intro q
                    have := (rok_fin HM.out HXM.out (by rw [HMM.out]; exact HRS.out.2)).1 q j (by rw [HMM.out]; exact hjlt)
                    rw [HFF.out] at this
                    cases this
                  refine ⟨tw_bel ?_ (by have := HF.out.2.2.2; omega) _ _, .inr ⟨i, by rw [hbad], by have := HN.out; omega, rfl⟩⟩
                  exact (HF.out.2.2.1.mono (by have := HF.out.2.2.2; omega)).trans (HJ9.out.bel.mono (by have := HF.out.2.1; have := HF.out.2.2.2; omega))
                · go_wp2_with fail
                  refine (HFI.out _).mono ?_
                  rintro e9 w9 ⟨k9, rfl, hw9⟩
                  have HJ9 := hidS (HJ.out.1.dN k9)
                  rw [← hw9] at HJ9
                  clear hw9 hz1
                  have HJ5 : Hid (Dt wF w9 N lo m g (.slice (some ⟨ga, 0, none⟩) n cA) (rJ N x (phC x) R (eM x)) ∧ ∀ k, k < j + 1 → finC (rJ N x (phC x) R (eM x) k) = true) := ⟨HJ9.out, fun k hk => by
                    by_cases e : k = j
                    · rw [e]; exact HFF.out
                    · exact HJ.out.2 k (by omega)⟩
                  go_wp2_with fail
                  go_roundw
                  case rel => exact ⟨j + 1, by omega, by go_num, HJ5⟩
                  case measure => simp [intOf]; omega
              · have ej : j = m := by omega
                subst ej
                have hjli : ¬ ((j : Int) < (j : Int)) := by omega
                have HI5 : Hid (∃ R', Dt wF wr N lo j g (.slice (some ⟨ga, 0, none⟩) n cA) R' ∧ rgL N (N.es.drop (i + 1)) R' (i + 1) = rgL N N.es noC 0 ∧ ∀ k, k < j → finC (R' k) = true) := by
                  refine ⟨rJ N x (phC x) R (eM x), HJ.out.1, ?_, HJ.out.2⟩
                  rw [← HRS.out.1, rgL_step HX.out, if_pos]
                  exact (rok_fin HM.out HXM.out (by rw [HMM.out]; exact HRS.out.2)).2 (by rw [HMM.out]; exact HJ.out.2)
                go_wp2_with fail
                go_roundw
                case rel => exact ⟨i + 1, by omega, by go_num, by first | (rw [HBN.out]; done) | (rw [HBN.out]; go_num), HI5⟩
                case measure => simp [intOf]; omega
      · have hkp0 : kp = 0 := by
          rw [← HKP.out]
          unfold phK
          rw [if_pos (HM.out.ck x HXM.out), if_pos (.inr hk)]
        subst hkp0
        have b4 : ((x.k : Int) == 4) = false := by rw [hk]; rfl
        have b5 : ((x.k : Int) == 5) = true := by rw [hk]; rfl
        have hisB : isB x = true := by unfold isB; rw [hk]; rfl
        have HBN : Hid (d + (brR (N.es.take (i + 1))).length = q5 + 1) := by
          show _ = _
          rw [brR_take HX.out, if_pos hisB, List.length_append, List.length_singleton]
          have := HQ5.out
          omega
        have HRW : Hid (rwI N x = (q5 : Int) ∧ q5 < m) := by
          have h1 := posL_brR HX.out hisB (by have := HM.out.nv.nu; rwa [HM.out.nv.nm] at this)
          have h2 := posL_lt (HM.out.br5 HXM.out hk)
          have e1 : rwI N x = (N.nd.length : Int) + ((brR (N.es.take i)).length : Int) := by unfold rwI; rw [HM.out.brR, h1]
          rw [HM.out.brR, h1, ← HM.out.brR] at h2
          have h3 := HQ5.out
          have h4 := HDD.out
          have h5 := HMM.out
          exact ⟨by rw [e1]; omega, by omega⟩
        have HRE : Hid (rJ N x (phC x) R (eM x) = rput (fun _ y => y) q5 (phC x) R) := by
          show _ = _
          have m1 : eM x = 1 := by unfold eM; rw [if_neg (by omega), if_pos hk]
          have i0 : eI N x 0 = rwI N x := by unfold eI; rw [if_neg (by omega)]
          have o0 : eO x 0 = fun _ y => y := by unfold eO; rw [if_neg (by omega)]
          rw [m1]
          show rput (eO x 0) (eI N x 0) (phC x) R = _
          rw [i0, o0, HRW.out.1]
        clear hk hisB
        have hqm := HRW.out.2
        obtain ⟨t5, hc5, hz5, hr5⟩ := HD_w6.out.get (i := q5) hqm
        clear hr5
        unfold cx at hc5
        have HQr : Hid (repz (phC x) (re, im)) := by
          have := repz_anz HY.out.2
          rwa [HY.out.1] at this
        have HD_w7 := hidS (HD_w6.out.put (op := fun _ y => y) (i := q5) (Y := phC x) (r := (re, im)) hqm HQr.out)
        unfold cx at HD_w7
        obtain ⟨w7, hw7⟩ : ∃ W, w6.setCell ⟨g, q5, none⟩ (.complex .f64 re im) = W := ⟨_, rfl⟩
        rw [hw7] at HD_w7
        have HQ : Hid (Dt wF w7 N lo m g (.slice (some ⟨ga, 0, none⟩) n cA) (rJ N x (phC x) R (eM x))) := by rw [HRE.out]; exact HD_w7.out
        obtain ⟨c0, c1, c2, c3, c4, c5, c6, c7⟩ := HQ.out.e8 HN.out HX.out
        have HQ0 : Hid (Dt wF w7 N lo m g (.slice (some ⟨ga, 0, none⟩) n cA) (rJ N x (phC x) R (eM x)) ∧ ∀ k, k < 0 → finC (rJ N x (phC x) R (eM x) k) = true) := ⟨HQ.out, fun k hk => absurd hk (Nat.not_lt_zero k)⟩
        go_wp2_with fail
        clear c0 c1 c2 c3 c4 c5 c6 c7 HQ
        go_loopw [14] (fun jv wr => ∃ (j : Nat), j ≤ m ∧ jv = .int .i64 j ∧ Hid (Dt wF wr N lo m g (.slice (some ⟨ga, 0, none⟩) n cA) (rJ N x (phC x) R (eM x)) ∧ ∀ k, k < j → finC (rJ N x (phC x) R (eM x) k) = true)) (fun jv _ => m - (intOf jv).toNat)
        case atStart => exact ⟨0, Nat.zero_le _, rfl, HQ0⟩
        case round =>
          obtain ⟨j, hjle, rfl, HJ⟩ := hrel
          clear HQ0
          by_cases hjlt : j < m
          · have hjli : (j : Int) < (m : Int) := by omega
            obtain ⟨z, hz1, hz2, hz3⟩ := HJ.out.1.get hjlt
            unfold cx at hz1
            obtain ⟨f, hf⟩ : ∃ f, finC (rJ N x (phC x) R (eM x) j) = f := ⟨_, rfl⟩
            have HFI : Hid (∀ W, Calls Try.prog 69 #[.complex .f64 z.1 z.2] W fun e w' => ∃ k, e = .returned (.bool f) ∧ w' = W.drewN k) := by
              intro W
              have h1 := rfin_any (a := z.1) (b := z.2) (w := W)
              rw [show (finB z.1 && finB z.2) = f from (finZ_of hz3).trans hf] at h1
              exact h1
            have HFF := hidS hf
            clear hf hz2 hz3
            cases f
            · go_wp2_with fail
              refine (HFI.out _).mono ?_
              rintro e9 w9 ⟨k9, rfl, hw9⟩
              have HJ9 := hidS (HJ.out.1.dN k9)
              rw [← hw9] at HJ9
              clear hw9 hz1
              have hF5 : w9.heap[F]? = some (.cells #[.int .i64 0, .int .i64 0] 29 (0, 0)) := by rw [HJ9.out.bel.block F (by have := HF.out.2.1; omega)]; exact HF.out.1
              obtain ⟨z0, z1, z2, z3⟩ := tw_c hF5
              obtain ⟨y0, y1⟩ := tw_set hF5 (.int .i64 6) (.int .i64 (i : Int))
              go_wp2_with fail
              (try simp only [Exit.inBlock, Exit.then])
              refine bodyPost_ret (by simp [results, Try.results26, go_sem, y0, y1]; try rfl) rfl ?_
              have hbad : rgL N N.es noC 0 = ((6, (i : Int)), R) := by
                rw [← HRS.out.1, rgL_step HX.out, if_neg]
                intro q
                have := (rok_fin HM.out HXM.out (by rw [HMM.out]; exact HRS.out.2)).1 q j (by rw [HMM.out]; exact hjlt)
                rw [HFF.out] at this
                cases this
              refine ⟨tw_bel ?_ (by have := HF.out.2.2.2; omega) _ _, .inr ⟨i, by rw [hbad], by have := HN.out; omega, rfl⟩⟩
              exact (HF.out.2.2.1.mono (by have := HF.out.2.2.2; omega)).trans (HJ9.out.bel.mono (by have := HF.out.2.1; have := HF.out.2.2.2; omega))
            · go_wp2_with fail
              refine (HFI.out _).mono ?_
              rintro e9 w9 ⟨k9, rfl, hw9⟩
              have HJ9 := hidS (HJ.out.1.dN k9)
              rw [← hw9] at HJ9
              clear hw9 hz1
              have HJ5 : Hid (Dt wF w9 N lo m g (.slice (some ⟨ga, 0, none⟩) n cA) (rJ N x (phC x) R (eM x)) ∧ ∀ k, k < j + 1 → finC (rJ N x (phC x) R (eM x) k) = true) := ⟨HJ9.out, fun k hk => by
                by_cases e : k = j
                · rw [e]; exact HFF.out
                · exact HJ.out.2 k (by omega)⟩
              go_wp2_with fail
              go_roundw
              case rel => exact ⟨j + 1, by omega, by go_num, HJ5⟩
              case measure => simp [intOf]; omega
          · have ej : j = m := by omega
            subst ej
            have hjli : ¬ ((j : Int) < (j : Int)) := by omega
            have HI5 : Hid (∃ R', Dt wF wr N lo j g (.slice (some ⟨ga, 0, none⟩) n cA) R' ∧ rgL N (N.es.drop (i + 1)) R' (i + 1) = rgL N N.es noC 0 ∧ ∀ k, k < j → finC (R' k) = true) := by
              refine ⟨rJ N x (phC x) R (eM x), HJ.out.1, ?_, HJ.out.2⟩
              rw [← HRS.out.1, rgL_step HX.out, if_pos]
              exact (rok_fin HM.out HXM.out (by rw [HMM.out]; exact HRS.out.2)).2 (by rw [HMM.out]; exact HJ.out.2)
            go_wp2_with fail
            go_roundw
            case rel => exact ⟨i + 1, by omega, by go_num, by first | (rw [HBN.out]; done) | (rw [HBN.out]; go_num), HI5⟩
            case measure => simp [intOf]; omega
      · have HRE : Hid (rJ N x (phC x) R (eM x) = R) := by
          show _ = _
          have m0 : eM x = 0 := by unfold eM; rw [if_neg k4, if_neg k5]
          rw [m0]; rfl
        have HQ : Hid (Dt wF w6 N lo m g (.slice (some ⟨ga, 0, none⟩) n cA) (rJ N x (phC x) R (eM x))) := by rw [HRE.out]; exact HD_w6.out
        have b4 : ((x.k : Int) == 4) = false := by rw [beq_eq_false_iff_ne]; omega
        have b5 : ((x.k : Int) == 5) = false := by rw [beq_eq_false_iff_ne]; omega
        by_cases k7 : x.k = 7
        · have b7 : ((x.k : Int) == 7) = true := by rw [k7]; rfl
          have HBN : Hid (d + (brR (N.es.take (i + 1))).length = q5 + 1) := by
            show _ = _
            rw [brR_take HX.out, if_pos (by unfold isB; rw [k7]; rfl), List.length_append, List.length_singleton]
            have := HQ5.out
            omega
          clear k4 k5 k7
          obtain ⟨c0, c1, c2, c3, c4, c5, c6, c7⟩ := HQ.out.e8 HN.out HX.out
          have HQ0 : Hid (Dt wF w6 N lo m g (.slice (some ⟨ga, 0, none⟩) n cA) (rJ N x (phC x) R (eM x)) ∧ ∀ k, k < 0 → finC (rJ N x (phC x) R (eM x) k) = true) := ⟨HQ.out, fun k hk => absurd hk (Nat.not_lt_zero k)⟩
          go_wp2_with fail
          clear c0 c1 c2 c3 c4 c5 c6 c7 HQ
          go_loopw [14] (fun jv wr => ∃ (j : Nat), j ≤ m ∧ jv = .int .i64 j ∧ Hid (Dt wF wr N lo m g (.slice (some ⟨ga, 0, none⟩) n cA) (rJ N x (phC x) R (eM x)) ∧ ∀ k, k < j → finC (rJ N x (phC x) R (eM x) k) = true)) (fun jv _ => m - (intOf jv).toNat)
          case atStart => exact ⟨0, Nat.zero_le _, rfl, HQ0⟩
          case round =>
            obtain ⟨j, hjle, rfl, HJ⟩ := hrel
            clear HQ0
            by_cases hjlt : j < m
            · have hjli : (j : Int) < (m : Int) := by omega
              obtain ⟨z, hz1, hz2, hz3⟩ := HJ.out.1.get hjlt
              unfold cx at hz1
              obtain ⟨f, hf⟩ : ∃ f, finC (rJ N x (phC x) R (eM x) j) = f := ⟨_, rfl⟩
              have HFI : Hid (∀ W, Calls Try.prog 69 #[.complex .f64 z.1 z.2] W fun e w' => ∃ k, e = .returned (.bool f) ∧ w' = W.drewN k) := by
                intro W
                have h1 := rfin_any (a := z.1) (b := z.2) (w := W)
                rw [show (finB z.1 && finB z.2) = f from (finZ_of hz3).trans hf] at h1
                exact h1
              have HFF := hidS hf
              clear hf hz2 hz3
              cases f
              · go_wp2_with fail
                refine (HFI.out _).mono ?_
                rintro e9 w9 ⟨k9, rfl, hw9⟩
                have HJ9 := hidS (HJ.out.1.dN k9)
                rw [← hw9] at HJ9
                clear hw9 hz1
                have hF5 : w9.heap[F]? = some (.cells #[.int .i64 0, .int .i64 0] 29 (0, 0)) := by rw [HJ9.out.bel.block F (by have := HF.out.2.1; omega)]; exact HF.out.1
                obtain ⟨z0, z1, z2, z3⟩ := tw_c hF5
                obtain ⟨y0, y1⟩ := tw_set hF5 (.int .i64 6) (.int .i64 (i : Int))
                go_wp2_with fail
                (try simp only [Exit.inBlock, Exit.then])
                refine bodyPost_ret (by simp [results, Try.results26, go_sem, y0, y1]; try rfl) rfl ?_
                have hbad : rgL N N.es noC 0 = ((6, (i : Int)), R) := by
                  rw [← HRS.out.1, rgL_step HX.out, if_neg]
                  intro q
                  have := (rok_fin HM.out HXM.out (by rw [HMM.out]; exact HRS.out.2)).1 q j (by rw [HMM.out]; exact hjlt)
                  rw [HFF.out] at this
                  cases this
                refine ⟨tw_bel ?_ (by have := HF.out.2.2.2; omega) _ _, .inr ⟨i, by rw [hbad], by have := HN.out; omega, rfl⟩⟩
                exact (HF.out.2.2.1.mono (by have := HF.out.2.2.2; omega)).trans (HJ9.out.bel.mono (by have := HF.out.2.1; have := HF.out.2.2.2; omega))
              · go_wp2_with fail
                refine (HFI.out _).mono ?_
                rintro e9 w9 ⟨k9, rfl, hw9⟩
                have HJ9 := hidS (HJ.out.1.dN k9)
                rw [← hw9] at HJ9
                clear hw9 hz1
                have HJ5 : Hid (Dt wF w9 N lo m g (.slice (some ⟨ga, 0, none⟩) n cA) (rJ N x (phC x) R (eM x)) ∧ ∀ k, k < j + 1 → finC (rJ N x (phC x) R (eM x) k) = true) := ⟨HJ9.out, fun k hk => by
                  by_cases e : k = j
                  · rw [e]; exact HFF.out
                  · exact HJ.out.2 k (by omega)⟩
                go_wp2_with fail
                go_roundw
                case rel => exact ⟨j + 1, by omega, by go_num, HJ5⟩
                case measure => simp [intOf]; omega
            · have ej : j = m := by omega
              subst ej
              have hjli : ¬ ((j : Int) < (j : Int)) := by omega
              have HI5 : Hid (∃ R', Dt wF wr N lo j g (.slice (some ⟨ga, 0, none⟩) n cA) R' ∧ rgL N (N.es.drop (i + 1)) R' (i + 1) = rgL N N.es noC 0 ∧ ∀ k, k < j → finC (R' k) = true) := by
                refine ⟨rJ N x (phC x) R (eM x), HJ.out.1, ?_, HJ.out.2⟩
                rw [← HRS.out.1, rgL_step HX.out, if_pos]
                exact (rok_fin HM.out HXM.out (by rw [HMM.out]; exact HRS.out.2)).2 (by rw [HMM.out]; exact HJ.out.2)
              go_wp2_with fail
              go_roundw
              case rel => exact ⟨i + 1, by omega, by go_num, by first | (rw [HBN.out]; done) | (rw [HBN.out]; go_num), HI5⟩
              case measure => simp [intOf]; omega
        · have b7 : ((x.k : Int) == 7) = false := by rw [beq_eq_false_iff_ne]; omega
          have HBN : Hid (d + (brR (N.es.take (i + 1))).length = q5) := by
            show _ = _
            rw [brR_take HX.out, if_neg (by unfold isB; rw [beq_eq_false_iff_ne.2 k5, beq_eq_false_iff_ne.2 k7]; decide)]; exact HQ5.out
          clear k4 k5 k7
          obtain ⟨c0, c1, c2, c3, c4, c5, c6, c7⟩ := HQ.out.e8 HN.out HX.out
          have HQ0 : Hid (Dt wF w6 N lo m g (.slice (some ⟨ga, 0, none⟩) n cA) (rJ N x (phC x) R (eM x)) ∧ ∀ k, k < 0 → finC (rJ N x (phC x) R (eM x) k) = true) := ⟨HQ.out, fun k hk => absurd hk (Nat.not_lt_zero k)⟩
          go_wp2_with fail
          clear c0 c1 c2 c3 c4 c5 c6 c7 HQ
          go_loopw [14] (fun jv wr => ∃ (j : Nat), j ≤ m ∧ jv = .int .i64 j ∧ Hid (Dt wF wr N lo m g (.slice (some ⟨ga, 0, none⟩) n cA) (rJ N x (phC x) R (eM x)) ∧ ∀ k, k < j → finC (rJ N x (phC x) R (eM x) k) = true)) (fun jv _ => m - (intOf jv).toNat)
          case atStart => exact ⟨0, Nat.zero_le _, rfl, HQ0⟩
          case round =>
            obtain ⟨j, hjle, rfl, HJ⟩ := hrel
            clear HQ0
            by_cases hjlt : j < m
            · have hjli : (j : Int) < (m : Int) := by omega
              obtain ⟨z, hz1, hz2, hz3⟩ := HJ.out.1.get hjlt
              unfold cx at hz1
              obtain ⟨f, hf⟩ : ∃ f, finC (rJ N x (phC x) R (eM x) j) = f := ⟨_, rfl⟩
              have HFI : Hid (∀ W, Calls Try.prog 69 #[.complex .f64 z.1 z.2] W fun e w' => ∃ k, e = .returned (.bool f) ∧ w' = W.drewN k) := by
                intro W
                have h1 := rfin_any (a := z.1) (b := z.2) (w := W)
                rw [show (finB z.1 && finB z.2) = f from (finZ_of hz3).trans hf] at h1
                exact h1
              have HFF := hidS hf
              clear hf hz2 hz3
              cases f
              · go_wp2_with fail
                refine (HFI.out _).mono ?_
                rintro e9 w9 ⟨k9, rfl, hw9⟩
                have HJ9 := hidS (HJ.out.1.dN k9)
                rw [← hw9] at HJ9
                clear hw9 hz1
                have hF5 : w9.heap[F]? = some (.cells #[.int .i64 0, .int .i64 0] 29 (0, 0)) := by rw [HJ9.out.bel.block F (by have := HF.out.2.1; omega)]; exact HF.out.1
                obtain ⟨z0, z1, z2, z3⟩ := tw_c hF5
                obtain ⟨y0, y1⟩ := tw_set hF5 (.int .i64 6) (.int .i64 (i : Int))
                go_wp2_with fail
                (try simp only [Exit.inBlock, Exit.then])
                refine bodyPost_ret (by simp [results, Try.results26, go_sem, y0, y1]; try rfl) rfl ?_
                have hbad : rgL N N.es noC 0 = ((6, (i : Int)), R) := by
                  rw [← HRS.out.1, rgL_step HX.out, if_neg]
                  intro q
                  have := (rok_fin HM.out HXM.out (by rw [HMM.out]; exact HRS.out.2)).1 q j (by rw [HMM.out]; exact hjlt)
                  rw [HFF.out] at this
                  cases this
                refine ⟨tw_bel ?_ (by have := HF.out.2.2.2; omega) _ _, .inr ⟨i, by rw [hbad], by have := HN.out; omega, rfl⟩⟩
                exact (HF.out.2.2.1.mono (by have := HF.out.2.2.2; omega)).trans (HJ9.out.bel.mono (by have := HF.out.2.1; have := HF.out.2.2.2; omega))
              · go_wp2_with fail
                refine (HFI.out _).mono ?_
                rintro e9 w9 ⟨k9, rfl, hw9⟩
                have HJ9 := hidS (HJ.out.1.dN k9)
                rw [← hw9] at HJ9
                clear hw9 hz1
                have HJ5 : Hid (Dt wF w9 N lo m g (.slice (some ⟨ga, 0, none⟩) n cA) (rJ N x (phC x) R (eM x)) ∧ ∀ k, k < j + 1 → finC (rJ N x (phC x) R (eM x) k) = true) := ⟨HJ9.out, fun k hk => by
                  by_cases e : k = j
                  · rw [e]; exact HFF.out
                  · exact HJ.out.2 k (by omega)⟩
                go_wp2_with fail
                go_roundw
                case rel => exact ⟨j + 1, by omega, by go_num, HJ5⟩
                case measure => simp [intOf]; omega
            · have ej : j = m := by omega
              subst ej
              have hjli : ¬ ((j : Int) < (j : Int)) := by omega
              have HI5 : Hid (∃ R', Dt wF wr N lo j g (.slice (some ⟨ga, 0, none⟩) n cA) R' ∧ rgL N (N.es.drop (i + 1)) R' (i + 1) = rgL N N.es noC 0 ∧ ∀ k, k < j → finC (R' k) = true) := by
                refine ⟨rJ N x (phC x) R (eM x), HJ.out.1, ?_, HJ.out.2⟩
                rw [← HRS.out.1, rgL_step HX.out, if_pos]
                exact (rok_fin HM.out HXM.out (by rw [HMM.out]; exact HRS.out.2)).2 (by rw [HMM.out]; exact HJ.out.2)
              go_wp2_with fail
              go_roundw
              case rel => exact ⟨i + 1, by omega, by go_num, by first | (rw [HBN.out]; done) | (rw [HBN.out]; go_num), HI5⟩
              case measure => simp [intOf]; omega
    · have ei : i = n := by omega
      subst ei
      have hnlt : ¬ ((i : Int) < (i : Int)) := by omega
      have hend : rgL N N.es noC 0 = ((0, 0), R) := by rw [← HRS.out.1, rgL_end (by have := HN.out; omega)]
      have hFr : wr.heap[F]? = some (.cells #[.int .i64 0, .int .i64 0] 29 (0, 0)) := by rw [HI.out.bel.block F (by have := HF.out.2.1; omega)]; exact HF.out.1
      obtain ⟨z0, z1, z2, z3⟩ := tw_c hFr
      obtain ⟨y0, y1⟩ := tw_set hFr (.int .i64 0) (.int .i64 0)
      have HE := hidS hend
      clear hend
      go_wp2_with fail
      (try simp only [Exit.inBlock, Exit.then])
      refine bodyPost_ret (by simp [results, Try.results26, go_sem, y0, y1]; try rfl) rfl ?_
      refine ⟨tw_bel ?_ (by have := HF.out.2.2.2; omega) _ _, .inl ⟨by rw [HE.out], _, rfl, ?_⟩⟩
      · exact (HF.out.2.2.1.mono (by have := HF.out.2.2.2; omega)).trans (HI.out.bel.mono (by have := HF.out.2.1; have := HF.out.2.2.2; omega))
      · rw [HE.out, HMM.out]
        refine (HI.out.row.but (fun q h1 h2 => ?_)).lower (by have := HF.out.2.1; have := HF.out.2.2.2; omega)
        rw [heap_setCell_other _ _ _ _ (by have := HF.out.2.1; simp; omega), heap_setCell_other _ _ _ _ (by have := HF.out.2.1; simp; omega)]
end Go.Proofs.Ytpjpamdocfdibaa
