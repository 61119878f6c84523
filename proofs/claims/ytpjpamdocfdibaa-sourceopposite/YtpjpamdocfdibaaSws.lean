/-
  SourceSums' walk.
-/
import Derived.Test.YtpjpamdocfdibaaSsp
import Derived.Test.YtpjpamdocfdibaaSwr
import Derived.Test.YtpjpamdocfdibaaDnd
import Derived.BigQuiet
namespace Go.Proofs.Ytpjpamdocfdibaa
open Fl Go.Maps RowKit Joins Deep
set_option linter.unusedVariables false
set_option maxRecDepth 20000

theorem sbranches_made {w : World} {base p : Nat} {N : Ns} {b : Nb} (h : Nt w base p N b) (hn : N.br.length ≤ 1000000) : Calls Try.prog 32 #[.pointer (some ⟨p, 0, none⟩)] w fun e w' => ∃ v', e = .returned v' ∧ w'.ownsRow w.heap.size 9 1 v' N.br.length (N.br.map sv) ∧ Below w.heap.size w w' := by
  have c2 := h.nm.c1
  have c5 := h.br.c0
  have hcl := clone_s w base b.v5 N.br h.br.row hn
  go_enter Try.func32, Try.ntmps32
  go_wp2_with (first | (go_at_call 75; (with_reducible refine (made_yes c2).mono ?_); rintro e1 w1 ⟨rfl, hw1⟩; subst w1) | (go_at_call 76; (with_reducible refine hcl.mono ?_); rintro e2 w2 ⟨v2, rfl, ho2, hb2⟩))
  go_ret
  exact ⟨v2, rfl, ho2, hb2⟩
theorem netOf_big (w : World) (A : Option Addr) (c : Nat) (l : List Elm) (hl : 256 < l.length) : Calls Try.prog 10 #[.slice A l.length c] w (OfP w l) := by
  obtain ⟨n, hn⟩ : ∃ n, l.length = n := ⟨_, rfl⟩
  have HN := hidS hn
  rw [hn] at hl ⊢
  clear hn
  have hbi : (256 : Int) < (n : Int) := by omega
  go_enter Try.func10, Try.ntmps10
  go_wp2_with fail
  (try simp only [Exit.inBlock, Exit.then])
  refine bodyPost_ret (by simp [results, Try.results10, go_sem]; try rfl) rfl ?_
  have hA3 : ofA l = ((3, -1), Ns.nil) := if_pos (by have := HN.out; omega)
  exact ⟨(Below.refl _ w).alloc (Nat.le_refl _) _, .inr ⟨by rw [hA3]; simp, by rw [hA3]⟩⟩
theorem netOf_row {w : World} {base n : Nat} {v : Value} {l : List Elm} (hl : l.length = n) (h : w.ownsRow base 57 8 v n (elCs l)) (hok : ∀ x ∈ l, x.ok) : Calls Try.prog 10 #[v] w (OfP w l) := by
  subst hl
  by_cases hb : l.length ≤ 1000
  · exact netOf_any w v l (rdE_row2 h hb) hok
  · obtain ⟨A, c, rfl⟩ := drow_slice h
    exact netOf_big w A c l (by omega)
theorem of_ne {w w' : World} {l : List Elm} {e : Ending} (h : (ofA l).1 ≠ (0, 0)) (hp : OfP w l e w') : (ofA l).1.1 ≠ 0 := by
  obtain ⟨_, ⟨h1, _⟩ | ⟨h1, _⟩⟩ := hp
  · exact absurd h1 h
  · exact h1
set_option maxHeartbeats 16000000 in
theorem ssums_walk (w : World) (A : Option Addr) (c n : Nat) (xs : List Elm) (hl : xs.length = n) (hsz : n * 104 ≤ 140737488351232) (hR : Re w A xs) (hok : ∀ x ∈ xs, x.ok) (hbd : ∀ x ∈ xs, x.bd) (wh : Int) (hwh : -9223372036854775808 ≤ wh ∧ wh ≤ 9223372036854775807) : Calls Try.prog 7 #[.slice A n c, .int .i64 wh] w fun e w' => e = .returned (.bool true) ∧ Below w.heap.size w w' := by
  have HR := hidS hR
  have HL := hidS (And.intro hl (And.intro hok (And.intro (fun x hx => (⟨(hbd x hx).plo, (hbd x hx).phi⟩ : Elm.phb x)) hsz)))
  clear hR hl hok hsz hbd
  have hn9 : n ≤ 1000000000000000 := by have := HL.out.2.2.2; omega
  have HB_w := hidS (Below.refl w.heap.size w)
  go_enter Try.func7, Try.ntmps7
  go_wp2_with fail
  refine (awake19 _).mono ?_
  rintro e0 w0 ⟨rfl, hb0⟩
  have HB_w0 := hidS hb0
  clear hb0
  go_wp2_with fail
  refine (elementsOf_any w0 A c n xs HL.out.1 HL.out.2.2.2 (re_on HR.out HB_w0.out)).mono ?_
  rintro e1 w1 ⟨v1, rfl, ho1, hb1⟩
  have HO1 := hidS ho1
  have HB_w1 := hidS (HB_w0.out.trans (hb1.mono HB_w0.out.size))
  clear ho1 hb1
  go_wp2_with fail
  refine (netOf_row HL.out.1 HO1.out HL.out.2.1).mono ?_
  rintro e2 w2 hp2
  by_cases hof : (ofA xs).1 = (0, 0)
  · have HM := hidS (Md.of hof HL.out.2.1 HL.out.2.2.1)
    have HES := hidS (ofA_facts (show ofA xs = ((0, 0), (ofA xs).2) by rw [← hof])).2.1
    obtain ⟨hb2, p, b0, b, rfl, hN2⟩ := of_yes3 hof hp2
    obtain ⟨N, hN⟩ : ∃ N, (ofA xs).2 = N := ⟨_, rfl⟩
    rw [hN] at HM HES hN2
    have HN2 := hidS hN2
    have HB_w2 := hidS (HB_w1.out.trans (hb2.mono HB_w1.out.size))
    clear hof hp2 hb2 hN hN2 HO1 HB_w1 HB_w0
    have HNL : Hid (N.es.length = n ∧ n ≤ 256) := ⟨by rw [HES.out]; exact HL.out.1, by have := HM.out.ln; rw [HES.out, HL.out.1] at this; exact this⟩
    go_wp2_with fail
    refine (sright_any (HN2.out.below (bal _ _)) HM.out).mono ?_
    rintro e5 w5 ⟨hb5, ⟨hF, v5, rfl, hR5⟩ | ⟨i, hF, hi, rfl⟩⟩
    · have HB_w5 := hidS ((HB_w2.out.alloc HB_w2.out.size _).trans (hb5.mono (HB_w2.out.alloc HB_w2.out.size _).size))
      have HN5 := hidS ((HN2.out.below (bal _ _)).below hb5)
      have HRF := hidS hF
      obtain ⟨A5, c5, rfl⟩ := hR5.sh
      have HR5 := hidS hR5
      clear hF hR5 hb5
      obtain ⟨m, hm⟩ : ∃ m, N.nd.length + N.br.length = m := ⟨_, rfl⟩
      obtain ⟨d, hd⟩ : ∃ d, N.nd.length = d := ⟨_, rfl⟩
      obtain ⟨r, hr⟩ : ∃ r, N.br.length = r := ⟨_, rfl⟩
      have hm9 : m ≤ 64 := by have := HM.out.nb; omega
      have hd9 : d ≤ 64 := by omega
      have hr9 : r ≤ 64 := by omega
      have hdr : (d : Int) + (r : Int) = (m : Int) := by omega
      rw [hm] at HR5 ⊢
      have HDR := hidS (And.intro hd (And.intro hr hm))
      clear hd hr hm
      go_wp2_with fail
      refine (nodes_made (HN5.out.below (bal _ _)) (by have := HM.out.nd; omega)).mono ?_
      rintro e6 w6 ⟨v6, rfl, ho6, hb6⟩
      obtain ⟨A6, c6, rfl⟩ := drow_slice ho6
      rw [HDR.out.1] at ho6 ⊢
      have HO6 := hidS ho6
      have HB_w6 := hidS ((HB_w5.out.alloc HB_w5.out.size _).trans (hb6.mono (HB_w5.out.alloc HB_w5.out.size _).size))
      have HN6 := hidS ((HN5.out.below (bal _ _)).below hb6)
      have HR6 := hidS ((HR5.out.on (bal _ _)).on hb6)
      clear ho6 hb6 HR5 HN5
      go_wp2_with fail
      refine (sbranches_made HN6.out (by have := HM.out.nb; omega)).mono ?_
      rintro e7 w7 ⟨v7, rfl, ho7, hb7⟩
      obtain ⟨A7, c7, rfl⟩ := drow_slice ho7
      rw [HDR.out.2.1] at ho7 ⊢
      have HO7 := hidS (And.intro ho7 (own_below HO6.out hb7))
      have HB_w7 := hidS (HB_w6.out.trans (hb7.mono HB_w6.out.size))
      have HN7 := hidS (HN6.out.below hb7)
      have HR7 := hidS (HR6.out.on hb7)
      clear ho7 hb7 HR6 HN6 HO6
      by_cases hm0 : m = 0
      · subst hm0
        go_wp2_with fail
        go_ret
        exact ⟨rfl, HB_w7.out⟩
      · obtain ⟨j, hj, hpk⟩ := mpick_any wh m (by omega) hm9
        have HPK := hidS hpk
        clear hpk
        have hm1 : ((m : Int) == 0) = false := by rw [beq_eq_false_iff_ne]; omega
        go_wp2_with fail
        refine (HPK.out _).mono ?_
        rintro e8 w8 ⟨rfl, hw8⟩
        subst w8
        go_wp2_with fail
        refine (elements_made HN7.out (by have := HNL.out; omega)).mono ?_
        rintro e9 w9 ⟨v9, rfl, ho9, hb9⟩
        obtain ⟨A9, c9, rfl⟩ := drow_slice ho9
        rw [HNL.out.1] at ho9 ⊢
        have HO9 := hidS (And.intro ho9 (And.intro (own_below HO7.out.1 hb9) (own_below HO7.out.2 hb9)))
        have HB_w9 := hidS (HB_w7.out.trans (hb9.mono HB_w7.out.size))
        have HR9 := hidS (HR7.out.on hb9)
        clear ho9 hb9 HR7 HN7 HO7 HPK hm1
        have hn256 : n ≤ 256 := HNL.out.2
        have HT0 : Hid (Below w9.heap.size w9 w9 ∧ ∃ sw : Cw, (Value.complex .f64 0 0 = .complex .f64 sw.1 sw.2) ∧ repz (rgS N (N.es.take 0) noC j) sw) := ⟨Below.refl _ _, (0, 0), rfl, ⟨rep_0, rep_0⟩⟩
        go_wp2_with fail
        go_loopw [14, 13] (fun iv sv wr => ∃ (i : Nat), i ≤ n ∧ iv = .int .i64 i ∧ Hid (Below w9.heap.size w9 wr ∧ ∃ sw : Cw, (sv = .complex .f64 sw.1 sw.2) ∧ repz (rgS N (N.es.take i) noC j) sw)) (fun iv sv _ => n - (intOf iv).toNat)
        case atStart => exact ⟨0, Nat.zero_le _, rfl, HT0⟩
        case round =>
          obtain ⟨i, hle, rfl, HI0⟩ := hrel
          clear HT0
          obtain ⟨hbi, sw, rfl, hsw⟩ := HI0.out
          have HI := hidS (And.intro hbi hsw)
          clear HI0 hbi hsw
          by_cases hlt : i < n
          · have hli : (i : Int) < (n : Int) := by omega
            obtain ⟨x, hx⟩ : ∃ x, N.es[i]? = some x := ⟨_, List.getElem?_eq_getElem (by have := HNL.out.1; omega)⟩
            obtain ⟨ga, ca, he, hE⟩ := de8_row (own_below HO9.out.1 HI.out.1) HNL.out.1 hx
            injection he with he1 he2 he3
            subst he1 he3
            clear he2
            obtain ⟨c0, c1, c2, c3, c4, c5', c6', c7'⟩ := hE
            have HXM := hidS (List.mem_of_getElem? hx)
            have HX := hidS hx
            clear hx
            have HPH := hidS (fun W => sphasor_any x W (HM.out.ok x HXM.out) (HM.out.pb x HXM.out) (HM.out.ok x HXM.out).v)
            unfold elV at HPH
            go_wp2_with fail
            refine (HPH.out _).mono ?_
            rintro e10 w10 ⟨re, im, rfl, hr1, hr2, hb10⟩
            have HY : Hid (repz (phC x) (re, im)) := ⟨hr1, hr2⟩
            have HI10 := hidS (And.intro (HI.out.1.trans (hb10.mono HI.out.1.size)) HI.out.2)
            clear hr1 hr2 hb10 HI HPH c0 c1 c2 c3 c4 c5' c6' c7'
            obtain ⟨g2, ca2, he, hE⟩ := de8_row (own_below HO9.out.1 HI10.out.1) HNL.out.1 HX.out
            injection he with he1 he2 he3
            injection he1 with he4
            injection he4 with he5
            subst he5
            clear he2 he3
            obtain ⟨c0, c1, c2, c3, c4, c5', c6', c7'⟩ := hE
            by_cases hjd : j < d
            · have hjdi : (j : Int) < (d : Int) := by omega
              have hgei : decide ((d : Int) ≤ (j : Int)) = false := decide_eq_false (by omega)
              obtain ⟨y, hy⟩ : ∃ y, N.nd[j]? = some y := ⟨_, List.getElem?_eq_getElem (by have := HDR.out.1; omega)⟩
              have hno := own_below HO9.out.2.2 HI10.out.1
              rw [← HDR.out.1] at hno
              obtain ⟨gy, capy, hvy, cy⟩ := row_cellS hno hy
              clear hno
              injection hvy with he1 he2 he3
              subst he1
              clear he2 he3
              have HYN := hidS hy
              clear hy
              rcases kinds45 x.k with hk | hk | ⟨k4, k5⟩
              · have hkp0 : phK x = 0 := by
                  unfold phK
                  rw [if_pos (HM.out.ck x HXM.out), if_pos (.inl hk)]
                rw [hkp0]
                have b4 : ((x.k : Int) == 4) = true := by rw [hk]; rfl
                have b5 : ((x.k : Int) == 5) = false := by rw [hk]; rfl
                clear hkp0
                obtain ⟨ea, hea⟩ : ∃ ea, (x.a.toList == y) = ea := ⟨_, rfl⟩
                obtain ⟨eb, heb⟩ : ∃ eb, (x.b.toList == y) = eb := ⟨_, rfl⟩
                have HEA : Hid ((if bl x.a = y then subZ (rgS N (N.es.take i) noC j) (phC x) else rgS N (N.es.take i) noC j) = (if ea = true then subZ (rgS N (N.es.take i) noC j) (phC x) else rgS N (N.es.take i) noC j)) := by
                  show _ = _
                  rw [← hea, ByteArray.toList_eq]
                  by_cases q : bl x.a = y
                  · rw [if_pos q, if_pos (beq_iff_eq.2 q)]
                  · rw [if_neg q, if_neg (by rw [beq_eq_false_iff_ne.2 q]; decide)]
                have HEB : Hid (∀ s : Cn, (if bl x.b = y then addZ s (phC x) else s) = (if eb = true then addZ s (phC x) else s)) := fun s => by
                  show _ = _
                  rw [← heb, ByteArray.toList_eq]
                  by_cases q : bl x.b = y
                  · rw [if_pos q, if_pos (beq_iff_eq.2 q)]
                  · rw [if_neg q, if_neg (by rw [beq_eq_false_iff_ne.2 q]; decide)]
                have HST : Hid (rgS N (N.es.take (i + 1)) noC j = (if bl x.b = y then addZ (if bl x.a = y then subZ (rgS N (N.es.take i) noC j) (phC x) else rgS N (N.es.take i) noC j) (phC x) else (if bl x.a = y then subZ (rgS N (N.es.take i) noC j) (phC x) else rgS N (N.es.take i) noC j))) := by
                  show _ = _
                  rw [rgS_take HX.out, rJ_node HM.out HXM.out HYN.out]
                  unfold ndS
                  rw [if_pos hk]
                clear hk
                go_wp2_with fail
                go_region_held_law (fun W => W.cell? ⟨ga, i * 8 + 2, none⟩ = some (.string x.a) ∧ W.cell? ⟨gy, j, none⟩ = some (.string ⟨y.toArray⟩)) (first | exact ⟨c2, cy⟩ | go_keep) (fail)
                rename_i hHeld
                clear hHeld
                have HI_w11 := hidS (And.intro (HI10.out.1.trans (Below.mono (Below.refl _ _).drew HI10.out.1.size)) HI10.out.2)
                obtain ⟨w11, h_w11⟩ : ∃ W, w10.drew = W := ⟨_, rfl⟩
                rw [h_w11] at HI_w11
                rw [h_w11]
                clear h_w11
                clear c0 c1 c2 c3 c4 c5' c6' c7' cy
                cases ea
                · skip
                  clear hea
                  obtain ⟨g_w11, ca_w11, he, hE⟩ := de8_row (own_below HO9.out.1 HI_w11.out.1) HNL.out.1 HX.out
                  injection he with he1 he2 he3
                  injection he1 with he4
                  injection he4 with he5
                  subst he5
                  clear he2 he3
                  obtain ⟨c0, c1, c2, c3, c4, c5', c6', c7'⟩ := hE
                  have hno := own_below HO9.out.2.2 HI_w11.out.1
                  rw [← HDR.out.1] at hno
                  obtain ⟨gz_w11, cz_w11, hvy, cy⟩ := row_cellS hno HYN.out
                  clear hno
                  injection hvy with he1 he2 he3
                  injection he1 with he4
                  injection he4 with he5
                  subst he5
                  clear he2 he3
                  go_wp2_with fail
                  go_region_held_law (fun W => W.cell? ⟨ga, i * 8 + 3, none⟩ = some (.string x.b) ∧ W.cell? ⟨gy, j, none⟩ = some (.string ⟨y.toArray⟩)) (first | exact ⟨c3, cy⟩ | go_keep) (fail)
                  rename_i hHeld
                  clear hHeld
                  have HI_w12 := hidS (And.intro (HI_w11.out.1.trans (Below.mono (Below.refl _ _).drew HI_w11.out.1.size)) HI_w11.out.2)
                  obtain ⟨w12, h_w12⟩ : ∃ W, w11.drew = W := ⟨_, rfl⟩
                  rw [h_w12] at HI_w12
                  rw [h_w12]
                  clear h_w12
                  clear c0 c1 c2 c3 c4 c5' c6' c7' cy
                  cases eb
                  · skip
                    clear heb
                    go_wp2_with fail
                    have HQ : Hid (repz (rgS N (N.es.take (i + 1)) noC j) sw) := by
                      rw [HST.out, HEB.out, HEA.out]
                      exact HI10.out.2
                    have hgq : decide ((d : Int) ≤ (j : Int)) = false := decide_eq_false (by omega)
                    have hgr : ¬ ((d : Int) ≤ (j : Int)) := by omega
                    have hgs : decide ((j : Int) ≥ (d : Int)) = false := decide_eq_false (by omega)
                    have hgt : ¬ ((j : Int) ≥ (d : Int)) := by omega
                    have hgu : ((j : Int) < (d : Int)) := by omega
                    go_quiet (fail)
                    
                    have HI_z := hidS (And.intro (HI_w12.out.1.trans ((below_dN (Below.refl _ _) nq).mono HI_w12.out.1.size)) HQ.out)
                    obtain ⟨wz, hwz⟩ : ∃ W, w12.drewN nq = W := ⟨_, rfl⟩
                    rw [hwz] at HI_z ⊢
                    clear hwz
                    go_wp2_with fail
                    have HE1 : Hid (Below w9.heap.size w9 wz ∧ ∃ sv : Cw, (Value.complex .f64 sw.1 sw.2 = .complex .f64 sv.1 sv.2) ∧ repz (rgS N (N.es.take (i + 1)) noC j) sv) := ⟨HI_z.out.1, sw, rfl, HI_z.out.2⟩
                    go_roundw
                    case rel => exact ⟨i + 1, by omega, by go_num, HE1⟩
                    case measure => simp [intOf]; omega
                  · skip
                    clear heb
                    go_wp2_with fail
                    refine (op2_add _ sw (re, im) (HI10.out.2).ok HY.out.ok).mono ?_
                    rintro eb1 wb1 ⟨rb, kb, rfl, hqb, hwb⟩
                    rw [(HI10.out.2).anz, HY.out.anz] at hqb
                    have HQB := hidS hqb
                    have HI_wb1 := hidS (And.intro (HI_w12.out.1.trans ((below_dN (Below.refl _ _) kb).mono HI_w12.out.1.size)) HI_w12.out.2)
                    rw [← hwb] at HI_wb1
                    clear hqb hwb
                    go_wp2_with fail
                    have HQ : Hid (repz (rgS N (N.es.take (i + 1)) noC j) rb) := by
                      rw [HST.out, HEB.out, HEA.out]
                      exact HQB.out
                    have hgq : decide ((d : Int) ≤ (j : Int)) = false := decide_eq_false (by omega)
                    have hgr : ¬ ((d : Int) ≤ (j : Int)) := by omega
                    have hgs : decide ((j : Int) ≥ (d : Int)) = false := decide_eq_false (by omega)
                    have hgt : ¬ ((j : Int) ≥ (d : Int)) := by omega
                    have hgu : ((j : Int) < (d : Int)) := by omega
                    go_quiet (fail)
                    
                    have HI_z := hidS (And.intro (HI_wb1.out.1.trans ((below_dN (Below.refl _ _) nq).mono HI_wb1.out.1.size)) HQ.out)
                    obtain ⟨wz, hwz⟩ : ∃ W, wb1.drewN nq = W := ⟨_, rfl⟩
                    rw [hwz] at HI_z ⊢
                    clear hwz
                    go_wp2_with fail
                    have HE1 : Hid (Below w9.heap.size w9 wz ∧ ∃ sv : Cw, (Value.complex .f64 rb.1 rb.2 = .complex .f64 sv.1 sv.2) ∧ repz (rgS N (N.es.take (i + 1)) noC j) sv) := ⟨HI_z.out.1, rb, rfl, HI_z.out.2⟩
                    go_roundw
                    case rel => exact ⟨i + 1, by omega, by go_num, HE1⟩
                    case measure => simp [intOf]; omega
                · skip
                  clear hea
                  go_wp2_with fail
                  refine (op2_sub _ sw (re, im) HI10.out.2.ok HY.out.ok).mono ?_
                  rintro ea1 wa1 ⟨ra, ka, rfl, hqa, hwa⟩
                  rw [HI10.out.2.anz, HY.out.anz] at hqa
                  have HQA := hidS hqa
                  have HI_wa1 := hidS (And.intro (HI_w11.out.1.trans ((below_dN (Below.refl _ _) ka).mono HI_w11.out.1.size)) HI_w11.out.2)
                  rw [← hwa] at HI_wa1
                  clear hqa hwa
                  obtain ⟨g_wa1, ca_wa1, he, hE⟩ := de8_row (own_below HO9.out.1 HI_wa1.out.1) HNL.out.1 HX.out
                  injection he with he1 he2 he3
                  injection he1 with he4
                  injection he4 with he5
                  subst he5
                  clear he2 he3
                  obtain ⟨c0, c1, c2, c3, c4, c5', c6', c7'⟩ := hE
                  have hno := own_below HO9.out.2.2 HI_wa1.out.1
                  rw [← HDR.out.1] at hno
                  obtain ⟨gz_wa1, cz_wa1, hvy, cy⟩ := row_cellS hno HYN.out
                  clear hno
                  injection hvy with he1 he2 he3
                  injection he1 with he4
                  injection he4 with he5
                  subst he5
                  clear he2 he3
                  go_wp2_with fail
                  go_region_held_law (fun W => W.cell? ⟨ga, i * 8 + 3, none⟩ = some (.string x.b) ∧ W.cell? ⟨gy, j, none⟩ = some (.string ⟨y.toArray⟩)) (first | exact ⟨c3, cy⟩ | go_keep) (fail)
                  rename_i hHeld
                  clear hHeld
                  have HI_w12 := hidS (And.intro (HI_wa1.out.1.trans (Below.mono (Below.refl _ _).drew HI_wa1.out.1.size)) HI_wa1.out.2)
                  obtain ⟨w12, h_w12⟩ : ∃ W, wa1.drew = W := ⟨_, rfl⟩
                  rw [h_w12] at HI_w12
                  rw [h_w12]
                  clear h_w12
                  clear c0 c1 c2 c3 c4 c5' c6' c7' cy
                  cases eb
                  · skip
                    clear heb
                    go_wp2_with fail
                    have HQ : Hid (repz (rgS N (N.es.take (i + 1)) noC j) ra) := by
                      rw [HST.out, HEB.out, HEA.out]
                      exact HQA.out
                    have hgq : decide ((d : Int) ≤ (j : Int)) = false := decide_eq_false (by omega)
                    have hgr : ¬ ((d : Int) ≤ (j : Int)) := by omega
                    have hgs : decide ((j : Int) ≥ (d : Int)) = false := decide_eq_false (by omega)
                    have hgt : ¬ ((j : Int) ≥ (d : Int)) := by omega
                    have hgu : ((j : Int) < (d : Int)) := by omega
                    go_quiet (fail)
                    
                    have HI_z := hidS (And.intro (HI_w12.out.1.trans ((below_dN (Below.refl _ _) nq).mono HI_w12.out.1.size)) HQ.out)
                    obtain ⟨wz, hwz⟩ : ∃ W, w12.drewN nq = W := ⟨_, rfl⟩
                    rw [hwz] at HI_z ⊢
                    clear hwz
                    go_wp2_with fail
                    have HE1 : Hid (Below w9.heap.size w9 wz ∧ ∃ sv : Cw, (Value.complex .f64 ra.1 ra.2 = .complex .f64 sv.1 sv.2) ∧ repz (rgS N (N.es.take (i + 1)) noC j) sv) := ⟨HI_z.out.1, ra, rfl, HI_z.out.2⟩
                    go_roundw
                    case rel => exact ⟨i + 1, by omega, by go_num, HE1⟩
                    case measure => simp [intOf]; omega
                  · skip
                    clear heb
                    go_wp2_with fail
                    refine (op2_add _ ra (re, im) (HQA.out).ok HY.out.ok).mono ?_
                    rintro eb1 wb1 ⟨rb, kb, rfl, hqb, hwb⟩
                    rw [(HQA.out).anz, HY.out.anz] at hqb
                    have HQB := hidS hqb
                    have HI_wb1 := hidS (And.intro (HI_w12.out.1.trans ((below_dN (Below.refl _ _) kb).mono HI_w12.out.1.size)) HI_w12.out.2)
                    rw [← hwb] at HI_wb1
                    clear hqb hwb
                    go_wp2_with fail
                    have HQ : Hid (repz (rgS N (N.es.take (i + 1)) noC j) rb) := by
                      rw [HST.out, HEB.out, HEA.out]
                      exact HQB.out
                    have hgq : decide ((d : Int) ≤ (j : Int)) = false := decide_eq_false (by omega)
                    have hgr : ¬ ((d : Int) ≤ (j : Int)) := by omega
                    have hgs : decide ((j : Int) ≥ (d : Int)) = false := decide_eq_false (by omega)
                    have hgt : ¬ ((j : Int) ≥ (d : Int)) := by omega
                    have hgu : ((j : Int) < (d : Int)) := by omega
                    go_quiet (fail)
                    
                    have HI_z := hidS (And.intro (HI_wb1.out.1.trans ((below_dN (Below.refl _ _) nq).mono HI_wb1.out.1.size)) HQ.out)
                    obtain ⟨wz, hwz⟩ : ∃ W, wb1.drewN nq = W := ⟨_, rfl⟩
                    rw [hwz] at HI_z ⊢
                    clear hwz
                    go_wp2_with fail
                    have HE1 : Hid (Below w9.heap.size w9 wz ∧ ∃ sv : Cw, (Value.complex .f64 rb.1 rb.2 = .complex .f64 sv.1 sv.2) ∧ repz (rgS N (N.es.take (i + 1)) noC j) sv) := ⟨HI_z.out.1, rb, rfl, HI_z.out.2⟩
                    go_roundw
                    case rel => exact ⟨i + 1, by omega, by go_num, HE1⟩
                    case measure => simp [intOf]; omega
              · have b4 : ((x.k : Int) == 4) = false := by rw [hk]; rfl
                have HST : Hid (rgS N (N.es.take (i + 1)) noC j = rgS N (N.es.take i) noC j) := by
                  show _ = _
                  rw [rgS_take HX.out, rJ_node HM.out HXM.out HYN.out]
                  unfold ndS
                  rw [if_neg (by omega)]
                clear hk
                obtain ⟨kp, hkp⟩ : ∃ kp, phK x = kp := ⟨_, rfl⟩
                rw [hkp]
                clear hkp
                go_wp2_with fail
                clear c0 c1 c2 c3 c4 c5' c6' c7' cy
                have HQ : Hid (repz (rgS N (N.es.take (i + 1)) noC j) sw) := by
                  rw [HST.out]
                  exact HI10.out.2
                have hgq : decide ((d : Int) ≤ (j : Int)) = false := decide_eq_false (by omega)
                have hgr : ¬ ((d : Int) ≤ (j : Int)) := by omega
                have hgs : decide ((j : Int) ≥ (d : Int)) = false := decide_eq_false (by omega)
                have hgt : ¬ ((j : Int) ≥ (d : Int)) := by omega
                have hgu : ((j : Int) < (d : Int)) := by omega
                go_quiet (fail)
                
                have HI_z := hidS (And.intro (HI10.out.1.trans ((below_dN (Below.refl _ _) nq).mono HI10.out.1.size)) HQ.out)
                obtain ⟨wz, hwz⟩ : ∃ W, w10.drewN nq = W := ⟨_, rfl⟩
                rw [hwz] at HI_z ⊢
                clear hwz
                go_wp2_with fail
                have HE1 : Hid (Below w9.heap.size w9 wz ∧ ∃ sv : Cw, (Value.complex .f64 sw.1 sw.2 = .complex .f64 sv.1 sv.2) ∧ repz (rgS N (N.es.take (i + 1)) noC j) sv) := ⟨HI_z.out.1, sw, rfl, HI_z.out.2⟩
                go_roundw
                case rel => exact ⟨i + 1, by omega, by go_num, HE1⟩
                case measure => simp [intOf]; omega
              · have b4 : ((x.k : Int) == 4) = false := by rw [beq_eq_false_iff_ne]; omega
                have HST : Hid (rgS N (N.es.take (i + 1)) noC j = rgS N (N.es.take i) noC j) := by
                  show _ = _
                  rw [rgS_take HX.out, rJ_node HM.out HXM.out HYN.out]
                  unfold ndS
                  rw [if_neg k4]
                clear k4 k5
                obtain ⟨kp, hkp⟩ : ∃ kp, phK x = kp := ⟨_, rfl⟩
                rw [hkp]
                clear hkp
                go_wp2_with fail
                clear c0 c1 c2 c3 c4 c5' c6' c7' cy
                have HQ : Hid (repz (rgS N (N.es.take (i + 1)) noC j) sw) := by
                  rw [HST.out]
                  exact HI10.out.2
                have hgq : decide ((d : Int) ≤ (j : Int)) = false := decide_eq_false (by omega)
                have hgr : ¬ ((d : Int) ≤ (j : Int)) := by omega
                have hgs : decide ((j : Int) ≥ (d : Int)) = false := decide_eq_false (by omega)
                have hgt : ¬ ((j : Int) ≥ (d : Int)) := by omega
                have hgu : ((j : Int) < (d : Int)) := by omega
                go_quiet (fail)
                
                have HI_z := hidS (And.intro (HI10.out.1.trans ((below_dN (Below.refl _ _) nq).mono HI10.out.1.size)) HQ.out)
                obtain ⟨wz, hwz⟩ : ∃ W, w10.drewN nq = W := ⟨_, rfl⟩
                rw [hwz] at HI_z ⊢
                clear hwz
                go_wp2_with fail
                have HE1 : Hid (Below w9.heap.size w9 wz ∧ ∃ sv : Cw, (Value.complex .f64 sw.1 sw.2 = .complex .f64 sv.1 sv.2) ∧ repz (rgS N (N.es.take (i + 1)) noC j) sv) := ⟨HI_z.out.1, sw, rfl, HI_z.out.2⟩
                go_roundw
                case rel => exact ⟨i + 1, by omega, by go_num, HE1⟩
                case measure => simp [intOf]; omega
            · have hjdi : ¬ ((j : Int) < (d : Int)) := by omega
              have hjdd : decide ((j : Int) < (d : Int)) = false := decide_eq_false hjdi
              obtain ⟨t, ht⟩ : ∃ t, j - d = t := ⟨_, rfl⟩
              have hjt : (j : Int) - (d : Int) = (t : Int) := by omega
              have htr : (t : Int) < (r : Int) := by omega
              have HJT : Hid (j = N.nd.length + t) := by
                show _ = _
                have := HDR.out.1
                omega
              obtain ⟨y, hy⟩ : ∃ y, N.br[t]? = some y := ⟨_, List.getElem?_eq_getElem (by have := HDR.out.2.1; omega)⟩
              have hno := own_below HO9.out.2.1 HI10.out.1
              rw [← HDR.out.2.1] at hno
              obtain ⟨gy, capy, hvy, cy⟩ := row_cellS hno hy
              clear hno
              injection hvy with he1 he2 he3
              subst he1
              clear he2 he3
              have HYN := hidS hy
              clear hy
              rcases kinds45 x.k with hk | hk | ⟨k4, k5⟩
              · skip
                have HST : Hid (rgS N (N.es.take (i + 1)) noC j = brS y x (rgS N (N.es.take i) noC j)) := by
                  show _ = _
                  rw [rgS_take HX.out, HJT.out, rJ_branch HM.out HXM.out HYN.out]
                have b5 : ((x.k : Int) == 5) = false := by rw [hk]; rfl
                have HEA : Hid (brS y x (rgS N (N.es.take i) noC j) = rgS N (N.es.take i) noC j) := by
                  show _ = _
                  unfold brS
                  rw [if_neg (by omega)]
                clear hk
                obtain ⟨kp, hkp⟩ : ∃ kp, phK x = kp := ⟨_, rfl⟩
                rw [hkp]
                clear hkp
                go_wp2_with fail
                have HQ : Hid (repz (rgS N (N.es.take (i + 1)) noC j) sw) := by
                  rw [HST.out, HEA.out]
                  exact HI10.out.2
                have hgq : decide ((d : Int) ≤ (j : Int)) = true := decide_eq_true (by omega)
                have hgr : ((d : Int) ≤ (j : Int)) := by omega
                have hgs : decide ((j : Int) ≥ (d : Int)) = true := decide_eq_true (by omega)
                have hgt : ((j : Int) ≥ (d : Int)) := by omega
                go_quiet (fail)
                
                have HI_z := hidS (And.intro (HI10.out.1.trans ((below_dN (Below.refl _ _) nq).mono HI10.out.1.size)) HQ.out)
                obtain ⟨wz, hwz⟩ : ∃ W, w10.drewN nq = W := ⟨_, rfl⟩
                rw [hwz] at HI_z ⊢
                clear hwz
                go_wp2_with fail
                have HE1 : Hid (Below w9.heap.size w9 wz ∧ ∃ sv : Cw, (Value.complex .f64 sw.1 sw.2 = .complex .f64 sv.1 sv.2) ∧ repz (rgS N (N.es.take (i + 1)) noC j) sv) := ⟨HI_z.out.1, sw, rfl, HI_z.out.2⟩
                go_roundw
                case rel => exact ⟨i + 1, by omega, by go_num, HE1⟩
                case measure => simp [intOf]; omega
              · skip
                have HST : Hid (rgS N (N.es.take (i + 1)) noC j = brS y x (rgS N (N.es.take i) noC j)) := by
                  show _ = _
                  rw [rgS_take HX.out, HJT.out, rJ_branch HM.out HXM.out HYN.out]
                have b5 : ((x.k : Int) == 5) = true := by rw [hk]; rfl
                obtain ⟨ea, hea⟩ : ∃ ea, (x.n.toList == y) = ea := ⟨_, rfl⟩
                have HEA : Hid (brS y x (rgS N (N.es.take i) noC j) = (if ea = true then phC x else rgS N (N.es.take i) noC j)) := by
                  show _ = _
                  unfold brS
                  rw [if_pos hk, ← hea, ByteArray.toList_eq]
                  by_cases q : bl x.n = y
                  · rw [if_pos q, if_pos (beq_iff_eq.2 q)]
                  · rw [if_neg q, if_neg (by rw [beq_eq_false_iff_ne.2 q]; decide)]
                clear hk
                obtain ⟨kp, hkp⟩ : ∃ kp, phK x = kp := ⟨_, rfl⟩
                rw [hkp]
                clear hkp
                cases ea
                · skip
                  go_wp2_with fail
                  have HQ : Hid (repz (rgS N (N.es.take (i + 1)) noC j) sw) := by
                    rw [HST.out, HEA.out]
                    exact HI10.out.2
                  have hgq : decide ((d : Int) ≤ (j : Int)) = true := decide_eq_true (by omega)
                  have hgr : ((d : Int) ≤ (j : Int)) := by omega
                  have hgs : decide ((j : Int) ≥ (d : Int)) = true := decide_eq_true (by omega)
                  have hgt : ((j : Int) ≥ (d : Int)) := by omega
                  go_quiet (fail)
                  
                  have HI_z := hidS (And.intro (HI10.out.1.trans ((below_dN (Below.refl _ _) nq).mono HI10.out.1.size)) HQ.out)
                  obtain ⟨wz, hwz⟩ : ∃ W, w10.drewN nq = W := ⟨_, rfl⟩
                  rw [hwz] at HI_z ⊢
                  clear hwz
                  go_wp2_with fail
                  have HE1 : Hid (Below w9.heap.size w9 wz ∧ ∃ sv : Cw, (Value.complex .f64 sw.1 sw.2 = .complex .f64 sv.1 sv.2) ∧ repz (rgS N (N.es.take (i + 1)) noC j) sv) := ⟨HI_z.out.1, sw, rfl, HI_z.out.2⟩
                  go_roundw
                  case rel => exact ⟨i + 1, by omega, by go_num, HE1⟩
                  case measure => simp [intOf]; omega
                · skip
                  go_wp2_with fail
                  have HQ : Hid (repz (rgS N (N.es.take (i + 1)) noC j) (re, im)) := by
                    rw [HST.out, HEA.out]
                    exact HY.out
                  have hgq : decide ((d : Int) ≤ (j : Int)) = true := decide_eq_true (by omega)
                  have hgr : ((d : Int) ≤ (j : Int)) := by omega
                  have hgs : decide ((j : Int) ≥ (d : Int)) = true := decide_eq_true (by omega)
                  have hgt : ((j : Int) ≥ (d : Int)) := by omega
                  go_quiet (fail)
                  
                  have HI_z := hidS (And.intro (HI10.out.1.trans ((below_dN (Below.refl _ _) nq).mono HI10.out.1.size)) HQ.out)
                  obtain ⟨wz, hwz⟩ : ∃ W, w10.drewN nq = W := ⟨_, rfl⟩
                  rw [hwz] at HI_z ⊢
                  clear hwz
                  go_wp2_with fail
                  have HE1 : Hid (Below w9.heap.size w9 wz ∧ ∃ sv : Cw, (Value.complex .f64 re im = .complex .f64 sv.1 sv.2) ∧ repz (rgS N (N.es.take (i + 1)) noC j) sv) := ⟨HI_z.out.1, (re, im), rfl, HI_z.out.2⟩
                  go_roundw
                  case rel => exact ⟨i + 1, by omega, by go_num, HE1⟩
                  case measure => simp [intOf]; omega
              · skip
                have HST : Hid (rgS N (N.es.take (i + 1)) noC j = brS y x (rgS N (N.es.take i) noC j)) := by
                  show _ = _
                  rw [rgS_take HX.out, HJT.out, rJ_branch HM.out HXM.out HYN.out]
                have b5 : ((x.k : Int) == 5) = false := by rw [beq_eq_false_iff_ne]; omega
                have HEA : Hid (brS y x (rgS N (N.es.take i) noC j) = rgS N (N.es.take i) noC j) := by
                  show _ = _
                  unfold brS
                  rw [if_neg k5]
                clear k4 k5
                obtain ⟨kp, hkp⟩ : ∃ kp, phK x = kp := ⟨_, rfl⟩
                rw [hkp]
                clear hkp
                go_wp2_with fail
                have HQ : Hid (repz (rgS N (N.es.take (i + 1)) noC j) sw) := by
                  rw [HST.out, HEA.out]
                  exact HI10.out.2
                have hgq : decide ((d : Int) ≤ (j : Int)) = true := decide_eq_true (by omega)
                have hgr : ((d : Int) ≤ (j : Int)) := by omega
                have hgs : decide ((j : Int) ≥ (d : Int)) = true := decide_eq_true (by omega)
                have hgt : ((j : Int) ≥ (d : Int)) := by omega
                go_quiet (fail)
                
                have HI_z := hidS (And.intro (HI10.out.1.trans ((below_dN (Below.refl _ _) nq).mono HI10.out.1.size)) HQ.out)
                obtain ⟨wz, hwz⟩ : ∃ W, w10.drewN nq = W := ⟨_, rfl⟩
                rw [hwz] at HI_z ⊢
                clear hwz
                go_wp2_with fail
                have HE1 : Hid (Below w9.heap.size w9 wz ∧ ∃ sv : Cw, (Value.complex .f64 sw.1 sw.2 = .complex .f64 sv.1 sv.2) ∧ repz (rgS N (N.es.take (i + 1)) noC j) sv) := ⟨HI_z.out.1, sw, rfl, HI_z.out.2⟩
                go_roundw
                case rel => exact ⟨i + 1, by omega, by go_num, HE1⟩
                case measure => simp [intOf]; omega
          · have ei : i = n := by omega
            subst ei
            have hnlt : ¬ ((i : Int) < (i : Int)) := by omega
            have hR10 := HR9.out.on HI.out.1
            obtain ⟨g5, c5x, z5, hv5, _, hz1, hz2, hz3⟩ := hR10.get hj
            injection hv5 with he1 he2 he3
            subst he1
            clear he2 he3
            unfold cx at hz1
            have HZ : Hid (smB sw.1 z5.1 = true ∧ smB sw.2 z5.2 = true) := by
              have h1 := HI.out.2
              rw [List.take_of_length_le (by have := HNL.out.1; omega)] at h1
              rw [rgL_fold _ _ _ _ HRF.out] at hz3
              exact ⟨smB_of h1.1 hz3.1, smB_of h1.2 hz3.2⟩
            have hjm : (j : Int) < (m : Int) := by omega
            have HSM : Hid (∀ W, Calls Try.prog 37 #[.complex .f64 sw.1 sw.2, .complex .f64 z5.1 z5.2] W fun e w' => e = .returned (.bool true) ∧ w' = W) := fun W => by
              have h1 := @same_any sw.1 sw.2 z5.1 z5.2 W
              rw [HZ.out.1, HZ.out.2] at h1
              exact h1
            have HBZ := hidS (HB_w9.out.trans (HI.out.1.mono HB_w9.out.size))
            clear hz2 hz3 hR10
            go_wp2_with (go_at_call 37; (refine (HSM.out _).mono ?_); rintro es ws ⟨rfl, hws⟩; subst ws)
            go_ret
            exact ⟨rfl, HBZ.out⟩
    · have HB_w5 := hidS ((HB_w2.out.alloc HB_w2.out.size _).trans (hb5.mono (HB_w2.out.alloc HB_w2.out.size _).size))
      have hin : (i : Int) < (n : Int) := by have := HNL.out.1; omega
      clear hF hi hb5 HN2
      go_wp2_with fail
      go_ret
      exact ⟨rfl, HB_w5.out.alloc HB_w5.out.size _⟩
  · have hne := of_ne hof hp2
    obtain ⟨hb2, rfl⟩ := of_no3 hof hp2
    have HB_w2 := hidS (HB_w1.out.trans (hb2.mono HB_w1.out.size))
    obtain ⟨f1, hf1⟩ : ∃ f1, (ofA xs).1.1 = f1 := ⟨_, rfl⟩
    obtain ⟨f2, hf2⟩ : ∃ f2, (ofA xs).1.2 = f2 := ⟨_, rfl⟩
    rw [hf1, hf2]
    rw [hf1] at hne
    have hn1 : (f1 != 0) = true := by simp [hne]
    have hn2 : (f1 == 0) = false := by simp [hne]
    clear hof hp2 hb2 hf1 hf2 hne
    go_wp2_with fail
    go_ret
    exact ⟨rfl, HB_w2.out.alloc HB_w2.out.size _⟩
end Go.Proofs.Ytpjpamdocfdibaa
