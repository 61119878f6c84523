/-
  SourceOpposite's walk.
-/
import Derived.Test.YtpjpamdocfdibaaStu19
import Derived.Test.YtpjpamdocfdibaaSpw
import Derived.Test.YtpjpamdocfdibaaSws
import Derived.BigQuiet
namespace Go.Proofs.Ytpjpamdocfdibaa
open Fl Go.Maps RowKit Joins Deep
set_option linter.unusedVariables false
set_option maxRecDepth 20000

@[go_sem] theorem run_negComplexO (a b : Nat) (w : World) : (Op.unary UnOp.neg (.complex .f64 a b)).run Try.prog w = .ok (.complex .f64 (Op.negFloat .f64 a) (Op.negFloat .f64 b)) w := rfl
set_option maxHeartbeats 16000000 in
theorem sopp_walk (w : World) (A : Option Addr) (c n : Nat) (xs : List Elm) (hl : xs.length = n) (hsz : n * 104 ≤ 140737488351232) (hR : Re w A xs) (hok : ∀ x ∈ xs, x.ok) (hbd : ∀ x ∈ xs, x.bd) (s : ByteArray) (hs : s.size ≤ 140737488351232) : Calls Try.prog 8 #[.slice A n c, .string s] w fun e w' => e = .returned (.bool true) ∧ Below w.heap.size w w' := by
  have HR := hidS hR
  have HL := hidS (And.intro hl (And.intro hok (And.intro (fun x hx => (⟨(hbd x hx).plo, (hbd x hx).phi⟩ : Elm.phb x)) (And.intro hsz hs))))
  clear hR hl hok hsz hbd hs
  have hn9 : n ≤ 1000000000000000 := by have := HL.out.2.2.2.1; omega
  have HB_w := hidS (Below.refl w.heap.size w)
  go_enter Try.func8, Try.ntmps8
  go_wp2_with fail
  refine (awake19 _).mono ?_
  rintro e0 w0 ⟨rfl, hb0⟩
  have HB_w0 := hidS hb0
  clear hb0
  go_wp2_with fail
  refine (elementsOf_any w0 A c n xs HL.out.1 HL.out.2.2.2.1 (re_on HR.out HB_w0.out)).mono ?_
  rintro e1 w1 ⟨v1, rfl, ho1, hb1⟩
  have HO1 := hidS ho1
  have HB_w1 := hidS (HB_w0.out.trans (hb1.mono HB_w0.out.size))
  clear ho1 hb1
  go_wp2_with fail
  refine (netOf_row HL.out.1 HO1.out HL.out.2.1).mono ?_
  rintro e2 w2 hp2
  by_cases hof : (ofA xs).1 = (0, 0)
  · have HTF := hidS (fun ph => Md.tu ph hof HL.out.2.1 HL.out.2.2.1)
    have HM := hidS (Md.of hof HL.out.2.1 HL.out.2.2.1)
    have HES := hidS (ofA_facts (show ofA xs = ((0, 0), (ofA xs).2) by rw [← hof])).2.1
    obtain ⟨hb2, p, b0, b, rfl, hN2⟩ := of_yes3 hof hp2
    obtain ⟨N, hN⟩ : ∃ N, (ofA xs).2 = N := ⟨_, rfl⟩
    rw [hN] at HM HES hN2 HTF
    have HN2 := hidS hN2
    have HB_w2 := hidS (HB_w1.out.trans (hb2.mono HB_w1.out.size))
    clear hof hp2 hb2 hN hN2 HO1 HB_w1 HB_w0
    have HNL : Hid (N.es.length = n ∧ n ≤ 256) := ⟨by rw [HES.out]; exact HL.out.1, by have := HM.out.ln; rw [HES.out, HL.out.1] at this; exact this⟩
    obtain ⟨g1, hg1⟩ : ∃ g1, (rgF N).1 = g1 := ⟨_, rfl⟩
    obtain ⟨g2, hg2⟩ : ∃ g2, (rgF N).2 = g2 := ⟨_, rfl⟩
    obtain ⟨K, hK⟩ : ∃ K, rgK N = K := ⟨_, rfl⟩
    have hK9 : K ≤ 64 := by rw [← hK]; exact rgK_le HM.out
    have HEQ := hidS (And.intro hg1 (And.intro hg2 hK))
    clear hg1 hg2 hK
    go_wp2_with fail
    refine (sright_res (HN2.out.below (bal _ _)) HM.out).mono ?_
    rintro e5 w5 ⟨A5, c5, rfl, hr5, hb5⟩
    rw [HEQ.out.2.2] at hr5
    rw [HEQ.out.1, HEQ.out.2.1, HEQ.out.2.2]
    have HB_w5 := hidS ((HB_w2.out.alloc HB_w2.out.size _).trans (hb5.mono (HB_w2.out.alloc HB_w2.out.size _).size))
    have HN5 := hidS ((HN2.out.below (bal _ _)).below hb5)
    have HR5 := hidS hr5
    clear hr5 hb5 HN2
    have HB_a5 := hidS (HB_w5.out.alloc HB_w5.out.size (.cells #[.int .i64 g1, .int .i64 g2] 29))
    have HK5 : Hid (Flt (w5.alloc (.cells #[.int .i64 g1, .int .i64 g2] 29)) w5.heap.size g1 g2) := flt_new w5 g1 g2
    have HN_a5 := hidS (HN5.out.below (bal w5 (.cells #[.int .i64 g1, .int .i64 g2] 29)))
    have HR_a5 := hidS (HR5.out.on (bal w5 (.cells #[.int .i64 g1, .int .i64 g2] 29)))
    obtain ⟨a5, h_a5⟩ : ∃ W, w5.alloc (.cells #[.int .i64 g1, .int .i64 g2] 29) = W := ⟨_, rfl⟩
    obtain ⟨q5, hq5⟩ : ∃ q, w5.heap.size = q := ⟨_, rfl⟩
    rw [h_a5] at HB_a5 HK5 HN_a5 HR_a5
    rw [hq5] at HK5
    have HT0 : Hid (Below a5.heap.size a5 a5) := Below.refl _ _
    go_wp2_with fail
    clear h_a5 hq5 HN5 HR5 HB_w5
    go_loopw [10] (fun kv wr => ∃ (k : Nat), k ≤ 2 ∧ kv = .int .i64 k ∧ Hid (Below a5.heap.size a5 wr)) (fun kv _ => 2 - (intOf kv).toNat)
    case atStart => exact ⟨0, Nat.zero_le _, rfl, HT0⟩
    case round =>
      obtain ⟨k, hkle, rfl, HI⟩ := hrel
      clear HT0
      by_cases hklt : k < 2
      · obtain ⟨ph, hph⟩ : ∃ ph, ((k : Int) == 1) = ph := ⟨_, rfl⟩
        have hk2 : (k : Int) < 2 := by omega
        go_wp2_with fail
        refine (elements_made (HN_a5.out.below HI.out) (by have := HNL.out; omega)).mono ?_
        rintro e6 w6 ⟨v6, rfl, ho6, hb6⟩
        obtain ⟨A6, c6, rfl⟩ := drow_slice ho6
        have HO6 := hidS ho6
        have HI6 := hidS (HI.out.trans (hb6.mono HI.out.size))
        clear ho6 hb6
        go_wp2_with fail
        refine (turned19_any w6 _ A6 c6 N.es.length ph N.es rfl (by have := HNL.out; omega) HO6.out (fun x hx => (HM.out.ok x hx).v)).mono ?_
        rintro e7 w7 ⟨v7, rfl, ho7, hb7⟩
        have HO7 := hidS ho7
        have HI7 := hidS (HI6.out.trans (hb7.mono HI6.out.size))
        clear ho7 hb7 HO6 HI6
        go_wp2_with fail
        refine (netOf_row (by rw [List.length_map]) HO7.out (fun y hy => by
          obtain ⟨x, hx, rfl⟩ := List.mem_map.1 hy
          exact tuE_ok ph (HM.out.ok x hx))).mono ?_
        rintro e8 w8 hp8
        rw [HES.out] at hp8
        obtain ⟨hb8, p8, b80, b8, rfl, hN8⟩ := of_yes2 (HTF.out ph).1 hp8
        have HN8 := hidS hN8
        have HI8 := hidS (HI7.out.trans (hb8.mono HI7.out.size))
        clear hb8 hN8 hp8 HO7 HI7
        go_wp2_with fail
        refine (sright_res (HN8.out.below (bal _ _)) (HTF.out ph).2.1).mono ?_
        rintro e9 w9 ⟨A9, c9, rfl, hr9, hb9⟩
        rw [rgK_tu ph (HTF.out ph).2.2.1, HEQ.out.2.2] at hr9
        rw [(HTF.out ph).2.2.1, rgK_tu ph (HTF.out ph).2.2.1, HEQ.out.1, HEQ.out.2.1, HEQ.out.2.2]
        have HI9 := hidS ((HI8.out.alloc HI8.out.size _).trans (hb9.mono (HI8.out.alloc HI8.out.size _).size))
        have HR9 := hidS hr9
        clear hr9 hb9 HN8 HI8
        have HI_a9 := hidS (HI9.out.alloc HI9.out.size (.cells #[.int .i64 g1, .int .i64 g2] 29))
        have HK9 : Hid (Flt (w9.alloc (.cells #[.int .i64 g1, .int .i64 g2] 29)) w9.heap.size g1 g2) := flt_new w9 g1 g2
        have HR_a9 := hidS (HR9.out.on (bal w9 (.cells #[.int .i64 g1, .int .i64 g2] 29)))
        obtain ⟨a9, h_a9⟩ : ∃ W, w9.alloc (.cells #[.int .i64 g1, .int .i64 g2] 29) = W := ⟨_, rfl⟩
        obtain ⟨q9, hq9⟩ : ∃ q, w9.heap.size = q := ⟨_, rfl⟩
        rw [h_a9] at HI_a9 HK9 HR_a9
        rw [hq9] at HK9
        obtain ⟨x0, x1, x2, x3⟩ := tw_c HK9.out
        obtain ⟨y0, y1, y2, y3⟩ := tw_c (HK5.out.on HI_a9.out)
        have HU0 : Hid (Below a9.heap.size a9 a9) := Below.refl _ _
        go_wp2_with fail
        clear h_a9 hq9 x0 x1 x2 x3 y0 y1 y2 y3 HR9 HI9 HI hph
        go_loopw [15] (fun jv wr => ∃ (j : Nat), j ≤ K ∧ jv = .int .i64 j ∧ Hid (Below a9.heap.size a9 wr)) (fun jv _ => K - (intOf jv).toNat)
        case atStart => exact ⟨0, Nat.zero_le _, rfl, HU0⟩
        case round =>
          obtain ⟨j, hjle, rfl, HJ⟩ := hrel
          clear HU0
          by_cases hjlt : j < K
          · have hjli : (j : Int) < (K : Int) := by omega
            obtain ⟨gx, cx2, zx, hvx, _, hx1, _, hx3⟩ := (HR_a9.out.on HJ.out).get hjlt
            obtain ⟨gy, cy2, zy, hvy, _, hy1, _, hy3⟩ := (HR_a5.out.on (HI_a9.out.trans (HJ.out.mono HI_a9.out.size))).get hjlt
            injection hvx with he1 he2 he3
            subst he1
            clear he2 he3
            injection hvy with he1 he2 he3
            subst he1
            clear he2 he3
            unfold cx at hx1 hy1
            have HOR := hidS (ob_words ((HTF.out ph).2.2.2 j) hy3 hx3 (rgR_fin HM.out (by rw [HEQ.out.2.2]; exact hjlt)))
            clear hx3 hy3
            have o1' := HOR.out.1
            have o2' := HOR.out.2
            go_wp2_with fail
            go_region_held_law (fun W => W.cell? ⟨gx, j, none⟩ = some (.complex .f64 zx.1 zx.2) ∧ W.cell? ⟨gy, j, none⟩ = some (.complex .f64 zy.1 zy.2)) (first | exact ⟨hx1, hy1⟩ | go_keep) (fail)
            rename_i hHeld
            clear hHeld
            have HJ2 : Hid (Below a9.heap.size a9 wr.drew) := HJ.out.drew
            go_wp2_with fail
            go_roundw
            case rel => exact ⟨j + 1, by omega, by go_num, HJ2⟩
            case measure => simp [intOf]; omega
          · have ej : j = K := by omega
            subst ej
            have hjli : ¬ ((j : Int) < (j : Int)) := by omega
            have HI2 := hidS (HI_a9.out.trans (HJ.out.mono HI_a9.out.size))
            go_wp2_with fail
            go_roundw
            case rel => exact ⟨k + 1, by omega, by go_num, HI2⟩
            case measure => simp [intOf]; omega
      · have ek : k = 2 := by omega
        subst ek
        have hk2 : ¬ (((2 : Nat) : Int) < 2) := by omega
        go_wp2_with fail
        clear hk2 hklt hkle
        rcases hpr : prt N s with _ | x
        · refine (sdriven_no (HN_a5.out.below HI.out) HM.out s HL.out.2.2.2.2 (prt_none hpr)).mono ?_
          rintro e10 w10 ⟨rfl, hb10⟩
          have HI10 := hidS (HI.out.trans (hb10.mono HI.out.size))
          clear hb10 HI
          have HI_a10 := hidS (HI10.out.alloc HI10.out.size (.cells #[.int .i64 10, .int .i64 (-1)] 29))
          have HK10 : Hid (Flt (w10.alloc (.cells #[.int .i64 10, .int .i64 (-1)] 29)) w10.heap.size 10 (-1)) := flt_new w10 10 (-1)
          obtain ⟨a10, h_a10⟩ : ∃ W, w10.alloc (.cells #[.int .i64 10, .int .i64 (-1)] 29) = W := ⟨_, rfl⟩
          obtain ⟨q10, hq10⟩ : ∃ q, w10.heap.size = q := ⟨_, rfl⟩
          rw [h_a10] at HI_a10 HK10
          rw [hq10] at HK10
          go_wp2_with fail
          rcases hfx : fnd N.es (bl s) with _ | x
          · refine (find_no (HN_a5.out.below HI_a10.out) HM.out.nv s HL.out.2.2.2.2 hfx).mono ?_
            rintro e11 w11 ⟨rfl, hb11⟩
            rw [show elV elZ = .agg #[.int .u8 0, .string ⟨#[]⟩, .string ⟨#[]⟩, .string ⟨#[]⟩, .string ⟨#[]⟩, .string ⟨#[]⟩, .float .f64 0, .int .i64 0] from rfl]
            obtain ⟨x0, x1, x2, x3⟩ := tw_c ((HK10.out.on hb11).on (bal w11 (.cells #[.int .u8 0, .string ⟨#[]⟩, .string ⟨#[]⟩, .string ⟨#[]⟩, .string ⟨#[]⟩, .string ⟨#[]⟩, .float .f64 0, .int .i64 0] 57)))
            have HZ := hidS (HB_a5.out.trans ((HI_a10.out.trans (hb11.mono HI_a10.out.size)).mono HB_a5.out.size))
            clear hb11 hpr hfx h_a10 hq10
            go_wp2_with fail
            go_ret
            exact ⟨rfl, HZ.out.alloc HZ.out.size _⟩
          · have hk8 := prt_none hpr x hfx
            refine (find_yes (HN_a5.out.below HI_a10.out) HM.out.nv HM.out.ln s HL.out.2.2.2.2 hfx).mono ?_
            rintro e11 w11 ⟨rfl, hb11⟩
            rw [show elV x = .agg #[.int .u8 (x.k : Int), .string x.n, .string x.a, .string x.b, .string x.c, .string x.d, .float .f64 x.v, .int .i64 x.ph] from rfl]
            obtain ⟨⟨d0, d1, d2, d3, d4, d5, d6, d7⟩, z8⟩ := eight (heap_alloc_new w11 (.cells #[.int .u8 (x.k : Int), .string x.n, .string x.a, .string x.b, .string x.c, .string x.d, .float .f64 x.v, .int .i64 x.ph] 57))
            obtain ⟨x0, x1, x2, x3⟩ := tw_c ((HK10.out.on hb11).on (bal w11 (.cells #[.int .u8 (x.k : Int), .string x.n, .string x.a, .string x.b, .string x.c, .string x.d, .float .f64 x.v, .int .i64 x.ph] 57)))
            have HZ := hidS (HB_a5.out.trans ((HI_a10.out.trans (hb11.mono HI_a10.out.size)).mono HB_a5.out.size))
            have bk : ((x.k : Int) != 8) = true := by rw [bne_iff_ne]; omega
            clear hb11 hpr hfx h_a10 hq10 hk8 z8
            obtain ⟨we, hwe⟩ : ∃ we, w11.alloc (.cells #[.int .u8 (x.k : Int), .string x.n, .string x.a, .string x.b, .string x.c, .string x.d, .float .f64 x.v, .int .i64 x.ph] 57) = we := ⟨_, rfl⟩
            rw [hwe] at d0 d1 d2 d3 d4 d5 d6 d7 x0 x1 x2 x3
            have HZ2 := hidS (HZ.out.alloc HZ.out.size (.cells #[.int .u8 (x.k : Int), .string x.n, .string x.a, .string x.b, .string x.c, .string x.d, .float .f64 x.v, .int .i64 x.ph] 57))
            rw [hwe] at HZ2
            go_wp2_with fail
            go_ret
            exact ⟨rfl, HZ2.out⟩
        · obtain ⟨hfx, hk8⟩ := prt_some hpr
          have HXM := hidS (fnd_mem hfx)
          refine (sdriven_yes (HN_a5.out.below HI.out) HM.out s HL.out.2.2.2.2 hfx hk8).mono ?_
          rintro e10 w10 ⟨v10, rfl, hr10, hb10⟩
          obtain ⟨m, hm⟩ : ∃ m, N.nd.length + N.br.length = m := ⟨_, rfl⟩
          obtain ⟨d, hd⟩ : ∃ d, N.nd.length = d := ⟨_, rfl⟩
          obtain ⟨r, hr⟩ : ∃ r, N.br.length = r := ⟨_, rfl⟩
          have hm9 : m ≤ 64 := by have := HM.out.nb; omega
          have hd9 : d ≤ 64 := by omega
          have hr9 : r ≤ 64 := by omega
          have hdr : (d : Int) + (r : Int) = (m : Int) := by omega
          have HDR := hidS (And.intro hd (And.intro hr hm))
          rw [hm] at hr10
          clear hd hr hm
          obtain ⟨A10, c10, rfl⟩ := hr10.sh
          have HR10 := hidS hr10
          have HI10 := hidS (HI.out.trans (hb10.mono HI.out.size))
          clear hb10 HI hr10 hpr
          go_wp2_with fail
          have HI_a10 := hidS (HI10.out.alloc HI10.out.size (.cells #[.int .i64 0, .int .i64 0] 29))
          have HK10 : Hid (Flt (w10.alloc (.cells #[.int .i64 0, .int .i64 0] 29)) w10.heap.size 0 0) := flt_new w10 0 0
          have HR_a10 := hidS (HR10.out.on (bal w10 (.cells #[.int .i64 0, .int .i64 0] 29)))
          obtain ⟨a10, h_a10⟩ : ∃ W, w10.alloc (.cells #[.int .i64 0, .int .i64 0] 29) = W := ⟨_, rfl⟩
          obtain ⟨q10, hq10⟩ : ∃ q, w10.heap.size = q := ⟨_, rfl⟩
          rw [h_a10] at HI_a10 HK10 HR_a10
          rw [hq10] at HK10
          rw [h_a10, hq10]
          clear h_a10 hq10 HI10 HR10
          refine (find_yes (HN_a5.out.below HI_a10.out) HM.out.nv HM.out.ln s HL.out.2.2.2.2 hfx).mono ?_
          rintro e11 w11 ⟨rfl, hb11⟩
          rw [show elV x = .agg #[.int .u8 (x.k : Int), .string x.n, .string x.a, .string x.b, .string x.c, .string x.d, .float .f64 x.v, .int .i64 x.ph] from rfl]
          have hbe := hb11.trans ((bal w11 (.cells #[.int .u8 (x.k : Int), .string x.n, .string x.a, .string x.b, .string x.c, .string x.d, .float .f64 x.v, .int .i64 x.ph] 57)).mono hb11.size)
          have hel := heap_alloc_new w11 (.cells #[.int .u8 (x.k : Int), .string x.n, .string x.a, .string x.b, .string x.c, .string x.d, .float .f64 x.v, .int .i64 x.ph] 57)
          have hlt8 : w11.heap.size < (w11.alloc (.cells #[.int .u8 (x.k : Int), .string x.n, .string x.a, .string x.b, .string x.c, .string x.d, .float .f64 x.v, .int .i64 x.ph] 57)).heap.size := by simp
          obtain ⟨we, hwe⟩ : ∃ we, w11.alloc (.cells #[.int .u8 (x.k : Int), .string x.n, .string x.a, .string x.b, .string x.c, .string x.d, .float .f64 x.v, .int .i64 x.ph] 57) = we := ⟨_, rfl⟩
          obtain ⟨qe, hqe⟩ : ∃ q, w11.heap.size = q := ⟨_, rfl⟩
          rw [hwe] at hbe hel hlt8
          rw [hqe] at hel hlt8
          have HEL := hidS (And.intro hel hlt8)
          have HI_e := hidS (HI_a10.out.trans (hbe.mono HI_a10.out.size))
          have HR_e := hidS (HR_a10.out.on hbe)
          obtain ⟨⟨d0, d1, d2, d3, d4, d5, d6, d7⟩, z8⟩ := eight hel
          obtain ⟨x0, x1, x2, x3⟩ := tw_c (HK10.out.on hbe)
          have bk : ((x.k : Int) != 8) = false := by rw [hk8]; rfl
          clear hb11 hbe hel hlt8 z8 HR_a10 HK10 HI_a10 hfx hk8
          go_wp2_with fail
          refine (nodes_made (HN_a5.out.below HI_e.out) (by have := HM.out.nd; omega)).mono ?_
          rintro e12 w12 ⟨v12, rfl, ho12, hb12⟩
          obtain ⟨A12, c12, rfl⟩ := drow_slice ho12
          rw [HDR.out.1]
          have HI12 := hidS (HI_e.out.trans (hb12.mono HI_e.out.size))
          have HR12 := hidS (HR_e.out.on hb12)
          have HE12 : Hid (w12.heap[qe]? = some (.cells #[.int .u8 (x.k : Int), .string x.n, .string x.a, .string x.b, .string x.c, .string x.d, .float .f64 x.v, .int .i64 x.ph] 57 (0, 0))) := by rw [hb12.block qe HEL.out.2]; exact HEL.out.1
          have HL12 : Hid (qe < w12.heap.size) := Nat.lt_of_lt_of_le HEL.out.2 hb12.size
          clear ho12 hb12 HEL HI_e HR_e d0 d1 d2 d3 d4 d5 d6 d7 x0 x1 x2 x3 bk hwe hqe
          go_wp2_with fail
          refine (sbranches_made (HN_a5.out.below HI12.out) (by have := HM.out.nb; omega)).mono ?_
          rintro e13 w13 ⟨v13, rfl, ho13, hb13⟩
          obtain ⟨A13, c13, rfl⟩ := drow_slice ho13
          rw [HDR.out.2.1]
          have HI13 := hidS (HI12.out.trans (hb13.mono HI12.out.size))
          have HR13 := hidS (HR12.out.on hb13)
          have HE13 : Hid (w13.heap[qe]? = some (.cells #[.int .u8 (x.k : Int), .string x.n, .string x.a, .string x.b, .string x.c, .string x.d, .float .f64 x.v, .int .i64 x.ph] 57 (0, 0))) := by rw [hb13.block qe HL12.out]; exact HE12.out
          have HL13 : Hid (qe < w13.heap.size) := Nat.lt_of_lt_of_le HL12.out hb13.size
          clear ho13 hb13 HE12 HL12 HI12 HR12
          have HV0 : Hid (Below w13.heap.size w13 w13) := Below.refl _ _
          go_wp2_with fail
          go_loopw [20] (fun jv wr => ∃ (j : Nat), j ≤ m ∧ jv = .int .i64 j ∧ Hid (Below w13.heap.size w13 wr)) (fun jv _ => m - (intOf jv).toNat)
          case atStart => exact ⟨0, Nat.zero_le _, rfl, HV0⟩
          case round =>
            obtain ⟨j, hjle, rfl, HJ⟩ := hrel
            clear HV0
            by_cases hjlt : j < m
            · have hjli : (j : Int) < (m : Int) := by omega
              have HJE : Hid (wr.heap[qe]? = some (.cells #[.int .u8 (x.k : Int), .string x.n, .string x.a, .string x.b, .string x.c, .string x.d, .float .f64 x.v, .int .i64 x.ph] 57 (0, 0))) := by rw [HJ.out.block qe HL13.out]; exact HE13.out
              obtain ⟨⟨d0, d1, d2, d3, d4, d5, d6, d7⟩, z8⟩ := eight HJE.out
              clear z8
              have q1 : FloatKind.f64.format.order 0 0 = some .eq := by kernel_rfl
              have q2 : FloatKind.f64.format.order 4607182418800017408 4607182418800017408 = some .eq := by kernel_rfl
              have q3 : FloatKind.f64.format.order 13830554455654793216 13830554455654793216 = some .eq := by kernel_rfl
              by_cases hjd : j < d
              · have hjdi : (j : Int) < (d : Int) := by omega
                obtain ⟨y, hy⟩ : ∃ y, N.nd[j]? = some y := ⟨_, List.getElem?_eq_getElem (by have := HDR.out.1; omega)⟩
                have HYN := hidS hy
                clear hy
                obtain ⟨ea, hea⟩ : ∃ ea, (y == x.a.toList) = ea := ⟨_, rfl⟩
                obtain ⟨eb, heb⟩ : ∃ eb, (y == x.b.toList) = eb := ⟨_, rfl⟩
                have HPV : Hid (drR N x j = (if eb = true then (some 13830554455654793216, some 0) else if ea = true then (some 4607182418800017408, some 0) else (some 0, some 0))) := by
                  show _ = _
                  rw [drR_node HM.out HXM.out HYN.out, ← hea, ← heb, ByteArray.toList_eq, ByteArray.toList_eq]
                  unfold ptV
                  by_cases qb : bl x.b = y
                  · have nb : (y == bl x.b) = true := beq_iff_eq.2 qb.symm
                    rw [if_pos qb, if_pos nb]
                  · have nb : ¬ ((y == bl x.b) = true) := by rw [beq_eq_false_iff_ne.2 (Ne.symm qb)]; decide
                    rw [if_neg qb, if_neg nb]
                    by_cases qa : bl x.a = y
                    · have na : (y == bl x.a) = true := beq_iff_eq.2 qa.symm
                      rw [if_pos qa, if_pos na]
                    · have na : ¬ ((y == bl x.a) = true) := by rw [beq_eq_false_iff_ne.2 (Ne.symm qa)]; decide
                      rw [if_neg qa, if_neg na]
                cases ea
                · cases eb
                  · skip
                    go_wp2_with fail
                    refine wp_region_held_drew (S := (fun W : World => W.cell? ⟨qe, 2, none⟩ = some (.string x.a))) (by kernel_rfl) d2 (fun hHeld => ?_)
                    refine wpAnyH_take (i := 0) (v := ?qv0p00) (by (simp only [List.getElem?_toArray, List.getElem?_cons_zero]; rfl)) (by kernel_rfl) (by kernel_rfl) (by kernel_rfl) ?qQ0p00 (Or.inl ⟨by rfl, ?qh0p00⟩) hHeld ?qr0p00
                    case qQ0p00 => exact fun _ _ _ h => h
                    case qh0p00 => (intro w hSw; (try dsimp only at hSw); go_simp; try with_reducible rfl)
                    try simp only [Act.put, List.setIfInBounds_toArray, List.set_cons_zero, List.set_cons_succ]
                    refine wpAnyH_take (i := 1) (v := ?qv1p00) (by (simp only [List.getElem?_toArray, List.getElem?_cons_zero, List.getElem?_cons_succ]; rfl)) (by kernel_rfl) (by kernel_rfl) (by kernel_rfl) ?qQ1p00 (Or.inl ⟨by rfl, ?qh1p00⟩) hHeld ?qr1p00
                    case qQ1p00 => exact fun _ _ _ h => h
                    case qh1p00 => (intro w hSw; (try dsimp only at hSw); go_simp; try with_reducible rfl)
                    try simp only [Act.put, List.setIfInBounds_toArray, List.set_cons_zero, List.set_cons_succ]
                    refine wpAnyH_ready (rs := [2]) (by kernel_rfl) (by simp) ?_
                    refine AllReadyH.cons rfl (fun K hK => ?_) AllReadyH.nil
                    go_simp
                    go_wp2_with (first
                      | (go_at_call 31; (refine (nodes_made (HN_a5.out.below (HI13.out.trans ((HJ.out.drew).mono HI13.out.size))) (by have := HM.out.nd; omega)).mono ?_); rintro e_w_pa w_pa ⟨v_w_pa, rfl, ho, hb⟩; (obtain ⟨A_w_pa, c_w_pa, rfl⟩ := drow_slice ho); (have HO_w_pa := hidS ho); (have HB_w_pa := hidS ((HJ.out.drew).trans (hb.mono (HJ.out.drew).size))); clear ho hb; rw [HDR.out.1]))
                    refine hK.out _ _ (by (obtain ⟨⟨k0, k1, k2, k3, k4, k5, k6, k7⟩, kz⟩ := eight (show (w_pa).heap[qe]? = some (.cells #[.int .u8 (x.k : Int), .string x.n, .string x.a, .string x.b, .string x.c, .string x.d, .float .f64 x.v, .int .i64 x.ph] 57 (0, 0)) by rw [HB_w_pa.out.block qe HL13.out]; exact HE13.out)); exact k2) (fun hHeld => ?_)
                    clear hK K
                    try simp only [Act.put, List.setIfInBounds_toArray, List.set_cons_zero, List.set_cons_succ]
                    refine wpAnyH_take (i := 3) (v := ?qv3p00) (by (simp only [List.getElem?_toArray, List.getElem?_cons_zero, List.getElem?_cons_succ]; rfl)) (by kernel_rfl) (by kernel_rfl) (by kernel_rfl) ?qQ3p00 (Or.inl ⟨by rfl, ?qh3p00⟩) hHeld ?qr3p00
                    case qQ3p00 => exact fun _ _ _ h => h
                    case qh3p00 => (intro w hSw; (try dsimp only at hSw); go_simp; try with_reducible rfl)
                    try simp only [Act.put, List.setIfInBounds_toArray, List.set_cons_zero, List.set_cons_succ]
                    refine wpAnyH_take (i := 4) (v := ?qv4p00) (by (simp only [List.getElem?_toArray, List.getElem?_cons_zero, List.getElem?_cons_succ]; rfl)) (by kernel_rfl) (by kernel_rfl) (by kernel_rfl) ?qQ4p00 (Or.inl ⟨by rfl, ?qh4p00⟩) hHeld ?qr4p00
                    case qQ4p00 => exact fun _ _ _ h => h
                    case qh4p00 => (intro w hSw; (try dsimp only at hSw); go_simp; try with_reducible rfl)
                    try simp only [Act.put, List.setIfInBounds_toArray, List.set_cons_zero, List.set_cons_succ]
                    refine wpAnyH_take (i := 5) (v := ?qv5p00) (by (simp only [List.getElem?_toArray, List.getElem?_cons_zero, List.getElem?_cons_succ]; rfl)) (by kernel_rfl) (by kernel_rfl) (by kernel_rfl) ?qQ5p00 (Or.inl ⟨by rfl, ?qh5p00⟩) hHeld ?qr5p00
                    case qQ5p00 => exact fun _ _ _ h => h
                    case qh5p00 => (intro w hSw; (try dsimp only at hSw); go_simp; try with_reducible rfl)
                    try simp only [Act.put, List.setIfInBounds_toArray, List.set_cons_zero, List.set_cons_succ]
                    refine wpAnyH_take (i := 6) (v := ?qv6p00) (by (simp only [List.getElem?_toArray, List.getElem?_cons_zero, List.getElem?_cons_succ]; rfl)) (by kernel_rfl) (by kernel_rfl) (by kernel_rfl) ?qQ6p00 (Or.inl ⟨by rfl, ?qh6p00⟩) hHeld ?qr6p00
                    case qQ6p00 => exact fun _ _ _ h => h
                    case qh6p00 => (intro w hSw; (try dsimp only at hSw); go_simp; try with_reducible rfl)
                    try simp only [Act.put, List.setIfInBounds_toArray, List.set_cons_zero, List.set_cons_succ]
                    refine wpAnyH_take (i := 8) (v := ?qv8p00) (by (simp only [List.getElem?_toArray, List.getElem?_cons_zero, List.getElem?_cons_succ]; rfl)) (by kernel_rfl) (by kernel_rfl) (by kernel_rfl) ?qQ8p00 (Or.inl ⟨by rfl, ?qh8p00⟩) hHeld ?qr8p00
                    case qQ8p00 => exact fun _ _ _ h => h
                    case qh8p00 => (intro w hSw; (try dsimp only at hSw); go_simp; try with_reducible rfl)
                    try simp only [Act.put, List.setIfInBounds_toArray, List.set_cons_zero, List.set_cons_succ]
                    refine wpAnyH_take (i := 11) (v := ?qv11p00) (by (simp only [List.getElem?_toArray, List.getElem?_cons_zero, List.getElem?_cons_succ]; rfl)) (by kernel_rfl) (by kernel_rfl) (by kernel_rfl) ?qQ11p00 (Or.inl ⟨by rfl, ?qh11p00⟩) hHeld ?qr11p00
                    case qQ11p00 => exact fun _ _ _ h => h
                    case qh11p00 => (intro w hSw; (try dsimp only at hSw); go_simp; try with_reducible rfl)
                    try simp only [Act.put, List.setIfInBounds_toArray, List.set_cons_zero, List.set_cons_succ]
                    refine wpAnyH_take (i := 12) (v := ?qv12p00) (by (simp only [List.getElem?_toArray, List.getElem?_cons_zero, List.getElem?_cons_succ]; rfl)) (by kernel_rfl) (by kernel_rfl) (by kernel_rfl) ?qQ12p00 (Or.inl ⟨by rfl, ?qh12p00⟩) hHeld ?qr12p00
                    case qQ12p00 => exact fun _ _ _ h => h
                    case qh12p00 => (intro w hSw; (try dsimp only at hSw); go_simp; try with_reducible rfl)
                    try simp only [Act.put, List.setIfInBounds_toArray, List.set_cons_zero, List.set_cons_succ]
                    refine wpAnyH_ready (rs := [7]) (by kernel_rfl) (by simp) ?_
                    refine AllReadyH.cons rfl (fun K hK => ?_) AllReadyH.nil
                    go_simp
                    go_wp2_with (first
                      | (go_at_call 31; (refine (nodes_made (HN_a5.out.below (HI13.out.trans (HB_w_pa.out.mono HI13.out.size))) (by have := HM.out.nd; omega)).mono ?_); rintro e_w_pb w_pb ⟨v_w_pb, rfl, ho, hb⟩; (obtain ⟨A_w_pb, c_w_pb, rfl⟩ := drow_slice ho); (have HO_w_pb := hidS ho); (have HB_w_pb := hidS (HB_w_pa.out.trans (hb.mono HB_w_pa.out.size))); clear ho hb; rw [HDR.out.1]))
                    have hno := HO_w_pb.out
                    obtain ⟨g_w_pb, cap_w_pb, hvy, cy_w_pb⟩ := row_cellS hno HYN.out
                    injection hvy with he1 he2 he3
                    subst he1
                    clear he2 he3 hno
                    refine hK.out _ _ (by (obtain ⟨⟨k0, k1, k2, k3, k4, k5, k6, k7⟩, kz⟩ := eight (show (w_pb).heap[qe]? = some (.cells #[.int .u8 (x.k : Int), .string x.n, .string x.a, .string x.b, .string x.c, .string x.d, .float .f64 x.v, .int .i64 x.ph] 57 (0, 0)) by rw [HB_w_pb.out.block qe HL13.out]; exact HE13.out)); exact k2) (fun hHeld => ?_)
                    clear hK K
                    try simp only [Act.put, List.setIfInBounds_toArray, List.set_cons_zero, List.set_cons_succ]
                    refine wpAnyH_take (i := 9) (v := ?qv9p00) (by (simp only [List.getElem?_toArray, List.getElem?_cons_zero, List.getElem?_cons_succ]; rfl)) (by kernel_rfl) (by kernel_rfl) (by kernel_rfl) ?qQ9p00 (Or.inl ⟨by rfl, ?qh9p00⟩) hHeld ?qr9p00
                    case qQ9p00 => exact fun _ _ _ h => h
                    case qh9p00 => (intro w hSw; (try dsimp only at hSw); go_simp; try with_reducible rfl)
                    try simp only [Act.put, List.setIfInBounds_toArray, List.set_cons_zero, List.set_cons_succ]
                    refine wpAnyH_ready (rs := [10]) (by kernel_rfl) (by simp) ?_
                    refine AllReadyH.cons rfl (fun K hK => ?_) AllReadyH.nil
                    go_simp
                    refine hK.out _ _ (by (obtain ⟨⟨k0, k1, k2, k3, k4, k5, k6, k7⟩, kz⟩ := eight (show (w_pb).heap[qe]? = some (.cells #[.int .u8 (x.k : Int), .string x.n, .string x.a, .string x.b, .string x.c, .string x.d, .float .f64 x.v, .int .i64 x.ph] 57 (0, 0)) by rw [HB_w_pb.out.block qe HL13.out]; exact HE13.out)); exact k2) (fun hHeld => ?_)
                    clear hK K
                    try simp only [Act.put, List.setIfInBounds_toArray, List.set_cons_zero, List.set_cons_succ]
                    refine wpAnyH_take (i := 13) (v := ?qv13p00) (by (simp only [List.getElem?_toArray, List.getElem?_cons_zero, List.getElem?_cons_succ]; rfl)) (by kernel_rfl) (by kernel_rfl) (by kernel_rfl) ?qQ13p00 (Or.inl ⟨by rfl, ?qh13p00⟩) hHeld ?qr13p00
                    case qQ13p00 => exact fun _ _ _ h => h
                    case qh13p00 => (intro w hSw; (try dsimp only at hSw); go_simp; try with_reducible rfl)
                    try simp only [Act.put, List.setIfInBounds_toArray, List.set_cons_zero, List.set_cons_succ]
                    refine wpAnyH_take (i := 14) (v := ?qv14p00) (by (simp only [List.getElem?_toArray, List.getElem?_cons_zero, List.getElem?_cons_succ]; rfl)) (by kernel_rfl) (by kernel_rfl) (by kernel_rfl) ?qQ14p00 (Or.inl ⟨by rfl, ?qh14p00⟩) hHeld ?qr14p00
                    case qQ14p00 => exact fun _ _ _ h => h
                    case qh14p00 => (intro w hSw; (try dsimp only at hSw); go_simp; try with_reducible rfl)
                    try simp only [Act.put, List.setIfInBounds_toArray, List.set_cons_zero, List.set_cons_succ]
                    refine wpAnyH_done (by kernel_rfl) ?_ _
                    clear d0 d1 d2 d3 d4 d5 d6 d7
                    obtain ⟨⟨d0, d1, d2, d3, d4, d5, d6, d7⟩, z8⟩ := eight (show w_pb.heap[qe]? = some (.cells #[.int .u8 (x.k : Int), .string x.n, .string x.a, .string x.b, .string x.c, .string x.d, .float .f64 x.v, .int .i64 x.ph] 57 (0, 0)) by rw [HB_w_pb.out.block qe HL13.out]; exact HE13.out)
                    clear z8 hHeld
                    go_wp2_with fail
                    refine wp_region_held_drew (S := (fun W : World => W.cell? ⟨qe, 3, none⟩ = some (.string x.b))) (by kernel_rfl) d3 (fun hHeld => ?_)
                    refine wpAnyH_take (i := 0) (v := ?qv0r00) (by (simp only [List.getElem?_toArray, List.getElem?_cons_zero]; rfl)) (by kernel_rfl) (by kernel_rfl) (by kernel_rfl) ?qQ0r00 (Or.inl ⟨by rfl, ?qh0r00⟩) hHeld ?qr0r00
                    case qQ0r00 => exact fun _ _ _ h => h
                    case qh0r00 => (intro w hSw; (try dsimp only at hSw); go_simp; try with_reducible rfl)
                    try simp only [Act.put, List.setIfInBounds_toArray, List.set_cons_zero, List.set_cons_succ]
                    refine wpAnyH_take (i := 1) (v := ?qv1r00) (by (simp only [List.getElem?_toArray, List.getElem?_cons_zero, List.getElem?_cons_succ]; rfl)) (by kernel_rfl) (by kernel_rfl) (by kernel_rfl) ?qQ1r00 (Or.inl ⟨by rfl, ?qh1r00⟩) hHeld ?qr1r00
                    case qQ1r00 => exact fun _ _ _ h => h
                    case qh1r00 => (intro w hSw; (try dsimp only at hSw); go_simp; try with_reducible rfl)
                    try simp only [Act.put, List.setIfInBounds_toArray, List.set_cons_zero, List.set_cons_succ]
                    refine wpAnyH_ready (rs := [2]) (by kernel_rfl) (by simp) ?_
                    refine AllReadyH.cons rfl (fun K hK => ?_) AllReadyH.nil
                    go_simp
                    go_wp2_with (first
                      | (go_at_call 31; (refine (nodes_made (HN_a5.out.below (HI13.out.trans ((HB_w_pb.out.drew).mono HI13.out.size))) (by have := HM.out.nd; omega)).mono ?_); rintro e_w_ra w_ra ⟨v_w_ra, rfl, ho, hb⟩; (obtain ⟨A_w_ra, c_w_ra, rfl⟩ := drow_slice ho); (have HO_w_ra := hidS ho); (have HB_w_ra := hidS ((HB_w_pb.out.drew).trans (hb.mono (HB_w_pb.out.drew).size))); clear ho hb; rw [HDR.out.1]))
                    refine hK.out _ _ (by (obtain ⟨⟨k0, k1, k2, k3, k4, k5, k6, k7⟩, kz⟩ := eight (show (w_ra).heap[qe]? = some (.cells #[.int .u8 (x.k : Int), .string x.n, .string x.a, .string x.b, .string x.c, .string x.d, .float .f64 x.v, .int .i64 x.ph] 57 (0, 0)) by rw [HB_w_ra.out.block qe HL13.out]; exact HE13.out)); exact k3) (fun hHeld => ?_)
                    clear hK K
                    try simp only [Act.put, List.setIfInBounds_toArray, List.set_cons_zero, List.set_cons_succ]
                    refine wpAnyH_take (i := 3) (v := ?qv3r00) (by (simp only [List.getElem?_toArray, List.getElem?_cons_zero, List.getElem?_cons_succ]; rfl)) (by kernel_rfl) (by kernel_rfl) (by kernel_rfl) ?qQ3r00 (Or.inl ⟨by rfl, ?qh3r00⟩) hHeld ?qr3r00
                    case qQ3r00 => exact fun _ _ _ h => h
                    case qh3r00 => (intro w hSw; (try dsimp only at hSw); go_simp; try with_reducible rfl)
                    try simp only [Act.put, List.setIfInBounds_toArray, List.set_cons_zero, List.set_cons_succ]
                    refine wpAnyH_take (i := 4) (v := ?qv4r00) (by (simp only [List.getElem?_toArray, List.getElem?_cons_zero, List.getElem?_cons_succ]; rfl)) (by kernel_rfl) (by kernel_rfl) (by kernel_rfl) ?qQ4r00 (Or.inl ⟨by rfl, ?qh4r00⟩) hHeld ?qr4r00
                    case qQ4r00 => exact fun _ _ _ h => h
                    case qh4r00 => (intro w hSw; (try dsimp only at hSw); go_simp; try with_reducible rfl)
                    try simp only [Act.put, List.setIfInBounds_toArray, List.set_cons_zero, List.set_cons_succ]
                    refine wpAnyH_take (i := 5) (v := ?qv5r00) (by (simp only [List.getElem?_toArray, List.getElem?_cons_zero, List.getElem?_cons_succ]; rfl)) (by kernel_rfl) (by kernel_rfl) (by kernel_rfl) ?qQ5r00 (Or.inl ⟨by rfl, ?qh5r00⟩) hHeld ?qr5r00
                    case qQ5r00 => exact fun _ _ _ h => h
                    case qh5r00 => (intro w hSw; (try dsimp only at hSw); go_simp; try with_reducible rfl)
                    try simp only [Act.put, List.setIfInBounds_toArray, List.set_cons_zero, List.set_cons_succ]
                    refine wpAnyH_take (i := 6) (v := ?qv6r00) (by (simp only [List.getElem?_toArray, List.getElem?_cons_zero, List.getElem?_cons_succ]; rfl)) (by kernel_rfl) (by kernel_rfl) (by kernel_rfl) ?qQ6r00 (Or.inl ⟨by rfl, ?qh6r00⟩) hHeld ?qr6r00
                    case qQ6r00 => exact fun _ _ _ h => h
                    case qh6r00 => (intro w hSw; (try dsimp only at hSw); go_simp; try with_reducible rfl)
                    try simp only [Act.put, List.setIfInBounds_toArray, List.set_cons_zero, List.set_cons_succ]
                    refine wpAnyH_take (i := 8) (v := ?qv8r00) (by (simp only [List.getElem?_toArray, List.getElem?_cons_zero, List.getElem?_cons_succ]; rfl)) (by kernel_rfl) (by kernel_rfl) (by kernel_rfl) ?qQ8r00 (Or.inl ⟨by rfl, ?qh8r00⟩) hHeld ?qr8r00
                    case qQ8r00 => exact fun _ _ _ h => h
                    case qh8r00 => (intro w hSw; (try dsimp only at hSw); go_simp; try with_reducible rfl)
                    try simp only [Act.put, List.setIfInBounds_toArray, List.set_cons_zero, List.set_cons_succ]
                    refine wpAnyH_take (i := 11) (v := ?qv11r00) (by (simp only [List.getElem?_toArray, List.getElem?_cons_zero, List.getElem?_cons_succ]; rfl)) (by kernel_rfl) (by kernel_rfl) (by kernel_rfl) ?qQ11r00 (Or.inl ⟨by rfl, ?qh11r00⟩) hHeld ?qr11r00
                    case qQ11r00 => exact fun _ _ _ h => h
                    case qh11r00 => (intro w hSw; (try dsimp only at hSw); go_simp; try with_reducible rfl)
                    try simp only [Act.put, List.setIfInBounds_toArray, List.set_cons_zero, List.set_cons_succ]
                    refine wpAnyH_take (i := 12) (v := ?qv12r00) (by (simp only [List.getElem?_toArray, List.getElem?_cons_zero, List.getElem?_cons_succ]; rfl)) (by kernel_rfl) (by kernel_rfl) (by kernel_rfl) ?qQ12r00 (Or.inl ⟨by rfl, ?qh12r00⟩) hHeld ?qr12r00
                    case qQ12r00 => exact fun _ _ _ h => h
                    case qh12r00 => (intro w hSw; (try dsimp only at hSw); go_simp; try with_reducible rfl)
                    try simp only [Act.put, List.setIfInBounds_toArray, List.set_cons_zero, List.set_cons_succ]
                    refine wpAnyH_ready (rs := [7]) (by kernel_rfl) (by simp) ?_
                    refine AllReadyH.cons rfl (fun K hK => ?_) AllReadyH.nil
                    go_simp
                    go_wp2_with (first
                      | (go_at_call 31; (refine (nodes_made (HN_a5.out.below (HI13.out.trans (HB_w_ra.out.mono HI13.out.size))) (by have := HM.out.nd; omega)).mono ?_); rintro e_w_rb w_rb ⟨v_w_rb, rfl, ho, hb⟩; (obtain ⟨A_w_rb, c_w_rb, rfl⟩ := drow_slice ho); (have HO_w_rb := hidS ho); (have HB_w_rb := hidS (HB_w_ra.out.trans (hb.mono HB_w_ra.out.size))); clear ho hb; rw [HDR.out.1]))
                    have hno := HO_w_rb.out
                    obtain ⟨g_w_rb, cap_w_rb, hvy, cy_w_rb⟩ := row_cellS hno HYN.out
                    injection hvy with he1 he2 he3
                    subst he1
                    clear he2 he3 hno
                    refine hK.out _ _ (by (obtain ⟨⟨k0, k1, k2, k3, k4, k5, k6, k7⟩, kz⟩ := eight (show (w_rb).heap[qe]? = some (.cells #[.int .u8 (x.k : Int), .string x.n, .string x.a, .string x.b, .string x.c, .string x.d, .float .f64 x.v, .int .i64 x.ph] 57 (0, 0)) by rw [HB_w_rb.out.block qe HL13.out]; exact HE13.out)); exact k3) (fun hHeld => ?_)
                    clear hK K
                    try simp only [Act.put, List.setIfInBounds_toArray, List.set_cons_zero, List.set_cons_succ]
                    refine wpAnyH_take (i := 9) (v := ?qv9r00) (by (simp only [List.getElem?_toArray, List.getElem?_cons_zero, List.getElem?_cons_succ]; rfl)) (by kernel_rfl) (by kernel_rfl) (by kernel_rfl) ?qQ9r00 (Or.inl ⟨by rfl, ?qh9r00⟩) hHeld ?qr9r00
                    case qQ9r00 => exact fun _ _ _ h => h
                    case qh9r00 => (intro w hSw; (try dsimp only at hSw); go_simp; try with_reducible rfl)
                    try simp only [Act.put, List.setIfInBounds_toArray, List.set_cons_zero, List.set_cons_succ]
                    refine wpAnyH_ready (rs := [10]) (by kernel_rfl) (by simp) ?_
                    refine AllReadyH.cons rfl (fun K hK => ?_) AllReadyH.nil
                    go_simp
                    refine hK.out _ _ (by (obtain ⟨⟨k0, k1, k2, k3, k4, k5, k6, k7⟩, kz⟩ := eight (show (w_rb).heap[qe]? = some (.cells #[.int .u8 (x.k : Int), .string x.n, .string x.a, .string x.b, .string x.c, .string x.d, .float .f64 x.v, .int .i64 x.ph] 57 (0, 0)) by rw [HB_w_rb.out.block qe HL13.out]; exact HE13.out)); exact k3) (fun hHeld => ?_)
                    clear hK K
                    try simp only [Act.put, List.setIfInBounds_toArray, List.set_cons_zero, List.set_cons_succ]
                    refine wpAnyH_take (i := 13) (v := ?qv13r00) (by (simp only [List.getElem?_toArray, List.getElem?_cons_zero, List.getElem?_cons_succ]; rfl)) (by kernel_rfl) (by kernel_rfl) (by kernel_rfl) ?qQ13r00 (Or.inl ⟨by rfl, ?qh13r00⟩) hHeld ?qr13r00
                    case qQ13r00 => exact fun _ _ _ h => h
                    case qh13r00 => (intro w hSw; (try dsimp only at hSw); go_simp; try with_reducible rfl)
                    try simp only [Act.put, List.setIfInBounds_toArray, List.set_cons_zero, List.set_cons_succ]
                    refine wpAnyH_take (i := 14) (v := ?qv14r00) (by (simp only [List.getElem?_toArray, List.getElem?_cons_zero, List.getElem?_cons_succ]; rfl)) (by kernel_rfl) (by kernel_rfl) (by kernel_rfl) ?qQ14r00 (Or.inl ⟨by rfl, ?qh14r00⟩) hHeld ?qr14r00
                    case qQ14r00 => exact fun _ _ _ h => h
                    case qh14r00 => (intro w hSw; (try dsimp only at hSw); go_simp; try with_reducible rfl)
                    try simp only [Act.put, List.setIfInBounds_toArray, List.set_cons_zero, List.set_cons_succ]
                    refine wpAnyH_done (by kernel_rfl) ?_ _
                    clear d0 d1 d2 d3 d4 d5 d6 d7 hHeld
                    have HVAL : Hid (drR N x j = (some 0, some 0)) := HPV.out
                    have HFIN : Hid (Below w13.heap.size w13 w_rb) := HB_w_rb.out
                    obtain ⟨g9, cc9, z9, hv9, _, hz9, _, hr9⟩ := (HR13.out.on HFIN.out).get hjlt
                    injection hv9 with he1 he2 he3
                    subst he1
                    clear he2 he3
                    rw [HVAL.out] at hr9
                    rw [repz_in hr9] at hz9
                    unfold cx at hz9
                    clear hr9
                    go_wp2_with fail
                    go_roundw
                    case rel => exact ⟨j + 1, by omega, by go_num, HFIN⟩
                    case measure => simp [intOf]; omega
                  · skip
                    go_wp2_with fail
                    refine wp_region_held_drew (S := (fun W : World => W.cell? ⟨qe, 2, none⟩ = some (.string x.a))) (by kernel_rfl) d2 (fun hHeld => ?_)
                    refine wpAnyH_take (i := 0) (v := ?qv0p01) (by (simp only [List.getElem?_toArray, List.getElem?_cons_zero]; rfl)) (by kernel_rfl) (by kernel_rfl) (by kernel_rfl) ?qQ0p01 (Or.inl ⟨by rfl, ?qh0p01⟩) hHeld ?qr0p01
                    case qQ0p01 => exact fun _ _ _ h => h
                    case qh0p01 => (intro w hSw; (try dsimp only at hSw); go_simp; try with_reducible rfl)
                    try simp only [Act.put, List.setIfInBounds_toArray, List.set_cons_zero, List.set_cons_succ]
                    refine wpAnyH_take (i := 1) (v := ?qv1p01) (by (simp only [List.getElem?_toArray, List.getElem?_cons_zero, List.getElem?_cons_succ]; rfl)) (by kernel_rfl) (by kernel_rfl) (by kernel_rfl) ?qQ1p01 (Or.inl ⟨by rfl, ?qh1p01⟩) hHeld ?qr1p01
                    case qQ1p01 => exact fun _ _ _ h => h
                    case qh1p01 => (intro w hSw; (try dsimp only at hSw); go_simp; try with_reducible rfl)
                    try simp only [Act.put, List.setIfInBounds_toArray, List.set_cons_zero, List.set_cons_succ]
                    refine wpAnyH_ready (rs := [2]) (by kernel_rfl) (by simp) ?_
                    refine AllReadyH.cons rfl (fun K hK => ?_) AllReadyH.nil
                    go_simp
                    go_wp2_with (first
                      | (go_at_call 31; (refine (nodes_made (HN_a5.out.below (HI13.out.trans ((HJ.out.drew).mono HI13.out.size))) (by have := HM.out.nd; omega)).mono ?_); rintro e_w_pa w_pa ⟨v_w_pa, rfl, ho, hb⟩; (obtain ⟨A_w_pa, c_w_pa, rfl⟩ := drow_slice ho); (have HO_w_pa := hidS ho); (have HB_w_pa := hidS ((HJ.out.drew).trans (hb.mono (HJ.out.drew).size))); clear ho hb; rw [HDR.out.1]))
                    refine hK.out _ _ (by (obtain ⟨⟨k0, k1, k2, k3, k4, k5, k6, k7⟩, kz⟩ := eight (show (w_pa).heap[qe]? = some (.cells #[.int .u8 (x.k : Int), .string x.n, .string x.a, .string x.b, .string x.c, .string x.d, .float .f64 x.v, .int .i64 x.ph] 57 (0, 0)) by rw [HB_w_pa.out.block qe HL13.out]; exact HE13.out)); exact k2) (fun hHeld => ?_)
                    clear hK K
                    try simp only [Act.put, List.setIfInBounds_toArray, List.set_cons_zero, List.set_cons_succ]
                    refine wpAnyH_take (i := 3) (v := ?qv3p01) (by (simp only [List.getElem?_toArray, List.getElem?_cons_zero, List.getElem?_cons_succ]; rfl)) (by kernel_rfl) (by kernel_rfl) (by kernel_rfl) ?qQ3p01 (Or.inl ⟨by rfl, ?qh3p01⟩) hHeld ?qr3p01
                    case qQ3p01 => exact fun _ _ _ h => h
                    case qh3p01 => (intro w hSw; (try dsimp only at hSw); go_simp; try with_reducible rfl)
                    try simp only [Act.put, List.setIfInBounds_toArray, List.set_cons_zero, List.set_cons_succ]
                    refine wpAnyH_take (i := 4) (v := ?qv4p01) (by (simp only [List.getElem?_toArray, List.getElem?_cons_zero, List.getElem?_cons_succ]; rfl)) (by kernel_rfl) (by kernel_rfl) (by kernel_rfl) ?qQ4p01 (Or.inl ⟨by rfl, ?qh4p01⟩) hHeld ?qr4p01
                    case qQ4p01 => exact fun _ _ _ h => h
                    case qh4p01 => (intro w hSw; (try dsimp only at hSw); go_simp; try with_reducible rfl)
                    try simp only [Act.put, List.setIfInBounds_toArray, List.set_cons_zero, List.set_cons_succ]
                    refine wpAnyH_take (i := 5) (v := ?qv5p01) (by (simp only [List.getElem?_toArray, List.getElem?_cons_zero, List.getElem?_cons_succ]; rfl)) (by kernel_rfl) (by kernel_rfl) (by kernel_rfl) ?qQ5p01 (Or.inl ⟨by rfl, ?qh5p01⟩) hHeld ?qr5p01
                    case qQ5p01 => exact fun _ _ _ h => h
                    case qh5p01 => (intro w hSw; (try dsimp only at hSw); go_simp; try with_reducible rfl)
                    try simp only [Act.put, List.setIfInBounds_toArray, List.set_cons_zero, List.set_cons_succ]
                    refine wpAnyH_take (i := 6) (v := ?qv6p01) (by (simp only [List.getElem?_toArray, List.getElem?_cons_zero, List.getElem?_cons_succ]; rfl)) (by kernel_rfl) (by kernel_rfl) (by kernel_rfl) ?qQ6p01 (Or.inl ⟨by rfl, ?qh6p01⟩) hHeld ?qr6p01
                    case qQ6p01 => exact fun _ _ _ h => h
                    case qh6p01 => (intro w hSw; (try dsimp only at hSw); go_simp; try with_reducible rfl)
                    try simp only [Act.put, List.setIfInBounds_toArray, List.set_cons_zero, List.set_cons_succ]
                    refine wpAnyH_take (i := 8) (v := ?qv8p01) (by (simp only [List.getElem?_toArray, List.getElem?_cons_zero, List.getElem?_cons_succ]; rfl)) (by kernel_rfl) (by kernel_rfl) (by kernel_rfl) ?qQ8p01 (Or.inl ⟨by rfl, ?qh8p01⟩) hHeld ?qr8p01
                    case qQ8p01 => exact fun _ _ _ h => h
                    case qh8p01 => (intro w hSw; (try dsimp only at hSw); go_simp; try with_reducible rfl)
                    try simp only [Act.put, List.setIfInBounds_toArray, List.set_cons_zero, List.set_cons_succ]
                    refine wpAnyH_take (i := 11) (v := ?qv11p01) (by (simp only [List.getElem?_toArray, List.getElem?_cons_zero, List.getElem?_cons_succ]; rfl)) (by kernel_rfl) (by kernel_rfl) (by kernel_rfl) ?qQ11p01 (Or.inl ⟨by rfl, ?qh11p01⟩) hHeld ?qr11p01
                    case qQ11p01 => exact fun _ _ _ h => h
                    case qh11p01 => (intro w hSw; (try dsimp only at hSw); go_simp; try with_reducible rfl)
                    try simp only [Act.put, List.setIfInBounds_toArray, List.set_cons_zero, List.set_cons_succ]
                    refine wpAnyH_take (i := 12) (v := ?qv12p01) (by (simp only [List.getElem?_toArray, List.getElem?_cons_zero, List.getElem?_cons_succ]; rfl)) (by kernel_rfl) (by kernel_rfl) (by kernel_rfl) ?qQ12p01 (Or.inl ⟨by rfl, ?qh12p01⟩) hHeld ?qr12p01
                    case qQ12p01 => exact fun _ _ _ h => h
                    case qh12p01 => (intro w hSw; (try dsimp only at hSw); go_simp; try with_reducible rfl)
                    try simp only [Act.put, List.setIfInBounds_toArray, List.set_cons_zero, List.set_cons_succ]
                    refine wpAnyH_ready (rs := [7]) (by kernel_rfl) (by simp) ?_
                    refine AllReadyH.cons rfl (fun K hK => ?_) AllReadyH.nil
                    go_simp
                    go_wp2_with (first
                      | (go_at_call 31; (refine (nodes_made (HN_a5.out.below (HI13.out.trans (HB_w_pa.out.mono HI13.out.size))) (by have := HM.out.nd; omega)).mono ?_); rintro e_w_pb w_pb ⟨v_w_pb, rfl, ho, hb⟩; (obtain ⟨A_w_pb, c_w_pb, rfl⟩ := drow_slice ho); (have HO_w_pb := hidS ho); (have HB_w_pb := hidS (HB_w_pa.out.trans (hb.mono HB_w_pa.out.size))); clear ho hb; rw [HDR.out.1]))
                    have hno := HO_w_pb.out
                    obtain ⟨g_w_pb, cap_w_pb, hvy, cy_w_pb⟩ := row_cellS hno HYN.out
                    injection hvy with he1 he2 he3
                    subst he1
                    clear he2 he3 hno
                    refine hK.out _ _ (by (obtain ⟨⟨k0, k1, k2, k3, k4, k5, k6, k7⟩, kz⟩ := eight (show (w_pb).heap[qe]? = some (.cells #[.int .u8 (x.k : Int), .string x.n, .string x.a, .string x.b, .string x.c, .string x.d, .float .f64 x.v, .int .i64 x.ph] 57 (0, 0)) by rw [HB_w_pb.out.block qe HL13.out]; exact HE13.out)); exact k2) (fun hHeld => ?_)
                    clear hK K
                    try simp only [Act.put, List.setIfInBounds_toArray, List.set_cons_zero, List.set_cons_succ]
                    refine wpAnyH_take (i := 9) (v := ?qv9p01) (by (simp only [List.getElem?_toArray, List.getElem?_cons_zero, List.getElem?_cons_succ]; rfl)) (by kernel_rfl) (by kernel_rfl) (by kernel_rfl) ?qQ9p01 (Or.inl ⟨by rfl, ?qh9p01⟩) hHeld ?qr9p01
                    case qQ9p01 => exact fun _ _ _ h => h
                    case qh9p01 => (intro w hSw; (try dsimp only at hSw); go_simp; try with_reducible rfl)
                    try simp only [Act.put, List.setIfInBounds_toArray, List.set_cons_zero, List.set_cons_succ]
                    refine wpAnyH_ready (rs := [10]) (by kernel_rfl) (by simp) ?_
                    refine AllReadyH.cons rfl (fun K hK => ?_) AllReadyH.nil
                    go_simp
                    refine hK.out _ _ (by (obtain ⟨⟨k0, k1, k2, k3, k4, k5, k6, k7⟩, kz⟩ := eight (show (w_pb).heap[qe]? = some (.cells #[.int .u8 (x.k : Int), .string x.n, .string x.a, .string x.b, .string x.c, .string x.d, .float .f64 x.v, .int .i64 x.ph] 57 (0, 0)) by rw [HB_w_pb.out.block qe HL13.out]; exact HE13.out)); exact k2) (fun hHeld => ?_)
                    clear hK K
                    try simp only [Act.put, List.setIfInBounds_toArray, List.set_cons_zero, List.set_cons_succ]
                    refine wpAnyH_take (i := 13) (v := ?qv13p01) (by (simp only [List.getElem?_toArray, List.getElem?_cons_zero, List.getElem?_cons_succ]; rfl)) (by kernel_rfl) (by kernel_rfl) (by kernel_rfl) ?qQ13p01 (Or.inl ⟨by rfl, ?qh13p01⟩) hHeld ?qr13p01
                    case qQ13p01 => exact fun _ _ _ h => h
                    case qh13p01 => (intro w hSw; (try dsimp only at hSw); go_simp; try with_reducible rfl)
                    try simp only [Act.put, List.setIfInBounds_toArray, List.set_cons_zero, List.set_cons_succ]
                    refine wpAnyH_take (i := 14) (v := ?qv14p01) (by (simp only [List.getElem?_toArray, List.getElem?_cons_zero, List.getElem?_cons_succ]; rfl)) (by kernel_rfl) (by kernel_rfl) (by kernel_rfl) ?qQ14p01 (Or.inl ⟨by rfl, ?qh14p01⟩) hHeld ?qr14p01
                    case qQ14p01 => exact fun _ _ _ h => h
                    case qh14p01 => (intro w hSw; (try dsimp only at hSw); go_simp; try with_reducible rfl)
                    try simp only [Act.put, List.setIfInBounds_toArray, List.set_cons_zero, List.set_cons_succ]
                    refine wpAnyH_done (by kernel_rfl) ?_ _
                    clear d0 d1 d2 d3 d4 d5 d6 d7
                    obtain ⟨⟨d0, d1, d2, d3, d4, d5, d6, d7⟩, z8⟩ := eight (show w_pb.heap[qe]? = some (.cells #[.int .u8 (x.k : Int), .string x.n, .string x.a, .string x.b, .string x.c, .string x.d, .float .f64 x.v, .int .i64 x.ph] 57 (0, 0)) by rw [HB_w_pb.out.block qe HL13.out]; exact HE13.out)
                    clear z8 hHeld
                    go_wp2_with fail
                    refine wp_region_held_drew (S := (fun W : World => W.cell? ⟨qe, 3, none⟩ = some (.string x.b))) (by kernel_rfl) d3 (fun hHeld => ?_)
                    refine wpAnyH_take (i := 0) (v := ?qv0r01) (by (simp only [List.getElem?_toArray, List.getElem?_cons_zero]; rfl)) (by kernel_rfl) (by kernel_rfl) (by kernel_rfl) ?qQ0r01 (Or.inl ⟨by rfl, ?qh0r01⟩) hHeld ?qr0r01
                    case qQ0r01 => exact fun _ _ _ h => h
                    case qh0r01 => (intro w hSw; (try dsimp only at hSw); go_simp; try with_reducible rfl)
                    try simp only [Act.put, List.setIfInBounds_toArray, List.set_cons_zero, List.set_cons_succ]
                    refine wpAnyH_take (i := 1) (v := ?qv1r01) (by (simp only [List.getElem?_toArray, List.getElem?_cons_zero, List.getElem?_cons_succ]; rfl)) (by kernel_rfl) (by kernel_rfl) (by kernel_rfl) ?qQ1r01 (Or.inl ⟨by rfl, ?qh1r01⟩) hHeld ?qr1r01
                    case qQ1r01 => exact fun _ _ _ h => h
                    case qh1r01 => (intro w hSw; (try dsimp only at hSw); go_simp; try with_reducible rfl)
                    try simp only [Act.put, List.setIfInBounds_toArray, List.set_cons_zero, List.set_cons_succ]
                    refine wpAnyH_ready (rs := [2]) (by kernel_rfl) (by simp) ?_
                    refine AllReadyH.cons rfl (fun K hK => ?_) AllReadyH.nil
                    go_simp
                    go_wp2_with (first
                      | (go_at_call 31; (refine (nodes_made (HN_a5.out.below (HI13.out.trans ((HB_w_pb.out.drew).mono HI13.out.size))) (by have := HM.out.nd; omega)).mono ?_); rintro e_w_ra w_ra ⟨v_w_ra, rfl, ho, hb⟩; (obtain ⟨A_w_ra, c_w_ra, rfl⟩ := drow_slice ho); (have HO_w_ra := hidS ho); (have HB_w_ra := hidS ((HB_w_pb.out.drew).trans (hb.mono (HB_w_pb.out.drew).size))); clear ho hb; rw [HDR.out.1]))
                    refine hK.out _ _ (by (obtain ⟨⟨k0, k1, k2, k3, k4, k5, k6, k7⟩, kz⟩ := eight (show (w_ra).heap[qe]? = some (.cells #[.int .u8 (x.k : Int), .string x.n, .string x.a, .string x.b, .string x.c, .string x.d, .float .f64 x.v, .int .i64 x.ph] 57 (0, 0)) by rw [HB_w_ra.out.block qe HL13.out]; exact HE13.out)); exact k3) (fun hHeld => ?_)
                    clear hK K
                    try simp only [Act.put, List.setIfInBounds_toArray, List.set_cons_zero, List.set_cons_succ]
                    refine wpAnyH_take (i := 3) (v := ?qv3r01) (by (simp only [List.getElem?_toArray, List.getElem?_cons_zero, List.getElem?_cons_succ]; rfl)) (by kernel_rfl) (by kernel_rfl) (by kernel_rfl) ?qQ3r01 (Or.inl ⟨by rfl, ?qh3r01⟩) hHeld ?qr3r01
                    case qQ3r01 => exact fun _ _ _ h => h
                    case qh3r01 => (intro w hSw; (try dsimp only at hSw); go_simp; try with_reducible rfl)
                    try simp only [Act.put, List.setIfInBounds_toArray, List.set_cons_zero, List.set_cons_succ]
                    refine wpAnyH_take (i := 4) (v := ?qv4r01) (by (simp only [List.getElem?_toArray, List.getElem?_cons_zero, List.getElem?_cons_succ]; rfl)) (by kernel_rfl) (by kernel_rfl) (by kernel_rfl) ?qQ4r01 (Or.inl ⟨by rfl, ?qh4r01⟩) hHeld ?qr4r01
                    case qQ4r01 => exact fun _ _ _ h => h
                    case qh4r01 => (intro w hSw; (try dsimp only at hSw); go_simp; try with_reducible rfl)
                    try simp only [Act.put, List.setIfInBounds_toArray, List.set_cons_zero, List.set_cons_succ]
                    refine wpAnyH_take (i := 5) (v := ?qv5r01) (by (simp only [List.getElem?_toArray, List.getElem?_cons_zero, List.getElem?_cons_succ]; rfl)) (by kernel_rfl) (by kernel_rfl) (by kernel_rfl) ?qQ5r01 (Or.inl ⟨by rfl, ?qh5r01⟩) hHeld ?qr5r01
                    case qQ5r01 => exact fun _ _ _ h => h
                    case qh5r01 => (intro w hSw; (try dsimp only at hSw); go_simp; try with_reducible rfl)
                    try simp only [Act.put, List.setIfInBounds_toArray, List.set_cons_zero, List.set_cons_succ]
                    refine wpAnyH_take (i := 6) (v := ?qv6r01) (by (simp only [List.getElem?_toArray, List.getElem?_cons_zero, List.getElem?_cons_succ]; rfl)) (by kernel_rfl) (by kernel_rfl) (by kernel_rfl) ?qQ6r01 (Or.inl ⟨by rfl, ?qh6r01⟩) hHeld ?qr6r01
                    case qQ6r01 => exact fun _ _ _ h => h
                    case qh6r01 => (intro w hSw; (try dsimp only at hSw); go_simp; try with_reducible rfl)
                    try simp only [Act.put, List.setIfInBounds_toArray, List.set_cons_zero, List.set_cons_succ]
                    refine wpAnyH_take (i := 8) (v := ?qv8r01) (by (simp only [List.getElem?_toArray, List.getElem?_cons_zero, List.getElem?_cons_succ]; rfl)) (by kernel_rfl) (by kernel_rfl) (by kernel_rfl) ?qQ8r01 (Or.inl ⟨by rfl, ?qh8r01⟩) hHeld ?qr8r01
                    case qQ8r01 => exact fun _ _ _ h => h
                    case qh8r01 => (intro w hSw; (try dsimp only at hSw); go_simp; try with_reducible rfl)
                    try simp only [Act.put, List.setIfInBounds_toArray, List.set_cons_zero, List.set_cons_succ]
                    refine wpAnyH_take (i := 11) (v := ?qv11r01) (by (simp only [List.getElem?_toArray, List.getElem?_cons_zero, List.getElem?_cons_succ]; rfl)) (by kernel_rfl) (by kernel_rfl) (by kernel_rfl) ?qQ11r01 (Or.inl ⟨by rfl, ?qh11r01⟩) hHeld ?qr11r01
                    case qQ11r01 => exact fun _ _ _ h => h
                    case qh11r01 => (intro w hSw; (try dsimp only at hSw); go_simp; try with_reducible rfl)
                    try simp only [Act.put, List.setIfInBounds_toArray, List.set_cons_zero, List.set_cons_succ]
                    refine wpAnyH_take (i := 12) (v := ?qv12r01) (by (simp only [List.getElem?_toArray, List.getElem?_cons_zero, List.getElem?_cons_succ]; rfl)) (by kernel_rfl) (by kernel_rfl) (by kernel_rfl) ?qQ12r01 (Or.inl ⟨by rfl, ?qh12r01⟩) hHeld ?qr12r01
                    case qQ12r01 => exact fun _ _ _ h => h
                    case qh12r01 => (intro w hSw; (try dsimp only at hSw); go_simp; try with_reducible rfl)
                    try simp only [Act.put, List.setIfInBounds_toArray, List.set_cons_zero, List.set_cons_succ]
                    refine wpAnyH_ready (rs := [7]) (by kernel_rfl) (by simp) ?_
                    refine AllReadyH.cons rfl (fun K hK => ?_) AllReadyH.nil
                    go_simp
                    go_wp2_with (first
                      | (go_at_call 31; (refine (nodes_made (HN_a5.out.below (HI13.out.trans (HB_w_ra.out.mono HI13.out.size))) (by have := HM.out.nd; omega)).mono ?_); rintro e_w_rb w_rb ⟨v_w_rb, rfl, ho, hb⟩; (obtain ⟨A_w_rb, c_w_rb, rfl⟩ := drow_slice ho); (have HO_w_rb := hidS ho); (have HB_w_rb := hidS (HB_w_ra.out.trans (hb.mono HB_w_ra.out.size))); clear ho hb; rw [HDR.out.1]))
                    have hno := HO_w_rb.out
                    obtain ⟨g_w_rb, cap_w_rb, hvy, cy_w_rb⟩ := row_cellS hno HYN.out
                    injection hvy with he1 he2 he3
                    subst he1
                    clear he2 he3 hno
                    refine hK.out _ _ (by (obtain ⟨⟨k0, k1, k2, k3, k4, k5, k6, k7⟩, kz⟩ := eight (show (w_rb).heap[qe]? = some (.cells #[.int .u8 (x.k : Int), .string x.n, .string x.a, .string x.b, .string x.c, .string x.d, .float .f64 x.v, .int .i64 x.ph] 57 (0, 0)) by rw [HB_w_rb.out.block qe HL13.out]; exact HE13.out)); exact k3) (fun hHeld => ?_)
                    clear hK K
                    try simp only [Act.put, List.setIfInBounds_toArray, List.set_cons_zero, List.set_cons_succ]
                    refine wpAnyH_take (i := 9) (v := ?qv9r01) (by (simp only [List.getElem?_toArray, List.getElem?_cons_zero, List.getElem?_cons_succ]; rfl)) (by kernel_rfl) (by kernel_rfl) (by kernel_rfl) ?qQ9r01 (Or.inl ⟨by rfl, ?qh9r01⟩) hHeld ?qr9r01
                    case qQ9r01 => exact fun _ _ _ h => h
                    case qh9r01 => (intro w hSw; (try dsimp only at hSw); go_simp; try with_reducible rfl)
                    try simp only [Act.put, List.setIfInBounds_toArray, List.set_cons_zero, List.set_cons_succ]
                    refine wpAnyH_ready (rs := [10]) (by kernel_rfl) (by simp) ?_
                    refine AllReadyH.cons rfl (fun K hK => ?_) AllReadyH.nil
                    go_simp
                    refine hK.out _ _ (by (obtain ⟨⟨k0, k1, k2, k3, k4, k5, k6, k7⟩, kz⟩ := eight (show (w_rb).heap[qe]? = some (.cells #[.int .u8 (x.k : Int), .string x.n, .string x.a, .string x.b, .string x.c, .string x.d, .float .f64 x.v, .int .i64 x.ph] 57 (0, 0)) by rw [HB_w_rb.out.block qe HL13.out]; exact HE13.out)); exact k3) (fun hHeld => ?_)
                    clear hK K
                    try simp only [Act.put, List.setIfInBounds_toArray, List.set_cons_zero, List.set_cons_succ]
                    refine wpAnyH_take (i := 13) (v := ?qv13r01) (by (simp only [List.getElem?_toArray, List.getElem?_cons_zero, List.getElem?_cons_succ]; rfl)) (by kernel_rfl) (by kernel_rfl) (by kernel_rfl) ?qQ13r01 (Or.inl ⟨by rfl, ?qh13r01⟩) hHeld ?qr13r01
                    case qQ13r01 => exact fun _ _ _ h => h
                    case qh13r01 => (intro w hSw; (try dsimp only at hSw); go_simp; try with_reducible rfl)
                    try simp only [Act.put, List.setIfInBounds_toArray, List.set_cons_zero, List.set_cons_succ]
                    refine wpAnyH_take (i := 14) (v := ?qv14r01) (by (simp only [List.getElem?_toArray, List.getElem?_cons_zero, List.getElem?_cons_succ]; rfl)) (by kernel_rfl) (by kernel_rfl) (by kernel_rfl) ?qQ14r01 (Or.inl ⟨by rfl, ?qh14r01⟩) hHeld ?qr14r01
                    case qQ14r01 => exact fun _ _ _ h => h
                    case qh14r01 => (intro w hSw; (try dsimp only at hSw); go_simp; try with_reducible rfl)
                    try simp only [Act.put, List.setIfInBounds_toArray, List.set_cons_zero, List.set_cons_succ]
                    refine wpAnyH_done (by kernel_rfl) ?_ _
                    clear d0 d1 d2 d3 d4 d5 d6 d7 hHeld
                    have HVAL : Hid (drR N x j = (some 13830554455654793216, some 0)) := HPV.out
                    have HFIN : Hid (Below w13.heap.size w13 w_rb) := HB_w_rb.out
                    obtain ⟨g9, cc9, z9, hv9, _, hz9, _, hr9⟩ := (HR13.out.on HFIN.out).get hjlt
                    injection hv9 with he1 he2 he3
                    subst he1
                    clear he2 he3
                    rw [HVAL.out] at hr9
                    rw [repz_in hr9] at hz9
                    unfold cx at hz9
                    clear hr9
                    go_wp2_with fail
                    go_roundw
                    case rel => exact ⟨j + 1, by omega, by go_num, HFIN⟩
                    case measure => simp [intOf]; omega
                · cases eb
                  · skip
                    go_wp2_with fail
                    refine wp_region_held_drew (S := (fun W : World => W.cell? ⟨qe, 2, none⟩ = some (.string x.a))) (by kernel_rfl) d2 (fun hHeld => ?_)
                    refine wpAnyH_take (i := 0) (v := ?qv0p10) (by (simp only [List.getElem?_toArray, List.getElem?_cons_zero]; rfl)) (by kernel_rfl) (by kernel_rfl) (by kernel_rfl) ?qQ0p10 (Or.inl ⟨by rfl, ?qh0p10⟩) hHeld ?qr0p10
                    case qQ0p10 => exact fun _ _ _ h => h
                    case qh0p10 => (intro w hSw; (try dsimp only at hSw); go_simp; try with_reducible rfl)
                    try simp only [Act.put, List.setIfInBounds_toArray, List.set_cons_zero, List.set_cons_succ]
                    refine wpAnyH_take (i := 1) (v := ?qv1p10) (by (simp only [List.getElem?_toArray, List.getElem?_cons_zero, List.getElem?_cons_succ]; rfl)) (by kernel_rfl) (by kernel_rfl) (by kernel_rfl) ?qQ1p10 (Or.inl ⟨by rfl, ?qh1p10⟩) hHeld ?qr1p10
                    case qQ1p10 => exact fun _ _ _ h => h
                    case qh1p10 => (intro w hSw; (try dsimp only at hSw); go_simp; try with_reducible rfl)
                    try simp only [Act.put, List.setIfInBounds_toArray, List.set_cons_zero, List.set_cons_succ]
                    refine wpAnyH_ready (rs := [2]) (by kernel_rfl) (by simp) ?_
                    refine AllReadyH.cons rfl (fun K hK => ?_) AllReadyH.nil
                    go_simp
                    go_wp2_with (first
                      | (go_at_call 31; (refine (nodes_made (HN_a5.out.below (HI13.out.trans ((HJ.out.drew).mono HI13.out.size))) (by have := HM.out.nd; omega)).mono ?_); rintro e_w_pa w_pa ⟨v_w_pa, rfl, ho, hb⟩; (obtain ⟨A_w_pa, c_w_pa, rfl⟩ := drow_slice ho); (have HO_w_pa := hidS ho); (have HB_w_pa := hidS ((HJ.out.drew).trans (hb.mono (HJ.out.drew).size))); clear ho hb; rw [HDR.out.1]))
                    refine hK.out _ _ (by (obtain ⟨⟨k0, k1, k2, k3, k4, k5, k6, k7⟩, kz⟩ := eight (show (w_pa).heap[qe]? = some (.cells #[.int .u8 (x.k : Int), .string x.n, .string x.a, .string x.b, .string x.c, .string x.d, .float .f64 x.v, .int .i64 x.ph] 57 (0, 0)) by rw [HB_w_pa.out.block qe HL13.out]; exact HE13.out)); exact k2) (fun hHeld => ?_)
                    clear hK K
                    try simp only [Act.put, List.setIfInBounds_toArray, List.set_cons_zero, List.set_cons_succ]
                    refine wpAnyH_take (i := 3) (v := ?qv3p10) (by (simp only [List.getElem?_toArray, List.getElem?_cons_zero, List.getElem?_cons_succ]; rfl)) (by kernel_rfl) (by kernel_rfl) (by kernel_rfl) ?qQ3p10 (Or.inl ⟨by rfl, ?qh3p10⟩) hHeld ?qr3p10
                    case qQ3p10 => exact fun _ _ _ h => h
                    case qh3p10 => (intro w hSw; (try dsimp only at hSw); go_simp; try with_reducible rfl)
                    try simp only [Act.put, List.setIfInBounds_toArray, List.set_cons_zero, List.set_cons_succ]
                    refine wpAnyH_take (i := 4) (v := ?qv4p10) (by (simp only [List.getElem?_toArray, List.getElem?_cons_zero, List.getElem?_cons_succ]; rfl)) (by kernel_rfl) (by kernel_rfl) (by kernel_rfl) ?qQ4p10 (Or.inl ⟨by rfl, ?qh4p10⟩) hHeld ?qr4p10
                    case qQ4p10 => exact fun _ _ _ h => h
                    case qh4p10 => (intro w hSw; (try dsimp only at hSw); go_simp; try with_reducible rfl)
                    try simp only [Act.put, List.setIfInBounds_toArray, List.set_cons_zero, List.set_cons_succ]
                    refine wpAnyH_take (i := 5) (v := ?qv5p10) (by (simp only [List.getElem?_toArray, List.getElem?_cons_zero, List.getElem?_cons_succ]; rfl)) (by kernel_rfl) (by kernel_rfl) (by kernel_rfl) ?qQ5p10 (Or.inl ⟨by rfl, ?qh5p10⟩) hHeld ?qr5p10
                    case qQ5p10 => exact fun _ _ _ h => h
                    case qh5p10 => (intro w hSw; (try dsimp only at hSw); go_simp; try with_reducible rfl)
                    try simp only [Act.put, List.setIfInBounds_toArray, List.set_cons_zero, List.set_cons_succ]
                    refine wpAnyH_take (i := 6) (v := ?qv6p10) (by (simp only [List.getElem?_toArray, List.getElem?_cons_zero, List.getElem?_cons_succ]; rfl)) (by kernel_rfl) (by kernel_rfl) (by kernel_rfl) ?qQ6p10 (Or.inl ⟨by rfl, ?qh6p10⟩) hHeld ?qr6p10
                    case qQ6p10 => exact fun _ _ _ h => h
                    case qh6p10 => (intro w hSw; (try dsimp only at hSw); go_simp; try with_reducible rfl)
                    try simp only [Act.put, List.setIfInBounds_toArray, List.set_cons_zero, List.set_cons_succ]
                    refine wpAnyH_take (i := 8) (v := ?qv8p10) (by (simp only [List.getElem?_toArray, List.getElem?_cons_zero, List.getElem?_cons_succ]; rfl)) (by kernel_rfl) (by kernel_rfl) (by kernel_rfl) ?qQ8p10 (Or.inl ⟨by rfl, ?qh8p10⟩) hHeld ?qr8p10
                    case qQ8p10 => exact fun _ _ _ h => h
                    case qh8p10 => (intro w hSw; (try dsimp only at hSw); go_simp; try with_reducible rfl)
                    try simp only [Act.put, List.setIfInBounds_toArray, List.set_cons_zero, List.set_cons_succ]
                    refine wpAnyH_take (i := 11) (v := ?qv11p10) (by (simp only [List.getElem?_toArray, List.getElem?_cons_zero, List.getElem?_cons_succ]; rfl)) (by kernel_rfl) (by kernel_rfl) (by kernel_rfl) ?qQ11p10 (Or.inl ⟨by rfl, ?qh11p10⟩) hHeld ?qr11p10
                    case qQ11p10 => exact fun _ _ _ h => h
                    case qh11p10 => (intro w hSw; (try dsimp only at hSw); go_simp; try with_reducible rfl)
                    try simp only [Act.put, List.setIfInBounds_toArray, List.set_cons_zero, List.set_cons_succ]
                    refine wpAnyH_take (i := 12) (v := ?qv12p10) (by (simp only [List.getElem?_toArray, List.getElem?_cons_zero, List.getElem?_cons_succ]; rfl)) (by kernel_rfl) (by kernel_rfl) (by kernel_rfl) ?qQ12p10 (Or.inl ⟨by rfl, ?qh12p10⟩) hHeld ?qr12p10
                    case qQ12p10 => exact fun _ _ _ h => h
                    case qh12p10 => (intro w hSw; (try dsimp only at hSw); go_simp; try with_reducible rfl)
                    try simp only [Act.put, List.setIfInBounds_toArray, List.set_cons_zero, List.set_cons_succ]
                    refine wpAnyH_ready (rs := [7]) (by kernel_rfl) (by simp) ?_
                    refine AllReadyH.cons rfl (fun K hK => ?_) AllReadyH.nil
                    go_simp
                    go_wp2_with (first
                      | (go_at_call 31; (refine (nodes_made (HN_a5.out.below (HI13.out.trans (HB_w_pa.out.mono HI13.out.size))) (by have := HM.out.nd; omega)).mono ?_); rintro e_w_pb w_pb ⟨v_w_pb, rfl, ho, hb⟩; (obtain ⟨A_w_pb, c_w_pb, rfl⟩ := drow_slice ho); (have HO_w_pb := hidS ho); (have HB_w_pb := hidS (HB_w_pa.out.trans (hb.mono HB_w_pa.out.size))); clear ho hb; rw [HDR.out.1]))
                    have hno := HO_w_pb.out
                    obtain ⟨g_w_pb, cap_w_pb, hvy, cy_w_pb⟩ := row_cellS hno HYN.out
                    injection hvy with he1 he2 he3
                    subst he1
                    clear he2 he3 hno
                    refine hK.out _ _ (by (obtain ⟨⟨k0, k1, k2, k3, k4, k5, k6, k7⟩, kz⟩ := eight (show (w_pb).heap[qe]? = some (.cells #[.int .u8 (x.k : Int), .string x.n, .string x.a, .string x.b, .string x.c, .string x.d, .float .f64 x.v, .int .i64 x.ph] 57 (0, 0)) by rw [HB_w_pb.out.block qe HL13.out]; exact HE13.out)); exact k2) (fun hHeld => ?_)
                    clear hK K
                    try simp only [Act.put, List.setIfInBounds_toArray, List.set_cons_zero, List.set_cons_succ]
                    refine wpAnyH_take (i := 9) (v := ?qv9p10) (by (simp only [List.getElem?_toArray, List.getElem?_cons_zero, List.getElem?_cons_succ]; rfl)) (by kernel_rfl) (by kernel_rfl) (by kernel_rfl) ?qQ9p10 (Or.inl ⟨by rfl, ?qh9p10⟩) hHeld ?qr9p10
                    case qQ9p10 => exact fun _ _ _ h => h
                    case qh9p10 => (intro w hSw; (try dsimp only at hSw); go_simp; try with_reducible rfl)
                    try simp only [Act.put, List.setIfInBounds_toArray, List.set_cons_zero, List.set_cons_succ]
                    refine wpAnyH_ready (rs := [10]) (by kernel_rfl) (by simp) ?_
                    refine AllReadyH.cons rfl (fun K hK => ?_) AllReadyH.nil
                    go_simp
                    refine hK.out _ _ (by (obtain ⟨⟨k0, k1, k2, k3, k4, k5, k6, k7⟩, kz⟩ := eight (show (w_pb).heap[qe]? = some (.cells #[.int .u8 (x.k : Int), .string x.n, .string x.a, .string x.b, .string x.c, .string x.d, .float .f64 x.v, .int .i64 x.ph] 57 (0, 0)) by rw [HB_w_pb.out.block qe HL13.out]; exact HE13.out)); exact k2) (fun hHeld => ?_)
                    clear hK K
                    try simp only [Act.put, List.setIfInBounds_toArray, List.set_cons_zero, List.set_cons_succ]
                    refine wpAnyH_take (i := 13) (v := ?qv13p10) (by (simp only [List.getElem?_toArray, List.getElem?_cons_zero, List.getElem?_cons_succ]; rfl)) (by kernel_rfl) (by kernel_rfl) (by kernel_rfl) ?qQ13p10 (Or.inl ⟨by rfl, ?qh13p10⟩) hHeld ?qr13p10
                    case qQ13p10 => exact fun _ _ _ h => h
                    case qh13p10 => (intro w hSw; (try dsimp only at hSw); go_simp; try with_reducible rfl)
                    try simp only [Act.put, List.setIfInBounds_toArray, List.set_cons_zero, List.set_cons_succ]
                    refine wpAnyH_take (i := 14) (v := ?qv14p10) (by (simp only [List.getElem?_toArray, List.getElem?_cons_zero, List.getElem?_cons_succ]; rfl)) (by kernel_rfl) (by kernel_rfl) (by kernel_rfl) ?qQ14p10 (Or.inl ⟨by rfl, ?qh14p10⟩) hHeld ?qr14p10
                    case qQ14p10 => exact fun _ _ _ h => h
                    case qh14p10 => (intro w hSw; (try dsimp only at hSw); go_simp; try with_reducible rfl)
                    try simp only [Act.put, List.setIfInBounds_toArray, List.set_cons_zero, List.set_cons_succ]
                    refine wpAnyH_done (by kernel_rfl) ?_ _
                    clear d0 d1 d2 d3 d4 d5 d6 d7
                    obtain ⟨⟨d0, d1, d2, d3, d4, d5, d6, d7⟩, z8⟩ := eight (show w_pb.heap[qe]? = some (.cells #[.int .u8 (x.k : Int), .string x.n, .string x.a, .string x.b, .string x.c, .string x.d, .float .f64 x.v, .int .i64 x.ph] 57 (0, 0)) by rw [HB_w_pb.out.block qe HL13.out]; exact HE13.out)
                    clear z8 hHeld
                    go_wp2_with fail
                    refine wp_region_held_drew (S := (fun W : World => W.cell? ⟨qe, 3, none⟩ = some (.string x.b))) (by kernel_rfl) d3 (fun hHeld => ?_)
                    refine wpAnyH_take (i := 0) (v := ?qv0r10) (by (simp only [List.getElem?_toArray, List.getElem?_cons_zero]; rfl)) (by kernel_rfl) (by kernel_rfl) (by kernel_rfl) ?qQ0r10 (Or.inl ⟨by rfl, ?qh0r10⟩) hHeld ?qr0r10
                    case qQ0r10 => exact fun _ _ _ h => h
                    case qh0r10 => (intro w hSw; (try dsimp only at hSw); go_simp; try with_reducible rfl)
                    try simp only [Act.put, List.setIfInBounds_toArray, List.set_cons_zero, List.set_cons_succ]
                    refine wpAnyH_take (i := 1) (v := ?qv1r10) (by (simp only [List.getElem?_toArray, List.getElem?_cons_zero, List.getElem?_cons_succ]; rfl)) (by kernel_rfl) (by kernel_rfl) (by kernel_rfl) ?qQ1r10 (Or.inl ⟨by rfl, ?qh1r10⟩) hHeld ?qr1r10
                    case qQ1r10 => exact fun _ _ _ h => h
                    case qh1r10 => (intro w hSw; (try dsimp only at hSw); go_simp; try with_reducible rfl)
                    try simp only [Act.put, List.setIfInBounds_toArray, List.set_cons_zero, List.set_cons_succ]
                    refine wpAnyH_ready (rs := [2]) (by kernel_rfl) (by simp) ?_
                    refine AllReadyH.cons rfl (fun K hK => ?_) AllReadyH.nil
                    go_simp
                    go_wp2_with (first
                      | (go_at_call 31; (refine (nodes_made (HN_a5.out.below (HI13.out.trans ((HB_w_pb.out.drew).mono HI13.out.size))) (by have := HM.out.nd; omega)).mono ?_); rintro e_w_ra w_ra ⟨v_w_ra, rfl, ho, hb⟩; (obtain ⟨A_w_ra, c_w_ra, rfl⟩ := drow_slice ho); (have HO_w_ra := hidS ho); (have HB_w_ra := hidS ((HB_w_pb.out.drew).trans (hb.mono (HB_w_pb.out.drew).size))); clear ho hb; rw [HDR.out.1]))
                    refine hK.out _ _ (by (obtain ⟨⟨k0, k1, k2, k3, k4, k5, k6, k7⟩, kz⟩ := eight (show (w_ra).heap[qe]? = some (.cells #[.int .u8 (x.k : Int), .string x.n, .string x.a, .string x.b, .string x.c, .string x.d, .float .f64 x.v, .int .i64 x.ph] 57 (0, 0)) by rw [HB_w_ra.out.block qe HL13.out]; exact HE13.out)); exact k3) (fun hHeld => ?_)
                    clear hK K
                    try simp only [Act.put, List.setIfInBounds_toArray, List.set_cons_zero, List.set_cons_succ]
                    refine wpAnyH_take (i := 3) (v := ?qv3r10) (by (simp only [List.getElem?_toArray, List.getElem?_cons_zero, List.getElem?_cons_succ]; rfl)) (by kernel_rfl) (by kernel_rfl) (by kernel_rfl) ?qQ3r10 (Or.inl ⟨by rfl, ?qh3r10⟩) hHeld ?qr3r10
                    case qQ3r10 => exact fun _ _ _ h => h
                    case qh3r10 => (intro w hSw; (try dsimp only at hSw); go_simp; try with_reducible rfl)
                    try simp only [Act.put, List.setIfInBounds_toArray, List.set_cons_zero, List.set_cons_succ]
                    refine wpAnyH_take (i := 4) (v := ?qv4r10) (by (simp only [List.getElem?_toArray, List.getElem?_cons_zero, List.getElem?_cons_succ]; rfl)) (by kernel_rfl) (by kernel_rfl) (by kernel_rfl) ?qQ4r10 (Or.inl ⟨by rfl, ?qh4r10⟩) hHeld ?qr4r10
                    case qQ4r10 => exact fun _ _ _ h => h
                    case qh4r10 => (intro w hSw; (try dsimp only at hSw); go_simp; try with_reducible rfl)
                    try simp only [Act.put, List.setIfInBounds_toArray, List.set_cons_zero, List.set_cons_succ]
                    refine wpAnyH_take (i := 5) (v := ?qv5r10) (by (simp only [List.getElem?_toArray, List.getElem?_cons_zero, List.getElem?_cons_succ]; rfl)) (by kernel_rfl) (by kernel_rfl) (by kernel_rfl) ?qQ5r10 (Or.inl ⟨by rfl, ?qh5r10⟩) hHeld ?qr5r10
                    case qQ5r10 => exact fun _ _ _ h => h
                    case qh5r10 => (intro w hSw; (try dsimp only at hSw); go_simp; try with_reducible rfl)
                    try simp only [Act.put, List.setIfInBounds_toArray, List.set_cons_zero, List.set_cons_succ]
                    refine wpAnyH_take (i := 6) (v := ?qv6r10) (by (simp only [List.getElem?_toArray, List.getElem?_cons_zero, List.getElem?_cons_succ]; rfl)) (by kernel_rfl) (by kernel_rfl) (by kernel_rfl) ?qQ6r10 (Or.inl ⟨by rfl, ?qh6r10⟩) hHeld ?qr6r10
                    case qQ6r10 => exact fun _ _ _ h => h
                    case qh6r10 => (intro w hSw; (try dsimp only at hSw); go_simp; try with_reducible rfl)
                    try simp only [Act.put, List.setIfInBounds_toArray, List.set_cons_zero, List.set_cons_succ]
                    refine wpAnyH_take (i := 8) (v := ?qv8r10) (by (simp only [List.getElem?_toArray, List.getElem?_cons_zero, List.getElem?_cons_succ]; rfl)) (by kernel_rfl) (by kernel_rfl) (by kernel_rfl) ?qQ8r10 (Or.inl ⟨by rfl, ?qh8r10⟩) hHeld ?qr8r10
                    case qQ8r10 => exact fun _ _ _ h => h
                    case qh8r10 => (intro w hSw; (try dsimp only at hSw); go_simp; try with_reducible rfl)
                    try simp only [Act.put, List.setIfInBounds_toArray, List.set_cons_zero, List.set_cons_succ]
                    refine wpAnyH_take (i := 11) (v := ?qv11r10) (by (simp only [List.getElem?_toArray, List.getElem?_cons_zero, List.getElem?_cons_succ]; rfl)) (by kernel_rfl) (by kernel_rfl) (by kernel_rfl) ?qQ11r10 (Or.inl ⟨by rfl, ?qh11r10⟩) hHeld ?qr11r10
                    case qQ11r10 => exact fun _ _ _ h => h
                    case qh11r10 => (intro w hSw; (try dsimp only at hSw); go_simp; try with_reducible rfl)
                    try simp only [Act.put, List.setIfInBounds_toArray, List.set_cons_zero, List.set_cons_succ]
                    refine wpAnyH_take (i := 12) (v := ?qv12r10) (by (simp only [List.getElem?_toArray, List.getElem?_cons_zero, List.getElem?_cons_succ]; rfl)) (by kernel_rfl) (by kernel_rfl) (by kernel_rfl) ?qQ12r10 (Or.inl ⟨by rfl, ?qh12r10⟩) hHeld ?qr12r10
                    case qQ12r10 => exact fun _ _ _ h => h
                    case qh12r10 => (intro w hSw; (try dsimp only at hSw); go_simp; try with_reducible rfl)
                    try simp only [Act.put, List.setIfInBounds_toArray, List.set_cons_zero, List.set_cons_succ]
                    refine wpAnyH_ready (rs := [7]) (by kernel_rfl) (by simp) ?_
                    refine AllReadyH.cons rfl (fun K hK => ?_) AllReadyH.nil
                    go_simp
                    go_wp2_with (first
                      | (go_at_call 31; (refine (nodes_made (HN_a5.out.below (HI13.out.trans (HB_w_ra.out.mono HI13.out.size))) (by have := HM.out.nd; omega)).mono ?_); rintro e_w_rb w_rb ⟨v_w_rb, rfl, ho, hb⟩; (obtain ⟨A_w_rb, c_w_rb, rfl⟩ := drow_slice ho); (have HO_w_rb := hidS ho); (have HB_w_rb := hidS (HB_w_ra.out.trans (hb.mono HB_w_ra.out.size))); clear ho hb; rw [HDR.out.1]))
                    have hno := HO_w_rb.out
                    obtain ⟨g_w_rb, cap_w_rb, hvy, cy_w_rb⟩ := row_cellS hno HYN.out
                    injection hvy with he1 he2 he3
                    subst he1
                    clear he2 he3 hno
                    refine hK.out _ _ (by (obtain ⟨⟨k0, k1, k2, k3, k4, k5, k6, k7⟩, kz⟩ := eight (show (w_rb).heap[qe]? = some (.cells #[.int .u8 (x.k : Int), .string x.n, .string x.a, .string x.b, .string x.c, .string x.d, .float .f64 x.v, .int .i64 x.ph] 57 (0, 0)) by rw [HB_w_rb.out.block qe HL13.out]; exact HE13.out)); exact k3) (fun hHeld => ?_)
                    clear hK K
                    try simp only [Act.put, List.setIfInBounds_toArray, List.set_cons_zero, List.set_cons_succ]
                    refine wpAnyH_take (i := 9) (v := ?qv9r10) (by (simp only [List.getElem?_toArray, List.getElem?_cons_zero, List.getElem?_cons_succ]; rfl)) (by kernel_rfl) (by kernel_rfl) (by kernel_rfl) ?qQ9r10 (Or.inl ⟨by rfl, ?qh9r10⟩) hHeld ?qr9r10
                    case qQ9r10 => exact fun _ _ _ h => h
                    case qh9r10 => (intro w hSw; (try dsimp only at hSw); go_simp; try with_reducible rfl)
                    try simp only [Act.put, List.setIfInBounds_toArray, List.set_cons_zero, List.set_cons_succ]
                    refine wpAnyH_ready (rs := [10]) (by kernel_rfl) (by simp) ?_
                    refine AllReadyH.cons rfl (fun K hK => ?_) AllReadyH.nil
                    go_simp
                    refine hK.out _ _ (by (obtain ⟨⟨k0, k1, k2, k3, k4, k5, k6, k7⟩, kz⟩ := eight (show (w_rb).heap[qe]? = some (.cells #[.int .u8 (x.k : Int), .string x.n, .string x.a, .string x.b, .string x.c, .string x.d, .float .f64 x.v, .int .i64 x.ph] 57 (0, 0)) by rw [HB_w_rb.out.block qe HL13.out]; exact HE13.out)); exact k3) (fun hHeld => ?_)
                    clear hK K
                    try simp only [Act.put, List.setIfInBounds_toArray, List.set_cons_zero, List.set_cons_succ]
                    refine wpAnyH_take (i := 13) (v := ?qv13r10) (by (simp only [List.getElem?_toArray, List.getElem?_cons_zero, List.getElem?_cons_succ]; rfl)) (by kernel_rfl) (by kernel_rfl) (by kernel_rfl) ?qQ13r10 (Or.inl ⟨by rfl, ?qh13r10⟩) hHeld ?qr13r10
                    case qQ13r10 => exact fun _ _ _ h => h
                    case qh13r10 => (intro w hSw; (try dsimp only at hSw); go_simp; try with_reducible rfl)
                    try simp only [Act.put, List.setIfInBounds_toArray, List.set_cons_zero, List.set_cons_succ]
                    refine wpAnyH_take (i := 14) (v := ?qv14r10) (by (simp only [List.getElem?_toArray, List.getElem?_cons_zero, List.getElem?_cons_succ]; rfl)) (by kernel_rfl) (by kernel_rfl) (by kernel_rfl) ?qQ14r10 (Or.inl ⟨by rfl, ?qh14r10⟩) hHeld ?qr14r10
                    case qQ14r10 => exact fun _ _ _ h => h
                    case qh14r10 => (intro w hSw; (try dsimp only at hSw); go_simp; try with_reducible rfl)
                    try simp only [Act.put, List.setIfInBounds_toArray, List.set_cons_zero, List.set_cons_succ]
                    refine wpAnyH_done (by kernel_rfl) ?_ _
                    clear d0 d1 d2 d3 d4 d5 d6 d7 hHeld
                    have HVAL : Hid (drR N x j = (some 4607182418800017408, some 0)) := HPV.out
                    have HFIN : Hid (Below w13.heap.size w13 w_rb) := HB_w_rb.out
                    obtain ⟨g9, cc9, z9, hv9, _, hz9, _, hr9⟩ := (HR13.out.on HFIN.out).get hjlt
                    injection hv9 with he1 he2 he3
                    subst he1
                    clear he2 he3
                    rw [HVAL.out] at hr9
                    rw [repz_in hr9] at hz9
                    unfold cx at hz9
                    clear hr9
                    go_wp2_with fail
                    go_roundw
                    case rel => exact ⟨j + 1, by omega, by go_num, HFIN⟩
                    case measure => simp [intOf]; omega
                  · skip
                    go_wp2_with fail
                    refine wp_region_held_drew (S := (fun W : World => W.cell? ⟨qe, 2, none⟩ = some (.string x.a))) (by kernel_rfl) d2 (fun hHeld => ?_)
                    refine wpAnyH_take (i := 0) (v := ?qv0p11) (by (simp only [List.getElem?_toArray, List.getElem?_cons_zero]; rfl)) (by kernel_rfl) (by kernel_rfl) (by kernel_rfl) ?qQ0p11 (Or.inl ⟨by rfl, ?qh0p11⟩) hHeld ?qr0p11
                    case qQ0p11 => exact fun _ _ _ h => h
                    case qh0p11 => (intro w hSw; (try dsimp only at hSw); go_simp; try with_reducible rfl)
                    try simp only [Act.put, List.setIfInBounds_toArray, List.set_cons_zero, List.set_cons_succ]
                    refine wpAnyH_take (i := 1) (v := ?qv1p11) (by (simp only [List.getElem?_toArray, List.getElem?_cons_zero, List.getElem?_cons_succ]; rfl)) (by kernel_rfl) (by kernel_rfl) (by kernel_rfl) ?qQ1p11 (Or.inl ⟨by rfl, ?qh1p11⟩) hHeld ?qr1p11
                    case qQ1p11 => exact fun _ _ _ h => h
                    case qh1p11 => (intro w hSw; (try dsimp only at hSw); go_simp; try with_reducible rfl)
                    try simp only [Act.put, List.setIfInBounds_toArray, List.set_cons_zero, List.set_cons_succ]
                    refine wpAnyH_ready (rs := [2]) (by kernel_rfl) (by simp) ?_
                    refine AllReadyH.cons rfl (fun K hK => ?_) AllReadyH.nil
                    go_simp
                    go_wp2_with (first
                      | (go_at_call 31; (refine (nodes_made (HN_a5.out.below (HI13.out.trans ((HJ.out.drew).mono HI13.out.size))) (by have := HM.out.nd; omega)).mono ?_); rintro e_w_pa w_pa ⟨v_w_pa, rfl, ho, hb⟩; (obtain ⟨A_w_pa, c_w_pa, rfl⟩ := drow_slice ho); (have HO_w_pa := hidS ho); (have HB_w_pa := hidS ((HJ.out.drew).trans (hb.mono (HJ.out.drew).size))); clear ho hb; rw [HDR.out.1]))
                    refine hK.out _ _ (by (obtain ⟨⟨k0, k1, k2, k3, k4, k5, k6, k7⟩, kz⟩ := eight (show (w_pa).heap[qe]? = some (.cells #[.int .u8 (x.k : Int), .string x.n, .string x.a, .string x.b, .string x.c, .string x.d, .float .f64 x.v, .int .i64 x.ph] 57 (0, 0)) by rw [HB_w_pa.out.block qe HL13.out]; exact HE13.out)); exact k2) (fun hHeld => ?_)
                    clear hK K
                    try simp only [Act.put, List.setIfInBounds_toArray, List.set_cons_zero, List.set_cons_succ]
                    refine wpAnyH_take (i := 3) (v := ?qv3p11) (by (simp only [List.getElem?_toArray, List.getElem?_cons_zero, List.getElem?_cons_succ]; rfl)) (by kernel_rfl) (by kernel_rfl) (by kernel_rfl) ?qQ3p11 (Or.inl ⟨by rfl, ?qh3p11⟩) hHeld ?qr3p11
                    case qQ3p11 => exact fun _ _ _ h => h
                    case qh3p11 => (intro w hSw; (try dsimp only at hSw); go_simp; try with_reducible rfl)
                    try simp only [Act.put, List.setIfInBounds_toArray, List.set_cons_zero, List.set_cons_succ]
                    refine wpAnyH_take (i := 4) (v := ?qv4p11) (by (simp only [List.getElem?_toArray, List.getElem?_cons_zero, List.getElem?_cons_succ]; rfl)) (by kernel_rfl) (by kernel_rfl) (by kernel_rfl) ?qQ4p11 (Or.inl ⟨by rfl, ?qh4p11⟩) hHeld ?qr4p11
                    case qQ4p11 => exact fun _ _ _ h => h
                    case qh4p11 => (intro w hSw; (try dsimp only at hSw); go_simp; try with_reducible rfl)
                    try simp only [Act.put, List.setIfInBounds_toArray, List.set_cons_zero, List.set_cons_succ]
                    refine wpAnyH_take (i := 5) (v := ?qv5p11) (by (simp only [List.getElem?_toArray, List.getElem?_cons_zero, List.getElem?_cons_succ]; rfl)) (by kernel_rfl) (by kernel_rfl) (by kernel_rfl) ?qQ5p11 (Or.inl ⟨by rfl, ?qh5p11⟩) hHeld ?qr5p11
                    case qQ5p11 => exact fun _ _ _ h => h
                    case qh5p11 => (intro w hSw; (try dsimp only at hSw); go_simp; try with_reducible rfl)
                    try simp only [Act.put, List.setIfInBounds_toArray, List.set_cons_zero, List.set_cons_succ]
                    refine wpAnyH_take (i := 6) (v := ?qv6p11) (by (simp only [List.getElem?_toArray, List.getElem?_cons_zero, List.getElem?_cons_succ]; rfl)) (by kernel_rfl) (by kernel_rfl) (by kernel_rfl) ?qQ6p11 (Or.inl ⟨by rfl, ?qh6p11⟩) hHeld ?qr6p11
                    case qQ6p11 => exact fun _ _ _ h => h
                    case qh6p11 => (intro w hSw; (try dsimp only at hSw); go_simp; try with_reducible rfl)
                    try simp only [Act.put, List.setIfInBounds_toArray, List.set_cons_zero, List.set_cons_succ]
                    refine wpAnyH_take (i := 8) (v := ?qv8p11) (by (simp only [List.getElem?_toArray, List.getElem?_cons_zero, List.getElem?_cons_succ]; rfl)) (by kernel_rfl) (by kernel_rfl) (by kernel_rfl) ?qQ8p11 (Or.inl ⟨by rfl, ?qh8p11⟩) hHeld ?qr8p11
                    case qQ8p11 => exact fun _ _ _ h => h
                    case qh8p11 => (intro w hSw; (try dsimp only at hSw); go_simp; try with_reducible rfl)
                    try simp only [Act.put, List.setIfInBounds_toArray, List.set_cons_zero, List.set_cons_succ]
                    refine wpAnyH_take (i := 11) (v := ?qv11p11) (by (simp only [List.getElem?_toArray, List.getElem?_cons_zero, List.getElem?_cons_succ]; rfl)) (by kernel_rfl) (by kernel_rfl) (by kernel_rfl) ?qQ11p11 (Or.inl ⟨by rfl, ?qh11p11⟩) hHeld ?qr11p11
                    case qQ11p11 => exact fun _ _ _ h => h
                    case qh11p11 => (intro w hSw; (try dsimp only at hSw); go_simp; try with_reducible rfl)
                    try simp only [Act.put, List.setIfInBounds_toArray, List.set_cons_zero, List.set_cons_succ]
                    refine wpAnyH_take (i := 12) (v := ?qv12p11) (by (simp only [List.getElem?_toArray, List.getElem?_cons_zero, List.getElem?_cons_succ]; rfl)) (by kernel_rfl) (by kernel_rfl) (by kernel_rfl) ?qQ12p11 (Or.inl ⟨by rfl, ?qh12p11⟩) hHeld ?qr12p11
                    case qQ12p11 => exact fun _ _ _ h => h
                    case qh12p11 => (intro w hSw; (try dsimp only at hSw); go_simp; try with_reducible rfl)
                    try simp only [Act.put, List.setIfInBounds_toArray, List.set_cons_zero, List.set_cons_succ]
                    refine wpAnyH_ready (rs := [7]) (by kernel_rfl) (by simp) ?_
                    refine AllReadyH.cons rfl (fun K hK => ?_) AllReadyH.nil
                    go_simp
                    go_wp2_with (first
                      | (go_at_call 31; (refine (nodes_made (HN_a5.out.below (HI13.out.trans (HB_w_pa.out.mono HI13.out.size))) (by have := HM.out.nd; omega)).mono ?_); rintro e_w_pb w_pb ⟨v_w_pb, rfl, ho, hb⟩; (obtain ⟨A_w_pb, c_w_pb, rfl⟩ := drow_slice ho); (have HO_w_pb := hidS ho); (have HB_w_pb := hidS (HB_w_pa.out.trans (hb.mono HB_w_pa.out.size))); clear ho hb; rw [HDR.out.1]))
                    have hno := HO_w_pb.out
                    obtain ⟨g_w_pb, cap_w_pb, hvy, cy_w_pb⟩ := row_cellS hno HYN.out
                    injection hvy with he1 he2 he3
                    subst he1
                    clear he2 he3 hno
                    refine hK.out _ _ (by (obtain ⟨⟨k0, k1, k2, k3, k4, k5, k6, k7⟩, kz⟩ := eight (show (w_pb).heap[qe]? = some (.cells #[.int .u8 (x.k : Int), .string x.n, .string x.a, .string x.b, .string x.c, .string x.d, .float .f64 x.v, .int .i64 x.ph] 57 (0, 0)) by rw [HB_w_pb.out.block qe HL13.out]; exact HE13.out)); exact k2) (fun hHeld => ?_)
                    clear hK K
                    try simp only [Act.put, List.setIfInBounds_toArray, List.set_cons_zero, List.set_cons_succ]
                    refine wpAnyH_take (i := 9) (v := ?qv9p11) (by (simp only [List.getElem?_toArray, List.getElem?_cons_zero, List.getElem?_cons_succ]; rfl)) (by kernel_rfl) (by kernel_rfl) (by kernel_rfl) ?qQ9p11 (Or.inl ⟨by rfl, ?qh9p11⟩) hHeld ?qr9p11
                    case qQ9p11 => exact fun _ _ _ h => h
                    case qh9p11 => (intro w hSw; (try dsimp only at hSw); go_simp; try with_reducible rfl)
                    try simp only [Act.put, List.setIfInBounds_toArray, List.set_cons_zero, List.set_cons_succ]
                    refine wpAnyH_ready (rs := [10]) (by kernel_rfl) (by simp) ?_
                    refine AllReadyH.cons rfl (fun K hK => ?_) AllReadyH.nil
                    go_simp
                    refine hK.out _ _ (by (obtain ⟨⟨k0, k1, k2, k3, k4, k5, k6, k7⟩, kz⟩ := eight (show (w_pb).heap[qe]? = some (.cells #[.int .u8 (x.k : Int), .string x.n, .string x.a, .string x.b, .string x.c, .string x.d, .float .f64 x.v, .int .i64 x.ph] 57 (0, 0)) by rw [HB_w_pb.out.block qe HL13.out]; exact HE13.out)); exact k2) (fun hHeld => ?_)
                    clear hK K
                    try simp only [Act.put, List.setIfInBounds_toArray, List.set_cons_zero, List.set_cons_succ]
                    refine wpAnyH_take (i := 13) (v := ?qv13p11) (by (simp only [List.getElem?_toArray, List.getElem?_cons_zero, List.getElem?_cons_succ]; rfl)) (by kernel_rfl) (by kernel_rfl) (by kernel_rfl) ?qQ13p11 (Or.inl ⟨by rfl, ?qh13p11⟩) hHeld ?qr13p11
                    case qQ13p11 => exact fun _ _ _ h => h
                    case qh13p11 => (intro w hSw; (try dsimp only at hSw); go_simp; try with_reducible rfl)
                    try simp only [Act.put, List.setIfInBounds_toArray, List.set_cons_zero, List.set_cons_succ]
                    refine wpAnyH_take (i := 14) (v := ?qv14p11) (by (simp only [List.getElem?_toArray, List.getElem?_cons_zero, List.getElem?_cons_succ]; rfl)) (by kernel_rfl) (by kernel_rfl) (by kernel_rfl) ?qQ14p11 (Or.inl ⟨by rfl, ?qh14p11⟩) hHeld ?qr14p11
                    case qQ14p11 => exact fun _ _ _ h => h
                    case qh14p11 => (intro w hSw; (try dsimp only at hSw); go_simp; try with_reducible rfl)
                    try simp only [Act.put, List.setIfInBounds_toArray, List.set_cons_zero, List.set_cons_succ]
                    refine wpAnyH_done (by kernel_rfl) ?_ _
                    clear d0 d1 d2 d3 d4 d5 d6 d7
                    obtain ⟨⟨d0, d1, d2, d3, d4, d5, d6, d7⟩, z8⟩ := eight (show w_pb.heap[qe]? = some (.cells #[.int .u8 (x.k : Int), .string x.n, .string x.a, .string x.b, .string x.c, .string x.d, .float .f64 x.v, .int .i64 x.ph] 57 (0, 0)) by rw [HB_w_pb.out.block qe HL13.out]; exact HE13.out)
                    clear z8 hHeld
                    go_wp2_with fail
                    refine wp_region_held_drew (S := (fun W : World => W.cell? ⟨qe, 3, none⟩ = some (.string x.b))) (by kernel_rfl) d3 (fun hHeld => ?_)
                    refine wpAnyH_take (i := 0) (v := ?qv0r11) (by (simp only [List.getElem?_toArray, List.getElem?_cons_zero]; rfl)) (by kernel_rfl) (by kernel_rfl) (by kernel_rfl) ?qQ0r11 (Or.inl ⟨by rfl, ?qh0r11⟩) hHeld ?qr0r11
                    case qQ0r11 => exact fun _ _ _ h => h
                    case qh0r11 => (intro w hSw; (try dsimp only at hSw); go_simp; try with_reducible rfl)
                    try simp only [Act.put, List.setIfInBounds_toArray, List.set_cons_zero, List.set_cons_succ]
                    refine wpAnyH_take (i := 1) (v := ?qv1r11) (by (simp only [List.getElem?_toArray, List.getElem?_cons_zero, List.getElem?_cons_succ]; rfl)) (by kernel_rfl) (by kernel_rfl) (by kernel_rfl) ?qQ1r11 (Or.inl ⟨by rfl, ?qh1r11⟩) hHeld ?qr1r11
                    case qQ1r11 => exact fun _ _ _ h => h
                    case qh1r11 => (intro w hSw; (try dsimp only at hSw); go_simp; try with_reducible rfl)
                    try simp only [Act.put, List.setIfInBounds_toArray, List.set_cons_zero, List.set_cons_succ]
                    refine wpAnyH_ready (rs := [2]) (by kernel_rfl) (by simp) ?_
                    refine AllReadyH.cons rfl (fun K hK => ?_) AllReadyH.nil
                    go_simp
                    go_wp2_with (first
                      | (go_at_call 31; (refine (nodes_made (HN_a5.out.below (HI13.out.trans ((HB_w_pb.out.drew).mono HI13.out.size))) (by have := HM.out.nd; omega)).mono ?_); rintro e_w_ra w_ra ⟨v_w_ra, rfl, ho, hb⟩; (obtain ⟨A_w_ra, c_w_ra, rfl⟩ := drow_slice ho); (have HO_w_ra := hidS ho); (have HB_w_ra := hidS ((HB_w_pb.out.drew).trans (hb.mono (HB_w_pb.out.drew).size))); clear ho hb; rw [HDR.out.1]))
                    refine hK.out _ _ (by (obtain ⟨⟨k0, k1, k2, k3, k4, k5, k6, k7⟩, kz⟩ := eight (show (w_ra).heap[qe]? = some (.cells #[.int .u8 (x.k : Int), .string x.n, .string x.a, .string x.b, .string x.c, .string x.d, .float .f64 x.v, .int .i64 x.ph] 57 (0, 0)) by rw [HB_w_ra.out.block qe HL13.out]; exact HE13.out)); exact k3) (fun hHeld => ?_)
                    clear hK K
                    try simp only [Act.put, List.setIfInBounds_toArray, List.set_cons_zero, List.set_cons_succ]
                    refine wpAnyH_take (i := 3) (v := ?qv3r11) (by (simp only [List.getElem?_toArray, List.getElem?_cons_zero, List.getElem?_cons_succ]; rfl)) (by kernel_rfl) (by kernel_rfl) (by kernel_rfl) ?qQ3r11 (Or.inl ⟨by rfl, ?qh3r11⟩) hHeld ?qr3r11
                    case qQ3r11 => exact fun _ _ _ h => h
                    case qh3r11 => (intro w hSw; (try dsimp only at hSw); go_simp; try with_reducible rfl)
                    try simp only [Act.put, List.setIfInBounds_toArray, List.set_cons_zero, List.set_cons_succ]
                    refine wpAnyH_take (i := 4) (v := ?qv4r11) (by (simp only [List.getElem?_toArray, List.getElem?_cons_zero, List.getElem?_cons_succ]; rfl)) (by kernel_rfl) (by kernel_rfl) (by kernel_rfl) ?qQ4r11 (Or.inl ⟨by rfl, ?qh4r11⟩) hHeld ?qr4r11
                    case qQ4r11 => exact fun _ _ _ h => h
                    case qh4r11 => (intro w hSw; (try dsimp only at hSw); go_simp; try with_reducible rfl)
                    try simp only [Act.put, List.setIfInBounds_toArray, List.set_cons_zero, List.set_cons_succ]
                    refine wpAnyH_take (i := 5) (v := ?qv5r11) (by (simp only [List.getElem?_toArray, List.getElem?_cons_zero, List.getElem?_cons_succ]; rfl)) (by kernel_rfl) (by kernel_rfl) (by kernel_rfl) ?qQ5r11 (Or.inl ⟨by rfl, ?qh5r11⟩) hHeld ?qr5r11
                    case qQ5r11 => exact fun _ _ _ h => h
                    case qh5r11 => (intro w hSw; (try dsimp only at hSw); go_simp; try with_reducible rfl)
                    try simp only [Act.put, List.setIfInBounds_toArray, List.set_cons_zero, List.set_cons_succ]
                    refine wpAnyH_take (i := 6) (v := ?qv6r11) (by (simp only [List.getElem?_toArray, List.getElem?_cons_zero, List.getElem?_cons_succ]; rfl)) (by kernel_rfl) (by kernel_rfl) (by kernel_rfl) ?qQ6r11 (Or.inl ⟨by rfl, ?qh6r11⟩) hHeld ?qr6r11
                    case qQ6r11 => exact fun _ _ _ h => h
                    case qh6r11 => (intro w hSw; (try dsimp only at hSw); go_simp; try with_reducible rfl)
                    try simp only [Act.put, List.setIfInBounds_toArray, List.set_cons_zero, List.set_cons_succ]
                    refine wpAnyH_take (i := 8) (v := ?qv8r11) (by (simp only [List.getElem?_toArray, List.getElem?_cons_zero, List.getElem?_cons_succ]; rfl)) (by kernel_rfl) (by kernel_rfl) (by kernel_rfl) ?qQ8r11 (Or.inl ⟨by rfl, ?qh8r11⟩) hHeld ?qr8r11
                    case qQ8r11 => exact fun _ _ _ h => h
                    case qh8r11 => (intro w hSw; (try dsimp only at hSw); go_simp; try with_reducible rfl)
                    try simp only [Act.put, List.setIfInBounds_toArray, List.set_cons_zero, List.set_cons_succ]
                    refine wpAnyH_take (i := 11) (v := ?qv11r11) (by (simp only [List.getElem?_toArray, List.getElem?_cons_zero, List.getElem?_cons_succ]; rfl)) (by kernel_rfl) (by kernel_rfl) (by kernel_rfl) ?qQ11r11 (Or.inl ⟨by rfl, ?qh11r11⟩) hHeld ?qr11r11
                    case qQ11r11 => exact fun _ _ _ h => h
                    case qh11r11 => (intro w hSw; (try dsimp only at hSw); go_simp; try with_reducible rfl)
                    try simp only [Act.put, List.setIfInBounds_toArray, List.set_cons_zero, List.set_cons_succ]
                    refine wpAnyH_take (i := 12) (v := ?qv12r11) (by (simp only [List.getElem?_toArray, List.getElem?_cons_zero, List.getElem?_cons_succ]; rfl)) (by kernel_rfl) (by kernel_rfl) (by kernel_rfl) ?qQ12r11 (Or.inl ⟨by rfl, ?qh12r11⟩) hHeld ?qr12r11
                    case qQ12r11 => exact fun _ _ _ h => h
                    case qh12r11 => (intro w hSw; (try dsimp only at hSw); go_simp; try with_reducible rfl)
                    try simp only [Act.put, List.setIfInBounds_toArray, List.set_cons_zero, List.set_cons_succ]
                    refine wpAnyH_ready (rs := [7]) (by kernel_rfl) (by simp) ?_
                    refine AllReadyH.cons rfl (fun K hK => ?_) AllReadyH.nil
                    go_simp
                    go_wp2_with (first
                      | (go_at_call 31; (refine (nodes_made (HN_a5.out.below (HI13.out.trans (HB_w_ra.out.mono HI13.out.size))) (by have := HM.out.nd; omega)).mono ?_); rintro e_w_rb w_rb ⟨v_w_rb, rfl, ho, hb⟩; (obtain ⟨A_w_rb, c_w_rb, rfl⟩ := drow_slice ho); (have HO_w_rb := hidS ho); (have HB_w_rb := hidS (HB_w_ra.out.trans (hb.mono HB_w_ra.out.size))); clear ho hb; rw [HDR.out.1]))
                    have hno := HO_w_rb.out
                    obtain ⟨g_w_rb, cap_w_rb, hvy, cy_w_rb⟩ := row_cellS hno HYN.out
                    injection hvy with he1 he2 he3
                    subst he1
                    clear he2 he3 hno
                    refine hK.out _ _ (by (obtain ⟨⟨k0, k1, k2, k3, k4, k5, k6, k7⟩, kz⟩ := eight (show (w_rb).heap[qe]? = some (.cells #[.int .u8 (x.k : Int), .string x.n, .string x.a, .string x.b, .string x.c, .string x.d, .float .f64 x.v, .int .i64 x.ph] 57 (0, 0)) by rw [HB_w_rb.out.block qe HL13.out]; exact HE13.out)); exact k3) (fun hHeld => ?_)
                    clear hK K
                    try simp only [Act.put, List.setIfInBounds_toArray, List.set_cons_zero, List.set_cons_succ]
                    refine wpAnyH_take (i := 9) (v := ?qv9r11) (by (simp only [List.getElem?_toArray, List.getElem?_cons_zero, List.getElem?_cons_succ]; rfl)) (by kernel_rfl) (by kernel_rfl) (by kernel_rfl) ?qQ9r11 (Or.inl ⟨by rfl, ?qh9r11⟩) hHeld ?qr9r11
                    case qQ9r11 => exact fun _ _ _ h => h
                    case qh9r11 => (intro w hSw; (try dsimp only at hSw); go_simp; try with_reducible rfl)
                    try simp only [Act.put, List.setIfInBounds_toArray, List.set_cons_zero, List.set_cons_succ]
                    refine wpAnyH_ready (rs := [10]) (by kernel_rfl) (by simp) ?_
                    refine AllReadyH.cons rfl (fun K hK => ?_) AllReadyH.nil
                    go_simp
                    refine hK.out _ _ (by (obtain ⟨⟨k0, k1, k2, k3, k4, k5, k6, k7⟩, kz⟩ := eight (show (w_rb).heap[qe]? = some (.cells #[.int .u8 (x.k : Int), .string x.n, .string x.a, .string x.b, .string x.c, .string x.d, .float .f64 x.v, .int .i64 x.ph] 57 (0, 0)) by rw [HB_w_rb.out.block qe HL13.out]; exact HE13.out)); exact k3) (fun hHeld => ?_)
                    clear hK K
                    try simp only [Act.put, List.setIfInBounds_toArray, List.set_cons_zero, List.set_cons_succ]
                    refine wpAnyH_take (i := 13) (v := ?qv13r11) (by (simp only [List.getElem?_toArray, List.getElem?_cons_zero, List.getElem?_cons_succ]; rfl)) (by kernel_rfl) (by kernel_rfl) (by kernel_rfl) ?qQ13r11 (Or.inl ⟨by rfl, ?qh13r11⟩) hHeld ?qr13r11
                    case qQ13r11 => exact fun _ _ _ h => h
                    case qh13r11 => (intro w hSw; (try dsimp only at hSw); go_simp; try with_reducible rfl)
                    try simp only [Act.put, List.setIfInBounds_toArray, List.set_cons_zero, List.set_cons_succ]
                    refine wpAnyH_take (i := 14) (v := ?qv14r11) (by (simp only [List.getElem?_toArray, List.getElem?_cons_zero, List.getElem?_cons_succ]; rfl)) (by kernel_rfl) (by kernel_rfl) (by kernel_rfl) ?qQ14r11 (Or.inl ⟨by rfl, ?qh14r11⟩) hHeld ?qr14r11
                    case qQ14r11 => exact fun _ _ _ h => h
                    case qh14r11 => (intro w hSw; (try dsimp only at hSw); go_simp; try with_reducible rfl)
                    try simp only [Act.put, List.setIfInBounds_toArray, List.set_cons_zero, List.set_cons_succ]
                    refine wpAnyH_done (by kernel_rfl) ?_ _
                    clear d0 d1 d2 d3 d4 d5 d6 d7 hHeld
                    have HVAL : Hid (drR N x j = (some 13830554455654793216, some 0)) := HPV.out
                    have HFIN : Hid (Below w13.heap.size w13 w_rb) := HB_w_rb.out
                    obtain ⟨g9, cc9, z9, hv9, _, hz9, _, hr9⟩ := (HR13.out.on HFIN.out).get hjlt
                    injection hv9 with he1 he2 he3
                    subst he1
                    clear he2 he3
                    rw [HVAL.out] at hr9
                    rw [repz_in hr9] at hz9
                    unfold cx at hz9
                    clear hr9
                    go_wp2_with fail
                    go_roundw
                    case rel => exact ⟨j + 1, by omega, by go_num, HFIN⟩
                    case measure => simp [intOf]; omega
              · have hjdi : ¬ ((j : Int) < (d : Int)) := by omega
                have hjdd : decide ((j : Int) < (d : Int)) = false := decide_eq_false hjdi
                have HVAL : Hid (drR N x j = (some 0, some 0)) := drR_branch HM.out x (by have := HDR.out.1; omega)
                go_wp2_with fail
                refine wp_region_held_drew (S := (fun W : World => True)) (by kernel_rfl) trivial (fun hHeld => ?_)
                refine wpAnyH_take (i := 0) (v := ?qv0q) (by (simp only [List.getElem?_toArray, List.getElem?_cons_zero]; rfl)) (by kernel_rfl) (by kernel_rfl) (by kernel_rfl) ?qQ0q (Or.inl ⟨by rfl, ?qh0q⟩) hHeld ?qr0q
                case qQ0q => exact fun _ _ _ h => h
                case qh0q => (intro w hSw; (try dsimp only at hSw); go_simp; try with_reducible rfl)
                try simp only [Act.put, List.setIfInBounds_toArray, List.set_cons_zero, List.set_cons_succ]
                refine wpAnyH_take (i := 1) (v := ?qv1q) (by (simp only [List.getElem?_toArray, List.getElem?_cons_zero, List.getElem?_cons_succ]; rfl)) (by kernel_rfl) (by kernel_rfl) (by kernel_rfl) ?qQ1q (Or.inl ⟨by rfl, ?qh1q⟩) hHeld ?qr1q
                case qQ1q => exact fun _ _ _ h => h
                case qh1q => (intro w hSw; (try dsimp only at hSw); go_simp; try with_reducible rfl)
                try simp only [Act.put, List.setIfInBounds_toArray, List.set_cons_zero, List.set_cons_succ]
                refine wpAnyH_ready (rs := [2]) (by kernel_rfl) (by simp) ?_
                refine AllReadyH.cons rfl (fun K hK => ?_) AllReadyH.nil
                go_simp
                go_wp2_with (first
                  | (go_at_call 31; (refine (nodes_made (HN_a5.out.below (HI13.out.trans ((HJ.out.drew).mono HI13.out.size))) (by have := HM.out.nd; omega)).mono ?_); rintro e_w_qa w_qa ⟨v_w_qa, rfl, ho, hb⟩; (obtain ⟨A_w_qa, c_w_qa, rfl⟩ := drow_slice ho); (have HO_w_qa := hidS ho); (have HB_w_qa := hidS ((HJ.out.drew).trans (hb.mono (HJ.out.drew).size))); clear ho hb; rw [HDR.out.1]))
                refine hK.out _ _ trivial (fun hHeld => ?_)
                clear hK K
                try simp only [Act.put, List.setIfInBounds_toArray, List.set_cons_zero, List.set_cons_succ]
                refine wpAnyH_take (i := 3) (v := ?qv3q) (by (simp only [List.getElem?_toArray, List.getElem?_cons_zero, List.getElem?_cons_succ]; rfl)) (by kernel_rfl) (by kernel_rfl) (by kernel_rfl) ?qQ3q (Or.inl ⟨by rfl, ?qh3q⟩) hHeld ?qr3q
                case qQ3q => exact fun _ _ _ h => h
                case qh3q => (intro w hSw; (try dsimp only at hSw); go_simp; try with_reducible rfl)
                try simp only [Act.put, List.setIfInBounds_toArray, List.set_cons_zero, List.set_cons_succ]
                refine wpAnyH_take (i := 4) (v := ?qv4q) (by (simp only [List.getElem?_toArray, List.getElem?_cons_zero, List.getElem?_cons_succ]; rfl)) (by kernel_rfl) (by kernel_rfl) (by kernel_rfl) ?qQ4q (Or.inl ⟨by rfl, ?qh4q⟩) hHeld ?qr4q
                case qQ4q => exact fun _ _ _ h => h
                case qh4q => (intro w hSw; (try dsimp only at hSw); go_simp; try with_reducible rfl)
                try simp only [Act.put, List.setIfInBounds_toArray, List.set_cons_zero, List.set_cons_succ]
                refine wpAnyH_take (i := 5) (v := ?qv5q) (by (simp only [List.getElem?_toArray, List.getElem?_cons_zero, List.getElem?_cons_succ]; rfl)) (by kernel_rfl) (by kernel_rfl) (by kernel_rfl) ?qQ5q (Or.inl ⟨by rfl, ?qh5q⟩) hHeld ?qr5q
                case qQ5q => exact fun _ _ _ h => h
                case qh5q => (intro w hSw; (try dsimp only at hSw); go_simp; try with_reducible rfl)
                try simp only [Act.put, List.setIfInBounds_toArray, List.set_cons_zero, List.set_cons_succ]
                refine wpAnyH_take (i := 6) (v := undef) (by (simp only [List.getElem?_toArray, List.getElem?_cons_zero, List.getElem?_cons_succ]; rfl)) (by kernel_rfl) (by kernel_rfl) (by kernel_rfl) ?qQ6q (Or.inr ⟨by rfl, rfl⟩) hHeld ?qr6q
                case qQ6q => exact fun _ _ _ h => h
                try simp only [Act.put, List.setIfInBounds_toArray, List.set_cons_zero, List.set_cons_succ]
                refine wpAnyH_take (i := 7) (v := undef) (by (simp only [List.getElem?_toArray, List.getElem?_cons_zero, List.getElem?_cons_succ]; rfl)) (by kernel_rfl) (by kernel_rfl) (by kernel_rfl) ?qQ7q (Or.inr ⟨by rfl, rfl⟩) hHeld ?qr7q
                case qQ7q => exact fun _ _ _ h => h
                try simp only [Act.put, List.setIfInBounds_toArray, List.set_cons_zero, List.set_cons_succ]
                refine wpAnyH_take (i := 8) (v := undef) (by (simp only [List.getElem?_toArray, List.getElem?_cons_zero, List.getElem?_cons_succ]; rfl)) (by kernel_rfl) (by kernel_rfl) (by kernel_rfl) ?qQ8q (Or.inr ⟨by rfl, rfl⟩) hHeld ?qr8q
                case qQ8q => exact fun _ _ _ h => h
                try simp only [Act.put, List.setIfInBounds_toArray, List.set_cons_zero, List.set_cons_succ]
                refine wpAnyH_take (i := 9) (v := undef) (by (simp only [List.getElem?_toArray, List.getElem?_cons_zero, List.getElem?_cons_succ]; rfl)) (by kernel_rfl) (by kernel_rfl) (by kernel_rfl) ?qQ9q (Or.inr ⟨by rfl, rfl⟩) hHeld ?qr9q
                case qQ9q => exact fun _ _ _ h => h
                try simp only [Act.put, List.setIfInBounds_toArray, List.set_cons_zero, List.set_cons_succ]
                refine wpAnyH_take (i := 10) (v := undef) (by (simp only [List.getElem?_toArray, List.getElem?_cons_zero, List.getElem?_cons_succ]; rfl)) (by kernel_rfl) (by kernel_rfl) (by kernel_rfl) ?qQ10q (Or.inr ⟨by rfl, rfl⟩) hHeld ?qr10q
                case qQ10q => exact fun _ _ _ h => h
                try simp only [Act.put, List.setIfInBounds_toArray, List.set_cons_zero, List.set_cons_succ]
                refine wpAnyH_take (i := 11) (v := undef) (by (simp only [List.getElem?_toArray, List.getElem?_cons_zero, List.getElem?_cons_succ]; rfl)) (by kernel_rfl) (by kernel_rfl) (by kernel_rfl) ?qQ11q (Or.inr ⟨by rfl, rfl⟩) hHeld ?qr11q
                case qQ11q => exact fun _ _ _ h => h
                try simp only [Act.put, List.setIfInBounds_toArray, List.set_cons_zero, List.set_cons_succ]
                refine wpAnyH_take (i := 12) (v := undef) (by (simp only [List.getElem?_toArray, List.getElem?_cons_zero, List.getElem?_cons_succ]; rfl)) (by kernel_rfl) (by kernel_rfl) (by kernel_rfl) ?qQ12q (Or.inr ⟨by rfl, rfl⟩) hHeld ?qr12q
                case qQ12q => exact fun _ _ _ h => h
                try simp only [Act.put, List.setIfInBounds_toArray, List.set_cons_zero, List.set_cons_succ]
                refine wpAnyH_take (i := 13) (v := undef) (by (simp only [List.getElem?_toArray, List.getElem?_cons_zero, List.getElem?_cons_succ]; rfl)) (by kernel_rfl) (by kernel_rfl) (by kernel_rfl) ?qQ13q (Or.inr ⟨by rfl, rfl⟩) hHeld ?qr13q
                case qQ13q => exact fun _ _ _ h => h
                try simp only [Act.put, List.setIfInBounds_toArray, List.set_cons_zero, List.set_cons_succ]
                refine wpAnyH_take (i := 14) (v := ?qv14q) (by (simp only [List.getElem?_toArray, List.getElem?_cons_zero, List.getElem?_cons_succ]; rfl)) (by kernel_rfl) (by kernel_rfl) (by kernel_rfl) ?qQ14q (Or.inl ⟨by rfl, ?qh14q⟩) hHeld ?qr14q
                case qQ14q => exact fun _ _ _ h => h
                case qh14q => (intro w hSw; (try dsimp only at hSw); go_simp; try with_reducible rfl)
                try simp only [Act.put, List.setIfInBounds_toArray, List.set_cons_zero, List.set_cons_succ]
                refine wpAnyH_done (by kernel_rfl) ?_ _
                clear hHeld
                go_wp2_with fail
                refine wp_region_held_drew (S := (fun W : World => True)) (by kernel_rfl) trivial (fun hHeld => ?_)
                refine wpAnyH_take (i := 0) (v := ?qv0t) (by (simp only [List.getElem?_toArray, List.getElem?_cons_zero]; rfl)) (by kernel_rfl) (by kernel_rfl) (by kernel_rfl) ?qQ0t (Or.inl ⟨by rfl, ?qh0t⟩) hHeld ?qr0t
                case qQ0t => exact fun _ _ _ h => h
                case qh0t => (intro w hSw; (try dsimp only at hSw); go_simp; try with_reducible rfl)
                try simp only [Act.put, List.setIfInBounds_toArray, List.set_cons_zero, List.set_cons_succ]
                refine wpAnyH_take (i := 1) (v := ?qv1t) (by (simp only [List.getElem?_toArray, List.getElem?_cons_zero, List.getElem?_cons_succ]; rfl)) (by kernel_rfl) (by kernel_rfl) (by kernel_rfl) ?qQ1t (Or.inl ⟨by rfl, ?qh1t⟩) hHeld ?qr1t
                case qQ1t => exact fun _ _ _ h => h
                case qh1t => (intro w hSw; (try dsimp only at hSw); go_simp; try with_reducible rfl)
                try simp only [Act.put, List.setIfInBounds_toArray, List.set_cons_zero, List.set_cons_succ]
                refine wpAnyH_ready (rs := [2]) (by kernel_rfl) (by simp) ?_
                refine AllReadyH.cons rfl (fun K hK => ?_) AllReadyH.nil
                go_simp
                go_wp2_with (first
                  | (go_at_call 31; (refine (nodes_made (HN_a5.out.below (HI13.out.trans ((HB_w_qa.out.drew).mono HI13.out.size))) (by have := HM.out.nd; omega)).mono ?_); rintro e_w_ta w_ta ⟨v_w_ta, rfl, ho, hb⟩; (obtain ⟨A_w_ta, c_w_ta, rfl⟩ := drow_slice ho); (have HO_w_ta := hidS ho); (have HB_w_ta := hidS ((HB_w_qa.out.drew).trans (hb.mono (HB_w_qa.out.drew).size))); clear ho hb; rw [HDR.out.1]))
                refine hK.out _ _ trivial (fun hHeld => ?_)
                clear hK K
                try simp only [Act.put, List.setIfInBounds_toArray, List.set_cons_zero, List.set_cons_succ]
                refine wpAnyH_take (i := 3) (v := ?qv3t) (by (simp only [List.getElem?_toArray, List.getElem?_cons_zero, List.getElem?_cons_succ]; rfl)) (by kernel_rfl) (by kernel_rfl) (by kernel_rfl) ?qQ3t (Or.inl ⟨by rfl, ?qh3t⟩) hHeld ?qr3t
                case qQ3t => exact fun _ _ _ h => h
                case qh3t => (intro w hSw; (try dsimp only at hSw); go_simp; try with_reducible rfl)
                try simp only [Act.put, List.setIfInBounds_toArray, List.set_cons_zero, List.set_cons_succ]
                refine wpAnyH_take (i := 4) (v := ?qv4t) (by (simp only [List.getElem?_toArray, List.getElem?_cons_zero, List.getElem?_cons_succ]; rfl)) (by kernel_rfl) (by kernel_rfl) (by kernel_rfl) ?qQ4t (Or.inl ⟨by rfl, ?qh4t⟩) hHeld ?qr4t
                case qQ4t => exact fun _ _ _ h => h
                case qh4t => (intro w hSw; (try dsimp only at hSw); go_simp; try with_reducible rfl)
                try simp only [Act.put, List.setIfInBounds_toArray, List.set_cons_zero, List.set_cons_succ]
                refine wpAnyH_take (i := 5) (v := ?qv5t) (by (simp only [List.getElem?_toArray, List.getElem?_cons_zero, List.getElem?_cons_succ]; rfl)) (by kernel_rfl) (by kernel_rfl) (by kernel_rfl) ?qQ5t (Or.inl ⟨by rfl, ?qh5t⟩) hHeld ?qr5t
                case qQ5t => exact fun _ _ _ h => h
                case qh5t => (intro w hSw; (try dsimp only at hSw); go_simp; try with_reducible rfl)
                try simp only [Act.put, List.setIfInBounds_toArray, List.set_cons_zero, List.set_cons_succ]
                refine wpAnyH_take (i := 6) (v := undef) (by (simp only [List.getElem?_toArray, List.getElem?_cons_zero, List.getElem?_cons_succ]; rfl)) (by kernel_rfl) (by kernel_rfl) (by kernel_rfl) ?qQ6t (Or.inr ⟨by rfl, rfl⟩) hHeld ?qr6t
                case qQ6t => exact fun _ _ _ h => h
                try simp only [Act.put, List.setIfInBounds_toArray, List.set_cons_zero, List.set_cons_succ]
                refine wpAnyH_take (i := 7) (v := undef) (by (simp only [List.getElem?_toArray, List.getElem?_cons_zero, List.getElem?_cons_succ]; rfl)) (by kernel_rfl) (by kernel_rfl) (by kernel_rfl) ?qQ7t (Or.inr ⟨by rfl, rfl⟩) hHeld ?qr7t
                case qQ7t => exact fun _ _ _ h => h
                try simp only [Act.put, List.setIfInBounds_toArray, List.set_cons_zero, List.set_cons_succ]
                refine wpAnyH_take (i := 8) (v := undef) (by (simp only [List.getElem?_toArray, List.getElem?_cons_zero, List.getElem?_cons_succ]; rfl)) (by kernel_rfl) (by kernel_rfl) (by kernel_rfl) ?qQ8t (Or.inr ⟨by rfl, rfl⟩) hHeld ?qr8t
                case qQ8t => exact fun _ _ _ h => h
                try simp only [Act.put, List.setIfInBounds_toArray, List.set_cons_zero, List.set_cons_succ]
                refine wpAnyH_take (i := 9) (v := undef) (by (simp only [List.getElem?_toArray, List.getElem?_cons_zero, List.getElem?_cons_succ]; rfl)) (by kernel_rfl) (by kernel_rfl) (by kernel_rfl) ?qQ9t (Or.inr ⟨by rfl, rfl⟩) hHeld ?qr9t
                case qQ9t => exact fun _ _ _ h => h
                try simp only [Act.put, List.setIfInBounds_toArray, List.set_cons_zero, List.set_cons_succ]
                refine wpAnyH_take (i := 10) (v := undef) (by (simp only [List.getElem?_toArray, List.getElem?_cons_zero, List.getElem?_cons_succ]; rfl)) (by kernel_rfl) (by kernel_rfl) (by kernel_rfl) ?qQ10t (Or.inr ⟨by rfl, rfl⟩) hHeld ?qr10t
                case qQ10t => exact fun _ _ _ h => h
                try simp only [Act.put, List.setIfInBounds_toArray, List.set_cons_zero, List.set_cons_succ]
                refine wpAnyH_take (i := 11) (v := undef) (by (simp only [List.getElem?_toArray, List.getElem?_cons_zero, List.getElem?_cons_succ]; rfl)) (by kernel_rfl) (by kernel_rfl) (by kernel_rfl) ?qQ11t (Or.inr ⟨by rfl, rfl⟩) hHeld ?qr11t
                case qQ11t => exact fun _ _ _ h => h
                try simp only [Act.put, List.setIfInBounds_toArray, List.set_cons_zero, List.set_cons_succ]
                refine wpAnyH_take (i := 12) (v := undef) (by (simp only [List.getElem?_toArray, List.getElem?_cons_zero, List.getElem?_cons_succ]; rfl)) (by kernel_rfl) (by kernel_rfl) (by kernel_rfl) ?qQ12t (Or.inr ⟨by rfl, rfl⟩) hHeld ?qr12t
                case qQ12t => exact fun _ _ _ h => h
                try simp only [Act.put, List.setIfInBounds_toArray, List.set_cons_zero, List.set_cons_succ]
                refine wpAnyH_take (i := 13) (v := undef) (by (simp only [List.getElem?_toArray, List.getElem?_cons_zero, List.getElem?_cons_succ]; rfl)) (by kernel_rfl) (by kernel_rfl) (by kernel_rfl) ?qQ13t (Or.inr ⟨by rfl, rfl⟩) hHeld ?qr13t
                case qQ13t => exact fun _ _ _ h => h
                try simp only [Act.put, List.setIfInBounds_toArray, List.set_cons_zero, List.set_cons_succ]
                refine wpAnyH_take (i := 14) (v := ?qv14t) (by (simp only [List.getElem?_toArray, List.getElem?_cons_zero, List.getElem?_cons_succ]; rfl)) (by kernel_rfl) (by kernel_rfl) (by kernel_rfl) ?qQ14t (Or.inl ⟨by rfl, ?qh14t⟩) hHeld ?qr14t
                case qQ14t => exact fun _ _ _ h => h
                case qh14t => (intro w hSw; (try dsimp only at hSw); go_simp; try with_reducible rfl)
                try simp only [Act.put, List.setIfInBounds_toArray, List.set_cons_zero, List.set_cons_succ]
                refine wpAnyH_done (by kernel_rfl) ?_ _
                clear hHeld d0 d1 d2 d3 d4 d5 d6 d7
                have HFIN : Hid (Below w13.heap.size w13 w_ta) := HB_w_ta.out
                obtain ⟨g9, cc9, z9, hv9, _, hz9, _, hr9⟩ := (HR13.out.on HFIN.out).get hjlt
                injection hv9 with he1 he2 he3
                subst he1
                clear he2 he3
                rw [HVAL.out] at hr9
                rw [repz_in hr9] at hz9
                unfold cx at hz9
                clear hr9
                go_wp2_with fail
                go_roundw
                case rel => exact ⟨j + 1, by omega, by go_num, HFIN⟩
                case measure => simp [intOf]; omega
            · have ej : j = m := by omega
              subst ej
              have hjli : ¬ ((j : Int) < (j : Int)) := by omega
              have HZ := hidS (HB_a5.out.trans ((HI13.out.trans (HJ.out.mono HI13.out.size)).mono HB_a5.out.size))
              go_wp2_with fail
              go_ret
              exact ⟨rfl, HZ.out⟩
  · have hne := of_ne hof hp2
    obtain ⟨hb2, rfl⟩ := of_no3 hof hp2
    have HB_w2 := hidS (HB_w1.out.trans (hb2.mono HB_w1.out.size))
    obtain ⟨f1, hf1⟩ : ∃ f1, (ofA xs).1.1 = f1 := ⟨_, rfl⟩
    obtain ⟨f2, hf2⟩ : ∃ f2, (ofA xs).1.2 = f2 := ⟨_, rfl⟩
    rw [hf1, hf2]
    rw [hf1] at hne
    have hn1 : (f1 != 0) = true := by simp [hne]
    have hn2 : (f1 == 0) = false := by simp [hne]
    clear hof hp2 hb2 hf1 hf2 hne
    go_wp2_with fail
    go_ret
    exact ⟨rfl, HB_w2.out.alloc HB_w2.out.size _⟩
end Go.Proofs.Ytpjpamdocfdibaa
