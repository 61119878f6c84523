/-
  StampMatrix' walk.
-/
import Derived.Test.YtmhplaanpbpndaaSef
namespace Go.Proofs.Ytmhplaanpbpndaa
open Fl Go.Maps RowKit Joins Deep
set_option linter.unusedVariables false
set_option maxRecDepth 20000

/-- a matrix that lies in memory -/
def Mxl (w : World) (q : Nat) (a b : Int) (v : Value) : Prop := w.heap[q]? = some (.cells #[.int .i64 a, .int .i64 b, v] 39 (0, 0))
theorem Mxl.on {w w' : World} {q : Nat} {a b : Int} {v : Value} (h : Mxl w q a b v) (hb : Below w.heap.size w w') : Mxl w' q a b v := by
  unfold Mxl at *
  rw [hb.block q (Array.getElem?_eq_some_iff.1 h).1]; exact h
theorem mxl_new (w : World) (a b : Int) (v : Value) : Mxl (w.alloc (.cells #[.int .i64 a, .int .i64 b, v] 39)) w.heap.size a b v := heap_alloc_new w _
set_option maxHeartbeats 16000000 in
theorem smx_walk (w : World) (A : Option Addr) (c n : Nat) (xs : List Elm) (hl : xs.length = n) (hsz : n * 104 ≤ 140737488351232) (hR : Re w A xs) (hok : ∀ x ∈ xs, x.ok) (hbd : ∀ x ∈ xs, x.bd) (o : Nat) (ho : o < 18446744073709551616) : Calls Try.prog 3 #[.slice A n c, .int .u64 (o : Int)] w fun e w' => e = .returned (.bool true) ∧ Below w.heap.size w w' := by
  have HR := hidS hR
  have HL := hidS (And.intro hl (And.intro hok (And.intro (fun x hx => (⟨(hbd x hx).plo, (hbd x hx).phi⟩ : Elm.phb x)) (And.intro ho hsz))))
  have hn1 : n ≤ 140737488351232 := by omega
  clear hR hl hok hsz hbd ho
  have HB_w := hidS (Below.refl w.heap.size w)
  by_cases hof : (ofA xs).1 = (0, 0)
  · skip
    have HOF := hidS hof
    have HM := hidS (Md.of hof HL.out.2.1 HL.out.2.2.1)
    have HES := hidS (ofA_facts (show ofA xs = ((0, 0), (ofA xs).2) by rw [← hof])).2.1
    obtain ⟨N, hN⟩ : ∃ N, (ofA xs).2 = N := ⟨_, rfl⟩
    rw [hN] at HM HES
    have HNN := hidS hN
    obtain ⟨K, hK⟩ : ∃ K, mxK N o = K := ⟨_, rfl⟩
    obtain ⟨g1, hg1⟩ : ∃ g, (stA N o).1.1 = g := ⟨_, rfl⟩
    obtain ⟨g2, hg2⟩ : ∃ g, (stA N o).1.2 = g := ⟨_, rfl⟩
    obtain ⟨L, hL⟩ : ∃ L, nmR N = L := ⟨_, rfl⟩
    obtain ⟨RR, hRR⟩ : ∃ R, mxR (mxK N o) (stA N o).2 = R := ⟨_, rfl⟩
    have HKL : Hid (K ≤ 64 ∧ L.length ≤ 64) := ⟨by rw [← hK]; exact mxK_le HM.out o, by rw [← hL]; exact nmR_le HM.out⟩
    have HEQ := hidS (And.intro hg1 (And.intro hg2 (And.intro hRR (And.intro hK hL))))
    clear hof hN hg1 hg2 hRR hK hL
    go_enter Try.func3, Try.ntmps3
    go_wp2_with fail
    refine (elementsOf_any w A c n xs HL.out.1 HL.out.2.2.2.2 HR.out).mono ?_
    rintro e1 w1 ⟨v1, rfl, ho1, hb1⟩
    have HO1 := hidS ho1
    clear ho1
    have HL_w1 := hidS hb1
    have HB_w1 := hidS (HB_w.out.trans (HL_w1.out.mono HB_w.out.size))
    clear hb1
    go_wp2_with fail
    refine (netOf_row HL.out.1 HO1.out HL.out.2.1).mono ?_
    rintro e2 w2 hp2
    obtain ⟨hb2, p, b0, b, rfl, hN2⟩ := of_yes3 HOF.out hp2
    rw [HNN.out] at hN2
    have HN2 := hidS hN2
    clear hN2 hp2
    have HL_w2 := hidS hb2
    have HB_w2 := hidS (HB_w1.out.trans (HL_w2.out.mono HB_w1.out.size))
    clear hb2
    go_wp2_with fail
    have HL_a2 := hidS (bal w2 (.cells #[.int .i64 0, .int .i64 0] 29))
    have HK_a2 := hidS (flt_new w2 0 0)
    obtain ⟨a2, h_a2⟩ : ∃ W, w2.alloc (.cells #[.int .i64 0, .int .i64 0] 29) = W := ⟨_, rfl⟩
    obtain ⟨q2, hq_q2⟩ : ∃ q, w2.heap.size = q := ⟨_, rfl⟩
    rw [h_a2] at HL_a2 HK_a2
    rw [hq_q2] at HK_a2
    have HB_a2 := hidS (HB_w2.out.trans (HL_a2.out.mono HB_w2.out.size))
    rw [h_a2, hq_q2]
    refine (dof_any _ _ v1 xs n HL.out.1 hn1 (own_below (own_below HO1.out HL_w2.out) HL_a2.out) HL.out.2.1).mono ?_
    rintro e4 w4 hp4
    obtain ⟨hb4, p4, rfl, hD4⟩ := dof_yes3 HOF.out hp4
    rw [← HES.out] at hD4
    have HD4 := hidS hD4
    clear hD4 hp4
    have HL_w4 := hidS hb4
    have HB_w4 := hidS (HB_a2.out.trans (HL_w4.out.mono HB_a2.out.size))
    clear hb4
    go_wp2_with fail
    have HL_a4 := hidS (bal w4 (.cells #[.int .i64 0, .int .i64 0] 29))
    have HK_a4 := hidS (flt_new w4 0 0)
    obtain ⟨a4, h_a4⟩ : ∃ W, w4.alloc (.cells #[.int .i64 0, .int .i64 0] 29) = W := ⟨_, rfl⟩
    obtain ⟨q4, hq_q4⟩ : ∃ q, w4.heap.size = q := ⟨_, rfl⟩
    rw [h_a4] at HL_a4 HK_a4
    rw [hq_q4] at HK_a4
    have HB_a4 := hidS (HB_w4.out.trans (HL_a4.out.mono HB_w4.out.size))
    rw [h_a4, hq_q4]
    clear h_a2 h_a4 hq_q2 hq_q4
    have HMS : Hid (∀ W, Below a4.heap.size a4 W → Calls Try.prog 8 #[.pointer (some ⟨p, 0, none⟩), .float .f64 o] W (MRes g1 g2 K RR W)) := fun W hW => by have := smatrix_res (o := o) (((((HN2.out.below HL_a2.out).below HL_w4.out).below HL_a4.out)).below hW) HM.out HL.out.2.2.2.1; rwa [HEQ.out.2.2.1, HEQ.out.1, HEQ.out.2.1, HEQ.out.2.2.2.1] at this
    have HDM : Hid (∀ W, Below a4.heap.size a4 W → Calls Try.prog 10 #[.pointer (some ⟨p4, 0, none⟩), .float .f64 o] W (MRes g1 g2 K RR W)) := fun W hW => by have := dmatrix_res (o := o) (((HD4.out.below HL_a4.out)).below hW) HM.out HL.out.2.2.2.1; rwa [HEQ.out.2.2.1, HEQ.out.1, HEQ.out.2.1, HEQ.out.2.2.2.1] at this
    have HMN : Hid (∀ W, Below a4.heap.size a4 W → Calls Try.prog 9 #[.pointer (some ⟨p, 0, none⟩)] W (NmP L W)) := fun W hW => by have := snames_res (((((HN2.out.below HL_a2.out).below HL_w4.out).below HL_a4.out)).below hW) HM.out; rwa [HEQ.out.2.2.2.2] at this
    have HDN : Hid (∀ W, Below a4.heap.size a4 W → Calls Try.prog 13 #[.pointer (some ⟨p4, 0, none⟩)] W (NmP L W)) := fun W hW => by have := dnames_res (((HD4.out.below HL_a4.out)).below hW) HM.out; rwa [HEQ.out.2.2.2.2] at this
    clear HL HR HO1
    have HA_a4 := hidS (Below.refl a4.heap.size a4)
    go_wp2_with fail
    refine (HMS.out a4 HA_a4.out).mono ?_
    rintro e5 w5 ⟨A5, c5, rfl, hr5, hb5⟩
    have HW5 := hidS hr5
    clear hr5
    have HL_w5 := hidS hb5
    have HB_w5 := hidS (HB_a4.out.trans (HL_w5.out.mono HB_a4.out.size))
    clear hb5
    have HA_w5 := hidS (HA_a4.out.trans (HL_w5.out.mono HA_a4.out.size))
    have HL_b5 := hidS (bal w5 (.cells #[.int .i64 (K : Int), .int .i64 (K : Int), .slice A5 (K * K) c5] 39))
    have HK_b5 := hidS (mxl_new w5 (K : Int) (K : Int) (.slice A5 (K * K) c5))
    obtain ⟨b5, h_b5⟩ : ∃ W, w5.alloc (.cells #[.int .i64 (K : Int), .int .i64 (K : Int), .slice A5 (K * K) c5] 39) = W := ⟨_, rfl⟩
    obtain ⟨r5, hq_r5⟩ : ∃ q, w5.heap.size = q := ⟨_, rfl⟩
    rw [h_b5] at HL_b5 HK_b5
    rw [hq_r5] at HK_b5
    have HB_b5 := hidS (HB_w5.out.trans (HL_b5.out.mono HB_w5.out.size))
    have HA_b5 := hidS (HA_w5.out.trans (HL_b5.out.mono HA_w5.out.size))
    have hz_q5 : b5.heap.size = (r5 + 1) := by rw [← hq_r5, ← h_b5]; simp
    have he_q5 : (b5.alloc (.cells #[.int .i64 0, .int .i64 0] 29)).heap[(r5 + 1)]? = some (.cells #[.int .i64 0, .int .i64 0] 29 (0, 0)) := by rw [← hz_q5]; exact heap_alloc_new _ _
    have HL_a5 := hidS (bal b5 (.cells #[.int .i64 g1, .int .i64 g2] 29))
    have HK_a5 : Hid (Flt (b5.alloc (.cells #[.int .i64 g1, .int .i64 g2] 29)) (r5 + 1) g1 g2) := by rw [← hz_q5]; exact flt_new b5 g1 g2
    obtain ⟨zz0, zz1, zz2, zz3⟩ := tw_c he_q5
    obtain ⟨a5, h_a5⟩ : ∃ W, b5.alloc (.cells #[.int .i64 g1, .int .i64 g2] 29) = W := ⟨_, rfl⟩
    rw [h_a5] at HL_a5 HK_a5
    have HB_a5 := hidS (HB_b5.out.trans (HL_a5.out.mono HB_b5.out.size))
    clear he_q5
    have HA_a5 := hidS (HA_b5.out.trans (HL_a5.out.mono HA_b5.out.size))
    go_wp2_with fail
    clear h_b5 hq_r5 h_a5 hz_q5 zz0 zz1 zz2 zz3
    refine (HMS.out a5 HA_a5.out).mono ?_
    rintro e6 w6 ⟨A6, c6, rfl, hr6, hb6⟩
    have HW6 := hidS hr6
    clear hr6
    have HL_w6 := hidS hb6
    have HB_w6 := hidS (HB_a5.out.trans (HL_w6.out.mono HB_a5.out.size))
    clear hb6
    have HA_w6 := hidS (HA_a5.out.trans (HL_w6.out.mono HA_a5.out.size))
    have HL_b6 := hidS (bal w6 (.cells #[.int .i64 (K : Int), .int .i64 (K : Int), .slice A6 (K * K) c6] 39))
    have HK_b6 := hidS (mxl_new w6 (K : Int) (K : Int) (.slice A6 (K * K) c6))
    obtain ⟨b6, h_b6⟩ : ∃ W, w6.alloc (.cells #[.int .i64 (K : Int), .int .i64 (K : Int), .slice A6 (K * K) c6] 39) = W := ⟨_, rfl⟩
    obtain ⟨r6, hq_r6⟩ : ∃ q, w6.heap.size = q := ⟨_, rfl⟩
    rw [h_b6] at HL_b6 HK_b6
    rw [hq_r6] at HK_b6
    have HB_b6 := hidS (HB_w6.out.trans (HL_b6.out.mono HB_w6.out.size))
    have HA_b6 := hidS (HA_w6.out.trans (HL_b6.out.mono HA_w6.out.size))
    have hz_q6 : b6.heap.size = (r6 + 1) := by rw [← hq_r6, ← h_b6]; simp
    have he_q6 : (b6.alloc (.cells #[.int .i64 0, .int .i64 0] 29)).heap[(r6 + 1)]? = some (.cells #[.int .i64 0, .int .i64 0] 29 (0, 0)) := by rw [← hz_q6]; exact heap_alloc_new _ _
    have HL_a6 := hidS (bal b6 (.cells #[.int .i64 g1, .int .i64 g2] 29))
    have HK_a6 : Hid (Flt (b6.alloc (.cells #[.int .i64 g1, .int .i64 g2] 29)) (r6 + 1) g1 g2) := by rw [← hz_q6]; exact flt_new b6 g1 g2
    obtain ⟨zz0, zz1, zz2, zz3⟩ := tw_c he_q6
    obtain ⟨a6, h_a6⟩ : ∃ W, b6.alloc (.cells #[.int .i64 g1, .int .i64 g2] 29) = W := ⟨_, rfl⟩
    rw [h_a6] at HL_a6 HK_a6
    have HB_a6 := hidS (HB_b6.out.trans (HL_a6.out.mono HB_b6.out.size))
    clear he_q6
    have HA_a6 := hidS (HA_b6.out.trans (HL_a6.out.mono HA_b6.out.size))
    go_wp2_with fail
    clear h_b6 hq_r6 h_a6 hz_q6 zz0 zz1 zz2 zz3
    refine (HMN.out a6 HA_a6.out).mono ?_
    rintro e7 w7 ⟨v7, rfl, ho7, hb7⟩
    obtain ⟨A7, d7, rfl⟩ := drow_slice ho7
    have HO7 := hidS ho7
    clear ho7
    have HL_w7 := hidS hb7
    have HB_w7 := hidS (HB_a6.out.trans (HL_w7.out.mono HB_a6.out.size))
    clear hb7
    have HA_w7 := hidS (HA_a6.out.trans (HL_w7.out.mono HA_a6.out.size))
    go_wp2_with fail
    refine (HMN.out w7 HA_w7.out).mono ?_
    rintro e8 w8 ⟨v8, rfl, ho8, hb8⟩
    obtain ⟨A8, d8, rfl⟩ := drow_slice ho8
    have HO8 := hidS ho8
    clear ho8
    have HL_w8 := hidS hb8
    have HB_w8 := hidS (HB_w7.out.trans (HL_w8.out.mono HB_w7.out.size))
    clear hb8
    have HA_w8 := hidS (HA_w7.out.trans (HL_w8.out.mono HA_w7.out.size))
    go_wp2_with fail
    refine (HDM.out w8 HA_w8.out).mono ?_
    rintro e9 w9 ⟨A9, c9, rfl, hr9, hb9⟩
    have HW9 := hidS hr9
    clear hr9
    have HL_w9 := hidS hb9
    have HB_w9 := hidS (HB_w8.out.trans (HL_w9.out.mono HB_w8.out.size))
    clear hb9
    have HA_w9 := hidS (HA_w8.out.trans (HL_w9.out.mono HA_w8.out.size))
    have HL_b9 := hidS (bal w9 (.cells #[.int .i64 (K : Int), .int .i64 (K : Int), .slice A9 (K * K) c9] 39))
    have HK_b9 := hidS (mxl_new w9 (K : Int) (K : Int) (.slice A9 (K * K) c9))
    obtain ⟨b9, h_b9⟩ : ∃ W, w9.alloc (.cells #[.int .i64 (K : Int), .int .i64 (K : Int), .slice A9 (K * K) c9] 39) = W := ⟨_, rfl⟩
    obtain ⟨r9, hq_r9⟩ : ∃ q, w9.heap.size = q := ⟨_, rfl⟩
    rw [h_b9] at HL_b9 HK_b9
    rw [hq_r9] at HK_b9
    have HB_b9 := hidS (HB_w9.out.trans (HL_b9.out.mono HB_w9.out.size))
    have HA_b9 := hidS (HA_w9.out.trans (HL_b9.out.mono HA_w9.out.size))
    have hz_q9 : b9.heap.size = (r9 + 1) := by rw [← hq_r9, ← h_b9]; simp
    have he_q9 : (b9.alloc (.cells #[.int .i64 0, .int .i64 0] 29)).heap[(r9 + 1)]? = some (.cells #[.int .i64 0, .int .i64 0] 29 (0, 0)) := by rw [← hz_q9]; exact heap_alloc_new _ _
    have HL_a9 := hidS (bal b9 (.cells #[.int .i64 g1, .int .i64 g2] 29))
    have HK_a9 : Hid (Flt (b9.alloc (.cells #[.int .i64 g1, .int .i64 g2] 29)) (r9 + 1) g1 g2) := by rw [← hz_q9]; exact flt_new b9 g1 g2
    obtain ⟨zz0, zz1, zz2, zz3⟩ := tw_c he_q9
    obtain ⟨a9, h_a9⟩ : ∃ W, b9.alloc (.cells #[.int .i64 g1, .int .i64 g2] 29) = W := ⟨_, rfl⟩
    rw [h_a9] at HL_a9 HK_a9
    have HB_a9 := hidS (HB_b9.out.trans (HL_a9.out.mono HB_b9.out.size))
    clear he_q9
    have HA_a9 := hidS (HA_b9.out.trans (HL_a9.out.mono HA_b9.out.size))
    obtain ⟨x5, y5, u5, v5z⟩ := tw_c (show a9.heap[r5 + 1]? = some _ from ((((((((HK_a5.out.on HL_w6.out).on HL_b6.out).on HL_a6.out).on HL_w7.out).on HL_w8.out).on HL_w9.out).on HL_b9.out).on HL_a9.out))
    obtain ⟨m5, n5, l5, -, -, -⟩ := th_c (show a9.heap[r5]? = some _ from (((((((((HK_b5.out.on HL_a5.out).on HL_w6.out).on HL_b6.out).on HL_a6.out).on HL_w7.out).on HL_w8.out).on HL_w9.out).on HL_b9.out).on HL_a9.out))
    obtain ⟨x6, y6, u6, v6z⟩ := tw_c (show a9.heap[r6 + 1]? = some _ from (((((HK_a6.out.on HL_w7.out).on HL_w8.out).on HL_w9.out).on HL_b9.out).on HL_a9.out))
    obtain ⟨m6, n6, l6, -, -, -⟩ := th_c (show a9.heap[r6]? = some _ from ((((((HK_b6.out.on HL_a6.out).on HL_w7.out).on HL_w8.out).on HL_w9.out).on HL_b9.out).on HL_a9.out))
    obtain ⟨x9, y9, u9, v9z⟩ := tw_c (show a9.heap[r9 + 1]? = some _ from HK_a9.out)
    obtain ⟨m9, n9, l9, -, -, -⟩ := th_c (show a9.heap[r9]? = some _ from (HK_b9.out.on HL_a9.out))
    have HX5 := hidS ((((((((((HW5.out.on HL_b5.out).on HL_a5.out).on HL_w6.out).on HL_b6.out).on HL_a6.out).on HL_w7.out).on HL_w8.out).on HL_w9.out).on HL_b9.out).on HL_a9.out)
    have HX6 := hidS (((((((HW6.out.on HL_b6.out).on HL_a6.out).on HL_w7.out).on HL_w8.out).on HL_w9.out).on HL_b9.out).on HL_a9.out)
    have HX9 := hidS ((HW9.out.on HL_b9.out).on HL_a9.out)
    have HQ7 := hidS (own_below (own_below (own_below (own_below HO7.out HL_w8.out) HL_w9.out) HL_b9.out) HL_a9.out)
    have HQ8 := hidS (own_below (own_below (own_below HO8.out HL_w9.out) HL_b9.out) HL_a9.out)
    go_wp2_with fail
    clear x5 y5 u5 v5z x6 y6 u6 v6z x9 y9 u9 v9z m5 n5 l5 m6 n6 l6 m9 n9 l9 h_b9 hq_r9 h_a9 hz_q9 zz0 zz1 zz2 zz3
    refine (mx_same HX5.out HX9.out HKL.out.1).mono ?_
    rintro es0 s0 ⟨rfl, hbs0⟩
    have HL_s0 := hidS hbs0
    have HB_s0 := hidS (HB_a9.out.trans (HL_s0.out.mono HB_a9.out.size))
    clear hbs0
    have HA_s0 := hidS (HA_a9.out.trans (HL_s0.out.mono HA_a9.out.size))
    have HX5 := hidS (HX5.out.on HL_s0.out)
    have HX6 := hidS (HX6.out.on HL_s0.out)
    have HX9 := hidS (HX9.out.on HL_s0.out)
    have HQ7 := hidS (own_below HQ7.out HL_s0.out)
    have HQ8 := hidS (own_below HQ8.out HL_s0.out)
    obtain ⟨m6, n6, l6, -, -, -⟩ := th_c (show s0.heap[r6]? = some _ from (((((((HK_b6.out.on HL_a6.out).on HL_w7.out).on HL_w8.out).on HL_w9.out).on HL_b9.out).on HL_a9.out).on HL_s0.out))
    obtain ⟨m9, n9, l9, -, -, -⟩ := th_c (show s0.heap[r9]? = some _ from ((HK_b9.out.on HL_a9.out).on HL_s0.out))
    go_wp2_with fail
    clear m6 n6 l6 m9 n9 l9
    refine (mx_same HX6.out HX9.out HKL.out.1).mono ?_
    rintro es1 s1 ⟨rfl, hbs1⟩
    have HL_s1 := hidS hbs1
    have HB_s1 := hidS (HB_s0.out.trans (HL_s1.out.mono HB_s0.out.size))
    clear hbs1
    have HA_s1 := hidS (HA_s0.out.trans (HL_s1.out.mono HA_s0.out.size))
    have HX5 := hidS (HX5.out.on HL_s1.out)
    have HX6 := hidS (HX6.out.on HL_s1.out)
    have HX9 := hidS (HX9.out.on HL_s1.out)
    have HQ7 := hidS (own_below HQ7.out HL_s1.out)
    have HQ8 := hidS (own_below HQ8.out HL_s1.out)
    go_wp2_with fail
    refine (HDN.out s1 HA_s1.out).mono ?_
    rintro e10 s2 ⟨v10, rfl, ho10, hbs2⟩
    have HQ10 := hidS ho10
    clear ho10
    have HL_s2 := hidS hbs2
    have HB_s2 := hidS (HB_s1.out.trans (HL_s2.out.mono HB_s1.out.size))
    clear hbs2
    have HA_s2 := hidS (HA_s1.out.trans (HL_s2.out.mono HA_s1.out.size))
    have HX5 := hidS (HX5.out.on HL_s2.out)
    have HX6 := hidS (HX6.out.on HL_s2.out)
    have HX9 := hidS (HX9.out.on HL_s2.out)
    have HQ7 := hidS (own_below HQ7.out HL_s2.out)
    have HQ8 := hidS (own_below HQ8.out HL_s2.out)
    go_wp2_with fail
    refine (sameS_any s2 _ _ _ v10 L L HQ7.out HQ10.out (by have := HKL.out.2; omega) (by have := HKL.out.2; omega)).mono ?_
    rintro e11 s3 ⟨rfl, hbs3⟩
    rw [decide_eq_true (rfl : L = L)]
    have HL_s3 := hidS hbs3
    have HB_s3 := hidS (HB_s2.out.trans (HL_s3.out.mono HB_s2.out.size))
    clear hbs3
    have HA_s3 := hidS (HA_s2.out.trans (HL_s3.out.mono HA_s2.out.size))
    have HX5 := hidS (HX5.out.on HL_s3.out)
    have HX6 := hidS (HX6.out.on HL_s3.out)
    have HX9 := hidS (HX9.out.on HL_s3.out)
    have HQ7 := hidS (own_below HQ7.out HL_s3.out)
    have HQ8 := hidS (own_below HQ8.out HL_s3.out)
    go_wp2_with fail
    refine (sameS_any s3 _ _ _ _ L L HQ8.out HQ7.out (by have := HKL.out.2; omega) (by have := HKL.out.2; omega)).mono ?_
    rintro e12 s4 ⟨rfl, hbs4⟩
    rw [decide_eq_true (rfl : L = L)]
    have HL_s4 := hidS hbs4
    have HB_s4 := hidS (HB_s3.out.trans (HL_s4.out.mono HB_s3.out.size))
    clear hbs4
    have HA_s4 := hidS (HA_s3.out.trans (HL_s4.out.mono HA_s3.out.size))
    have HX5 := hidS (HX5.out.on HL_s4.out)
    have HX6 := hidS (HX6.out.on HL_s4.out)
    have HX9 := hidS (HX9.out.on HL_s4.out)
    have HQ7 := hidS (own_below HQ7.out HL_s4.out)
    have HQ8 := hidS (own_below HQ8.out HL_s4.out)
    obtain ⟨m5, n5, l5, -, -, -⟩ := th_c (show s4.heap[r5]? = some _ from ((((((((((((((HK_b5.out.on HL_a5.out).on HL_w6.out).on HL_b6.out).on HL_a6.out).on HL_w7.out).on HL_w8.out).on HL_w9.out).on HL_b9.out).on HL_a9.out).on HL_s0.out).on HL_s1.out).on HL_s2.out).on HL_s3.out).on HL_s4.out))
    obtain ⟨m6, n6, l6, -, -, -⟩ := th_c (show s4.heap[r6]? = some _ from (((((((((((HK_b6.out.on HL_a6.out).on HL_w7.out).on HL_w8.out).on HL_w9.out).on HL_b9.out).on HL_a9.out).on HL_s0.out).on HL_s1.out).on HL_s2.out).on HL_s3.out).on HL_s4.out))
    go_wp2_with fail
    clear m5 n5 l5 m6 n6 l6
    have G5 : Hid (∀ g, (Value.slice A5 (K * K) c5).ownBlock = some g → w.heap.size ≤ g ∧ g < w5.heap.size) := fun g hg => by obtain ⟨xs5, k1, _⟩ := HW5.out; have e := k1.own.lt g hg; have := HB_a4.out.size; exact ⟨by omega, e.2⟩
    have G6 : Hid (∀ g, (Value.slice A6 (K * K) c6).ownBlock = some g → a5.heap.size ≤ g ∧ g < w6.heap.size) := fun g hg => by obtain ⟨xs6, k1, _⟩ := HW6.out; exact k1.own.lt g hg
    have G7 : Hid (∀ g, (Value.slice A7 L.length d7).ownBlock = some g → a6.heap.size ≤ g ∧ g < w7.heap.size) := fun g hg => HO7.out.lt g hg
    have G8 : Hid (∀ g, (Value.slice A8 L.length d8).ownBlock = some g → w7.heap.size ≤ g ∧ g < w8.heap.size) := fun g hg => HO8.out.lt g hg
    have HSZ : Hid (w5.heap.size ≤ a5.heap.size ∧ w6.heap.size ≤ a6.heap.size ∧ a5.heap.size ≤ a6.heap.size ∧ w7.heap.size ≤ w8.heap.size ∧ w8.heap.size ≤ s4.heap.size ∧ w.heap.size ≤ a5.heap.size) := by
      have k1 := HL_b5.out.size
      have k2 := HL_a5.out.size
      have k3 := HL_w6.out.size
      have k4 := HL_b6.out.size
      have k5 := HL_a6.out.size
      have k6 := HL_w7.out.size
      have k7 := HL_w8.out.size
      have k8 := HB_a5.out.size
      have k9 := HL_w9.out.size
      have k10 := HL_b9.out.size
      have k11 := HL_a9.out.size
      have k12 := HL_s0.out.size
      have k13 := HL_s1.out.size
      have k14 := HL_s2.out.size
      have k15 := HL_s3.out.size
      have k16 := HL_s4.out.size
      exact ⟨by omega, by omega, by omega, by omega, by omega, by omega⟩
    have HAP := hidS (apart2k (t := 37) (b0 := w.heap.size) (LB := s4.heap.size) rfl (HX5.out.lower HB_a4.out.size) (HX6.out.lower HB_a5.out.size) (by have := Nat.mul_le_mul HKL.out.1 HKL.out.1; omega) (by have := Nat.mul_le_mul HKL.out.1 HKL.out.1; omega) (fun g h1 h2 => by have e1 := G5.out g h1; have e2 := G6.out g h2; have := HSZ.out; omega) HB_s4.out.size)
    refine HAP.out.mono ?_
    rintro e13 t1 ⟨rfl, hk13⟩
    have HK13 := hidS hk13
    clear hk13
    have HT1 : Hid (Below w.heap.size w t1) := by
      have q := HB_s4.out.alloc HB_s4.out.size (.cells #[.slice A5 (K * K) c5, .slice A6 (K * K) c6] 37)
      exact q.trans ⟨HK13.out.os, HK13.out.tape, HK13.out.output, HK13.out.size, fun k hk => HK13.out.block k ⟨by have := HB_s4.out.size; omega, fun e => by have := (G5.out k e).1; omega, fun e => by have := (G6.out k e).1; have := HSZ.out; omega⟩⟩
    have HS1 : Hid (w.heap.size ≤ t1.heap.size) := HT1.out.size
    have HR7 : Hid (t1.ownsRow w.heap.size 9 1 (.slice A7 L.length d7) L.length (L.map sv)) := own_base (row_block (HQ7.out.alloc _) (fun g hg => HK13.out.block g ⟨by have := G7.out g hg; have := HSZ.out; omega, fun e => by have := G5.out g e; have := G7.out g hg; have := HSZ.out; omega, fun e => by have := G6.out g e; have := G7.out g hg; have := HSZ.out; omega⟩)) (by have := HB_a6.out.size; omega)
    have HR8 : Hid (t1.ownsRow w.heap.size 9 1 (.slice A8 L.length d8) L.length (L.map sv)) := own_base (row_block (HQ8.out.alloc _) (fun g hg => HK13.out.block g ⟨by have := G8.out g hg; have := HSZ.out; omega, fun e => by have := G5.out g e; have := G8.out g hg; have := HSZ.out; have := HL_w7.out.size; omega, fun e => by have := G6.out g e; have := G8.out g hg; have := HSZ.out; have := HL_w7.out.size; omega⟩)) (by have := HB_w7.out.size; omega)
    go_wp2_with fail
    refine (apart2t (t := 42) (b0 := w.heap.size) (LB := t1.heap.size) rfl HR7.out HR8.out (by have := HKL.out.2; omega) (by have := HKL.out.2; omega) (fun g h1 h2 => by have := G7.out g h1; have := G8.out g h2; omega) HS1.out).mono ?_
    rintro e14 t2 ⟨rfl, hb14⟩
    have HZ := hidS ((HT1.out.alloc HT1.out.size _).trans hb14)
    clear hb14
    go_wp2_with fail
    go_ret
    exact ⟨rfl, HZ.out⟩
  · skip
    obtain ⟨f1, hf1⟩ : ∃ f1, (ofA xs).1.1 = f1 := ⟨_, rfl⟩
    obtain ⟨f2, hf2⟩ : ∃ f2, (ofA xs).1.2 = f2 := ⟨_, rfl⟩
    have HOF := hidS (And.intro hof (And.intro hf1 hf2))
    clear hof hf1 hf2
    obtain ⟨K, hK⟩ : ∃ K : Nat, K = 0 := ⟨_, rfl⟩
    obtain ⟨g1, hg1⟩ : ∃ g : Int, g = 1 := ⟨_, rfl⟩
    obtain ⟨g2, hg2⟩ : ∃ g : Int, g = -1 := ⟨_, rfl⟩
    obtain ⟨L, hL⟩ : ∃ L : List (List UInt8), L = [] := ⟨_, rfl⟩
    obtain ⟨RR, hRR⟩ : ∃ R : Nat → Cn, R = noC := ⟨_, rfl⟩
    have HKL : Hid (K ≤ 64 ∧ L.length ≤ 64) := ⟨by omega, by rw [hL]; decide⟩
    have HMS : Hid (∀ W, Calls Try.prog 8 #[.pointer none, .float .f64 o] W (MRes g1 g2 K RR W)) := fun W => by rw [hK, hg1, hg2, hRR]; exact smatrix_res0 W o
    have HDM : Hid (∀ W, Calls Try.prog 10 #[.pointer none, .float .f64 o] W (MRes g1 g2 K RR W)) := fun W => by rw [hK, hg1, hg2, hRR]; exact dmatrix_res0 W o
    have HMN : Hid (∀ W, Calls Try.prog 9 #[.pointer none] W (NmP L W)) := fun W => by rw [hL]; exact snames_res0 W
    have HDN : Hid (∀ W, Calls Try.prog 13 #[.pointer none] W (NmP L W)) := fun W => by rw [hL]; exact dnames_res0 W
    clear hK hg1 hg2 hL hRR
    go_enter Try.func3, Try.ntmps3
    go_wp2_with fail
    refine (elementsOf_any w A c n xs HL.out.1 HL.out.2.2.2.2 HR.out).mono ?_
    rintro e1 w1 ⟨v1, rfl, ho1, hb1⟩
    have HO1 := hidS ho1
    clear ho1
    have HL_w1 := hidS hb1
    have HB_w1 := hidS (HB_w.out.trans (HL_w1.out.mono HB_w.out.size))
    clear hb1
    go_wp2_with fail
    refine (netOf_row HL.out.1 HO1.out HL.out.2.1).mono ?_
    rintro e2 w2 hp2
    obtain ⟨hb2, rfl⟩ := of_no3 HOF.out.1 hp2
    rw [HOF.out.2.1, HOF.out.2.2]
    clear hp2
    have HL_w2 := hidS hb2
    have HB_w2 := hidS (HB_w1.out.trans (HL_w2.out.mono HB_w1.out.size))
    clear hb2
    have HL_a2 := hidS (bal w2 (.cells #[.int .i64 f1, .int .i64 f2] 29))
    have HK_a2 := hidS (flt_new w2 f1 f2)
    obtain ⟨a2, h_a2⟩ : ∃ W, w2.alloc (.cells #[.int .i64 f1, .int .i64 f2] 29) = W := ⟨_, rfl⟩
    obtain ⟨q2, hq_q2⟩ : ∃ q, w2.heap.size = q := ⟨_, rfl⟩
    rw [h_a2] at HL_a2 HK_a2
    rw [hq_q2] at HK_a2
    have HB_a2 := hidS (HB_w2.out.trans (HL_a2.out.mono HB_w2.out.size))
    go_wp2_with fail
    refine (dof_any _ _ v1 xs n HL.out.1 hn1 (own_below (own_below HO1.out HL_w2.out) HL_a2.out) HL.out.2.1).mono ?_
    rintro e4 w4 hp4
    obtain ⟨hb4, rfl⟩ := dof_no3 HOF.out.1 hp4
    rw [HOF.out.2.1, HOF.out.2.2]
    clear hp4
    have HL_w4 := hidS hb4
    have HB_w4 := hidS (HB_a2.out.trans (HL_w4.out.mono HB_a2.out.size))
    clear hb4
    have HL_a4 := hidS (bal w4 (.cells #[.int .i64 f1, .int .i64 f2] 29))
    have HK_a4 := hidS (flt_new w4 f1 f2)
    obtain ⟨a4, h_a4⟩ : ∃ W, w4.alloc (.cells #[.int .i64 f1, .int .i64 f2] 29) = W := ⟨_, rfl⟩
    obtain ⟨q4, hq_q4⟩ : ∃ q, w4.heap.size = q := ⟨_, rfl⟩
    rw [h_a4] at HL_a4 HK_a4
    rw [hq_q4] at HK_a4
    have HB_a4 := hidS (HB_w4.out.trans (HL_a4.out.mono HB_w4.out.size))
    go_wp2_with fail
    clear h_a2 h_a4 hq_q2 hq_q4
    clear HL HR HO1
    have HA_a4 := hidS (Below.refl a4.heap.size a4)
    go_wp2_with fail
    refine (HMS.out a4).mono ?_
    rintro e5 w5 ⟨A5, c5, rfl, hr5, hb5⟩
    have HW5 := hidS hr5
    clear hr5
    have HL_w5 := hidS hb5
    have HB_w5 := hidS (HB_a4.out.trans (HL_w5.out.mono HB_a4.out.size))
    clear hb5
    have HA_w5 := hidS (HA_a4.out.trans (HL_w5.out.mono HA_a4.out.size))
    have HL_b5 := hidS (bal w5 (.cells #[.int .i64 (K : Int), .int .i64 (K : Int), .slice A5 (K * K) c5] 39))
    have HK_b5 := hidS (mxl_new w5 (K : Int) (K : Int) (.slice A5 (K * K) c5))
    obtain ⟨b5, h_b5⟩ : ∃ W, w5.alloc (.cells #[.int .i64 (K : Int), .int .i64 (K : Int), .slice A5 (K * K) c5] 39) = W := ⟨_, rfl⟩
    obtain ⟨r5, hq_r5⟩ : ∃ q, w5.heap.size = q := ⟨_, rfl⟩
    rw [h_b5] at HL_b5 HK_b5
    rw [hq_r5] at HK_b5
    have HB_b5 := hidS (HB_w5.out.trans (HL_b5.out.mono HB_w5.out.size))
    have HA_b5 := hidS (HA_w5.out.trans (HL_b5.out.mono HA_w5.out.size))
    have hz_q5 : b5.heap.size = (r5 + 1) := by rw [← hq_r5, ← h_b5]; simp
    have he_q5 : (b5.alloc (.cells #[.int .i64 0, .int .i64 0] 29)).heap[(r5 + 1)]? = some (.cells #[.int .i64 0, .int .i64 0] 29 (0, 0)) := by rw [← hz_q5]; exact heap_alloc_new _ _
    have HL_a5 := hidS (bal b5 (.cells #[.int .i64 g1, .int .i64 g2] 29))
    have HK_a5 : Hid (Flt (b5.alloc (.cells #[.int .i64 g1, .int .i64 g2] 29)) (r5 + 1) g1 g2) := by rw [← hz_q5]; exact flt_new b5 g1 g2
    obtain ⟨zz0, zz1, zz2, zz3⟩ := tw_c he_q5
    obtain ⟨a5, h_a5⟩ : ∃ W, b5.alloc (.cells #[.int .i64 g1, .int .i64 g2] 29) = W := ⟨_, rfl⟩
    rw [h_a5] at HL_a5 HK_a5
    have HB_a5 := hidS (HB_b5.out.trans (HL_a5.out.mono HB_b5.out.size))
    clear he_q5
    have HA_a5 := hidS (HA_b5.out.trans (HL_a5.out.mono HA_b5.out.size))
    go_wp2_with fail
    clear h_b5 hq_r5 h_a5 hz_q5 zz0 zz1 zz2 zz3
    refine (HMS.out a5).mono ?_
    rintro e6 w6 ⟨A6, c6, rfl, hr6, hb6⟩
    have HW6 := hidS hr6
    clear hr6
    have HL_w6 := hidS hb6
    have HB_w6 := hidS (HB_a5.out.trans (HL_w6.out.mono HB_a5.out.size))
    clear hb6
    have HA_w6 := hidS (HA_a5.out.trans (HL_w6.out.mono HA_a5.out.size))
    have HL_b6 := hidS (bal w6 (.cells #[.int .i64 (K : Int), .int .i64 (K : Int), .slice A6 (K * K) c6] 39))
    have HK_b6 := hidS (mxl_new w6 (K : Int) (K : Int) (.slice A6 (K * K) c6))
    obtain ⟨b6, h_b6⟩ : ∃ W, w6.alloc (.cells #[.int .i64 (K : Int), .int .i64 (K : Int), .slice A6 (K * K) c6] 39) = W := ⟨_, rfl⟩
    obtain ⟨r6, hq_r6⟩ : ∃ q, w6.heap.size = q := ⟨_, rfl⟩
    rw [h_b6] at HL_b6 HK_b6
    rw [hq_r6] at HK_b6
    have HB_b6 := hidS (HB_w6.out.trans (HL_b6.out.mono HB_w6.out.size))
    have HA_b6 := hidS (HA_w6.out.trans (HL_b6.out.mono HA_w6.out.size))
    have hz_q6 : b6.heap.size = (r6 + 1) := by rw [← hq_r6, ← h_b6]; simp
    have he_q6 : (b6.alloc (.cells #[.int .i64 0, .int .i64 0] 29)).heap[(r6 + 1)]? = some (.cells #[.int .i64 0, .int .i64 0] 29 (0, 0)) := by rw [← hz_q6]; exact heap_alloc_new _ _
    have HL_a6 := hidS (bal b6 (.cells #[.int .i64 g1, .int .i64 g2] 29))
    have HK_a6 : Hid (Flt (b6.alloc (.cells #[.int .i64 g1, .int .i64 g2] 29)) (r6 + 1) g1 g2) := by rw [← hz_q6]; exact flt_new b6 g1 g2
    obtain ⟨zz0, zz1, zz2, zz3⟩ := tw_c he_q6
    obtain ⟨a6, h_a6⟩ : ∃ W, b6.alloc (.cells #[.int .i64 g1, .int .i64 g2] 29) = W := ⟨_, rfl⟩
    rw [h_a6] at HL_a6 HK_a6
    have HB_a6 := hidS (HB_b6.out.trans (HL_a6.out.mono HB_b6.out.size))
    clear he_q6
    have HA_a6 := hidS (HA_b6.out.trans (HL_a6.out.mono HA_b6.out.size))
    go_wp2_with fail
    clear h_b6 hq_r6 h_a6 hz_q6 zz0 zz1 zz2 zz3
    refine (HMN.out a6).mono ?_
    rintro e7 w7 ⟨v7, rfl, ho7, hb7⟩
    obtain ⟨A7, d7, rfl⟩ := drow_slice ho7
    have HO7 := hidS ho7
    clear ho7
    have HL_w7 := hidS hb7
    have HB_w7 := hidS (HB_a6.out.trans (HL_w7.out.mono HB_a6.out.size))
    clear hb7
    have HA_w7 := hidS (HA_a6.out.trans (HL_w7.out.mono HA_a6.out.size))
    go_wp2_with fail
    refine (HMN.out w7).mono ?_
    rintro e8 w8 ⟨v8, rfl, ho8, hb8⟩
    obtain ⟨A8, d8, rfl⟩ := drow_slice ho8
    have HO8 := hidS ho8
    clear ho8
    have HL_w8 := hidS hb8
    have HB_w8 := hidS (HB_w7.out.trans (HL_w8.out.mono HB_w7.out.size))
    clear hb8
    have HA_w8 := hidS (HA_w7.out.trans (HL_w8.out.mono HA_w7.out.size))
    go_wp2_with fail
    refine (HDM.out w8).mono ?_
    rintro e9 w9 ⟨A9, c9, rfl, hr9, hb9⟩
    have HW9 := hidS hr9
    clear hr9
    have HL_w9 := hidS hb9
    have HB_w9 := hidS (HB_w8.out.trans (HL_w9.out.mono HB_w8.out.size))
    clear hb9
    have HA_w9 := hidS (HA_w8.out.trans (HL_w9.out.mono HA_w8.out.size))
    have HL_b9 := hidS (bal w9 (.cells #[.int .i64 (K : Int), .int .i64 (K : Int), .slice A9 (K * K) c9] 39))
    have HK_b9 := hidS (mxl_new w9 (K : Int) (K : Int) (.slice A9 (K * K) c9))
    obtain ⟨b9, h_b9⟩ : ∃ W, w9.alloc (.cells #[.int .i64 (K : Int), .int .i64 (K : Int), .slice A9 (K * K) c9] 39) = W := ⟨_, rfl⟩
    obtain ⟨r9, hq_r9⟩ : ∃ q, w9.heap.size = q := ⟨_, rfl⟩
    rw [h_b9] at HL_b9 HK_b9
    rw [hq_r9] at HK_b9
    have HB_b9 := hidS (HB_w9.out.trans (HL_b9.out.mono HB_w9.out.size))
    have HA_b9 := hidS (HA_w9.out.trans (HL_b9.out.mono HA_w9.out.size))
    have hz_q9 : b9.heap.size = (r9 + 1) := by rw [← hq_r9, ← h_b9]; simp
    have he_q9 : (b9.alloc (.cells #[.int .i64 0, .int .i64 0] 29)).heap[(r9 + 1)]? = some (.cells #[.int .i64 0, .int .i64 0] 29 (0, 0)) := by rw [← hz_q9]; exact heap_alloc_new _ _
    have HL_a9 := hidS (bal b9 (.cells #[.int .i64 g1, .int .i64 g2] 29))
    have HK_a9 : Hid (Flt (b9.alloc (.cells #[.int .i64 g1, .int .i64 g2] 29)) (r9 + 1) g1 g2) := by rw [← hz_q9]; exact flt_new b9 g1 g2
    obtain ⟨zz0, zz1, zz2, zz3⟩ := tw_c he_q9
    obtain ⟨a9, h_a9⟩ : ∃ W, b9.alloc (.cells #[.int .i64 g1, .int .i64 g2] 29) = W := ⟨_, rfl⟩
    rw [h_a9] at HL_a9 HK_a9
    have HB_a9 := hidS (HB_b9.out.trans (HL_a9.out.mono HB_b9.out.size))
    clear he_q9
    have HA_a9 := hidS (HA_b9.out.trans (HL_a9.out.mono HA_b9.out.size))
    obtain ⟨x5, y5, u5, v5z⟩ := tw_c (show a9.heap[r5 + 1]? = some _ from ((((((((HK_a5.out.on HL_w6.out).on HL_b6.out).on HL_a6.out).on HL_w7.out).on HL_w8.out).on HL_w9.out).on HL_b9.out).on HL_a9.out))
    obtain ⟨m5, n5, l5, -, -, -⟩ := th_c (show a9.heap[r5]? = some _ from (((((((((HK_b5.out.on HL_a5.out).on HL_w6.out).on HL_b6.out).on HL_a6.out).on HL_w7.out).on HL_w8.out).on HL_w9.out).on HL_b9.out).on HL_a9.out))
    obtain ⟨x6, y6, u6, v6z⟩ := tw_c (show a9.heap[r6 + 1]? = some _ from (((((HK_a6.out.on HL_w7.out).on HL_w8.out).on HL_w9.out).on HL_b9.out).on HL_a9.out))
    obtain ⟨m6, n6, l6, -, -, -⟩ := th_c (show a9.heap[r6]? = some _ from ((((((HK_b6.out.on HL_a6.out).on HL_w7.out).on HL_w8.out).on HL_w9.out).on HL_b9.out).on HL_a9.out))
    obtain ⟨x9, y9, u9, v9z⟩ := tw_c (show a9.heap[r9 + 1]? = some _ from HK_a9.out)
    obtain ⟨m9, n9, l9, -, -, -⟩ := th_c (show a9.heap[r9]? = some _ from (HK_b9.out.on HL_a9.out))
    have HX5 := hidS ((((((((((HW5.out.on HL_b5.out).on HL_a5.out).on HL_w6.out).on HL_b6.out).on HL_a6.out).on HL_w7.out).on HL_w8.out).on HL_w9.out).on HL_b9.out).on HL_a9.out)
    have HX6 := hidS (((((((HW6.out.on HL_b6.out).on HL_a6.out).on HL_w7.out).on HL_w8.out).on HL_w9.out).on HL_b9.out).on HL_a9.out)
    have HX9 := hidS ((HW9.out.on HL_b9.out).on HL_a9.out)
    have HQ7 := hidS (own_below (own_below (own_below (own_below HO7.out HL_w8.out) HL_w9.out) HL_b9.out) HL_a9.out)
    have HQ8 := hidS (own_below (own_below (own_below HO8.out HL_w9.out) HL_b9.out) HL_a9.out)
    go_wp2_with fail
    clear x5 y5 u5 v5z x6 y6 u6 v6z x9 y9 u9 v9z m5 n5 l5 m6 n6 l6 m9 n9 l9 h_b9 hq_r9 h_a9 hz_q9 zz0 zz1 zz2 zz3
    refine (mx_same HX5.out HX9.out HKL.out.1).mono ?_
    rintro es0 s0 ⟨rfl, hbs0⟩
    have HL_s0 := hidS hbs0
    have HB_s0 := hidS (HB_a9.out.trans (HL_s0.out.mono HB_a9.out.size))
    clear hbs0
    have HA_s0 := hidS (HA_a9.out.trans (HL_s0.out.mono HA_a9.out.size))
    have HX5 := hidS (HX5.out.on HL_s0.out)
    have HX6 := hidS (HX6.out.on HL_s0.out)
    have HX9 := hidS (HX9.out.on HL_s0.out)
    have HQ7 := hidS (own_below HQ7.out HL_s0.out)
    have HQ8 := hidS (own_below HQ8.out HL_s0.out)
    obtain ⟨m6, n6, l6, -, -, -⟩ := th_c (show s0.heap[r6]? = some _ from (((((((HK_b6.out.on HL_a6.out).on HL_w7.out).on HL_w8.out).on HL_w9.out).on HL_b9.out).on HL_a9.out).on HL_s0.out))
    obtain ⟨m9, n9, l9, -, -, -⟩ := th_c (show s0.heap[r9]? = some _ from ((HK_b9.out.on HL_a9.out).on HL_s0.out))
    go_wp2_with fail
    clear m6 n6 l6 m9 n9 l9
    refine (mx_same HX6.out HX9.out HKL.out.1).mono ?_
    rintro es1 s1 ⟨rfl, hbs1⟩
    have HL_s1 := hidS hbs1
    have HB_s1 := hidS (HB_s0.out.trans (HL_s1.out.mono HB_s0.out.size))
    clear hbs1
    have HA_s1 := hidS (HA_s0.out.trans (HL_s1.out.mono HA_s0.out.size))
    have HX5 := hidS (HX5.out.on HL_s1.out)
    have HX6 := hidS (HX6.out.on HL_s1.out)
    have HX9 := hidS (HX9.out.on HL_s1.out)
    have HQ7 := hidS (own_below HQ7.out HL_s1.out)
    have HQ8 := hidS (own_below HQ8.out HL_s1.out)
    go_wp2_with fail
    refine (HDN.out s1).mono ?_
    rintro e10 s2 ⟨v10, rfl, ho10, hbs2⟩
    have HQ10 := hidS ho10
    clear ho10
    have HL_s2 := hidS hbs2
    have HB_s2 := hidS (HB_s1.out.trans (HL_s2.out.mono HB_s1.out.size))
    clear hbs2
    have HA_s2 := hidS (HA_s1.out.trans (HL_s2.out.mono HA_s1.out.size))
    have HX5 := hidS (HX5.out.on HL_s2.out)
    have HX6 := hidS (HX6.out.on HL_s2.out)
    have HX9 := hidS (HX9.out.on HL_s2.out)
    have HQ7 := hidS (own_below HQ7.out HL_s2.out)
    have HQ8 := hidS (own_below HQ8.out HL_s2.out)
    go_wp2_with fail
    refine (sameS_any s2 _ _ _ v10 L L HQ7.out HQ10.out (by have := HKL.out.2; omega) (by have := HKL.out.2; omega)).mono ?_
    rintro e11 s3 ⟨rfl, hbs3⟩
    rw [decide_eq_true (rfl : L = L)]
    have HL_s3 := hidS hbs3
    have HB_s3 := hidS (HB_s2.out.trans (HL_s3.out.mono HB_s2.out.size))
    clear hbs3
    have HA_s3 := hidS (HA_s2.out.trans (HL_s3.out.mono HA_s2.out.size))
    have HX5 := hidS (HX5.out.on HL_s3.out)
    have HX6 := hidS (HX6.out.on HL_s3.out)
    have HX9 := hidS (HX9.out.on HL_s3.out)
    have HQ7 := hidS (own_below HQ7.out HL_s3.out)
    have HQ8 := hidS (own_below HQ8.out HL_s3.out)
    go_wp2_with fail
    refine (sameS_any s3 _ _ _ _ L L HQ8.out HQ7.out (by have := HKL.out.2; omega) (by have := HKL.out.2; omega)).mono ?_
    rintro e12 s4 ⟨rfl, hbs4⟩
    rw [decide_eq_true (rfl : L = L)]
    have HL_s4 := hidS hbs4
    have HB_s4 := hidS (HB_s3.out.trans (HL_s4.out.mono HB_s3.out.size))
    clear hbs4
    have HA_s4 := hidS (HA_s3.out.trans (HL_s4.out.mono HA_s3.out.size))
    have HX5 := hidS (HX5.out.on HL_s4.out)
    have HX6 := hidS (HX6.out.on HL_s4.out)
    have HX9 := hidS (HX9.out.on HL_s4.out)
    have HQ7 := hidS (own_below HQ7.out HL_s4.out)
    have HQ8 := hidS (own_below HQ8.out HL_s4.out)
    obtain ⟨m5, n5, l5, -, -, -⟩ := th_c (show s4.heap[r5]? = some _ from ((((((((((((((HK_b5.out.on HL_a5.out).on HL_w6.out).on HL_b6.out).on HL_a6.out).on HL_w7.out).on HL_w8.out).on HL_w9.out).on HL_b9.out).on HL_a9.out).on HL_s0.out).on HL_s1.out).on HL_s2.out).on HL_s3.out).on HL_s4.out))
    obtain ⟨m6, n6, l6, -, -, -⟩ := th_c (show s4.heap[r6]? = some _ from (((((((((((HK_b6.out.on HL_a6.out).on HL_w7.out).on HL_w8.out).on HL_w9.out).on HL_b9.out).on HL_a9.out).on HL_s0.out).on HL_s1.out).on HL_s2.out).on HL_s3.out).on HL_s4.out))
    go_wp2_with fail
    clear m5 n5 l5 m6 n6 l6
    have G5 : Hid (∀ g, (Value.slice A5 (K * K) c5).ownBlock = some g → w.heap.size ≤ g ∧ g < w5.heap.size) := fun g hg => by obtain ⟨xs5, k1, _⟩ := HW5.out; have e := k1.own.lt g hg; have := HB_a4.out.size; exact ⟨by omega, e.2⟩
    have G6 : Hid (∀ g, (Value.slice A6 (K * K) c6).ownBlock = some g → a5.heap.size ≤ g ∧ g < w6.heap.size) := fun g hg => by obtain ⟨xs6, k1, _⟩ := HW6.out; exact k1.own.lt g hg
    have G7 : Hid (∀ g, (Value.slice A7 L.length d7).ownBlock = some g → a6.heap.size ≤ g ∧ g < w7.heap.size) := fun g hg => HO7.out.lt g hg
    have G8 : Hid (∀ g, (Value.slice A8 L.length d8).ownBlock = some g → w7.heap.size ≤ g ∧ g < w8.heap.size) := fun g hg => HO8.out.lt g hg
    have HSZ : Hid (w5.heap.size ≤ a5.heap.size ∧ w6.heap.size ≤ a6.heap.size ∧ a5.heap.size ≤ a6.heap.size ∧ w7.heap.size ≤ w8.heap.size ∧ w8.heap.size ≤ s4.heap.size ∧ w.heap.size ≤ a5.heap.size) := by
      have k1 := HL_b5.out.size
      have k2 := HL_a5.out.size
      have k3 := HL_w6.out.size
      have k4 := HL_b6.out.size
      have k5 := HL_a6.out.size
      have k6 := HL_w7.out.size
      have k7 := HL_w8.out.size
      have k8 := HB_a5.out.size
      have k9 := HL_w9.out.size
      have k10 := HL_b9.out.size
      have k11 := HL_a9.out.size
      have k12 := HL_s0.out.size
      have k13 := HL_s1.out.size
      have k14 := HL_s2.out.size
      have k15 := HL_s3.out.size
      have k16 := HL_s4.out.size
      exact ⟨by omega, by omega, by omega, by omega, by omega, by omega⟩
    have HAP := hidS (apart2k (t := 37) (b0 := w.heap.size) (LB := s4.heap.size) rfl (HX5.out.lower HB_a4.out.size) (HX6.out.lower HB_a5.out.size) (by have := Nat.mul_le_mul HKL.out.1 HKL.out.1; omega) (by have := Nat.mul_le_mul HKL.out.1 HKL.out.1; omega) (fun g h1 h2 => by have e1 := G5.out g h1; have e2 := G6.out g h2; have := HSZ.out; omega) HB_s4.out.size)
    refine HAP.out.mono ?_
    rintro e13 t1 ⟨rfl, hk13⟩
    have HK13 := hidS hk13
    clear hk13
    have HT1 : Hid (Below w.heap.size w t1) := by
      have q := HB_s4.out.alloc HB_s4.out.size (.cells #[.slice A5 (K * K) c5, .slice A6 (K * K) c6] 37)
      exact q.trans ⟨HK13.out.os, HK13.out.tape, HK13.out.output, HK13.out.size, fun k hk => HK13.out.block k ⟨by have := HB_s4.out.size; omega, fun e => by have := (G5.out k e).1; omega, fun e => by have := (G6.out k e).1; have := HSZ.out; omega⟩⟩
    have HS1 : Hid (w.heap.size ≤ t1.heap.size) := HT1.out.size
    have HR7 : Hid (t1.ownsRow w.heap.size 9 1 (.slice A7 L.length d7) L.length (L.map sv)) := own_base (row_block (HQ7.out.alloc _) (fun g hg => HK13.out.block g ⟨by have := G7.out g hg; have := HSZ.out; omega, fun e => by have := G5.out g e; have := G7.out g hg; have := HSZ.out; omega, fun e => by have := G6.out g e; have := G7.out g hg; have := HSZ.out; omega⟩)) (by have := HB_a6.out.size; omega)
    have HR8 : Hid (t1.ownsRow w.heap.size 9 1 (.slice A8 L.length d8) L.length (L.map sv)) := own_base (row_block (HQ8.out.alloc _) (fun g hg => HK13.out.block g ⟨by have := G8.out g hg; have := HSZ.out; omega, fun e => by have := G5.out g e; have := G8.out g hg; have := HSZ.out; have := HL_w7.out.size; omega, fun e => by have := G6.out g e; have := G8.out g hg; have := HSZ.out; have := HL_w7.out.size; omega⟩)) (by have := HB_w7.out.size; omega)
    go_wp2_with fail
    refine (apart2t (t := 42) (b0 := w.heap.size) (LB := t1.heap.size) rfl HR7.out HR8.out (by have := HKL.out.2; omega) (by have := HKL.out.2; omega) (fun g h1 h2 => by have := G7.out g h1; have := G8.out g h2; omega) HS1.out).mono ?_
    rintro e14 t2 ⟨rfl, hb14⟩
    have HZ := hidS ((HT1.out.alloc HT1.out.size _).trans hb14)
    clear hb14
    go_wp2_with fail
    go_ret
    exact ⟨rfl, HZ.out⟩
end Go.Proofs.Ytmhplaanpbpndaa
