/-
  SourceRights' walk.
-/
import Derived.Test.YtpjpamdocfdibaaSrx
import Derived.Test.YtpjpamdocfdibaaBsd
namespace Go.Proofs.Ytpjpamdocfdibaa
open Fl Go.Maps RowKit Joins Deep
set_option linter.unusedVariables false
set_option maxRecDepth 20000

/-- a fault that lies in memory -/
def Flt (w : World) (q : Nat) (a b : Int) : Prop := w.heap[q]? = some (.cells #[.int .i64 a, .int .i64 b] 29 (0, 0))
theorem Flt.on {w w' : World} {q : Nat} {a b : Int} (h : Flt w q a b) (hb : Below w.heap.size w w') : Flt w' q a b := by
  unfold Flt at *
  rw [hb.block q (Array.getElem?_eq_some_iff.1 h).1]; exact h
theorem flt_new (w : World) (a b : Int) : Flt (w.alloc (.cells #[.int .i64 a, .int .i64 b] 29)) w.heap.size a b := heap_alloc_new w _
theorem re_on {w w' : World} {A : Option Addr} {xs : List Elm} (h : Re w A xs) (hb : Below w.heap.size w w') : Re w' A xs := fun k x hk => by
  obtain ⟨b, off, h1, h2, h3⟩ := h k x hk
  exact ⟨b, off, h1, Nat.lt_of_lt_of_le h2 hb.size, fun i v hi => (hb.cell (p := ⟨b, off + k * 8 + i, none⟩) h2).trans (h3 i v hi)⟩
theorem of_yes3 {w w' : World} {l : List Elm} {e : Ending} (h : (ofA l).1 = (0, 0)) (hp : OfP w l e w') : Below w.heap.size w w' ∧ ∃ p b0 b, e = .returned (.tuple #[.pointer (some ⟨p, 0, none⟩), .agg #[.int .i64 0, .int .i64 0]]) ∧ Nt w' b0 p (ofA l).2 b := by
  obtain ⟨hb, ⟨_, b0, p, b, he, hN, _⟩ | ⟨hne, _⟩⟩ := hp
  · exact ⟨hb, p, b0, b, he, hN⟩
  · rw [h] at hne; exact absurd rfl hne
theorem of_no3 {w w' : World} {l : List Elm} {e : Ending} (h : (ofA l).1 ≠ (0, 0)) (hp : OfP w l e w') : Below w.heap.size w w' ∧ e = .returned (.tuple #[.pointer none, .agg #[.int .i64 (ofA l).1.1, .int .i64 (ofA l).1.2]]) := by
  obtain ⟨hb, ⟨h1, _⟩ | ⟨_, he⟩⟩ := hp
  · exact absurd h1 h
  · exact ⟨hb, he⟩
theorem dof_yes3 {w w' : World} {l : List Elm} {e : Ending} (h : (ofA l).1 = (0, 0)) (hp : DofP w l e w') : Below w.heap.size w w' ∧ ∃ p, e = .returned (.tuple #[.pointer (some ⟨p, 0, none⟩), .agg #[.int .i64 0, .int .i64 0]]) ∧ Dn w' p l := by
  obtain ⟨hb, ⟨_, p, he, hN⟩ | ⟨hne, _⟩⟩ := hp
  · exact ⟨hb, p, he, hN⟩
  · rw [h] at hne; exact absurd rfl hne
theorem dof_no3 {w w' : World} {l : List Elm} {e : Ending} (h : (ofA l).1 ≠ (0, 0)) (hp : DofP w l e w') : Below w.heap.size w w' ∧ e = .returned (.tuple #[.pointer none, .agg #[.int .i64 (ofA l).1.1, .int .i64 (ofA l).1.2]]) := by
  obtain ⟨hb, ⟨h1, _⟩ | ⟨_, he⟩⟩ := hp
  · exact absurd h1 h
  · exact ⟨hb, he⟩
set_option maxHeartbeats 16000000 in
theorem srights_walk (w : World) (A : Option Addr) (c n : Nat) (xs : List Elm) (hl : xs.length = n) (hsz : n * 104 ≤ 140737488351232) (hR : Re w A xs) (hok : ∀ x ∈ xs, x.ok) (hbd : ∀ x ∈ xs, x.bd) (s : ByteArray) (hs : s.size ≤ 140737488351232) : Calls Try.prog 5 #[.slice A n c, .string s] w fun e w' => e = .returned (.bool true) ∧ Below w.heap.size w w' := by
  by_cases hbig : 300 < n
  · have hbi : (300 : Int) < (n : Int) := by omega
    go_enter Try.func5, Try.ntmps5
    go_wp2_with fail
    go_ret
    exact ⟨rfl, Below.refl _ _⟩
  have hbi : ¬ (300 : Int) < (n : Int) := by omega
  have hn3 : n ≤ 300 := by omega
  have HR := hidS hR
  have HL := hidS (And.intro hl (And.intro hok (And.intro (fun x hx => (⟨(hbd x hx).plo, (hbd x hx).phi⟩ : Elm.phb x)) hs)))
  clear hR hl hok hsz hbd hs hbig
  have HB_w := hidS (Below.refl w.heap.size w)
  by_cases hof : (ofA xs).1 = (0, 0)
  · skip
    have HOF := hidS hof
    have HM := hidS (Md.of hof HL.out.2.1 HL.out.2.2.1)
    have HES := hidS (ofA_facts (show ofA xs = ((0, 0), (ofA xs).2) by rw [← hof])).2.1
    obtain ⟨N, hN⟩ : ∃ N, (ofA xs).2 = N := ⟨_, rfl⟩
    rw [hN] at HM HES
    have HNN := hidS hN
    obtain ⟨g1, hg1⟩ : ∃ g1, (rgF N).1 = g1 := ⟨_, rfl⟩
    obtain ⟨g2, hg2⟩ : ∃ g2, (rgF N).2 = g2 := ⟨_, rfl⟩
    obtain ⟨K, hK⟩ : ∃ K, rgK N = K := ⟨_, rfl⟩
    obtain ⟨d1, hd1⟩ : ∃ d1, (drF N s).1 = d1 := ⟨_, rfl⟩
    obtain ⟨d2, hd2⟩ : ∃ d2, (drF N s).2 = d2 := ⟨_, rfl⟩
    obtain ⟨KD, hKD⟩ : ∃ KD, drK N s = KD := ⟨_, rfl⟩
    have HKL : Hid (K ≤ 64 ∧ KD ≤ 64) := ⟨by rw [← hK]; exact rgK_le HM.out, by rw [← hKD]; exact drK_le HM.out s⟩
    have HEQ := hidS (And.intro hg1 (And.intro hg2 (And.intro hK (And.intro hd1 (And.intro hd2 hKD)))))
    clear hof hN hg1 hg2 hK hd1 hd2 hKD
    go_enter Try.func5, Try.ntmps5
    go_wp2_with fail
    refine (elementsOf_any w A c n xs HL.out.1 (by omega) HR.out).mono ?_
    rintro e1 w1 ⟨v1, rfl, ho1, hb1⟩
    have HO1 := hidS ho1
    clear ho1
    have HL_w1 := hidS hb1
    have HB_w1 := hidS (HB_w.out.trans (HL_w1.out.mono HB_w.out.size))
    clear hb1
    go_wp2_with fail
    refine (netOf_any _ v1 xs (rdE_row2 (by have := HO1.out; rwa [HL.out.1]) (by rw [HL.out.1]; omega)) HL.out.2.1).mono ?_
    rintro e2 w2 hp2
    obtain ⟨hb2, p, b0, b, rfl, hN2⟩ := of_yes3 HOF.out hp2
    rw [HNN.out] at hN2
    have HN2 := hidS hN2
    clear hN2 hp2
    have HL_w2 := hidS hb2
    have HB_w2 := hidS (HB_w1.out.trans (HL_w2.out.mono HB_w1.out.size))
    clear hb2
    go_wp2_with fail
    have HL_a2 := hidS (bal w2 (.cells #[.int .i64 0, .int .i64 0] 29))
    have HK_a2 : Hid (Flt (w2.alloc (.cells #[.int .i64 0, .int .i64 0] 29)) w2.heap.size 0 0) := flt_new w2 0 0
    obtain ⟨a2, h_a2⟩ : ∃ W, w2.alloc (.cells #[.int .i64 0, .int .i64 0] 29) = W := ⟨_, rfl⟩
    obtain ⟨q2, hq_q2⟩ : ∃ q, w2.heap.size = q := ⟨_, rfl⟩
    rw [h_a2] at HL_a2 HK_a2
    rw [hq_q2] at HK_a2
    have HB_a2 := hidS (HB_w2.out.trans (HL_a2.out.mono HB_w2.out.size))
    rw [h_a2, hq_q2]
    refine (elementsOf_any a2 A c n xs HL.out.1 (by omega) (re_on HR.out HB_a2.out)).mono ?_
    rintro e3 w3 ⟨v3, rfl, ho3, hb3⟩
    have HO3 := hidS ho3
    clear ho3
    have HL_w3 := hidS hb3
    have HB_w3 := hidS (HB_a2.out.trans (HL_w3.out.mono HB_a2.out.size))
    clear hb3
    go_wp2_with fail
    refine (dof_any _ _ v3 xs n HL.out.1 (by omega) HO3.out HL.out.2.1).mono ?_
    rintro e4 w4 hp4
    obtain ⟨hb4, p4, rfl, hD4⟩ := dof_yes3 HOF.out hp4
    rw [← HES.out] at hD4
    have HD4 := hidS hD4
    clear hD4 hp4
    have HL_w4 := hidS hb4
    have HB_w4 := hidS (HB_w3.out.trans (HL_w4.out.mono HB_w3.out.size))
    clear hb4
    obtain ⟨x2, y2, u2, v2⟩ := tw_c (((HK_a2.out.on HL_w3.out).on HL_w4.out).on (bal w4 (.cells #[.int .i64 0, .int .i64 0] 29)))
    obtain ⟨x4, y4, u4, v4⟩ := tw_c (flt_new w4 0 0)
    go_wp2_with fail
    clear x2 y2 u2 v2 x4 y4 u4 v4
    have HL_a4 := hidS (bal w4 (.cells #[.int .i64 0, .int .i64 0] 29))
    have HK_a4 : Hid (Flt (w4.alloc (.cells #[.int .i64 0, .int .i64 0] 29)) w4.heap.size 0 0) := flt_new w4 0 0
    obtain ⟨a4, h_a4⟩ : ∃ W, w4.alloc (.cells #[.int .i64 0, .int .i64 0] 29) = W := ⟨_, rfl⟩
    obtain ⟨q4, hq_q4⟩ : ∃ q, w4.heap.size = q := ⟨_, rfl⟩
    rw [h_a4] at HL_a4 HK_a4
    rw [hq_q4] at HK_a4
    have HB_a4 := hidS (HB_w4.out.trans (HL_a4.out.mono HB_w4.out.size))
    rw [h_a4, hq_q4]
    clear h_a2 h_a4 hq_q2 hq_q4
    refine (sright_res ((((HN2.out.below HL_a2.out).below HL_w3.out).below HL_w4.out).below HL_a4.out) HM.out).mono ?_
    rintro e5 w5 ⟨A5, c5, rfl, hr5, hb5⟩
    rw [HEQ.out.2.2.1] at hr5
    rw [HEQ.out.1, HEQ.out.2.1, HEQ.out.2.2.1]
    have HW5 := hidS hr5
    clear hr5
    have HL_w5 := hidS hb5
    have HB_w5 := hidS (HB_a4.out.trans (HL_w5.out.mono HB_a4.out.size))
    clear hb5
    have HL_a5 := hidS (bal w5 (.cells #[.int .i64 g1, .int .i64 g2] 29))
    have HK_a5 : Hid (Flt (w5.alloc (.cells #[.int .i64 g1, .int .i64 g2] 29)) w5.heap.size g1 g2) := flt_new w5 g1 g2
    obtain ⟨a5, h_a5⟩ : ∃ W, w5.alloc (.cells #[.int .i64 g1, .int .i64 g2] 29) = W := ⟨_, rfl⟩
    obtain ⟨q5, hq_q5⟩ : ∃ q, w5.heap.size = q := ⟨_, rfl⟩
    rw [h_a5] at HL_a5 HK_a5
    rw [hq_q5] at HK_a5
    have HB_a5 := hidS (HB_w5.out.trans (HL_a5.out.mono HB_w5.out.size))
    go_wp2_with fail
    clear h_a5 hq_q5
    refine (sright_res ((((((HN2.out.below HL_a2.out).below HL_w3.out).below HL_w4.out).below HL_a4.out).below HL_w5.out).below HL_a5.out) HM.out).mono ?_
    rintro e6 w6 ⟨A6, c6, rfl, hr6, hb6⟩
    rw [HEQ.out.2.2.1] at hr6
    rw [HEQ.out.1, HEQ.out.2.1, HEQ.out.2.2.1]
    have HW6 := hidS hr6
    clear hr6
    have HL_w6 := hidS hb6
    have HB_w6 := hidS (HB_a5.out.trans (HL_w6.out.mono HB_a5.out.size))
    clear hb6
    have HL_a6 := hidS (bal w6 (.cells #[.int .i64 g1, .int .i64 g2] 29))
    have HK_a6 : Hid (Flt (w6.alloc (.cells #[.int .i64 g1, .int .i64 g2] 29)) w6.heap.size g1 g2) := flt_new w6 g1 g2
    obtain ⟨a6, h_a6⟩ : ∃ W, w6.alloc (.cells #[.int .i64 g1, .int .i64 g2] 29) = W := ⟨_, rfl⟩
    obtain ⟨q6, hq_q6⟩ : ∃ q, w6.heap.size = q := ⟨_, rfl⟩
    rw [h_a6] at HL_a6 HK_a6
    rw [hq_q6] at HK_a6
    have HB_a6 := hidS (HB_w6.out.trans (HL_a6.out.mono HB_w6.out.size))
    go_wp2_with fail
    clear h_a6 hq_q6
    refine (dright_res (((((HD4.out.below HL_a4.out).below HL_w5.out).below HL_a5.out).below HL_w6.out).below HL_a6.out) HM.out).mono ?_
    rintro e7 w7 ⟨A7, c7, rfl, hr7, hb7⟩
    rw [HEQ.out.2.2.1] at hr7
    rw [HEQ.out.1, HEQ.out.2.1, HEQ.out.2.2.1]
    have HW7 := hidS hr7
    clear hr7
    have HL_w7 := hidS hb7
    have HB_w7 := hidS (HB_a6.out.trans (HL_w7.out.mono HB_a6.out.size))
    clear hb7
    have HL_a7 := hidS (bal w7 (.cells #[.int .i64 g1, .int .i64 g2] 29))
    have HK_a7 : Hid (Flt (w7.alloc (.cells #[.int .i64 g1, .int .i64 g2] 29)) w7.heap.size g1 g2) := flt_new w7 g1 g2
    obtain ⟨a7, h_a7⟩ : ∃ W, w7.alloc (.cells #[.int .i64 g1, .int .i64 g2] 29) = W := ⟨_, rfl⟩
    obtain ⟨q7, hq_q7⟩ : ∃ q, w7.heap.size = q := ⟨_, rfl⟩
    rw [h_a7] at HL_a7 HK_a7
    rw [hq_q7] at HK_a7
    have HB_a7 := hidS (HB_w7.out.trans (HL_a7.out.mono HB_w7.out.size))
    go_wp2_with fail
    clear h_a7 hq_q7
    refine (sdriven_res ((((((((((HN2.out.below HL_a2.out).below HL_w3.out).below HL_w4.out).below HL_a4.out).below HL_w5.out).below HL_a5.out).below HL_w6.out).below HL_a6.out).below HL_w7.out).below HL_a7.out) HM.out s HL.out.2.2.2).mono ?_
    rintro e8 w8 ⟨A8, c8, rfl, hr8, hb8⟩
    rw [HEQ.out.2.2.2.2.2] at hr8
    rw [HEQ.out.2.2.2.1, HEQ.out.2.2.2.2.1, HEQ.out.2.2.2.2.2]
    have HW8 := hidS hr8
    clear hr8
    have HL_w8 := hidS hb8
    have HB_w8 := hidS (HB_a7.out.trans (HL_w8.out.mono HB_a7.out.size))
    clear hb8
    have HL_a8 := hidS (bal w8 (.cells #[.int .i64 d1, .int .i64 d2] 29))
    have HK_a8 : Hid (Flt (w8.alloc (.cells #[.int .i64 d1, .int .i64 d2] 29)) w8.heap.size d1 d2) := flt_new w8 d1 d2
    obtain ⟨a8, h_a8⟩ : ∃ W, w8.alloc (.cells #[.int .i64 d1, .int .i64 d2] 29) = W := ⟨_, rfl⟩
    obtain ⟨q8, hq_q8⟩ : ∃ q, w8.heap.size = q := ⟨_, rfl⟩
    rw [h_a8] at HL_a8 HK_a8
    rw [hq_q8] at HK_a8
    have HB_a8 := hidS (HB_w8.out.trans (HL_a8.out.mono HB_w8.out.size))
    go_wp2_with fail
    clear h_a8 hq_q8
    refine (ddriven_res (((((((((HD4.out.below HL_a4.out).below HL_w5.out).below HL_a5.out).below HL_w6.out).below HL_a6.out).below HL_w7.out).below HL_a7.out).below HL_w8.out).below HL_a8.out) HM.out s).mono ?_
    rintro e9 w9 ⟨A9, c9, rfl, hr9, hb9⟩
    rw [HEQ.out.2.2.2.2.2] at hr9
    rw [HEQ.out.2.2.2.1, HEQ.out.2.2.2.2.1, HEQ.out.2.2.2.2.2]
    have HW9 := hidS hr9
    clear hr9
    have HL_w9 := hidS hb9
    have HB_w9 := hidS (HB_a8.out.trans (HL_w9.out.mono HB_a8.out.size))
    clear hb9
    have HL_a9 := hidS (bal w9 (.cells #[.int .i64 d1, .int .i64 d2] 29))
    have HK_a9 : Hid (Flt (w9.alloc (.cells #[.int .i64 d1, .int .i64 d2] 29)) w9.heap.size d1 d2) := flt_new w9 d1 d2
    obtain ⟨a9, h_a9⟩ : ∃ W, w9.alloc (.cells #[.int .i64 d1, .int .i64 d2] 29) = W := ⟨_, rfl⟩
    obtain ⟨q9, hq_q9⟩ : ∃ q, w9.heap.size = q := ⟨_, rfl⟩
    rw [h_a9] at HL_a9 HK_a9
    rw [hq_q9] at HK_a9
    have HB_a9 := hidS (HB_w9.out.trans (HL_a9.out.mono HB_w9.out.size))
    obtain ⟨x5, y5, u5, v5⟩ := tw_c ((((((((HK_a5.out.on HL_w6.out).on HL_a6.out).on HL_w7.out).on HL_a7.out).on HL_w8.out).on HL_a8.out).on HL_w9.out).on HL_a9.out)
    obtain ⟨x6, y6, u6, v6⟩ := tw_c ((((((HK_a6.out.on HL_w7.out).on HL_a7.out).on HL_w8.out).on HL_a8.out).on HL_w9.out).on HL_a9.out)
    obtain ⟨x7, y7, u7, v7⟩ := tw_c ((((HK_a7.out.on HL_w8.out).on HL_a8.out).on HL_w9.out).on HL_a9.out)
    obtain ⟨x8, y8, u8, v8⟩ := tw_c ((HK_a8.out.on HL_w9.out).on HL_a9.out)
    obtain ⟨x9, y9, u9, v9⟩ := tw_c HK_a9.out
    have HX5 := hidS (((((((((HW5.out.on HL_a5.out).on HL_w6.out).on HL_a6.out).on HL_w7.out).on HL_a7.out).on HL_w8.out).on HL_a8.out).on HL_w9.out).on HL_a9.out)
    have HX6 := hidS (((((((HW6.out.on HL_a6.out).on HL_w7.out).on HL_a7.out).on HL_w8.out).on HL_a8.out).on HL_w9.out).on HL_a9.out)
    have HX7 := hidS (((((HW7.out.on HL_a7.out).on HL_w8.out).on HL_a8.out).on HL_w9.out).on HL_a9.out)
    have HX8 := hidS (((HW8.out.on HL_a8.out).on HL_w9.out).on HL_a9.out)
    have HX9 := hidS (HW9.out.on HL_a9.out)
    go_wp2_with fail
    clear x5 y5 u5 v5 x6 y6 u6 v6 x7 y7 u7 v7 x8 y8 u8 v8 x9 y9 u9 v9 h_a9 hq_q9
    refine (nr_same HX5.out HX7.out HKL.out.1).mono ?_
    rintro es0 s0 ⟨rfl, hbs0⟩
    have HL_s0 := hidS hbs0
    have HB_s0 := hidS (HB_a9.out.trans (HL_s0.out.mono HB_a9.out.size))
    clear hbs0
    have HX5 := hidS (HX5.out.on HL_s0.out)
    have HX6 := hidS (HX6.out.on HL_s0.out)
    have HX7 := hidS (HX7.out.on HL_s0.out)
    have HX8 := hidS (HX8.out.on HL_s0.out)
    have HX9 := hidS (HX9.out.on HL_s0.out)
    go_wp2_with fail
    refine (nr_same HX6.out HX7.out HKL.out.1).mono ?_
    rintro es1 s1 ⟨rfl, hbs1⟩
    have HL_s1 := hidS hbs1
    have HB_s1 := hidS (HB_s0.out.trans (HL_s1.out.mono HB_s0.out.size))
    clear hbs1
    have HX5 := hidS (HX5.out.on HL_s1.out)
    have HX6 := hidS (HX6.out.on HL_s1.out)
    have HX7 := hidS (HX7.out.on HL_s1.out)
    have HX8 := hidS (HX8.out.on HL_s1.out)
    have HX9 := hidS (HX9.out.on HL_s1.out)
    go_wp2_with fail
    refine (nr_same HX8.out HX9.out HKL.out.2).mono ?_
    rintro es2 s2 ⟨rfl, hbs2⟩
    have HL_s2 := hidS hbs2
    have HB_s2 := hidS (HB_s1.out.trans (HL_s2.out.mono HB_s1.out.size))
    clear hbs2
    have HX5 := hidS (HX5.out.on HL_s2.out)
    have HX6 := hidS (HX6.out.on HL_s2.out)
    have HX7 := hidS (HX7.out.on HL_s2.out)
    have HX8 := hidS (HX8.out.on HL_s2.out)
    have HX9 := hidS (HX9.out.on HL_s2.out)
    go_wp2_with fail
    have hz5 := hidS (HW5.out)
    have G5 : ∀ g, (Value.slice A5 K c5).ownBlock = some g → g < w5.heap.size := fun g hg => by obtain ⟨xs5, k1, _⟩ := HW5.out; exact (k1.own.lt g hg).2
    have G6 : ∀ g, (Value.slice A6 K c6).ownBlock = some g → a5.heap.size ≤ g ∧ g < w6.heap.size := fun g hg => by obtain ⟨xs6, k1, _⟩ := HW6.out; exact k1.own.lt g hg
    have G8 : ∀ g, (Value.slice A8 KD c8).ownBlock = some g → a7.heap.size ≤ g := fun g hg => by obtain ⟨xs8, k1, _⟩ := HW8.out; exact (k1.own.lt g hg).1
    have j5 := HL_a5.out.size
    have j6 := HL_a6.out.size
    have j7 := HL_w7.out.size
    have j8 := HL_a7.out.size
    have j9 := HL_w6.out.size
    have HAP := hidS (apart3c (t := 37) (b0 := w.heap.size) (LB := s2.heap.size) rfl (HX5.out.lower HB_a4.out.size) (HX6.out.lower HB_a5.out.size) (HX8.out.lower HB_a7.out.size) HKL.out.1 HKL.out.1 HKL.out.2 (fun g h1 h2 => by have e1 := G5 g h1; have e2 := G6 g h2; omega) (fun g h1 h2 => by have e1 := G5 g h1; have e2 := G8 g h2; omega) (fun g h1 h2 => by have e1 := G6 g h1; have e2 := G8 g h2; omega) HB_s2.out.size)
    refine HAP.out.mono ?_
    rintro e9 w9 ⟨rfl, hb9⟩
    have HZ := hidS ((HB_s2.out.alloc HB_s2.out.size _).trans hb9)
    clear hb9 G5 G6 G8
    go_wp2_with fail
    go_ret
    exact ⟨rfl, HZ.out⟩
  · skip
    obtain ⟨f1, hf1⟩ : ∃ f1, (ofA xs).1.1 = f1 := ⟨_, rfl⟩
    obtain ⟨f2, hf2⟩ : ∃ f2, (ofA xs).1.2 = f2 := ⟨_, rfl⟩
    have HOF := hidS (And.intro hof (And.intro hf1 hf2))
    clear hof hf1 hf2
    go_enter Try.func5, Try.ntmps5
    go_wp2_with fail
    refine (elementsOf_any w A c n xs HL.out.1 (by omega) HR.out).mono ?_
    rintro e1 w1 ⟨v1, rfl, ho1, hb1⟩
    have HO1 := hidS ho1
    clear ho1
    have HL_w1 := hidS hb1
    have HB_w1 := hidS (HB_w.out.trans (HL_w1.out.mono HB_w.out.size))
    clear hb1
    go_wp2_with fail
    refine (netOf_any _ v1 xs (rdE_row2 (by have := HO1.out; rwa [HL.out.1]) (by rw [HL.out.1]; omega)) HL.out.2.1).mono ?_
    rintro e2 w2 hp2
    obtain ⟨hb2, rfl⟩ := of_no3 HOF.out.1 hp2
    rw [HOF.out.2.1, HOF.out.2.2]
    clear hp2
    have HL_w2 := hidS hb2
    have HB_w2 := hidS (HB_w1.out.trans (HL_w2.out.mono HB_w1.out.size))
    clear hb2
    have HL_a2 := hidS (bal w2 (.cells #[.int .i64 f1, .int .i64 f2] 29))
    have HK_a2 : Hid (Flt (w2.alloc (.cells #[.int .i64 f1, .int .i64 f2] 29)) w2.heap.size f1 f2) := flt_new w2 f1 f2
    obtain ⟨a2, h_a2⟩ : ∃ W, w2.alloc (.cells #[.int .i64 f1, .int .i64 f2] 29) = W := ⟨_, rfl⟩
    obtain ⟨q2, hq_q2⟩ : ∃ q, w2.heap.size = q := ⟨_, rfl⟩
    rw [h_a2] at HL_a2 HK_a2
    rw [hq_q2] at HK_a2
    have HB_a2 := hidS (HB_w2.out.trans (HL_a2.out.mono HB_w2.out.size))
    go_wp2_with fail
    refine (elementsOf_any a2 A c n xs HL.out.1 (by omega) (re_on HR.out HB_a2.out)).mono ?_
    rintro e3 w3 ⟨v3, rfl, ho3, hb3⟩
    have HO3 := hidS ho3
    clear ho3
    have HL_w3 := hidS hb3
    have HB_w3 := hidS (HB_a2.out.trans (HL_w3.out.mono HB_a2.out.size))
    clear hb3
    go_wp2_with fail
    refine (dof_any _ _ v3 xs n HL.out.1 (by omega) HO3.out HL.out.2.1).mono ?_
    rintro e4 w4 hp4
    obtain ⟨hb4, rfl⟩ := dof_no3 HOF.out.1 hp4
    rw [HOF.out.2.1, HOF.out.2.2]
    clear hp4
    have HL_w4 := hidS hb4
    have HB_w4 := hidS (HB_w3.out.trans (HL_w4.out.mono HB_w3.out.size))
    clear hb4
    have HL_a4 := hidS (bal w4 (.cells #[.int .i64 f1, .int .i64 f2] 29))
    have HK_a4 : Hid (Flt (w4.alloc (.cells #[.int .i64 f1, .int .i64 f2] 29)) w4.heap.size f1 f2) := flt_new w4 f1 f2
    obtain ⟨a4, h_a4⟩ : ∃ W, w4.alloc (.cells #[.int .i64 f1, .int .i64 f2] 29) = W := ⟨_, rfl⟩
    obtain ⟨q4, hq_q4⟩ : ∃ q, w4.heap.size = q := ⟨_, rfl⟩
    rw [h_a4] at HL_a4 HK_a4
    rw [hq_q4] at HK_a4
    have HB_a4 := hidS (HB_w4.out.trans (HL_a4.out.mono HB_w4.out.size))
    obtain ⟨x2, y2, u2, v2⟩ := tw_c (((HK_a2.out.on HL_w3.out).on HL_w4.out).on HL_a4.out)
    obtain ⟨x4, y4, u4, v4⟩ := tw_c HK_a4.out
    go_wp2_with fail
    clear x2 y2 u2 v2 x4 y4 u4 v4 h_a2 h_a4 hq_q2 hq_q4
    refine (sright_res0 a4).mono ?_
    rintro e5 w5 ⟨A5, c5, rfl, hr5, hb5⟩
    have HW5 := hidS hr5
    clear hr5
    have HL_w5 := hidS hb5
    have HB_w5 := hidS (HB_a4.out.trans (HL_w5.out.mono HB_a4.out.size))
    clear hb5
    have HL_a5 := hidS (bal w5 (.cells #[.int .i64 1, .int .i64 (-1)] 29))
    have HK_a5 : Hid (Flt (w5.alloc (.cells #[.int .i64 1, .int .i64 (-1)] 29)) w5.heap.size 1 (-1)) := flt_new w5 1 (-1)
    obtain ⟨a5, h_a5⟩ : ∃ W, w5.alloc (.cells #[.int .i64 1, .int .i64 (-1)] 29) = W := ⟨_, rfl⟩
    obtain ⟨q5, hq_q5⟩ : ∃ q, w5.heap.size = q := ⟨_, rfl⟩
    rw [h_a5] at HL_a5 HK_a5
    rw [hq_q5] at HK_a5
    have HB_a5 := hidS (HB_w5.out.trans (HL_a5.out.mono HB_w5.out.size))
    go_wp2_with fail
    clear h_a5 hq_q5
    refine (sright_res0 a5).mono ?_
    rintro e6 w6 ⟨A6, c6, rfl, hr6, hb6⟩
    have HW6 := hidS hr6
    clear hr6
    have HL_w6 := hidS hb6
    have HB_w6 := hidS (HB_a5.out.trans (HL_w6.out.mono HB_a5.out.size))
    clear hb6
    have HL_a6 := hidS (bal w6 (.cells #[.int .i64 1, .int .i64 (-1)] 29))
    have HK_a6 : Hid (Flt (w6.alloc (.cells #[.int .i64 1, .int .i64 (-1)] 29)) w6.heap.size 1 (-1)) := flt_new w6 1 (-1)
    obtain ⟨a6, h_a6⟩ : ∃ W, w6.alloc (.cells #[.int .i64 1, .int .i64 (-1)] 29) = W := ⟨_, rfl⟩
    obtain ⟨q6, hq_q6⟩ : ∃ q, w6.heap.size = q := ⟨_, rfl⟩
    rw [h_a6] at HL_a6 HK_a6
    rw [hq_q6] at HK_a6
    have HB_a6 := hidS (HB_w6.out.trans (HL_a6.out.mono HB_w6.out.size))
    go_wp2_with fail
    clear h_a6 hq_q6
    refine (dright_res0 a6).mono ?_
    rintro e7 w7 ⟨A7, c7, rfl, hr7, hb7⟩
    have HW7 := hidS hr7
    clear hr7
    have HL_w7 := hidS hb7
    have HB_w7 := hidS (HB_a6.out.trans (HL_w7.out.mono HB_a6.out.size))
    clear hb7
    have HL_a7 := hidS (bal w7 (.cells #[.int .i64 1, .int .i64 (-1)] 29))
    have HK_a7 : Hid (Flt (w7.alloc (.cells #[.int .i64 1, .int .i64 (-1)] 29)) w7.heap.size 1 (-1)) := flt_new w7 1 (-1)
    obtain ⟨a7, h_a7⟩ : ∃ W, w7.alloc (.cells #[.int .i64 1, .int .i64 (-1)] 29) = W := ⟨_, rfl⟩
    obtain ⟨q7, hq_q7⟩ : ∃ q, w7.heap.size = q := ⟨_, rfl⟩
    rw [h_a7] at HL_a7 HK_a7
    rw [hq_q7] at HK_a7
    have HB_a7 := hidS (HB_w7.out.trans (HL_a7.out.mono HB_w7.out.size))
    go_wp2_with fail
    clear h_a7 hq_q7
    refine (sdriven_res0 a7 s).mono ?_
    rintro e8 w8 ⟨A8, c8, rfl, hr8, hb8⟩
    have HW8 := hidS hr8
    clear hr8
    have HL_w8 := hidS hb8
    have HB_w8 := hidS (HB_a7.out.trans (HL_w8.out.mono HB_a7.out.size))
    clear hb8
    have HL_a8 := hidS (bal w8 (.cells #[.int .i64 1, .int .i64 (-1)] 29))
    have HK_a8 : Hid (Flt (w8.alloc (.cells #[.int .i64 1, .int .i64 (-1)] 29)) w8.heap.size 1 (-1)) := flt_new w8 1 (-1)
    obtain ⟨a8, h_a8⟩ : ∃ W, w8.alloc (.cells #[.int .i64 1, .int .i64 (-1)] 29) = W := ⟨_, rfl⟩
    obtain ⟨q8, hq_q8⟩ : ∃ q, w8.heap.size = q := ⟨_, rfl⟩
    rw [h_a8] at HL_a8 HK_a8
    rw [hq_q8] at HK_a8
    have HB_a8 := hidS (HB_w8.out.trans (HL_a8.out.mono HB_w8.out.size))
    go_wp2_with fail
    clear h_a8 hq_q8
    refine (ddriven_res0 a8 s).mono ?_
    rintro e9 w9 ⟨A9, c9, rfl, hr9, hb9⟩
    have HW9 := hidS hr9
    clear hr9
    have HL_w9 := hidS hb9
    have HB_w9 := hidS (HB_a8.out.trans (HL_w9.out.mono HB_a8.out.size))
    clear hb9
    have HL_a9 := hidS (bal w9 (.cells #[.int .i64 1, .int .i64 (-1)] 29))
    have HK_a9 : Hid (Flt (w9.alloc (.cells #[.int .i64 1, .int .i64 (-1)] 29)) w9.heap.size 1 (-1)) := flt_new w9 1 (-1)
    obtain ⟨a9, h_a9⟩ : ∃ W, w9.alloc (.cells #[.int .i64 1, .int .i64 (-1)] 29) = W := ⟨_, rfl⟩
    obtain ⟨q9, hq_q9⟩ : ∃ q, w9.heap.size = q := ⟨_, rfl⟩
    rw [h_a9] at HL_a9 HK_a9
    rw [hq_q9] at HK_a9
    have HB_a9 := hidS (HB_w9.out.trans (HL_a9.out.mono HB_w9.out.size))
    obtain ⟨x5, y5, u5, v5⟩ := tw_c ((((((((HK_a5.out.on HL_w6.out).on HL_a6.out).on HL_w7.out).on HL_a7.out).on HL_w8.out).on HL_a8.out).on HL_w9.out).on HL_a9.out)
    obtain ⟨x6, y6, u6, v6⟩ := tw_c ((((((HK_a6.out.on HL_w7.out).on HL_a7.out).on HL_w8.out).on HL_a8.out).on HL_w9.out).on HL_a9.out)
    obtain ⟨x7, y7, u7, v7⟩ := tw_c ((((HK_a7.out.on HL_w8.out).on HL_a8.out).on HL_w9.out).on HL_a9.out)
    obtain ⟨x8, y8, u8, v8⟩ := tw_c ((HK_a8.out.on HL_w9.out).on HL_a9.out)
    obtain ⟨x9, y9, u9, v9⟩ := tw_c HK_a9.out
    have HX5 := hidS (((((((((HW5.out.on HL_a5.out).on HL_w6.out).on HL_a6.out).on HL_w7.out).on HL_a7.out).on HL_w8.out).on HL_a8.out).on HL_w9.out).on HL_a9.out)
    have HX6 := hidS (((((((HW6.out.on HL_a6.out).on HL_w7.out).on HL_a7.out).on HL_w8.out).on HL_a8.out).on HL_w9.out).on HL_a9.out)
    have HX7 := hidS (((((HW7.out.on HL_a7.out).on HL_w8.out).on HL_a8.out).on HL_w9.out).on HL_a9.out)
    have HX8 := hidS (((HW8.out.on HL_a8.out).on HL_w9.out).on HL_a9.out)
    have HX9 := hidS (HW9.out.on HL_a9.out)
    go_wp2_with fail
    clear x5 y5 u5 v5 x6 y6 u6 v6 x7 y7 u7 v7 x8 y8 u8 v8 x9 y9 u9 v9 h_a9 hq_q9
    refine (nr_same HX5.out HX7.out (by decide)).mono ?_
    rintro es0 s0 ⟨rfl, hbs0⟩
    have HL_s0 := hidS hbs0
    have HB_s0 := hidS (HB_a9.out.trans (HL_s0.out.mono HB_a9.out.size))
    clear hbs0
    have HX5 := hidS (HX5.out.on HL_s0.out)
    have HX6 := hidS (HX6.out.on HL_s0.out)
    have HX7 := hidS (HX7.out.on HL_s0.out)
    have HX8 := hidS (HX8.out.on HL_s0.out)
    have HX9 := hidS (HX9.out.on HL_s0.out)
    go_wp2_with fail
    refine (nr_same HX6.out HX7.out (by decide)).mono ?_
    rintro es1 s1 ⟨rfl, hbs1⟩
    have HL_s1 := hidS hbs1
    have HB_s1 := hidS (HB_s0.out.trans (HL_s1.out.mono HB_s0.out.size))
    clear hbs1
    have HX5 := hidS (HX5.out.on HL_s1.out)
    have HX6 := hidS (HX6.out.on HL_s1.out)
    have HX7 := hidS (HX7.out.on HL_s1.out)
    have HX8 := hidS (HX8.out.on HL_s1.out)
    have HX9 := hidS (HX9.out.on HL_s1.out)
    go_wp2_with fail
    refine (nr_same HX8.out HX9.out (by decide)).mono ?_
    rintro es2 s2 ⟨rfl, hbs2⟩
    have HL_s2 := hidS hbs2
    have HB_s2 := hidS (HB_s1.out.trans (HL_s2.out.mono HB_s1.out.size))
    clear hbs2
    have HX5 := hidS (HX5.out.on HL_s2.out)
    have HX6 := hidS (HX6.out.on HL_s2.out)
    have HX7 := hidS (HX7.out.on HL_s2.out)
    have HX8 := hidS (HX8.out.on HL_s2.out)
    have HX9 := hidS (HX9.out.on HL_s2.out)
    go_wp2_with fail
    have hz5 := hidS (HW5.out)
    have G5 : ∀ g, (Value.slice A5 0 c5).ownBlock = some g → g < w5.heap.size := fun g hg => by obtain ⟨xs5, k1, _⟩ := HW5.out; exact (k1.own.lt g hg).2
    have G6 : ∀ g, (Value.slice A6 0 c6).ownBlock = some g → a5.heap.size ≤ g ∧ g < w6.heap.size := fun g hg => by obtain ⟨xs6, k1, _⟩ := HW6.out; exact k1.own.lt g hg
    have G8 : ∀ g, (Value.slice A8 0 c8).ownBlock = some g → a7.heap.size ≤ g := fun g hg => by obtain ⟨xs8, k1, _⟩ := HW8.out; exact (k1.own.lt g hg).1
    have j5 := HL_a5.out.size
    have j6 := HL_a6.out.size
    have j7 := HL_w7.out.size
    have j8 := HL_a7.out.size
    have j9 := HL_w6.out.size
    have HAP := hidS (apart3c (t := 37) (b0 := w.heap.size) (LB := s2.heap.size) rfl (HX5.out.lower HB_a4.out.size) (HX6.out.lower HB_a5.out.size) (HX8.out.lower HB_a7.out.size) (by decide) (by decide) (by decide) (fun g h1 h2 => by have e1 := G5 g h1; have e2 := G6 g h2; omega) (fun g h1 h2 => by have e1 := G5 g h1; have e2 := G8 g h2; omega) (fun g h1 h2 => by have e1 := G6 g h1; have e2 := G8 g h2; omega) HB_s2.out.size)
    refine HAP.out.mono ?_
    rintro e9 w9 ⟨rfl, hb9⟩
    have HZ := hidS ((HB_s2.out.alloc HB_s2.out.size _).trans hb9)
    clear hb9 G5 G6 G8
    go_wp2_with fail
    go_ret
    exact ⟨rfl, HZ.out⟩
end Go.Proofs.Ytpjpamdocfdibaa
