/-
  SourceKnown's walk.
-/
import Derived.Test.YtpjpamdocfdibabSwa
namespace Go.Proofs.Ytpjpamdocfdibab
open Fl Go.Maps RowKit Joins Deep
set_option linter.unusedVariables false
set_option maxRecDepth 20000

theorem kcpm (w : World) : Calls Try.prog 4 #[.float .f64 0, .float .f64 13830554455654793216] w fun e w' => e = .returned (.float .f64 9223372036854775808) ∧ w' = w := by
  go_enter Try.func4, Try.ntmps4
  go_wp2_with fail
  go_ret
  exact ⟨rfl, rfl⟩
theorem knan (w : World) : Calls Try.prog 7 #[] w fun e w' => e = .returned (.float .f64 9221120237041090561) ∧ w' = w := by
  go_enter Try.func7, Try.ntmps7
  go_wp2_with fail
  go_ret
  exact ⟨rfl, rfl⟩
def knE (k : Nat) (n a b : ByteArray) (v : Nat) (ph : Int) : Elm := el2 k n a b v ph
def kA : Elm := el2 5 ⟨#[86, 49]⟩ ⟨#[97]⟩ ⟨#[48]⟩ 9223372036854775808 0
def kB : Elm := el2 1 ⟨#[82, 49]⟩ ⟨#[97]⟩ ⟨#[48]⟩ 4607182418800017408 0
def kC : Elm := el2 5 ⟨#[86, 49]⟩ ⟨#[97]⟩ ⟨#[97]⟩ 4607182418800017408 0
def kD : Elm := el2 4 ⟨#[73, 49]⟩ ⟨#[97]⟩ ⟨#[48]⟩ 9221120237041090561 0
theorem kA_K : phK kA = 0 := by kernel_rfl
theorem kA_C : phC kA = (some 9223372036854775808, some 9223372036854775808) := by kernel_rfl
theorem kB_K : phK kB = 2 := by kernel_rfl
theorem kC_K : phK kC = 2 := by kernel_rfl
theorem kD_K : phK kD = 5 := by kernel_rfl
theorem kph_A (w : World) : Calls Try.prog 5 #[.agg #[.int .u8 5, .string ⟨#[86, 49]⟩, .string ⟨#[97]⟩, .string ⟨#[48]⟩, .string ⟨#[]⟩, .string ⟨#[]⟩, .float .f64 9223372036854775808, .int .i64 0]] w fun e w' => e = .returned (.tuple #[.complex .f64 9223372036854775808 9223372036854775808, .int .i64 0]) ∧ Below w.heap.size w w' := by
  refine (sphasor_any kA w ⟨by decide, by decide, by decide, by decide, by decide, by decide, by decide⟩ ⟨by decide, by decide⟩ (by decide)).mono ?_
  rintro e w' ⟨re, im, rfl, h1, h2, hb⟩
  rw [kA_C] at h1 h2
  rw [kA_K, rep_in h1, rep_in h2]
  exact ⟨rfl, hb⟩
theorem kph_B (w : World) : Calls Try.prog 5 #[.agg #[.int .u8 1, .string ⟨#[82, 49]⟩, .string ⟨#[97]⟩, .string ⟨#[48]⟩, .string ⟨#[]⟩, .string ⟨#[]⟩, .float .f64 4607182418800017408, .int .i64 0]] w fun e w' => ∃ re im, e = .returned (.tuple #[.complex .f64 re im, .int .i64 2]) ∧ Below w.heap.size w w' := by
  refine (sphasor_any kB w ⟨by decide, by decide, by decide, by decide, by decide, by decide, by decide⟩ ⟨by decide, by decide⟩ (by decide)).mono ?_
  rintro e w' ⟨re, im, rfl, _, _, hb⟩
  rw [kB_K]
  exact ⟨re, im, rfl, hb⟩
theorem kph_C (w : World) : Calls Try.prog 5 #[.agg #[.int .u8 5, .string ⟨#[86, 49]⟩, .string ⟨#[97]⟩, .string ⟨#[97]⟩, .string ⟨#[]⟩, .string ⟨#[]⟩, .float .f64 4607182418800017408, .int .i64 0]] w fun e w' => ∃ re im, e = .returned (.tuple #[.complex .f64 re im, .int .i64 2]) ∧ Below w.heap.size w w' := by
  refine (sphasor_any kC w ⟨by decide, by decide, by decide, by decide, by decide, by decide, by decide⟩ ⟨by decide, by decide⟩ (by decide)).mono ?_
  rintro e w' ⟨re, im, rfl, _, _, hb⟩
  rw [kC_K]
  exact ⟨re, im, rfl, hb⟩
theorem kph_D (w : World) : Calls Try.prog 5 #[.agg #[.int .u8 4, .string ⟨#[73, 49]⟩, .string ⟨#[97]⟩, .string ⟨#[48]⟩, .string ⟨#[]⟩, .string ⟨#[]⟩, .float .f64 9221120237041090561, .int .i64 0]] w fun e w' => ∃ re im, e = .returned (.tuple #[.complex .f64 re im, .int .i64 5]) ∧ Below w.heap.size w w' := by
  refine (sphasor_any kD w ⟨by decide, by decide, by decide, by decide, by decide, by decide, by decide⟩ ⟨by decide, by decide⟩ (by decide)).mono ?_
  rintro e w' ⟨re, im, rfl, _, _, hb⟩
  rw [kD_K]
  exact ⟨re, im, rfl, hb⟩
/-- the net whose right side is too great -/
def ovL : List Elm := [el2 4 ⟨#[73, 49]⟩ ⟨#[48]⟩ ⟨#[97]⟩ 9214364837600034816 0, el2 4 ⟨#[73, 50]⟩ ⟨#[48]⟩ ⟨#[97]⟩ 9214364837600034816 0, el2 1 ⟨#[82, 49]⟩ ⟨#[97]⟩ ⟨#[48]⟩ 4607182418800017408 0]
def ovN : Ns := ⟨ovL, [[73, 49], [73, 50], [82, 49]], [[97]], []⟩
theorem ov_of : ofA ovL = ((0, 0), ovN) := by kernel_rfl
theorem ov_rg : (rgL ovN ovL noC 0).1 = (6, 1) := by kernel_rfl
theorem ov_ok : ∀ x ∈ ovL, x.ok := by
  intro x hx
  simp only [ovL, List.mem_cons, List.not_mem_nil, or_false] at hx
  rcases hx with rfl | rfl | rfl <;> exact ⟨by decide, by decide, by decide, by decide, by decide, by decide, by decide⟩
theorem ov_pb : ∀ x ∈ ovL, x.phb := by
  intro x hx
  simp only [ovL, List.mem_cons, List.not_mem_nil, or_false] at hx
  rcases hx with rfl | rfl | rfl <;> exact ⟨by decide, by decide⟩
theorem ov_md : Md ovN := by
  have h := Md.of (l := ovL) (by rw [ov_of]) ov_ok ov_pb
  rw [ov_of] at h
  exact h
theorem ov_netOf (w : World) : Calls Try.prog 8 #[.slice (some ⟨w.heap.size, 0, none⟩) 3 3] (w.alloc (.cells (elCs ovL).toArray 30)) (OfP (w.alloc (.cells (elCs ovL).toArray 30)) ovL) := netOf_any _ _ ovL (rdE_l w ovL (by decide)) ov_ok
theorem ov_right {w : World} {nb p : Nat} {b : Nb} (h : Nt w nb p ovN b) : Calls Try.prog 9 #[.pointer (some ⟨p, 0, none⟩)] w fun e w' => ∃ A c n, e = .returned (.tuple #[.slice A n c, .agg #[.int .i64 6, .int .i64 1]]) ∧ Below w.heap.size w w' := by
  refine (sright_any h ov_md).mono ?_
  rintro e w' ⟨hb, ⟨h1, _⟩ | ⟨i, hi, _, rfl⟩⟩
  · rw [show (rgL ovN ovN.es noC 0).1 = (6, 1) from ov_rg] at h1
    have h6 : (6 : Int) = 0 := congrArg Prod.fst h1
    exact absurd h6 (by decide)
  · rw [show (rgL ovN ovN.es noC 0).1 = (6, 1) from ov_rg] at hi
    have h1 : (1 : Int) = (i : Int) := congrArg Prod.snd hi
    rw [← h1]
    exact ⟨none, 0, 0, rfl, hb⟩
/-- the net of a port -/
def ptP : Elm := el2 8 ⟨#[80, 49]⟩ ⟨#[97]⟩ ⟨#[98]⟩ 4632233691727265792 0
def ptR : Elm := el2 1 ⟨#[82, 49]⟩ ⟨#[98]⟩ ⟨#[48]⟩ 4607182418800017408 0
def ptL : List Elm := [ptP, ptR]
def ptN : Ns := ⟨ptL, [[80, 49], [82, 49]], [[97], [98]], []⟩
theorem pt_of : ofA ptL = ((0, 0), ptN) := by kernel_rfl
theorem pt_f1 : fnd ptN.es (bl ⟨#[80, 49]⟩) = some ptP := by kernel_rfl
theorem pt_f2 : fnd ptN.es (bl ⟨#[82, 49]⟩) = some ptR := by kernel_rfl
theorem pt_r0 : drR ptN ptP 0 = (some 4607182418800017408, some 0) := by kernel_rfl
theorem pt_r1 : drR ptN ptP 1 = (some 13830554455654793216, some 0) := by kernel_rfl
theorem pt_ok : ∀ x ∈ ptL, x.ok := by
  intro x hx
  simp only [ptL, List.mem_cons, List.not_mem_nil, or_false] at hx
  rcases hx with rfl | rfl <;> exact ⟨by decide, by decide, by decide, by decide, by decide, by decide, by decide⟩
theorem pt_pb : ∀ x ∈ ptL, x.phb := by
  intro x hx
  simp only [ptL, List.mem_cons, List.not_mem_nil, or_false] at hx
  rcases hx with rfl | rfl <;> exact ⟨by decide, by decide⟩
theorem pt_md : Md ptN := by
  have h := Md.of (l := ptL) (by rw [pt_of]) pt_ok pt_pb
  rw [pt_of] at h
  exact h
theorem pt_netOf (w : World) : Calls Try.prog 8 #[.slice (some ⟨w.heap.size, 0, none⟩) 2 2] (w.alloc (.cells (elCs ptL).toArray 30)) (OfP (w.alloc (.cells (elCs ptL).toArray 30)) ptL) := netOf_any _ _ ptL (rdE_l w ptL (by decide)) pt_ok
def ptW : List Cw := [(4607182418800017408, 0), (13830554455654793216, 0)]
theorem ptW_eq : ∀ k, k < 2 → eqB (zat ptW k).1 (zat ptW k).1 = true ∧ eqB (zat ptW k).2 (zat ptW k).2 = true := by
  intro k hk
  rcases (by omega : k = 0 ∨ k = 1) with rfl | rfl <;> exact ⟨by kernel_rfl, by kernel_rfl⟩
theorem pt_driven {w : World} {nb p : Nat} {b : Nb} (h : Nt w nb p ptN b) : Calls Try.prog 10 #[.pointer (some ⟨p, 0, none⟩), .string ⟨#[80, 49]⟩] w fun e w' => ∃ g c, e = .returned (.tuple #[.slice (some ⟨g, 0, none⟩) 2 c, .agg #[.int .i64 0, .int .i64 0]]) ∧ Rc w' (some ⟨g, 0, none⟩) ptW ∧ Below w.heap.size w w' := by
  refine (sdriven_yes h pt_md ⟨#[80, 49]⟩ (by decide) pt_f1 rfl).mono ?_
  rintro e w' ⟨v, rfl, hN, hb⟩
  obtain ⟨xs, h1, h2⟩ := hN
  obtain ⟨g, c, rfl, _, _, _⟩ := own_shape h1.own (show 0 < 2 by decide)
  have hx : xs = ptW := by
    have hl : xs.length = 2 := h1.len
    obtain ⟨a, b, rfl⟩ : ∃ a b, xs = [a, b] := by
      match xs, hl with
      | [a, b], _ => exact ⟨a, b, rfl⟩
    have k0 := h2 0 (by decide)
    have k1 := h2 1 (by decide)
    rw [pt_r0] at k0
    rw [pt_r1] at k1
    have e0 := repz_in k0
    have e1 := repz_in k1
    have z0 : zat [a, b] 0 = a := rfl
    have z1 : zat [a, b] 1 = b := rfl
    rw [z0] at e0
    rw [z1] at e1
    rw [e0, e1]; rfl
  have := h1.rc
  rw [hx] at this
  exact ⟨g, c, rfl, this, hb⟩
theorem pt_missing {w : World} {nb p : Nat} {b : Nb} (h : Nt w nb p ptN b) : Calls Try.prog 10 #[.pointer (some ⟨p, 0, none⟩), .string ⟨#[82, 49]⟩] w fun e w' => e = .returned (.tuple #[.slice none 0 0, .agg #[.int .i64 10, .int .i64 (-1)]]) ∧ Below w.heap.size w w' :=
  sdriven_no h pt_md ⟨#[82, 49]⟩ (by decide) (fun x hx => by
    rw [pt_f2] at hx
    rw [← Option.some.inj hx]; decide)
theorem pt_equal {w : World} {g c : Nat} (h : Rc w (some ⟨g, 0, none⟩) ptW) : Calls Try.prog 13 #[.slice (some ⟨g, 0, none⟩) 2 c, .slice (some ⟨w.heap.size, 0, none⟩) 2 2] (w.alloc (.cells #[.complex .f64 4607182418800017408 0, .complex .f64 13830554455654793216 0] 24)) fun e w' => e = .returned (.bool true) ∧ Below w.heap.size w w' :=
  (kequal_len 2 _ _ c 2 ptW ptW _ (by decide) rfl rfl (h.below (bal _ _)) (al_rc2 w (4607182418800017408, 0) (13830554455654793216, 0) 24 _ rfl) ptW_eq).mono (by
    rintro e w' ⟨n, rfl, rfl⟩
    exact ⟨rfl, below_dN (bal _ _) n⟩)
theorem same_m0 (w : World) : Calls Try.prog 12 #[.complex .f64 9223372036854775808 9223372036854775808, .complex .f64 9223372036854775808 9223372036854775808] w fun e w' => e = .returned (.bool true) ∧ w' = w := by
  have h := ksame_any 9223372036854775808 9223372036854775808 9223372036854775808 9223372036854775808 w
  rw [smB_self] at h
  exact h
/-- a fault that lies in memory -/
def Fkt (w : World) (q : Nat) (a b : Int) : Prop := w.heap[q]? = some (.cells #[.int .i64 a, .int .i64 b] 35 (0, 0))
theorem Fkt.on {w w' : World} {q : Nat} {a b : Int} (h : Fkt w q a b) (hb : Below w.heap.size w w') : Fkt w' q a b := by
  unfold Fkt at *
  rw [hb.block q (Array.getElem?_eq_some_iff.1 h).1]; exact h
theorem fkt_new (w : World) (a b : Int) : Fkt (w.alloc (.cells #[.int .i64 a, .int .i64 b] 35)) w.heap.size a b := heap_alloc_new w _
set_option maxHeartbeats 16000000 in
theorem sknown_walk19 (w : World) : Calls Try.prog 3 #[] w fun e w' => e = .returned (.bool true) ∧ Below w.heap.size w w' := by
  have HB_w := hidS (Below.refl w.heap.size w)
  go_enter Try.func3, Try.ntmps3
  go_wp2_with fail
  refine (kcpm _).mono ?_
  rintro e1 v1 ⟨rfl, hv1⟩
  subst v1
  go_wp2_with fail
  refine (sel_any _ _ _ _ _ _ _).mono ?_
  rintro e2 w2 ⟨rfl, hb2⟩
  
  have HL_w2 := hidS hb2
  have HB_w2 := hidS (HB_w.out.trans (HL_w2.out.mono HB_w.out.size))
  clear hb2
  go_wp2_with fail
  refine (kph_A _).mono ?_
  rintro e3 w3 ⟨rfl, hb3⟩
  
  have HL_w3 := hidS hb3
  have HB_w3 := hidS (HB_w2.out.trans (HL_w3.out.mono HB_w2.out.size))
  clear hb3
  go_wp2_with fail
  refine (sel_any _ _ _ _ _ _ _).mono ?_
  rintro e4 w4 ⟨rfl, hb4⟩
  
  have HL_w4 := hidS hb4
  have HB_w4 := hidS (HB_w3.out.trans (HL_w4.out.mono HB_w3.out.size))
  clear hb4
  go_wp2_with fail
  refine (kph_B _).mono ?_
  rintro e5 w5 ⟨re2, im2, rfl, hb5⟩
  
  have HL_w5 := hidS hb5
  have HB_w5 := hidS (HB_w4.out.trans (HL_w5.out.mono HB_w4.out.size))
  clear hb5
  go_wp2_with fail
  refine (sel_any _ _ _ _ _ _ _).mono ?_
  rintro e6 w6 ⟨rfl, hb6⟩
  
  have HL_w6 := hidS hb6
  have HB_w6 := hidS (HB_w5.out.trans (HL_w6.out.mono HB_w5.out.size))
  clear hb6
  go_wp2_with fail
  refine (kph_C _).mono ?_
  rintro e7 w7 ⟨re3, im3, rfl, hb7⟩
  
  have HL_w7 := hidS hb7
  have HB_w7 := hidS (HB_w6.out.trans (HL_w7.out.mono HB_w6.out.size))
  clear hb7
  go_wp2_with fail
  refine (knan _).mono ?_
  rintro e8 v8 ⟨rfl, hv8⟩
  subst v8
  go_wp2_with fail
  refine (sel_any _ _ _ _ _ _ _).mono ?_
  rintro e9 w9 ⟨rfl, hb9⟩
  
  have HL_w9 := hidS hb9
  have HB_w9 := hidS (HB_w7.out.trans (HL_w9.out.mono HB_w7.out.size))
  clear hb9
  go_wp2_with fail
  refine (kph_D _).mono ?_
  rintro e10 w10 ⟨re4, im4, rfl, hb10⟩
  
  have HL_w10 := hidS hb10
  have HB_w10 := hidS (HB_w9.out.trans (HL_w10.out.mono HB_w9.out.size))
  clear hb10
  go_wp2_with fail
  refine (sel_any _ _ _ _ _ _ _).mono ?_
  rintro e11 w11 ⟨rfl, hb11⟩
  
  have HL_w11 := hidS hb11
  have HB_w11 := hidS (HB_w10.out.trans (HL_w11.out.mono HB_w10.out.size))
  clear hb11
  go_wp2_with fail
  refine (sel_any _ _ _ _ _ _ _).mono ?_
  rintro e12 w12 ⟨rfl, hb12⟩
  
  have HL_w12 := hidS hb12
  have HB_w12 := hidS (HB_w11.out.trans (HL_w12.out.mono HB_w11.out.size))
  clear hb12
  go_wp2_with fail
  refine (sel_any _ _ _ _ _ _ _).mono ?_
  rintro e13 w13 ⟨rfl, hb13⟩
  
  have HL_w13 := hidS hb13
  have HB_w13 := hidS (HB_w12.out.trans (HL_w13.out.mono HB_w12.out.size))
  clear hb13
  go_wp2_with fail
  refine (ov_netOf w13).mono ?_
  rintro e14 w14 hp14
  obtain ⟨hb14, p_ov, b0_ov, b_ov, rfl, hN_ov⟩ := of_yes2 ov_of hp14
  have HN_ov := hidS hN_ov
  have HL_w14 := hidS ((bal w13 (.cells (elCs ovL).toArray 30)).trans (hb14.mono (bal w13 _).size))
  have HB_w14 := hidS (HB_w13.out.trans (HL_w14.out.mono HB_w13.out.size))
  clear hb14 hp14 hN_ov
  go_wp2_with fail
  have HL_a_qa := hidS (bal w14 (.cells #[.int .i64 0, .int .i64 0] 35))
  have HK_qa : Hid (Fkt (w14.alloc (.cells #[.int .i64 0, .int .i64 0] 35)) w14.heap.size 0 0) := fkt_new w14 0 0
  obtain ⟨a_qa, h_a_qa⟩ : ∃ W, w14.alloc (.cells #[.int .i64 0, .int .i64 0] 35) = W := ⟨_, rfl⟩
  obtain ⟨qa, hq_qa⟩ : ∃ q, w14.heap.size = q := ⟨_, rfl⟩
  rw [h_a_qa] at HL_a_qa HK_qa
  rw [hq_qa] at HK_qa
  rw [h_a_qa, hq_qa]
  have HB_a_qa := hidS (HB_w14.out.trans (HL_a_qa.out.mono HB_w14.out.size))
  clear h_a_qa hq_qa
  refine (ov_right (HN_ov.out.below HL_a_qa.out)).mono ?_
  rintro e15 w15 ⟨A5, c5, n5, rfl, hb15⟩
  
  have HL_w15 := hidS hb15
  have HB_w15 := hidS (HB_a_qa.out.trans (HL_w15.out.mono HB_a_qa.out.size))
  clear hb15
  go_wp2_with fail
  have HL_a_qb := hidS (bal w15 (.cells #[.int .i64 6, .int .i64 1] 35))
  have HK_qb : Hid (Fkt (w15.alloc (.cells #[.int .i64 6, .int .i64 1] 35)) w15.heap.size 6 1) := fkt_new w15 6 1
  obtain ⟨a_qb, h_a_qb⟩ : ∃ W, w15.alloc (.cells #[.int .i64 6, .int .i64 1] 35) = W := ⟨_, rfl⟩
  obtain ⟨qb, hq_qb⟩ : ∃ q, w15.heap.size = q := ⟨_, rfl⟩
  rw [h_a_qb] at HL_a_qb HK_qb
  rw [hq_qb] at HK_qb
  rw [h_a_qb, hq_qb]
  have HB_a_qb := hidS (HB_w15.out.trans (HL_a_qb.out.mono HB_w15.out.size))
  clear h_a_qb hq_qb
  refine (sel_any _ _ _ _ _ _ _).mono ?_
  rintro e16 w16 ⟨rfl, hb16⟩
  
  have HL_w16 := hidS hb16
  have HB_w16 := hidS (HB_a_qb.out.trans (HL_w16.out.mono HB_a_qb.out.size))
  clear hb16
  go_wp2_with fail
  refine (sel_any _ _ _ _ _ _ _).mono ?_
  rintro e17 w17 ⟨rfl, hb17⟩
  
  have HL_w17 := hidS hb17
  have HB_w17 := hidS (HB_w16.out.trans (HL_w17.out.mono HB_w16.out.size))
  clear hb17
  go_wp2_with fail
  refine (pt_netOf w17).mono ?_
  rintro e18 w18 hp18
  obtain ⟨hb18, p_pt, b0_pt, b_pt, rfl, hN_pt⟩ := of_yes2 pt_of hp18
  have HN_pt := hidS hN_pt
  have HL_w18 := hidS ((bal w17 (.cells (elCs ptL).toArray 30)).trans (hb18.mono (bal w17 _).size))
  have HB_w18 := hidS (HB_w17.out.trans (HL_w18.out.mono HB_w17.out.size))
  clear hb18 hp18 hN_pt
  go_wp2_with fail
  have HL_a_qc := hidS (bal w18 (.cells #[.int .i64 0, .int .i64 0] 35))
  have HK_qc : Hid (Fkt (w18.alloc (.cells #[.int .i64 0, .int .i64 0] 35)) w18.heap.size 0 0) := fkt_new w18 0 0
  obtain ⟨a_qc, h_a_qc⟩ : ∃ W, w18.alloc (.cells #[.int .i64 0, .int .i64 0] 35) = W := ⟨_, rfl⟩
  obtain ⟨qc, hq_qc⟩ : ∃ q, w18.heap.size = q := ⟨_, rfl⟩
  rw [h_a_qc] at HL_a_qc HK_qc
  rw [hq_qc] at HK_qc
  rw [h_a_qc, hq_qc]
  have HB_a_qc := hidS (HB_w18.out.trans (HL_a_qc.out.mono HB_w18.out.size))
  clear h_a_qc hq_qc
  refine (pt_driven (HN_pt.out.below HL_a_qc.out)).mono ?_
  rintro e19 w19 ⟨g6, c6, rfl, hrc, hb19⟩
  have HRC := hidS hrc
  clear hrc
  have HL_w19 := hidS hb19
  have HB_w19 := hidS (HB_a_qc.out.trans (HL_w19.out.mono HB_a_qc.out.size))
  clear hb19
  go_wp2_with fail
  have HL_a_qd := hidS (bal w19 (.cells #[.int .i64 0, .int .i64 0] 35))
  have HK_qd : Hid (Fkt (w19.alloc (.cells #[.int .i64 0, .int .i64 0] 35)) w19.heap.size 0 0) := fkt_new w19 0 0
  obtain ⟨a_qd, h_a_qd⟩ : ∃ W, w19.alloc (.cells #[.int .i64 0, .int .i64 0] 35) = W := ⟨_, rfl⟩
  obtain ⟨qd, hq_qd⟩ : ∃ q, w19.heap.size = q := ⟨_, rfl⟩
  rw [h_a_qd] at HL_a_qd HK_qd
  rw [hq_qd] at HK_qd
  rw [h_a_qd, hq_qd]
  have HB_a_qd := hidS (HB_w19.out.trans (HL_a_qd.out.mono HB_w19.out.size))
  clear h_a_qd hq_qd
  refine (pt_missing (((HN_pt.out.below HL_a_qc.out).below HL_w19.out).below HL_a_qd.out)).mono ?_
  rintro e20 w20 ⟨rfl, hb20⟩
  
  have HL_w20 := hidS hb20
  have HB_w20 := hidS (HB_a_qd.out.trans (HL_w20.out.mono HB_a_qd.out.size))
  clear hb20
  go_wp2_with fail
  have HL_a_qe := hidS (bal w20 (.cells #[.int .i64 10, .int .i64 (-1)] 35))
  have HK_qe : Hid (Fkt (w20.alloc (.cells #[.int .i64 10, .int .i64 (-1)] 35)) w20.heap.size 10 (-1)) := fkt_new w20 10 (-1)
  obtain ⟨a_qe, h_a_qe⟩ : ∃ W, w20.alloc (.cells #[.int .i64 10, .int .i64 (-1)] 35) = W := ⟨_, rfl⟩
  obtain ⟨qe, hq_qe⟩ : ∃ q, w20.heap.size = q := ⟨_, rfl⟩
  rw [h_a_qe] at HL_a_qe HK_qe
  rw [hq_qe] at HK_qe
  rw [h_a_qe, hq_qe]
  have HB_a_qe := hidS (HB_w20.out.trans (HL_a_qe.out.mono HB_w20.out.size))
  clear h_a_qe hq_qe
  refine (awake19 _).mono ?_
  rintro e21 w21 ⟨rfl, hb21⟩
  
  have HL_w21 := hidS hb21
  have HB_w21 := hidS (HB_a_qe.out.trans (HL_w21.out.mono HB_a_qe.out.size))
  clear hb21
  go_wp2_with fail
  refine (same_m0 _).mono ?_
  rintro es vs ⟨rfl, hvs⟩
  subst vs
  obtain ⟨x0, y0, u0, z0⟩ := tw_c (((((((((((HK_qa.out.on HL_w15.out).on HL_a_qb.out).on HL_w16.out).on HL_w17.out).on HL_w18.out).on HL_a_qc.out).on HL_w19.out).on HL_a_qd.out).on HL_w20.out).on HL_a_qe.out).on HL_w21.out)
  obtain ⟨x1, y1, u1, z1⟩ := tw_c (((((((((HK_qb.out.on HL_w16.out).on HL_w17.out).on HL_w18.out).on HL_a_qc.out).on HL_w19.out).on HL_a_qd.out).on HL_w20.out).on HL_a_qe.out).on HL_w21.out)
  obtain ⟨x2, y2, u2, z2⟩ := tw_c (((((HK_qc.out.on HL_w19.out).on HL_a_qd.out).on HL_w20.out).on HL_a_qe.out).on HL_w21.out)
  obtain ⟨x3, y3, u3, z3⟩ := tw_c (((HK_qd.out.on HL_w20.out).on HL_a_qe.out).on HL_w21.out)
  obtain ⟨x4, y4, u4, z4⟩ := tw_c (HK_qe.out.on HL_w21.out)
  have HQ1 := hidS ((((HRC.out.below HL_a_qd.out).below HL_w20.out).below HL_a_qe.out).below HL_w21.out)
  have HF3 := hidS (And.intro (((HK_qd.out.on HL_w20.out).on HL_a_qe.out).on HL_w21.out) (HK_qe.out.on HL_w21.out))
  go_wp2_with fail
  refine (pt_equal HQ1.out).mono ?_
  rintro et wt ⟨rfl, hbt⟩
  obtain ⟨xd, yd, ud, zd⟩ := tw_c (HF3.out.1.on hbt)
  obtain ⟨xe, ye, ue, ze⟩ := tw_c (HF3.out.2.on hbt)
  have HBT := hidS (HB_w21.out.trans (hbt.mono HB_w21.out.size))
  clear hbt
  go_wp2_with fail
  go_ret
  exact ⟨rfl, HBT.out⟩
end Go.Proofs.Ytpjpamdocfdibab
