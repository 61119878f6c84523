/-
  The document's right side of a port; what is told of no net.
-/
import Derived.Test.YtpjpamdocfdibaaSdd
namespace Go.Proofs.Ytpjpamdocfdibaa
open Fl Go.Maps RowKit Joins Deep
set_option linter.unusedVariables false
set_option maxRecDepth 20000

theorem dright_nil (w : World) : Calls Try.prog 26 #[.pointer none] w fun e w' => e = .returned (.tuple #[.slice none 0 0, .agg #[.int .i64 1, .int .i64 (-1)]]) ∧ Below w.heap.size w w' := by
  go_enter Try.func26, Try.ntmps26
  go_wp2_with (go_at_call 63; (with_reducible refine (dnone19_nil _).mono ?_); rintro e w1 ⟨rfl, hw⟩; subst w1)
  (try simp only [Exit.inBlock, Exit.then])
  refine bodyPost_ret (by simp [results, Try.results26, go_sem]; try rfl) rfl ?_
  exact ⟨rfl, bal w _⟩
theorem ddriven_nil (w : World) (s : ByteArray) : Calls Try.prog 28 #[.pointer none, .string s] w fun e w' => e = .returned (.tuple #[.slice none 0 0, .agg #[.int .i64 1, .int .i64 (-1)]]) ∧ Below w.heap.size w w' := by
  go_enter Try.func28, Try.ntmps28
  go_wp2_with (go_at_call 63; (with_reducible refine (dnone19_nil _).mono ?_); rintro e w1 ⟨rfl, hw⟩; subst w1)
  (try simp only [Exit.inBlock, Exit.then])
  refine bodyPost_ret (by simp [results, Try.results28, go_sem]; try rfl) rfl ?_
  exact ⟨rfl, bal w _⟩
set_option maxHeartbeats 4000000 in
theorem ddriven_no {w : World} {p : Nat} {l : List Elm} (h : Dn w p l) (s : ByteArray) (hx : ∀ x, fnd l (bl s) = some x → x.k ≠ 8) :
    Calls Try.prog 28 #[.pointer (some ⟨p, 0, none⟩), .string s] w fun e w' => e = .returned (.tuple #[.slice none 0 0, .agg #[.int .i64 10, .int .i64 (-1)]]) ∧ Below w.heap.size w w' := by
  have HNT := hidS (h.below (bal w (.cells #[.int .i64 0, .int .i64 0] 29)))
  obtain ⟨wF, hwF⟩ : ∃ wF, w.alloc (.cells #[.int .i64 0, .int .i64 0] 29) = wF := ⟨_, rfl⟩
  obtain ⟨F, hF⟩ : ∃ F, w.heap.size = F := ⟨_, rfl⟩
  have HF : Hid (wF.heap[F]? = some (.cells #[.int .i64 0, .int .i64 0] 29 (0, 0)) ∧ wF.heap.size = F + 1 ∧ Below F w wF ∧ w.heap.size = F) := by
    rw [← hwF, ← hF]
    exact ⟨heap_alloc_new w _, by simp, (Below.refl _ w).alloc (Nat.le_refl _) _, rfl⟩
  rw [hwF] at HNT
  have HCM := hidS (dnone19_made HNT.out.made)
  have HFD := hidS (dfind_any HNT.out s)
  rcases hfx : fnd l (bl s) with _ | x
  · rw [hfx] at HFD
    have hz : elV ((none : Option Elm).getD elZ) = .agg #[.int .u8 0, .string ⟨#[]⟩, .string ⟨#[]⟩, .string ⟨#[]⟩, .string ⟨#[]⟩, .string ⟨#[]⟩, .float .f64 0, .int .i64 0] := rfl
    have hz2 : (none : Option Elm).isSome = false := rfl
    rw [hz, hz2] at HFD
    clear hz hz2 hx hfx h
    go_enter Try.func28, Try.ntmps28
    go_wp2_with (first
      | (go_at_call 63; (with_reducible refine (HCM.out).mono ?_); rintro e w1 ⟨rfl, hw⟩; subst w1)
      | (go_at_call 71; (with_reducible refine (HFD.out).mono ?_); rintro e w1 ⟨rfl, hb1⟩; (have hbe := hb1.alloc hb1.size (.cells #[.int .u8 0, .string ⟨#[]⟩, .string ⟨#[]⟩, .string ⟨#[]⟩, .string ⟨#[]⟩, .string ⟨#[]⟩, .float .f64 0, .int .i64 0] 57)); (have hF1 : (w1.alloc (.cells #[.int .u8 0, .string ⟨#[]⟩, .string ⟨#[]⟩, .string ⟨#[]⟩, .string ⟨#[]⟩, .string ⟨#[]⟩, .float .f64 0, .int .i64 0] 57)).heap[F]? = some (.cells #[.int .i64 0, .int .i64 0] 29 (0, 0)) := (by rw [hbe.block F (by have := HF.out.2.1; omega)]; exact HF.out.1)); (obtain ⟨t0, t1, t2, t3⟩ := tw_c hF1); (obtain ⟨y0, y1⟩ := tw_set hF1 (.int .i64 10) (.int .i64 (-1))); (have HB1 := hidS hbe); clear hb1 hbe))
    (try simp only [Exit.inBlock, Exit.then])
    refine bodyPost_ret (by simp [results, Try.results28, go_sem, y0, y1]; try rfl) rfl ?_
    refine ⟨rfl, tw_bel ?_ (by have := HF.out.2.2.2; omega) _ _⟩
    exact (HF.out.2.2.1.mono (by have := HF.out.2.2.2; omega)).trans (HB1.out.mono (by have := HF.out.2.1; have := HF.out.2.2.2; omega))
  · have hk := hx x hfx
    rw [hfx] at HFD
    have hz : elV ((some x).getD elZ) = .agg #[.int .u8 (x.k : Int), .string x.n, .string x.a, .string x.b, .string x.c, .string x.d, .float .f64 x.v, .int .i64 x.ph] := rfl
    have hz2 : (some x).isSome = true := rfl
    rw [hz, hz2] at HFD
    have bk : ((x.k : Int) != 8) = true := by rw [bne_iff_ne]; omega
    clear hz hz2 hx hfx h hk
    go_enter Try.func28, Try.ntmps28
    go_wp2_with (first
      | (go_at_call 63; (with_reducible refine (HCM.out).mono ?_); rintro e w1 ⟨rfl, hw⟩; subst w1)
      | (go_at_call 71; (with_reducible refine (HFD.out).mono ?_); rintro e w1 ⟨rfl, hb1⟩; (have hbe := hb1.alloc hb1.size (.cells #[.int .u8 (x.k : Int), .string x.n, .string x.a, .string x.b, .string x.c, .string x.d, .float .f64 x.v, .int .i64 x.ph] 57)); (obtain ⟨we, hwe⟩ : ∃ we, w1.alloc (.cells #[.int .u8 (x.k : Int), .string x.n, .string x.a, .string x.b, .string x.c, .string x.d, .float .f64 x.v, .int .i64 x.ph] 57) = we := ⟨_, rfl⟩); (obtain ⟨qe, hqe⟩ : ∃ qe, w1.heap.size = qe := ⟨_, rfl⟩); (have hel := heap_alloc_new w1 (.cells #[.int .u8 (x.k : Int), .string x.n, .string x.a, .string x.b, .string x.c, .string x.d, .float .f64 x.v, .int .i64 x.ph] 57)); rw [hwe] at hbe hel; rw [hqe] at hel; (obtain ⟨⟨d0, d1, d2, d3, d4, d5, d6, d7⟩, z8⟩ := eight hel); (have hF1 : we.heap[F]? = some (.cells #[.int .i64 0, .int .i64 0] 29 (0, 0)) := (by rw [hbe.block F (by have := HF.out.2.1; omega)]; exact HF.out.1)); (obtain ⟨t0, t1, t2, t3⟩ := tw_c hF1); (obtain ⟨y0, y1⟩ := tw_set hF1 (.int .i64 10) (.int .i64 (-1))); (have HB1 := hidS hbe); clear hb1 hbe hel z8))
    (try simp only [Exit.inBlock, Exit.then])
    refine bodyPost_ret (by simp [results, Try.results28, go_sem, y0, y1]; try rfl) rfl ?_
    refine ⟨rfl, tw_bel ?_ (by have := HF.out.2.2.2; omega) _ _⟩
    exact (HF.out.2.2.1.mono (by have := HF.out.2.2.2; omega)).trans (HB1.out.mono (by have := HF.out.2.1; have := HF.out.2.2.2; omega))
/-- while it goes on -/
structure Dq (wF wr : World) (m g : Nat) (R : Nat → Cn) : Prop where
  bel : Below wF.heap.size wF wr
  row : Nr wr wF.heap.size (.slice (some ⟨g, 0, none⟩) m m) m R
  gb : wF.heap.size ≤ g
theorem Dq.on {wF w w' : World} {m g : Nat} {R : Nat → Cn} (h : Dq wF w m g R) (hb : Below w.heap.size w w') : Dq wF w' m g R := ⟨h.bel.trans (hb.mono h.bel.size), h.row.on hb, h.gb⟩
theorem Dq.dN {wF w : World} {m g : Nat} {R : Nat → Cn} (h : Dq wF w m g R) (k : Nat) : Dq wF (w.drewN k) m g R := h.on (below_dN (Below.refl _ _) k)
theorem Dq.get {wF w : World} {m g : Nat} {R : Nat → Cn} (h : Dq wF w m g R) {i : Nat} (hi : i < m) : ∃ x : Cw, w.cell? ⟨g, i, none⟩ = some (cx x) ∧ w.frozen? ⟨g, i, none⟩ = false ∧ repz (R i) x := by
  obtain ⟨g2, c, x, he, _, h2, h3, h4⟩ := h.row.get hi
  injection he with he1 he2 he3
  injection he1 with he4
  injection he4 with he5
  subst he5
  exact ⟨x, h2, h3, h4⟩
theorem Dq.put {wF w : World} {m g : Nat} {R : Nat → Cn} (h : Dq wF w m g R) {op : Cn → Cn → Cn} {i : Nat} (hi : i < m) {Y : Cn} {r : Cw} (hr : repz (op (R i) Y) r) : Dq wF (w.setCell ⟨g, i, none⟩ (cx r)) m g (rput op i Y R) :=
  ⟨h.bel.setCell (p := ⟨g, i, none⟩) h.gb _, h.row.put hi hr, h.gb⟩
def pQ (b : Bool) (p : Nat) : Int := if b = true then (p : Int) else -1
theorem pQ_t (p : Nat) : pQ true p = (p : Int) := rfl
theorem pQ_f (p : Nat) : pQ false p = -1 := rfl
set_option maxHeartbeats 4000000 in
theorem ddriven_yes {w : World} {p : Nat} {N : Ns} (h : Dn w p N.es) (hm : Md N) (s : ByteArray) {x : Elm} (hfx : fnd N.es (bl s) = some x) (hk : x.k = 8) :
    Calls Try.prog 28 #[.pointer (some ⟨p, 0, none⟩), .string s] w fun e w' => ∃ v, e = .returned (.tuple #[v, .agg #[.int .i64 0, .int .i64 0]]) ∧ Nr w' w.heap.size v (N.nd.length + N.br.length) (drR N x) ∧ Below w.heap.size w w' := by
  have HM := hidS hm
  have HNT := hidS (h.below (bal w (.cells #[.int .i64 0, .int .i64 0] 29)))
  obtain ⟨wF, hwF⟩ : ∃ wF, w.alloc (.cells #[.int .i64 0, .int .i64 0] 29) = wF := ⟨_, rfl⟩
  obtain ⟨F, hF⟩ : ∃ F, w.heap.size = F := ⟨_, rfl⟩
  have HF : Hid (wF.heap[F]? = some (.cells #[.int .i64 0, .int .i64 0] 29 (0, 0)) ∧ wF.heap.size = F + 1 ∧ Below F w wF ∧ w.heap.size = F) := by
    rw [← hwF, ← hF]
    exact ⟨heap_alloc_new w _, by simp, (Below.refl _ w).alloc (Nat.le_refl _) _, rfl⟩
  rw [hwF] at HNT
  have HCM := hidS (dnone19_made HNT.out.made)
  have HFD := hidS (dfind_any HNT.out s)
  rw [hfx] at HFD
  have hz : elV ((some x).getD elZ) = .agg #[.int .u8 (x.k : Int), .string x.n, .string x.a, .string x.b, .string x.c, .string x.d, .float .f64 x.v, .int .i64 x.ph] := rfl
  have hz2 : (some x).isSome = true := rfl
  rw [hz, hz2] at HFD
  have bk : ((x.k : Int) != 8) = false := by rw [hk]; rfl
  obtain ⟨m, hmm⟩ : ∃ m, N.nd.length + N.br.length = m := ⟨_, rfl⟩
  have HMM := hidS hmm
  have HCB : Hid (∀ W, Below wF.heap.size wF W → Calls Try.prog 64 #[.pointer (some ⟨p, 0, none⟩)] W fun e w' => ∃ g, e = .returned (.slice (some ⟨g, 0, none⟩) m m) ∧ Nr w' W.heap.size (.slice (some ⟨g, 0, none⟩) m m) m noC ∧ Below W.heap.size W w') := fun W hW => by
    have h1 := blank_any (HNT.out.below hW) (by have := hm.nb; rw [← hm.ndR, ← hm.brR]; exact this)
    rw [← hm.ndR, ← hm.brR, hmm] at h1
    exact h1
  have hm9 : m ≤ 64 := by have := hm.nb; omega
  obtain ⟨pa, hpa⟩ : ∃ pa, posL N.nd (bl x.a) = pa := ⟨_, rfl⟩
  obtain ⟨ba, hba⟩ : ∃ ba, decide (bl x.a ∈ N.nd) = ba := ⟨_, rfl⟩
  obtain ⟨pb, hpb⟩ : ∃ pb, posL N.nd (bl x.b) = pb := ⟨_, rfl⟩
  obtain ⟨bb, hbb⟩ : ∃ bb, decide (bl x.b ∈ N.nd) = bb := ⟨_, rfl⟩
  have HPA : Hid (∀ W, Below wF.heap.size wF W → Calls Try.prog 66 #[.pointer (some ⟨p, 0, none⟩), .string x.a] W fun e w' => e = .returned (.tuple #[.int .i64 (pa : Int), .bool ba]) ∧ Below W.heap.size W w') := fun W hW => by
    have h1 := dplaceN (HNT.out.below hW) x.a
    rw [← HM.out.ndR, hpa, hba] at h1
    exact h1
  have HPB : Hid (∀ W, Below wF.heap.size wF W → Calls Try.prog 66 #[.pointer (some ⟨p, 0, none⟩), .string x.b] W fun e w' => e = .returned (.tuple #[.int .i64 (pb : Int), .bool bb]) ∧ Below W.heap.size W w') := fun W hW => by
    have h1 := dplaceN (HNT.out.below hW) x.b
    rw [← HM.out.ndR, hpb, hbb] at h1
    exact h1
  have HRE : Hid (drR N x = rput subZ (pQ bb pb) o1 (rput addZ (pQ ba pa) o1 noC)) := by
    show _ = _
    have i1 : plI N x.a = pQ ba pa := by
      unfold plI pQ
      rw [← hba, ← hpa]
      by_cases q : bl x.a ∈ N.nd
      · rw [if_pos q, if_pos (decide_eq_true q)]
      · rw [if_neg q, if_neg (by rw [decide_eq_false q]; decide)]
    have i2 : plI N x.b = pQ bb pb := by
      unfold plI pQ
      rw [← hbb, ← hpb]
      by_cases q : bl x.b ∈ N.nd
      · rw [if_pos q, if_pos (decide_eq_true q)]
      · rw [if_neg q, if_neg (by rw [decide_eq_false q]; decide)]
    unfold drR
    rw [i1, i2]
  have hpam : ba = true → pa < m := fun q => by
    have h1 := posL_lt (xs := N.nd) (s := bl x.a) (of_decide_eq_true (hba.trans q))
    have := HMM.out
    omega
  have hpbm : bb = true → pb < m := fun q => by
    have h1 := posL_lt (xs := N.nd) (s := bl x.b) (of_decide_eq_true (hbb.trans q))
    have := HMM.out
    omega
  clear hpa hba hpb hbb hz hz2 hfx h hk hm hmm
  go_enter Try.func28, Try.ntmps28
  go_wp2_with (first
    | (go_at_call 63; (with_reducible refine (HCM.out).mono ?_); rintro e w1 ⟨rfl, hw⟩; subst w1)
    | (go_at_call 71; (with_reducible refine (HFD.out).mono ?_); rintro e w1 ⟨rfl, hb1⟩; (have hbe := hb1.alloc hb1.size (.cells #[.int .u8 (x.k : Int), .string x.n, .string x.a, .string x.b, .string x.c, .string x.d, .float .f64 x.v, .int .i64 x.ph] 57)); (obtain ⟨we, hwe⟩ : ∃ we, w1.alloc (.cells #[.int .u8 (x.k : Int), .string x.n, .string x.a, .string x.b, .string x.c, .string x.d, .float .f64 x.v, .int .i64 x.ph] 57) = we := ⟨_, rfl⟩); (obtain ⟨qe, hqe⟩ : ∃ qe, w1.heap.size = qe := ⟨_, rfl⟩); (have hel := heap_alloc_new w1 (.cells #[.int .u8 (x.k : Int), .string x.n, .string x.a, .string x.b, .string x.c, .string x.d, .float .f64 x.v, .int .i64 x.ph] 57)); rw [hwe] at hbe hel; rw [hqe] at hel; (obtain ⟨⟨d0, d1, d2, d3, d4, d5, d6, d7⟩, z8⟩ := eight hel); (have hzq : qe < we.heap.size := (by rw [← hqe, ← hwe]; simp)); (have hz0 : wF.heap.size ≤ qe := (by rw [← hqe]; exact hb1.size)); (have HB1 := hidS hbe); (have HEL := hidS (And.intro hel (And.intro hzq hz0))); clear hb1 hbe hel z8 hzq hz0)
    | (go_at_call 64; (with_reducible refine (HCB.out _ HB1.out).mono ?_); rintro e w2 ⟨g, rfl, hrow, hb2⟩; (have HD2 : Hid (Dq we w2 m g noC) := ⟨hb2, hrow, (by obtain ⟨xs, q1, _⟩ := hrow; exact (q1.own.lt g rfl).1)⟩); (have HE2 : Hid (w2.heap[qe]? = some (.cells #[.int .u8 (x.k : Int), .string x.n, .string x.a, .string x.b, .string x.c, .string x.d, .float .f64 x.v, .int .i64 x.ph] 57 (0, 0))) := (by rw [hb2.block qe HEL.out.2.1]; exact HEL.out.1)); (obtain ⟨⟨d0, d1, d2, d3, d4, d5, d6, d7⟩, z8⟩ := eight HE2.out); clear hb2 hrow z8))
  clear d0 d1 d3 d4 d5 d6 d7
  refine (HPA.out _ (HB1.out.trans (HD2.out.bel.mono HB1.out.size))).mono ?_
  rintro e3 w3 ⟨rfl, hb3⟩
  have HD3 := hidS (HD2.out.on hb3)
  have HE3 : Hid (w3.heap[qe]? = some (.cells #[.int .u8 (x.k : Int), .string x.n, .string x.a, .string x.b, .string x.c, .string x.d, .float .f64 x.v, .int .i64 x.ph] 57 (0, 0))) := by rw [hb3.block qe (Nat.lt_of_lt_of_le HEL.out.2.1 HD2.out.bel.size)]; exact HE2.out
  clear hb3 d2
  obtain ⟨⟨d0, d1, d2, d3, d4, d5, d6, d7⟩, z8⟩ := eight HE3.out
  clear z8
  go_wp2_with fail
  clear d0 d1 d2 d3 d4 d5 d6 d7
  refine (HPB.out _ (HB1.out.trans (HD3.out.bel.mono HB1.out.size))).mono ?_
  rintro e4 w4 ⟨rfl, hb4⟩
  have HD_w4 := hidS (HD3.out.on hb4)
  clear hb4 HD3 HD2 HE2 HE3 HPA HPB HCB HFD HCM
  cases ba
  · cases bb
    · skip
      clear hpam
      clear hpbm
      have HQ : Hid (Dq we w4 m g (drR N x)) := by
        rw [HRE.out, pQ_f, pQ_f]
        rw [rput_no, rput_no]
        exact HD_w4.out
      have hFr : w4.heap[F]? = some (.cells #[.int .i64 0, .int .i64 0] 29 (0, 0)) := by
        rw [HQ.out.bel.block F (by have := HF.out.2.1; have := HB1.out.size; omega), HB1.out.block F (by have := HF.out.2.1; omega)]; exact HF.out.1
      obtain ⟨z0, z1, z2, z3⟩ := tw_c hFr
      obtain ⟨y0, y1⟩ := tw_set hFr (.int .i64 0) (.int .i64 0)
      go_wp2_with fail
      (try simp only [Exit.inBlock, Exit.then])
      refine bodyPost_ret (by simp [results, Try.results28, go_sem, y0, y1]; try rfl) rfl ?_
      have hw0 := HF.out.2.2.2
      have hw1 := HF.out.2.1
      have hw2 := HB1.out.size
      refine ⟨_, rfl, ?_, tw_bel ?_ (by omega) _ _⟩
      · rw [HMM.out]
        refine (HQ.out.row.but (fun q k1 k2 => ?_)).lower (by omega)
        rw [heap_setCell_other _ _ _ _ (by simp; omega), heap_setCell_other _ _ _ _ (by simp; omega)]
      · exact ((HF.out.2.2.1.mono (by omega)).trans (HB1.out.mono (by omega))).trans (HQ.out.bel.mono (by omega))
    · skip
      clear hpam
      have hpbm := hpbm rfl
      obtain ⟨tB, hcB, hzB, hrB⟩ := HD_w4.out.get (i := pb) (by omega)
      have HTB := hidS hrB
      clear hrB
      unfold cx at hcB
      go_wp2_with fail
      refine (op2_rsub _ tB (4607182418800017408, 0) HTB.out.ok o1_ok).mono ?_
      rintro eB wdB ⟨rB, kB, rfl, hqB, hwB⟩
      rw [HTB.out.anz] at hqB
      have HD_wdB := hidS (HD_w4.out.dN kB)
      rw [← hwB] at HD_wdB
      have HQB := hidS hqB
      clear hcB hzB hqB hwB
      obtain ⟨uB, hcB, hzB, hrB⟩ := HD_wdB.out.get (i := pb) (by omega)
      clear hrB
      have HD_wB := hidS (HD_wdB.out.put (op := subZ) (i := pb) (Y := o1) (by omega) HQB.out)
      unfold cx at HD_wB
      obtain ⟨wB, hwB⟩ : ∃ W, wdB.setCell ⟨g, pb, none⟩ (.complex .f64 rB.1 rB.2) = W := ⟨_, rfl⟩
      rw [hwB] at HD_wB
      have HQ : Hid (Dq we wB m g (drR N x)) := by
        rw [HRE.out, pQ_t, pQ_f]
        rw [rput_no]
        exact HD_wB.out
      have hFr : wB.heap[F]? = some (.cells #[.int .i64 0, .int .i64 0] 29 (0, 0)) := by
        rw [HQ.out.bel.block F (by have := HF.out.2.1; have := HB1.out.size; omega), HB1.out.block F (by have := HF.out.2.1; omega)]; exact HF.out.1
      obtain ⟨z0, z1, z2, z3⟩ := tw_c hFr
      obtain ⟨y0, y1⟩ := tw_set hFr (.int .i64 0) (.int .i64 0)
      go_wp2_with fail
      (try simp only [Exit.inBlock, Exit.then])
      refine bodyPost_ret (by simp [results, Try.results28, go_sem, y0, y1]; try rfl) rfl ?_
      have hw0 := HF.out.2.2.2
      have hw1 := HF.out.2.1
      have hw2 := HB1.out.size
      refine ⟨_, rfl, ?_, tw_bel ?_ (by omega) _ _⟩
      · rw [HMM.out]
        refine (HQ.out.row.but (fun q k1 k2 => ?_)).lower (by omega)
        rw [heap_setCell_other _ _ _ _ (by simp; omega), heap_setCell_other _ _ _ _ (by simp; omega)]
      · exact ((HF.out.2.2.1.mono (by omega)).trans (HB1.out.mono (by omega))).trans (HQ.out.bel.mono (by omega))
  · cases bb
    · skip
      have hpam := hpam rfl
      clear hpbm
      obtain ⟨tA, hcA, hzA, hrA⟩ := HD_w4.out.get (i := pa) (by omega)
      have HTA := hidS hrA
      clear hrA
      unfold cx at hcA
      go_wp2_with fail
      refine (op2_radd _ tA (4607182418800017408, 0) HTA.out.ok o1_ok).mono ?_
      rintro eA wdA ⟨rA, kA, rfl, hqA, hwA⟩
      rw [HTA.out.anz] at hqA
      have HD_wdA := hidS (HD_w4.out.dN kA)
      rw [← hwA] at HD_wdA
      have HQA := hidS hqA
      clear hcA hzA hqA hwA
      obtain ⟨uA, hcA, hzA, hrA⟩ := HD_wdA.out.get (i := pa) (by omega)
      clear hrA
      have HD_wA := hidS (HD_wdA.out.put (op := addZ) (i := pa) (Y := o1) (by omega) HQA.out)
      unfold cx at HD_wA
      obtain ⟨wA, hwA⟩ : ∃ W, wdA.setCell ⟨g, pa, none⟩ (.complex .f64 rA.1 rA.2) = W := ⟨_, rfl⟩
      rw [hwA] at HD_wA
      have HQ : Hid (Dq we wA m g (drR N x)) := by
        rw [HRE.out, pQ_f, pQ_t]
        rw [rput_no]
        exact HD_wA.out
      have hFr : wA.heap[F]? = some (.cells #[.int .i64 0, .int .i64 0] 29 (0, 0)) := by
        rw [HQ.out.bel.block F (by have := HF.out.2.1; have := HB1.out.size; omega), HB1.out.block F (by have := HF.out.2.1; omega)]; exact HF.out.1
      obtain ⟨z0, z1, z2, z3⟩ := tw_c hFr
      obtain ⟨y0, y1⟩ := tw_set hFr (.int .i64 0) (.int .i64 0)
      go_wp2_with fail
      (try simp only [Exit.inBlock, Exit.then])
      refine bodyPost_ret (by simp [results, Try.results28, go_sem, y0, y1]; try rfl) rfl ?_
      have hw0 := HF.out.2.2.2
      have hw1 := HF.out.2.1
      have hw2 := HB1.out.size
      refine ⟨_, rfl, ?_, tw_bel ?_ (by omega) _ _⟩
      · rw [HMM.out]
        refine (HQ.out.row.but (fun q k1 k2 => ?_)).lower (by omega)
        rw [heap_setCell_other _ _ _ _ (by simp; omega), heap_setCell_other _ _ _ _ (by simp; omega)]
      · exact ((HF.out.2.2.1.mono (by omega)).trans (HB1.out.mono (by omega))).trans (HQ.out.bel.mono (by omega))
    · skip
      have hpam := hpam rfl
      have hpbm := hpbm rfl
      obtain ⟨tA, hcA, hzA, hrA⟩ := HD_w4.out.get (i := pa) (by omega)
      have HTA := hidS hrA
      clear hrA
      unfold cx at hcA
      go_wp2_with fail
      refine (op2_radd _ tA (4607182418800017408, 0) HTA.out.ok o1_ok).mono ?_
      rintro eA wdA ⟨rA, kA, rfl, hqA, hwA⟩
      rw [HTA.out.anz] at hqA
      have HD_wdA := hidS (HD_w4.out.dN kA)
      rw [← hwA] at HD_wdA
      have HQA := hidS hqA
      clear hcA hzA hqA hwA
      obtain ⟨uA, hcA, hzA, hrA⟩ := HD_wdA.out.get (i := pa) (by omega)
      clear hrA
      have HD_wA := hidS (HD_wdA.out.put (op := addZ) (i := pa) (Y := o1) (by omega) HQA.out)
      unfold cx at HD_wA
      obtain ⟨wA, hwA⟩ : ∃ W, wdA.setCell ⟨g, pa, none⟩ (.complex .f64 rA.1 rA.2) = W := ⟨_, rfl⟩
      rw [hwA] at HD_wA
      obtain ⟨tB, hcB, hzB, hrB⟩ := HD_wA.out.get (i := pb) (by omega)
      have HTB := hidS hrB
      clear hrB
      unfold cx at hcB
      go_wp2_with fail
      refine (op2_rsub _ tB (4607182418800017408, 0) HTB.out.ok o1_ok).mono ?_
      rintro eB wdB ⟨rB, kB, rfl, hqB, hwB⟩
      rw [HTB.out.anz] at hqB
      have HD_wdB := hidS (HD_wA.out.dN kB)
      rw [← hwB] at HD_wdB
      have HQB := hidS hqB
      clear hcB hzB hqB hwB
      obtain ⟨uB, hcB, hzB, hrB⟩ := HD_wdB.out.get (i := pb) (by omega)
      clear hrB
      have HD_wB := hidS (HD_wdB.out.put (op := subZ) (i := pb) (Y := o1) (by omega) HQB.out)
      unfold cx at HD_wB
      obtain ⟨wB, hwB⟩ : ∃ W, wdB.setCell ⟨g, pb, none⟩ (.complex .f64 rB.1 rB.2) = W := ⟨_, rfl⟩
      rw [hwB] at HD_wB
      have HQ : Hid (Dq we wB m g (drR N x)) := by
        rw [HRE.out, pQ_t, pQ_t]
        exact HD_wB.out
      have hFr : wB.heap[F]? = some (.cells #[.int .i64 0, .int .i64 0] 29 (0, 0)) := by
        rw [HQ.out.bel.block F (by have := HF.out.2.1; have := HB1.out.size; omega), HB1.out.block F (by have := HF.out.2.1; omega)]; exact HF.out.1
      obtain ⟨z0, z1, z2, z3⟩ := tw_c hFr
      obtain ⟨y0, y1⟩ := tw_set hFr (.int .i64 0) (.int .i64 0)
      go_wp2_with fail
      (try simp only [Exit.inBlock, Exit.then])
      refine bodyPost_ret (by simp [results, Try.results28, go_sem, y0, y1]; try rfl) rfl ?_
      have hw0 := HF.out.2.2.2
      have hw1 := HF.out.2.1
      have hw2 := HB1.out.size
      refine ⟨_, rfl, ?_, tw_bel ?_ (by omega) _ _⟩
      · rw [HMM.out]
        refine (HQ.out.row.but (fun q k1 k2 => ?_)).lower (by omega)
        rw [heap_setCell_other _ _ _ _ (by simp; omega), heap_setCell_other _ _ _ _ (by simp; omega)]
      · exact ((HF.out.2.2.1.mono (by omega)).trans (HB1.out.mono (by omega))).trans (HQ.out.bel.mono (by omega))
end Go.Proofs.Ytpjpamdocfdibaa
