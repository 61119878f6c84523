/-
  The document's Matrix of a net that is made: it is what the program's is.
-/
import Derived.Test.YtmhplaanpbpndaaSea
import Derived.Test.YtmhplaanpbpndaaStma
namespace Go.Proofs.Ytmhplaanpbpndaa
open Fl Go.Maps RowKit Joins Deep
set_option linter.unusedVariables false
set_option maxRecDepth 20000
theorem Dn.sl {w : World} {p : Nat} {l : List Elm} (h : Dn w p l) : ∃ A c, w.cell? ⟨p, 0, none⟩ = some (.slice A l.length c) ∧ ∀ (i : Nat) (x : Elm), l[i]? = some x → ∃ b, A = some ⟨b, 0, none⟩ ∧ E8 w b (i * 8) x := by
  obtain ⟨v, h1, ⟨rfl, rfl⟩ | ⟨b, c, rfl, h2⟩⟩ := h.v
  · exact ⟨none, 0, h1, fun i x hx => by simp at hx⟩
  · refine ⟨_, c, h1, fun i x hx => ⟨b, rfl, ?_⟩⟩
    have hc : ∀ c v, c < 8 → (elC x)[c]? = some v → w.cell? ⟨b, i * 8 + c, none⟩ = some v := fun c v h3 h4 => h2 _ _ (by rw [elCs_get hx h3]; exact h4)
    exact ⟨hc 0 _ (by omega) rfl, hc 1 _ (by omega) rfl, hc 2 _ (by omega) rfl, hc 3 _ (by omega) rfl, hc 4 _ (by omega) rfl, hc 5 _ (by omega) rfl, hc 6 _ (by omega) rfl, hc 7 _ (by omega) rfl⟩
theorem stL_end {N : Ns} {o i : Nat} {S : Sh} (h : N.es.length ≤ i) : stL N o S i (N.es.drop i) = ((0, 0), S) := by rw [List.drop_eq_nil_of_le h]; rfl
theorem stL_step {N : Ns} {o i : Nat} {S : Sh} {x : Elm} (h : N.es[i]? = some x) : stL N o S i (N.es.drop i) = if stR o x ≠ 0 then ((stR o x, (i : Int)), S) else if (stE N o x S).ov = true then ((6, (i : Int)), stE N o x S) else stL N o (stE N o x S) (i + 1) (N.es.drop (i + 1)) := by
  rw [List.drop_eq_getElem?_toList_append, h]
  rfl
/-- the document's sheet as Matrix lays it -/
theorem dh_new {w : World} {base s m : Nat} (h : w.heap[s]? = some (.cells #[.int .i64 (m : Int), .slice none 0 0, .bool false] 88 (0, 0))) (hl : base ≤ s) (hm : m ≤ 64) :
    Dh ((w.alloc (.cells (madeCells #[.complex .f64 0 0] (m * m)) 75)).setCell ⟨s, 1, none⟩ (.slice (some ⟨w.heap.size, 0, none⟩) (m * m) (m * m))).drew base s (.slice (some ⟨w.heap.size, 0, none⟩) (m * m) (m * m)) m Sh.zero := by
  have hs : s < w.heap.size := lt_of_some h
  have e1 : (w.alloc (.cells (madeCells #[.complex .f64 0 0] (m * m)) 75)).heap[s]? = some (.cells #[.int .i64 (m : Int), .slice none 0 0, .bool false] 88 (0, 0)) := by rw [(bal w _).block s hs]; exact h
  have e2 : ((w.alloc (.cells (madeCells #[.complex .f64 0 0] (m * m)) 75)).setCell ⟨s, 1, none⟩ (.slice (some ⟨w.heap.size, 0, none⟩) (m * m) (m * m))).heap[s]? = some (.cells #[.int .i64 (m : Int), .slice (some ⟨w.heap.size, 0, none⟩) (m * m) (m * m), .bool false] 88 (0, 0)) := set_at e1 rfl
  have hr : Nr (w.alloc (.cells (madeCells #[.complex .f64 0 0] (m * m)) 75)) w.heap.size (.slice (some ⟨w.heap.size, 0, none⟩) (m * m) (m * m)) (m * m) noC := nr_made (by have := Nat.mul_le_mul hm hm; omega) (Nat.le_refl _)
  have hr2 := hr.but (w' := (w.alloc (.cells (madeCells #[.complex .f64 0 0] (m * m)) 75)).setCell ⟨s, 1, none⟩ (.slice (some ⟨w.heap.size, 0, none⟩) (m * m) (m * m))) (fun q k1 k2 => heap_setCell_other _ _ _ _ (by simp; omega))
  obtain ⟨h0, h1, h2, h3, h4, h5⟩ := th_c e2
  have hb := fun W : World => (Below.refl W.heap.size W).drew
  exact ⟨h0, h1, h2, h5, ((hr2.on (hb _)).lower (by omega)).congr (fun _ _ => rfl), by simp [Value.ownBlock]; omega, hl, hm⟩
theorem rw_lt {N : Ns} (hm : Md N) {m : Nat} (hmm : N.nd.length + N.br.length = m) {x : Elm} (hx : x ∈ N.es) (hk : x.k = 5 ∨ x.k = 7) : 0 ≤ rwI N x ∧ rwI N x < (m : Int) := by
  have h1 : bl x.n ∈ N.br := by
    rw [hm.brR]
    exact List.mem_map.2 ⟨x, List.mem_filter.2 ⟨hx, by unfold isB; rcases hk with h | h <;> rw [h] <;> rfl⟩, rfl⟩
  have h2 := posL_lt h1
  unfold rwI
  omega
set_option maxHeartbeats 8000000 in
theorem dmatrix_any {w : World} {p : Nat} {N : Ns} (h : Dn w p N.es) (hm : Md N) {o : Nat} (ho : o < 18446744073709551616) :
    Calls Try.prog 10 #[.pointer (some ⟨p, 0, none⟩), .float .f64 o] w (MxP w N o) := by
  have HM := hidS (And.intro hm ho)
  have hwb : Below w.heap.size w ((w.alloc (.cells #[.int .i64 0, .int .i64 0, .slice none 0 0] 39)).alloc (.cells #[.int .i64 0, .int .i64 0] 29)) := (bal w _).alloc (bal w _).size _
  have hw1 := heap_alloc_new w (.cells #[.int .i64 0, .int .i64 0, .slice none 0 0] 39)
  have hs1 : (w.alloc (.cells #[.int .i64 0, .int .i64 0, .slice none 0 0] 39)).heap.size = w.heap.size + 1 := by simp
  obtain ⟨wR, hwR⟩ : ∃ wR, w.alloc (.cells #[.int .i64 0, .int .i64 0, .slice none 0 0] 39) = wR := ⟨_, rfl⟩
  rw [hwR] at hwb hw1 hs1
  have hw2 := heap_alloc_new wR (.cells #[.int .i64 0, .int .i64 0] 29)
  have hs2 : (wR.alloc (.cells #[.int .i64 0, .int .i64 0] 29)).heap.size = wR.heap.size + 1 := by simp
  have hw3 : (wR.alloc (.cells #[.int .i64 0, .int .i64 0] 29)).heap[w.heap.size]? = some (.cells #[.int .i64 0, .int .i64 0, .slice none 0 0] 39 (0, 0)) := by rw [(bal wR _).block _ (by omega)]; exact hw1
  obtain ⟨wF, hwF⟩ : ∃ wF, wR.alloc (.cells #[.int .i64 0, .int .i64 0] 29) = wF := ⟨_, rfl⟩
  rw [hwF] at hwb hw2 hs2 hw3
  obtain ⟨R, hR⟩ : ∃ R, w.heap.size = R := ⟨_, rfl⟩
  obtain ⟨F, hF⟩ : ∃ F, wR.heap.size = F := ⟨_, rfl⟩
  rw [hF] at hw2 hs2 hs1
  rw [hR] at hw3 hs1
  have HF : Hid (wF.heap[R]? = some (.cells #[.int .i64 0, .int .i64 0, .slice none 0 0] 39 (0, 0)) ∧ wF.heap[F]? = some (.cells #[.int .i64 0, .int .i64 0] 29 (0, 0)) ∧ wF.heap.size = F + 1 ∧ F = R + 1 ∧ w.heap.size = R ∧ Below w.heap.size w wF) := ⟨hw3, hw2, hs2, hs1, hR, hwb⟩
  have HN0 := hidS (h.below hwb)
  have HFR := hidS (rang_any o wF ho)
  clear hw1 hw2 hw3 hs1 hs2 hwb h hm
  have hmade := HN0.out.made
  obtain ⟨m, hmm⟩ : ∃ m, N.nd.length + N.br.length = m := ⟨_, rfl⟩
  have HMM := hidS hmm
  have hm9 : m ≤ 64 := by have := HM.out.1.nb; omega
  clear hmm
  by_cases hf : frI o = 0
  · have HA : Hid (stA N o = stL N o Sh.zero 0 N.es) := by
      show _ = _
      unfold stA; rw [if_neg (by simp [hf])]
    rw [hf] at HFR
    clear hf
    go_enter Try.func10, Try.ntmps10
    go_wp2_with fail
    refine HFR.out.mono ?_
    rintro e1 w1 ⟨n1, rfl, hw1⟩
    have HB1 : Hid (Below wF.heap.size wF w1) := by rw [hw1]; exact below_dN (Below.refl _ _) n1
    clear hw1 HFR hmade
    have HO := hidS (dorder (HN0.out.below HB1.out))
    rw [← HM.out.1.ndR, ← HM.out.1.brR, HMM.out] at HO
    go_wp2_with fail
    refine HO.out.mono ?_
    rintro e2 w2 ⟨rfl, hb2⟩
    have HB2 := hidS (HB1.out.trans (hb2.mono HB1.out.size))
    clear hb2 HO HB1
    obtain ⟨wS, hwS⟩ : ∃ W, w2.alloc (.cells #[.int .i64 (m : Int), .slice none 0 0, .bool false] 88) = W := ⟨_, rfl⟩
    obtain ⟨s, hs⟩ : ∃ s, w2.heap.size = s := ⟨_, rfl⟩
    have HS1 : Hid (wS.heap[s]? = some (.cells #[.int .i64 (m : Int), .slice none 0 0, .bool false] 88 (0, 0)) ∧ wS.heap.size = s + 1 ∧ Below w2.heap.size w2 wS) := by
      show _ ∧ _ ∧ _
      rw [← hwS, ← hs]
      exact ⟨heap_alloc_new w2 _, by simp, bal w2 _⟩
    go_wp2_with fail
    have c0 : wS.cell? ⟨s, 0, none⟩ = some (.int .i64 (m : Int)) := cell_of_row wS s 0 _ _ (0, 0) HS1.out.1
    have c1 : wS.cell? ⟨s, 1, none⟩ = some (.slice none 0 0) := cell_of_row wS s 1 _ _ (0, 0) HS1.out.1
    have hmm4 : m * m ≤ 4096 := Nat.mul_le_mul hm9 hm9
    obtain ⟨k, hk⟩ : ∃ k, m * m = k := ⟨_, rfl⟩
    have hmi : (m : Int) * (m : Int) = (k : Int) := by rw [← hk]; push_cast; rfl
    have HK := hidS hk
    have hk9 : k ≤ 4096 := by omega
    clear hk hmm4
    have hwk : IntKind.i64.wrap (k : Int) = (k : Int) := by rw [IntKind.wrap_i64]; omega
    have HMK := fun W => run_mkC k (by omega) W
    have HST2 : Hid (∀ O, Below wS.heap.size wS (wS.alloc O) ∧ (wS.alloc O).heap[s]? = some (.cells #[.int .i64 (m : Int), .slice none 0 0, .bool false] 88 (0, 0))) := fun O => by
      have e := bal wS O
      exact ⟨e, by rw [e.block s (by have := HS1.out.2.1; omega)]; exact HS1.out.1⟩
    have hst := fun O => (th_c (HST2.out O).2).2.1
    have hfz := fun O => (th_c (HST2.out O).2).2.2.2.2.1
    go_region
    obtain ⟨g, hg⟩ : ∃ g, wS.heap.size = g := ⟨_, rfl⟩
    rw [hg]
    obtain ⟨W7, hW7⟩ : ∃ W, ((wS.alloc (.cells (madeCells #[.complex .f64 0 0] k) 75)).setCell ⟨s, 1, none⟩ (.slice (some ⟨g, 0, none⟩) k k)).drew = W := ⟨_, rfl⟩
    have HDK : Hid (Dk wF W7 p N.es s (.slice (some ⟨g, 0, none⟩) k k) m Sh.zero) := by
      show Dk _ _ _ _ _ _ _ _
      have hls : wF.heap.size ≤ s := by rw [← hs]; exact HB2.out.size
      rw [← hW7, ← HK.out, ← hg]
      exact ⟨HN0.out, (((HB2.out.trans (HS1.out.2.2.mono HB2.out.size)).alloc (HB2.out.trans (HS1.out.2.2.mono HB2.out.size)).size _).setCell (p := ⟨s, 1, none⟩) hls _).drew, dh_new HS1.out.1 hls hm9⟩
    rw [hW7]
    clear hW7 hg HST2 hst hfz HMK c0 c1 hwS hs HS1 hmi hwk
    obtain ⟨V, hV⟩ : ∃ V, Value.slice (some ⟨g, 0, none⟩) k k = V := ⟨_, rfl⟩
    obtain ⟨n, hn⟩ : ∃ n, N.es.length = n := ⟨_, rfl⟩
    have HN := hidS hn
    have hn9 : n ≤ 256 := by have := HM.out.1.ln; omega
    have HT0 : Hid (∃ S, Dk wF W7 p N.es s (.slice (some ⟨g, 0, none⟩) k k) m S ∧ stL N o S 0 (N.es.drop 0) = stL N o Sh.zero 0 N.es ∧ S.ov = false) := ⟨Sh.zero, HDK.out, rfl, rfl⟩
    clear hn HDK hV
    go_wp2_with fail
    go_loopw [8] (fun iv wr => ∃ (i : Nat), i ≤ n ∧ iv = .int .i64 i ∧ Hid (∃ S, Dk wF wr p N.es s (.slice (some ⟨g, 0, none⟩) k k) m S ∧ stL N o S i (N.es.drop i) = stL N o Sh.zero 0 N.es ∧ S.ov = false)) (fun iv _ => n - (intOf iv).toNat)
    case atStart => exact ⟨0, Nat.zero_le _, rfl, HT0⟩
    case round =>
      obtain ⟨i, hle, rfl, HI0⟩ := hrel
      clear HT0
      obtain ⟨S, hDk, hrest, hov⟩ := HI0.out
      have HI := hidS hDk
      have HRS := hidS (And.intro hrest hov)
      clear hDk hrest hov HI0
      obtain ⟨A, cA, hsl, hel⟩ := HI.out.nt.sl
      rw [HN.out] at hsl
      by_cases hlt : i < n
      · have hli : (i : Int) < (n : Int) := by omega
        obtain ⟨x, hx⟩ : ∃ x, N.es[i]? = some x := ⟨_, List.getElem?_eq_getElem (by have := HN.out; omega)⟩
        obtain ⟨ga, rfl, hE⟩ := hel i x hx
        obtain ⟨c0, c1, c2, c3, c4, c5, c6, c7⟩ := hE
        have HXM := hidS (List.mem_of_getElem? hx)
        have HX := hidS hx
        clear hx hel
        have hkd := HM.out.1.kd HXM.out
        have HST := hidS (dstamp_any HI.out (HM.out.1.ok x HXM.out) HM.out.2 (by omega) HM.out.1.ndR HM.out.1.brR (by have h1 := HM.out.1.ndR; have h2 := HMM.out; rw [← h1]; omega) (fun q => Or.inr (rw_lt HM.out.1 HMM.out HXM.out q)))
        unfold elV at HST
        go_wp2_with fail
        refine HST.out.mono ?_
        rintro e4 w4 ⟨hbad, hgo⟩
        clear c0 c1 c2 c3 c4 c5 c6 c7 HST hsl
        by_cases hR : stR o x = 0
        · obtain ⟨he4, hd4⟩ := hgo hR
          obtain ⟨ov, hov⟩ : ∃ ov, (stE N o x S).ov = ov := ⟨_, rfl⟩
          rw [hov] at he4
          have HD4 := hidS hd4
          have HR0 := hidS hR
          have HOV := hidS hov
          have HBK : Hid (Below wF.heap.size wF w4) := hd4.bel
          clear hbad hgo hd4 hov hR
          cases ov
          · obtain rfl := he4
            have HI1 : Hid (∃ S', Dk wF w4 p N.es s (.slice (some ⟨g, 0, none⟩) k k) m S' ∧ stL N o S' (i + 1) (N.es.drop (i + 1)) = stL N o Sh.zero 0 N.es ∧ S'.ov = false) :=
              ⟨stE N o x S, HD4.out, by rw [← HRS.out.1, stL_step HX.out, if_neg (by simp [HR0.out]), if_neg (by simp [HOV.out])], HOV.out⟩
            go_wp2_with fail
            go_roundw
            case rel => exact ⟨i + 1, by omega, by go_num, HI1⟩
            case measure => simp [intOf]; omega
          · obtain rfl := he4
            obtain ⟨er, her⟩ : ∃ er : Int, er = 6 := ⟨_, rfl⟩
            have HA2 : Hid ((stA N o).1 = (er, (i : Int)) ∧ er ≠ 0) := by
              show _ ∧ _
              rw [HA.out, ← HRS.out.1, stL_step HX.out, if_neg (by simp [HR0.out]), if_pos HOV.out, her]; exact ⟨rfl, by decide⟩
            rw [if_pos rfl, ← her]
            have hq : (er != 0) = true := by simp [HA2.out.2]
            clear her
            have HRX : Hid (w4.heap[R]? = some (.cells #[.int .i64 0, .int .i64 0, .slice none 0 0] 39 (0, 0)) ∧ w4.heap[F]? = some (.cells #[.int .i64 0, .int .i64 0] 29 (0, 0)) ∧ Below w.heap.size w w4) := by
              have e1 := HF.out.2.2.1
              have e2 := HF.out.2.2.2.1
              have e3 := HF.out.2.2.2.2.1
              refine ⟨?_, ?_, ?_⟩
              · rw [HBK.out.block R (by omega)]; exact HF.out.1
              · rw [HBK.out.block F (by omega)]; exact HF.out.2.1
              · exact HF.out.2.2.2.2.2.trans (HBK.out.mono (by omega))
            obtain ⟨z0, z1, z2, z3, z4, z5⟩ := th_c HRX.out.1
            obtain ⟨x0, x1, x2, x3⟩ := tw_c HRX.out.2.1
            have hrf := rf_of HRX.out.1 HRX.out.2.1 (by have := HF.out.2.2.2.1; omega) (.int .i64 0) (.int .i64 0) (.slice none 0 0) (.int .i64 er) (.int .i64 (i : Int))
            obtain ⟨g0, g1, g2, g3⟩ := hrf.g
            rw [x0] at g0
            rw [x1] at g1
            have HRF2 := hidS hrf
            have HE9 := hidS (tw_bel (th_bel HRX.out.2.2 (Nat.le_of_eq HF.out.2.2.2.2.1) (.int .i64 0) (.int .i64 0) (.slice none 0 0)) (f := F) (by have := HF.out.2.2.2.1; have := HF.out.2.2.2.2.1; omega) (.int .i64 er) (.int .i64 (i : Int)))
            clear hrf
            go_wp2_with fail
            obtain ⟨r0, r1, r2⟩ := HRF2.out.r
            obtain ⟨t0, t1⟩ := HRF2.out.t
            (try simp only [Exit.inBlock, Exit.then])
            refine bodyPost_ret (by simp [results, Try.results10, go_sem, r0, r1, r2, t0, t1]; try rfl) rfl ?_
            refine ⟨HE9.out, .inr ⟨by rw [HA2.out.1]; exact HA2.out.2, by rw [HA2.out.1]⟩⟩
        · obtain ⟨rfl, hb4⟩ := hbad hR
          have HBK := hidS hb4
          have HA2 : Hid ((stA N o).1 = (stR o x, (i : Int)) ∧ stR o x ≠ 0) := by
            show _ ∧ _
            rw [HA.out, ← HRS.out.1, stL_step HX.out, if_pos hR]; exact ⟨rfl, hR⟩
          obtain ⟨er, her⟩ : ∃ er, stR o x = er := ⟨_, rfl⟩
          rw [her] at HA2
          rw [her]
          have hq : (er != 0) = true := by simp [HA2.out.2]
          clear her hR hbad hgo hb4
          have HRX : Hid (w4.heap[R]? = some (.cells #[.int .i64 0, .int .i64 0, .slice none 0 0] 39 (0, 0)) ∧ w4.heap[F]? = some (.cells #[.int .i64 0, .int .i64 0] 29 (0, 0)) ∧ Below w.heap.size w w4) := by
            have e1 := HF.out.2.2.1
            have e2 := HF.out.2.2.2.1
            have e3 := HF.out.2.2.2.2.1
            refine ⟨?_, ?_, ?_⟩
            · rw [HBK.out.block R (by omega)]; exact HF.out.1
            · rw [HBK.out.block F (by omega)]; exact HF.out.2.1
            · exact HF.out.2.2.2.2.2.trans (HBK.out.mono (by omega))
          obtain ⟨z0, z1, z2, z3, z4, z5⟩ := th_c HRX.out.1
          obtain ⟨x0, x1, x2, x3⟩ := tw_c HRX.out.2.1
          have hrf := rf_of HRX.out.1 HRX.out.2.1 (by have := HF.out.2.2.2.1; omega) (.int .i64 0) (.int .i64 0) (.slice none 0 0) (.int .i64 er) (.int .i64 (i : Int))
          obtain ⟨g0, g1, g2, g3⟩ := hrf.g
          rw [x0] at g0
          rw [x1] at g1
          have HRF2 := hidS hrf
          have HE9 := hidS (tw_bel (th_bel HRX.out.2.2 (Nat.le_of_eq HF.out.2.2.2.2.1) (.int .i64 0) (.int .i64 0) (.slice none 0 0)) (f := F) (by have := HF.out.2.2.2.1; have := HF.out.2.2.2.2.1; omega) (.int .i64 er) (.int .i64 (i : Int)))
          clear hrf
          go_wp2_with fail
          obtain ⟨r0, r1, r2⟩ := HRF2.out.r
          obtain ⟨t0, t1⟩ := HRF2.out.t
          (try simp only [Exit.inBlock, Exit.then])
          refine bodyPost_ret (by simp [results, Try.results10, go_sem, r0, r1, r2, t0, t1]; try rfl) rfl ?_
          refine ⟨HE9.out, .inr ⟨by rw [HA2.out.1]; exact HA2.out.2, by rw [HA2.out.1]⟩⟩
      · have ei : i = n := by omega
        subst ei
        have hnlt : ¬ ((i : Int) < (i : Int)) := by omega
        have HA2 : Hid (stA N o = ((0, 0), S)) := by
          show _ = _
          rw [HA.out, ← HRS.out.1, stL_end (by have := HN.out; omega)]
        have HBK := hidS HI.out.bel
        have s0 := HI.out.dh.c0
        have s1 := HI.out.dh.c1
        have hFs : F < s := by have := HI.out.dh.lo; have := HF.out.2.2.1; omega
        have hRs : R < s := by have := HF.out.2.2.2.1; omega
        have HRX : Hid (wr.heap[R]? = some (.cells #[.int .i64 0, .int .i64 0, .slice none 0 0] 39 (0, 0)) ∧ wr.heap[F]? = some (.cells #[.int .i64 0, .int .i64 0] 29 (0, 0)) ∧ Below w.heap.size w wr) := by
          have e1 := HF.out.2.2.1
          have e2 := HF.out.2.2.2.1
          have e3 := HF.out.2.2.2.2.1
          refine ⟨?_, ?_, ?_⟩
          · rw [HBK.out.block R (by omega)]; exact HF.out.1
          · rw [HBK.out.block F (by omega)]; exact HF.out.2.1
          · exact HF.out.2.2.2.2.2.trans (HBK.out.mono (by omega))
        obtain ⟨z0, z1, z2, z3, z4, z5⟩ := th_c HRX.out.1
        obtain ⟨x0, x1, x2, x3⟩ := tw_c HRX.out.2.1
        have hrf := rf_of HRX.out.1 HRX.out.2.1 (by have := HF.out.2.2.2.1; omega) (.int .i64 (m : Int)) (.int .i64 (m : Int)) (.slice (some ⟨g, 0, none⟩) k k) (.int .i64 0) (.int .i64 0)
        obtain ⟨g0, g1, g2, g3⟩ := hrf.g
        rw [x0] at g0
        rw [x1] at g1
        have HRF2 := hidS hrf
        have HE9 := hidS (tw_bel (th_bel HRX.out.2.2 (Nat.le_of_eq HF.out.2.2.2.2.1) (.int .i64 (m : Int)) (.int .i64 (m : Int)) (.slice (some ⟨g, 0, none⟩) k k)) (f := F) (by have := HF.out.2.2.2.1; have := HF.out.2.2.2.2.1; omega) (.int .i64 0) (.int .i64 0))
        clear hrf
        go_wp2_with fail
        go_region
        obtain ⟨r0, r1, r2⟩ := HRF2.out.r
        obtain ⟨t0, t1⟩ := HRF2.out.t
        go_wp2_with fail
        (try simp only [Exit.inBlock, Exit.then])
        refine bodyPost_ret (by simp [results, Try.results10, go_sem, r0, r1, r2, t0, t1]; try rfl) rfl ?_
        refine ⟨HE9.out.drew, .inl ⟨by rw [HA2.out], .slice (some ⟨g, 0, none⟩) k k, by rw [HMM.out], ?_⟩⟩
        rw [HA2.out, HMM.out]
        have e1 := HF.out.2.2.1
        have e2 := HF.out.2.2.2.1
        have e3 := HF.out.2.2.2.2.1
        refine Nr.on (Nr.lower (Nr.but HI.out.dh.row (fun q k1 k2 => ?_)) (by omega)) (Below.drew (Below.refl _ _))
        rw [heap_setCell_other _ _ _ _ (by simp; omega), heap_setCell_other _ _ _ _ (by simp; omega), heap_setCell_other _ _ _ _ (by simp; omega), heap_setCell_other _ _ _ _ (by simp; omega), heap_setCell_other _ _ _ _ (by simp; omega)]
  · have HA : Hid ((stA N o).1 = (frI o, -1) ∧ frI o ≠ 0) := by
      show _ ∧ _
      unfold stA; rw [if_pos hf]; exact ⟨rfl, hf⟩
    obtain ⟨r, hr⟩ : ∃ r, frI o = r := ⟨_, rfl⟩
    rw [hr] at HFR HA hf
    have hq : (r != 0) = true := by simpa using hf
    clear hr hf
    go_enter Try.func10, Try.ntmps10
    go_wp2_with fail
    refine HFR.out.mono ?_
    rintro e1 w1 ⟨n1, rfl, hw1⟩
    have HBK : Hid (Below wF.heap.size wF w1) := by rw [hw1]; exact below_dN (Below.refl _ _) n1
    clear hw1 HFR hmade
    have HRX : Hid (w1.heap[R]? = some (.cells #[.int .i64 0, .int .i64 0, .slice none 0 0] 39 (0, 0)) ∧ w1.heap[F]? = some (.cells #[.int .i64 0, .int .i64 0] 29 (0, 0)) ∧ Below w.heap.size w w1) := by
      have e1 := HF.out.2.2.1
      have e2 := HF.out.2.2.2.1
      have e3 := HF.out.2.2.2.2.1
      refine ⟨?_, ?_, ?_⟩
      · rw [HBK.out.block R (by omega)]; exact HF.out.1
      · rw [HBK.out.block F (by omega)]; exact HF.out.2.1
      · exact HF.out.2.2.2.2.2.trans (HBK.out.mono (by omega))
    obtain ⟨z0, z1, z2, z3, z4, z5⟩ := th_c HRX.out.1
    obtain ⟨x0, x1, x2, x3⟩ := tw_c HRX.out.2.1
    have hrf := rf_of HRX.out.1 HRX.out.2.1 (by have := HF.out.2.2.2.1; omega) (.int .i64 0) (.int .i64 0) (.slice none 0 0) (.int .i64 r) (.int .i64 (-1))
    obtain ⟨g0, g1, g2, g3⟩ := hrf.g
    rw [x0] at g0
    rw [x1] at g1
    have HRF2 := hidS hrf
    have HE9 := hidS (tw_bel (th_bel HRX.out.2.2 (Nat.le_of_eq HF.out.2.2.2.2.1) (.int .i64 0) (.int .i64 0) (.slice none 0 0)) (f := F) (by have := HF.out.2.2.2.1; have := HF.out.2.2.2.2.1; omega) (.int .i64 r) (.int .i64 (-1)))
    clear hrf
    go_wp2_with fail
    obtain ⟨r0, r1, r2⟩ := HRF2.out.r
    obtain ⟨t0, t1⟩ := HRF2.out.t
    (try simp only [Exit.inBlock, Exit.then])
    refine bodyPost_ret (by simp [results, Try.results10, go_sem, r0, r1, r2, t0, t1]; try rfl) rfl ?_
    refine ⟨HE9.out, .inr ⟨by rw [HA.out.1]; exact HA.out.2, by rw [HA.out.1]⟩⟩
end Go.Proofs.Ytmhplaanpbpndaa
