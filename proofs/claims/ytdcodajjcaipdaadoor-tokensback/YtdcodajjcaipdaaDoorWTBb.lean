/-
  TokensBack: the walk of a text whose words are joined to a text that is short enough; its last piece has a byte.
-/
import Derived.Test.YtdcodajjcaipdaaDoorWTB0
import Derived.Deep.RegionHeldLaw
namespace Go.Proofs.YtdcodajjcaipdaaDoor
open RowKit Joins Deep
set_option linter.unusedVariables false

set_option maxHeartbeats 40000000 in
set_option maxRecDepth 100000 in
theorem back_m2 (w : World) (hm : Mln w) (s : ByteArray) (hs : s.size ≤ 65536) (he : erL 0 (liT s) = (0, 0)) (ho : (jnL (tkL 0 (liT s))).length ≤ 65536) (hd : (liP s).length = (alP s).length) :
    Calls Tryd.prog 5 #[.string s] w fun e w' => e = .returned (.bool true) ∧ Below w.heap.size w w' := by
  have hall : ∀ u ∈ liT s, bdE u = 0 := erL_all he
  have hof := tkL_of hs hall
  have hlen := liP_len s
  have HC : Hid (Calls Tryd.prog 9 #[.string s] w fun e w' => ∃ v, e = .returned (.tuple #[v, fltV 0 0]) ∧ RdL w' v (tkL 0 (liT s)) ∧ Below w.heap.size w w') := cut_ok s w hs hm he
  obtain ⟨tS, htS⟩ : ∃ tS : ByteArray, tS = ⟨(jnL (tkL 0 (liT s))).toArray⟩ := ⟨_, rfl⟩
  have htd : tS.data.toList = jnL (tkL 0 (liT s)) := by rw [htS]
  have hts : tS.size ≤ 65536 := by rw [Lib.size_eq, htd]; exact ho
  obtain ⟨b1, b2⟩ := back_all he hall htd
  have hall2 : ∀ u ∈ liT tS, bdE u = 0 := erL_all b1
  have hof2 := tkL_of hts hall2
  have hlen2 := liP_len tS
  have hj2 : jnL (tkL 0 (liT tS)) = jnL (tkL 0 (liT s)) := by rw [jnL_txs, jnL_txs, b2]
  have HJ : Hid (∀ (w : World) (v : Value), RdL w v (tkL 0 (liT s)) → Calls Tryd.prog 13 #[v] w fun e w' => e = .returned (.string tS) ∧ Below w.heap.size w w') := fun w v hr => by rw [htS]; exact join_any w v _ hr (by omega)
  have HJ2 : Hid (∀ (w : World) (v : Value), RdL w v (tkL 0 (liT tS)) → Calls Tryd.prog 13 #[v] w fun e w' => e = .returned (.string tS) ∧ Below w.heap.size w w') := fun w v hr => by
    have := join_any w v _ hr (by rw [hj2]; omega)
    rw [hj2, ← htS] at this; exact this
  have HC2 : Hid (∀ w : World, Mln w → Calls Tryd.prog 9 #[.string tS] w fun e w' => ∃ v, e = .returned (.tuple #[v, fltV 0 0]) ∧ RdL w' v (tkL 0 (liT tS)) ∧ Below w.heap.size w w') := fun w hm => cut_ok tS w hts hm b1
  have HT1 : Hid (∀ (w : World) (v : Value), RdL w v (tkL 0 (liT s)) → Calls Tryd.prog 20 #[v] w fun e w' => ∃ u, e = .returned u ∧ RdSL w' u (txs (tkL 0 (liT s))) ∧ Below w.heap.size w w') := fun w v hr => texts_any w v _ hr (by rw [tkL_len, liT_len]; omega) (fun l hl => by have := (hof l hl).1; omega)
  have HT2 : Hid (∀ (w : World) (v : Value), RdL w v (tkL 0 (liT tS)) → Calls Tryd.prog 20 #[v] w fun e w' => ∃ u, e = .returned u ∧ RdSL w' u (txs (tkL 0 (liT s))) ∧ Below w.heap.size w w') := fun w v hr => by
    have := texts_any w v _ hr (by rw [tkL_len, liT_len]; omega) (fun l hl => by have := (hof2 l hl).1; omega)
    rw [b2] at this; exact this
  have HSP : Hid (∀ w : World, Mln w → Calls Tryd.prog 18 #[.string s, .string ⟨#[10]⟩] w fun e w' => e = .returned (.slice (some ⟨w.heap.size, 0, none⟩) (alP s).length (alP s).length) ∧ Below w.heap.size w w' ∧ Lin w' w.heap.size (cuT s (alP s))) := by
    intro w hm
    obtain ⟨m, hm⟩ := hm
    refine (split_any s m w (by omega) hm).mono ?_
    rintro e w' ⟨h1, rfl⟩
    exact ⟨h1, (Below.refl _ w).alloc (Nat.le_refl _) _, ⟨fun k t hk => str_cell (heap_alloc_new _ _) hk⟩⟩
  have HM : Hid (Mln w) := hm
  have htn : (tkL 0 (liT s)).length = (liP s).length := by rw [tkL_len, liT_len]
  have HLN : Hid (∀ (k : Nat) (l : List Tok), (tkL 0 (liT s))[k]? = some l → ∃ u, (liT s)[k]? = some u ∧ l = tkl k u ∧ bdE u = 0 ∧ u.size ≤ 65536) := fun k l hk => by
    obtain ⟨u, h1, h2⟩ := tkL_inv hk
    exact ⟨u, h1, h2, hall u (List.mem_of_getElem? h1), by have := liT_size h1; omega⟩
  have HLT : Hid (∀ (k : Nat) (u : ByteArray), (liT s)[k]? = some u → (cuT s (alP s))[k]? = some u) := fun k u hk => by
    have hk2 : (cuT s (liP s))[k]? = some u := hk
    unfold cuT at hk2 ⊢
    rw [List.getElem?_map] at hk2 ⊢
    cases e : (liP s)[k]? with
    | none => rw [e] at hk2; cases hk2
    | some p => rw [e] at hk2; rw [liP_pre e]; exact hk2
  obtain ⟨g, hg, hl⟩ := alP_last s
  have hpos := alP_pos s
  have hal := alP_len s
  have HLA : Hid ((cuT s (alP s))[(alP s).length - 1]? = some (s.extract g s.size)) := by show (cuT s (alP s))[_]? = _; unfold cuT; rw [List.getElem?_map, hl]; rfl
  have hem := ex_empty hg
  have hli : (liP s).length = if g = s.size then (alP s).length - 1 else (alP s).length := by
    by_cases q : g = s.size
    · subst q; rw [liP_drop hl, if_pos rfl, List.length_dropLast]
    · rw [liP_all hl q, if_neg q]
  obtain ⟨n1, hn1⟩ : ∃ n1, (alP s).length = n1 + 1 := ⟨(alP s).length - 1, by omega⟩
  obtain ⟨N, hN⟩ : ∃ N, (liP s).length = N := ⟨_, rfl⟩
  rw [hN] at hli hlen htn hd
  rw [hn1] at HSP HLA hli hal hd
  simp only [Nat.add_sub_cancel] at HLA hli
  have HLS2 : Hid ((tkL 0 (liT s)).length = N) := htn
  generalize tkL 0 (liT s) = LS at HC HJ HT1 HT2 HLN HLS2
  generalize tkL 0 (liT tS) = LT at HC2 HJ2 HT2
  generalize liT s = LL at HLN HLT
  generalize cuT s (alP s) = CU at HSP HLT HLA
  generalize s.extract g s.size = EE at HLA hem
  clear htS htd b1 b2 hall hall2 hof hof2 hj2 htn he ho hm hl hpos hn1 hN hlen2
  have hix : (n1 : Int) < (n1 : Int) + 1 := by omega
  have htz : (tS.size : Int) ≤ 65536 := by omega
  have h65 : ¬ (65536 : Int) < (tS.size : Int) := by omega
  have hbb : (tS.toList == tS.toList) = true := by simp
  by_cases q : g = s.size
  · exfalso
    rw [if_pos q] at hli
    omega
  · rw [decide_eq_false q] at hem
    rw [if_neg q] at hli
    clear q hd
    subst hli
    go_enter Tryd.func5, Tryd.ntmps5
    go_wp2_with (first
      | (go_at_call 9; (with_reducible refine HC.out.mono ?_); rintro e w1 ⟨v, rfl, hr, hb⟩; (obtain ⟨vA, vc, hv1⟩ := rd_sl hr); (rw [HLS2.out] at hv1); (subst hv1); (have HB1 : Hid (Below w.heap.size w w1) := hb); (have HR1 : Hid (RdL w1 (.slice vA (n1 + 1) vc) LS) := hr); clear hb hr)
      | (go_at_call 13; (with_reducible refine (HJ.out _ _ (HR1.out.kept ((Below.refl _ w1).alloc (Nat.le_refl _) _))).mono ?_); rintro e w2 ⟨rfl, hb⟩; (have HB2 : Hid (Below w1.heap.size w1 w2) := bl_alB (Below.refl _ w1) (Nat.le_refl _) hb); clear hb)
      | (go_at_call 9; (with_reducible refine (HC2.out _ ((HM.out.kept HB1.out).kept HB2.out)).mono ?_); rintro e w3 ⟨va, rfl, hr, hb⟩; (have HR3 : Hid (RdL w3 va LT) := hr); (have HB3 : Hid (Below w1.heap.size w1 w3) := HB2.out.trans (hb.mono HB2.out.size)); clear hb hr)
      | (go_at_call 18; (with_reducible refine (HSP.out _ ((HM.out.kept HB1.out).kept (HB3.out.alloc HB3.out.size _))).mono ?_); rintro e w4 ⟨rfl, hb, hlin⟩; (obtain ⟨x0, x1, _, _⟩ := two_c ((hb.block w3.heap.size (by simp)).trans (heap_alloc_new _ _))); (rw [show (w3.alloc (.cells #[.int .i64 0, .int .i64 0] 25)).heap.size = w3.heap.size + 1 by simp] at hlin); (have HB4 : Hid (Below w3.heap.size w3 w4) := bl_alB (Below.refl _ w3) (Nat.le_refl _) hb); (have HLI : Hid (Lin w4 (w3.heap.size + 1) CU) := hlin); (have xl := hlin.c n1 EE HLA.out); clear hb hlin)
      | (go_at_call 20; (with_reducible refine (HT1.out w4 _ ((HR1.out.kept HB3.out).kept HB4.out)).mono ?_); rintro e w5 ⟨u1, rfl, hr, hb⟩; (have HB5 : Hid (Below w4.heap.size w4 w5) := hb); (have HS1 : Hid (RdSL w5 u1 (txs LS)) := hr); clear hb hr)
      | (go_at_call 20; (with_reducible refine (HT2.out w5 _ ((HR3.out.kept HB4.out).kept HB5.out)).mono ?_); rintro e w6 ⟨u2, rfl, hr, hb⟩; (have HB6 : Hid (Below w4.heap.size w4 w6) := HB5.out.trans (hb.mono HB5.out.size)); (have HS2 : Hid (RdSL w6 u1 (txs LS) ∧ RdSL w6 u2 (txs LS)) := ⟨HS1.out.kept hb, hr⟩); clear hb hr)
      | (go_at_call 19; (with_reducible refine (sameT_any _ _ _ (txs LS) (txs LS) HS2.out.1 HS2.out.2).mono ?_); rintro e w7 ⟨rfl, q7, hw7⟩; (rw [decide_eq_true (rfl : txs LS = txs LS)]); (have HB7 : Hid (Below w4.heap.size w4 w7) := (by rw [hw7]; exact below_dn HB6.out q7)); clear hw7)
      | (go_at_call 13; (with_reducible refine (HJ2.out w7 _ ((HR3.out.kept HB4.out).kept HB7.out)).mono ?_); rintro e w8 ⟨rfl, hb⟩; (have HB8 : Hid (Below w4.heap.size w4 w8) := HB7.out.trans (hb.mono HB7.out.size)); clear hb)
      | (go_at_call 12; (with_reducible refine (lives_any _ ((((HM.out.kept HB1.out).kept HB3.out).kept HB4.out).kept HB8.out)).mono ?_); rintro e w9 ⟨rfl, hb⟩; (have HB9 : Hid (Below w4.heap.size w4 w9) := HB8.out.trans (hb.mono HB8.out.size)); clear hb))
    generalize hN1 : n1 + 1 = N at HR1 HLS2 hlen hal ⊢
    clear hN1
    have HR9 : Hid (RdL w9 (.slice vA N vc) LS) := ((HR1.out.kept HB3.out).kept HB4.out).kept HB9.out
    have HL9 : Hid (Lin w9 (w3.heap.size + 1) CU) := HLI.out.kept HB9.out
    have HW9 : Hid (Below w.heap.size w w9) := HB1.out.trans (((HB3.out.trans (HB4.out.mono HB3.out.size)).trans (HB9.out.mono (by have := HB3.out.size; have := HB4.out.size; omega))).mono HB1.out.size)
    have HNN : Hid (LS.length = N) := HLS2.out
    clear HB2 HB3 HB4 HB5 HB6 HB7 HB8 HB9 HR1 HR3 HS1 HS2 HLI HC HJ HC2 HJ2 HT1 HT2 HSP HM HB1 x0 x1 xl HLA hem HLS2
    generalize w3.heap.size + 1 = BS at HL9 ⊢
    go_loopw [9] (fun iv wr => ∃ i : Nat, i ≤ N ∧ iv = .int .i64 i ∧ Hid (Below w9.heap.size w9 wr)) (fun iv _ => N - (intOf iv).toNat)
    case atStart => exact ⟨0, Nat.zero_le _, rfl, Below.refl _ _⟩
    case round =>
      obtain ⟨i, hil, rfl, HI⟩ := hrel
      by_cases hp : i < N
      · have hpi : (i : Int) < ((N : Nat) : Int) := by omega
        obtain ⟨l, hl⟩ : ∃ l, LS[i]? = some l := ⟨_, List.getElem?_eq_getElem (by have := HNN.out; omega)⟩
        obtain ⟨u, hu, hlu, hbd, husz⟩ := HLN.out i l hl
        have hcu := HL9.out.c i u (HLT.out i u hu)
        obtain ⟨_, A', c', hA1, hA2⟩ := HR9.out
        have hAA : vA = A' := by simp only [Value.slice.injEq] at hA1; exact hA1.1
        clear hA1
        subst hAA
        obtain ⟨bv, rfl, hrow⟩ := hA2.resolve_left (by intro e; rw [e] at hl; cases hl)
        obtain ⟨rowv, qrow, hlt, Au, cu, rfl, htok⟩ := hrow i l hl
        subst hlu
        obtain ⟨r, hr1, hr2, hfw⟩ := line_fw hbd
        obtain ⟨n, hn⟩ : ∃ n, (tkl i u).length = n := ⟨_, rfl⟩
        rw [hn] at qrow hlt
        have hn2 : (wds u).length = n := by rw [← hn]; unfold tkl; simp
        have HTK : Hid (tkl i u = [] ∨ ∃ b, Au = some ⟨b, 0, none⟩ ∧ ∀ (k : Nat) (p : Tok), (tkl i u)[k]? = some p → w9.cell? ⟨b, k * 3, none⟩ = some (.string p.1) ∧ w9.cell? ⟨b, k * 3 + 1, none⟩ = some (.int .i64 p.2.1) ∧ w9.cell? ⟨b, k * 3 + 2, none⟩ = some (.int .i64 p.2.2)) := htok
        have HFW : Hid (r ≤ u.size ∧ (r = u.size ∨ (bty u r = 42 ∨ bty u r = 59) ∧ r < u.size) ∧ Fw u r false 0 (wds u) ∧ (wds u).length = n) := ⟨hr1, hr2, hfw, hn2⟩
        have HQR : Hid (w9.cell? ⟨bv, i, none⟩ = some (.slice Au n cu) ∧ w9.cell? ⟨BS, i, none⟩ = some (.string u)) := ⟨qrow, hcu⟩
        clear hl hu hbd hrow hA2 htok hr1 hr2 hfw hn hn2 qrow hcu
        have hn64 : n ≤ 65536 := by have := HFW.out.2.2.2; have h2 := (scn_wf u u.size).len; have h3 : (wds u).length = (scn u u.size).2.length := by unfold wds; simp
                                    omega
        go_wp2_with fail
        go_loopw [10, 11] (fun ev kv wr2 => ∃ (e k : Nat), k ≤ n ∧ ev = .int .i64 e ∧ kv = .int .i64 k ∧ e ≤ u.size ∧ Hid (Fw u r (decide (0 < k)) e ((wds u).drop k) ∧ Below w9.heap.size w9 wr2)) (fun _ kv _ => n - (intOf kv).toNat)
        case atStart => exact ⟨0, 0, Nat.zero_le _, rfl, rfl, Nat.zero_le _, HFW.out.2.2.1, HI.out⟩
        case round =>
          obtain ⟨e, k, hkl, rfl, rfl, heu, HF⟩ := hrel
          have q1 : wr.cell? ⟨bv, i, none⟩ = some (.slice Au n cu) := (HF.out.2.cell (World.block_lt_of_cell? w9 _ HQR.out.1)).trans HQR.out.1
          have q2 : wr.cell? ⟨BS, i, none⟩ = some (.string u) := (HF.out.2.cell (World.block_lt_of_cell? w9 _ HQR.out.2)).trans HQR.out.2
          by_cases hk : k < n
          · have hki : (k : Int) < (n : Int) := by omega
            obtain ⟨⟨a, b⟩, hab⟩ : ∃ p, (wds u)[k]? = some p := ⟨_, List.getElem?_eq_getElem (by have := HFW.out.2.2.2; omega)⟩
            have hdr : (wds u).drop k = (a, b) :: (wds u).drop (k + 1) := by
              have h := (List.getElem?_eq_some_iff.1 hab)
              rw [List.drop_eq_getElem_cons h.1, h.2]
            have hF := HF.out.1
            rw [hdr] at hF
            obtain ⟨f1, f2, f3, f4, f5, f6⟩ := hF
            have htk : (tkl i u)[k]? = some (u.extract a b, (i : Int), (a : Int)) := by unfold tkl; rw [List.getElem?_map, hab]; rfl
            obtain ⟨bx, rfl, hxc⟩ := HTK.out.resolve_left (by intro e; rw [e] at htk; cases htk)
            obtain ⟨x0, x1, x2⟩ := hxc k _ htk
            have z0 := (HF.out.2.cell (World.block_lt_of_cell? w9 _ x0)).trans x0
            have z1 := (HF.out.2.cell (World.block_lt_of_cell? w9 _ x1)).trans x1
            have z2 := (HF.out.2.cell (World.block_lt_of_cell? w9 _ x2)).trans x2
            have hTs : (u.extract a b).size = b - a := ex_size f4
            have hsl := sub_run u a b (b : Int) rfl (by omega) f4
            have hsl2 := sub_run u e a (a : Int) rfl f1 (by omega)
            have HTR : Hid (∀ w : World, Calls Tryd.prog 21 #[.string (u.extract e a), .string ⟨#[32, 9, 13]⟩] w fun e w' => e = .returned (.string ⟨#[]⟩) ∧ Below w.heap.size w w') := fun w => trim_blank _ w (by rw [ex_size (by omega)]; omega) (fun j hj => by
              rw [ex_size (by omega)] at hj
              rw [bty_ex (by omega) hj]
              exact f5 _ (by omega) (by omega))
            have HF6 : Hid (Fw u r true b ((wds u).drop (k + 1))) := f6
            have HF2 : Hid (0 < k → e < a) := fun h => f2 (decide_eq_true h)
            clear x0 x1 x2 hxc htk hdr hab f5 f6 f2
            generalize u.extract a b = T at z0 hTs hsl
            generalize u.extract e a = G at hsl2 HTR
            obtain ⟨m, hm⟩ : ∃ m, b - a = m := ⟨_, rfl⟩
            rw [hm] at hTs
            have hwr : IntKind.i64.wrap ((a : Int) + (m : Int)) = (b : Int) := by rw [IntKind.wrap_i64]; omega
            have d1 : ((i : Int) != (i : Int)) = false := by simp
            have d2 : decide ((a : Int) < (e : Int)) = false := by simp; omega
            have d3 : decide ((u.size : Int) < (b : Int)) = false := by simp; omega
            have d4 : (T.toList == T.toList) = true := by simp
            have d5 : decide ((m : Int) < 1) = false := by simp; omega
            have hii : (i : Int) < ((N : Nat) : Int) := by omega
            have hBS : BS < wr.heap.size := World.block_lt_of_cell? wr _ q2
            have hn0 : ((wr.heap.size : Nat) : Int) = ((wr.heap.size : Nat) : Int) := rfl
            clear hn0
            go_upto_region 21 with fail
            have b2' : (wr.alloc (.cells #[.string T, .int .i64 i, .int .i64 a] 32)).cell? ⟨BS, i, none⟩ = some (.string u) := by rw [World.cell?_alloc_lt _ _ _ hBS]; exact q2
            obtain ⟨b0, b1, b2⟩ := three_c (w := wr.alloc (.cells #[.string T, .int .i64 i, .int .i64 a] 32)) (B := wr.heap.size) (heap_alloc_new _ _)
            revert b0 b1 b2 b2'
            generalize hWB : wr.alloc (.cells #[.string T, .int .i64 i, .int .i64 a] 32) = wB
            intro b2' b0 b1 b2
            have HBB : Hid (Below w9.heap.size w9 wB ∧ wr.heap.size < wB.heap.size) := by
              rw [← hWB]; exact ⟨HF.out.2.alloc HF.out.2.size _, by simp⟩
            clear hWB q1 q2 z0 z1 z2
            generalize wr.heap.size = wb at b0 b1 b2 HBB ⊢
            have e0 : ((⟨#[]⟩ : ByteArray).toList == (⟨#[]⟩ : ByteArray).toList) = true := beq_self_eq_true _
            have kz : (0 < k ∧ e < a) ∨ k = 0 := by rcases Nat.eq_zero_or_pos k with h | h; exact .inr h; exact .inl ⟨h, HF2.out h⟩
            have HKZ : Hid ((0 < k ∧ e < a) ∨ k = 0) := kz
            have HFT : Hid (Below w9.heap.size w9 wB ∧ wb < wB.heap.size ∧ wB.cell? ⟨wb, 0, none⟩ = some (.string T) ∧ wB.cell? ⟨wb, 2, none⟩ = some (.int .i64 a) ∧ wB.cell? ⟨BS, i, none⟩ = some (.string u)) := ⟨HBB.out.1, HBB.out.2, b0, b2, b2'⟩
            clear kz HBB HF
            go_cut [152] from 105 to 152 (fun x V => x = .bool false ∧ Hid (Below w9.heap.size w9 V ∧ wb < V.heap.size ∧ V.cell? ⟨wb, 0, none⟩ = some (.string T) ∧ V.cell? ⟨wb, 2, none⟩ = some (.int .i64 a) ∧ V.cell? ⟨BS, i, none⟩ = some (.string u)))
            case first =>
              have d2n : decide (a < e) = false := by simp; omega
              have d3n : decide (u.size < b) = false := by simp; omega
              go_quiet (fail)
              go_wp2_with fail
              go_meet
              exact ⟨rfl, below_dn HFT.out.1 _, by have := HFT.out.2.1; simpa using this, by simpa using HFT.out.2.2.1, by simpa using HFT.out.2.2.2.1, by simpa using HFT.out.2.2.2.2⟩
            case rest =>
              obtain ⟨rfl, HC1⟩ := hcut
              clear b0 b1 b2 b2' HFT d1 d2 d3 d4 d5 hsl
              have c0 := HC1.out.2.2.1
              have c2 := HC1.out.2.2.2.1
              have cl := HC1.out.2.2.2.2
              go_upto_region 23 with fail
              go_cut [172] from 153 to 172 (fun x V => x = .bool false ∧ Hid (Below w9.heap.size w9 V ∧ V.cell? ⟨wb, 0, none⟩ = some (.string T) ∧ V.cell? ⟨wb, 2, none⟩ = some (.int .i64 a)))
              case first =>
                rcases HKZ.out with ⟨kz1, kz2⟩ | kz
                · have kzi : (0 : Int) < (k : Int) := by omega
                  have kzd : decide ((0 : Int) < (k : Int)) = true := by simp; omega
                  have aed : ((a : Int) == (e : Int)) = false := by simp; omega
                  go_region_held_law (fun W : World => W.cell? ⟨BS, i, none⟩ = some (.string u) ∧ W.cell? ⟨wb, 2, none⟩ = some (.int .i64 a)) (first | (with_reducible exact ⟨HBT.out.2.2.2, HBT.out.2.2.1⟩) | go_keep) (first
                    | (go_at_call 21; (with_reducible refine (HTR.out _).mono ?_); rintro e1 wT ⟨rfl, hb⟩; (have HBT : Hid (Below w9.heap.size w9 wT ∧ wT.cell? ⟨wb, 0, none⟩ = some (.string T) ∧ wT.cell? ⟨wb, 2, none⟩ = some (.int .i64 a) ∧ wT.cell? ⟨BS, i, none⟩ = some (.string u)) := (by first | exact trk3 HC1.out hb | exact trk3d HC1.out hb | exact trk3n HC1.out hb)); clear hb))
                  go_wp2_with fail
                  go_meet
                  exact ⟨rfl, HBT.out.1, HBT.out.2.1, HBT.out.2.2.1⟩
                · have kzi : ¬ (0 : Int) < (k : Int) := by omega
                  have kzn : ¬ 0 < k := by omega
                  have kzd : decide (0 < k) = false := by simp; omega
                  clear kz
                  refine wp_region_held_drew (S := (fun W : World => W.cell? ⟨BS, i, none⟩ = some (.string u) ∧ W.cell? ⟨wb, 2, none⟩ = some (.int .i64 a))) (by kernel_rfl) ⟨cl, c2⟩ (fun hHeld => ?_)
                  refine wpAnyH_take (i := 0) (v := ?qv0) (by (simp only [List.getElem?_toArray, List.getElem?_cons_zero]; rfl)) (by kernel_rfl) (by kernel_rfl) (by kernel_rfl) ?qQ0 (Or.inl ⟨by rfl, ?qh0⟩) hHeld ?qr0
                  case qQ0 => exact fun _ _ _ h => h
                  case qh0 => (intro w hSw; (try dsimp only at hSw); go_simp; try with_reducible rfl)
                  try simp only [Act.put, List.setIfInBounds_toArray, List.set_cons_zero, List.set_cons_succ]
                  refine wpAnyH_take (i := 1) (v := ?qv1) (by (simp only [List.getElem?_toArray, List.getElem?_cons_zero, List.getElem?_cons_succ]; rfl)) (by kernel_rfl) (by kernel_rfl) (by kernel_rfl) ?qQ1 (Or.inl ⟨by rfl, ?qh1⟩) hHeld ?qr1
                  case qQ1 => exact fun _ _ _ h => h
                  case qh1 => (intro w hSw; (try dsimp only at hSw); go_simp; try with_reducible rfl)
                  try simp only [Act.put, List.setIfInBounds_toArray, List.set_cons_zero, List.set_cons_succ]
                  refine wpAnyH_take (i := 2) (v := ?qv2) (by (simp only [List.getElem?_toArray, List.getElem?_cons_zero, List.getElem?_cons_succ]; rfl)) (by kernel_rfl) (by kernel_rfl) (by kernel_rfl) ?qQ2 (Or.inl ⟨by rfl, ?qh2⟩) hHeld ?qr2
                  case qQ2 => exact fun _ _ _ h => h
                  case qh2 => (intro w hSw; (try dsimp only at hSw); go_simp; try with_reducible rfl)
                  try simp only [Act.put, List.setIfInBounds_toArray, List.set_cons_zero, List.set_cons_succ]
                  refine wpAnyH_take (i := 3) (v := ?qv3) (by (simp only [List.getElem?_toArray, List.getElem?_cons_zero, List.getElem?_cons_succ]; rfl)) (by kernel_rfl) (by kernel_rfl) (by kernel_rfl) ?qQ3 (Or.inl ⟨by rfl, ?qh3⟩) hHeld ?qr3
                  case qQ3 => exact fun _ _ _ h => h
                  case qh3 => (intro w hSw; (try dsimp only at hSw); go_simp; try with_reducible rfl)
                  try simp only [Act.put, List.setIfInBounds_toArray, List.set_cons_zero, List.set_cons_succ]
                  refine wpAnyH_take (i := 4) (v := ?qv4) (by (simp only [List.getElem?_toArray, List.getElem?_cons_zero, List.getElem?_cons_succ]; rfl)) (by kernel_rfl) (by kernel_rfl) (by kernel_rfl) ?qQ4 (Or.inl ⟨by rfl, ?qh4⟩) hHeld ?qr4
                  case qQ4 => exact fun _ _ _ h => h
                  case qh4 => (intro w hSw; (try dsimp only at hSw); go_simp; try with_reducible rfl)
                  try simp only [Act.put, List.setIfInBounds_toArray, List.set_cons_zero, List.set_cons_succ]
                  refine wpAnyH_take (i := 5) (v := ?qv5) (by (simp only [List.getElem?_toArray, List.getElem?_cons_zero, List.getElem?_cons_succ]; rfl)) (by kernel_rfl) (by kernel_rfl) (by kernel_rfl) ?qQ5 (Or.inl ⟨by rfl, ?qh5⟩) hHeld ?qr5
                  case qQ5 => exact fun _ _ _ h => h
                  case qh5 => (intro w hSw; (try dsimp only at hSw); go_simp; try with_reducible rfl)
                  try simp only [Act.put, List.setIfInBounds_toArray, List.set_cons_zero, List.set_cons_succ]
                  refine wpAnyH_take (i := 6) (v := ?qv6) (by (simp only [List.getElem?_toArray, List.getElem?_cons_zero, List.getElem?_cons_succ]; rfl)) (by kernel_rfl) (by kernel_rfl) (by kernel_rfl) ?qQ6 (Or.inl ⟨by rfl, ?qh6⟩) hHeld ?qr6
                  case qQ6 => exact fun _ _ _ h => h
                  case qh6 => (intro w hSw; (try dsimp only at hSw); go_simp; try with_reducible rfl)
                  try simp only [Act.put, List.setIfInBounds_toArray, List.set_cons_zero, List.set_cons_succ]
                  refine wpAnyH_take (i := 7) (v := ?qv7) (by (simp only [List.getElem?_toArray, List.getElem?_cons_zero, List.getElem?_cons_succ]; rfl)) (by kernel_rfl) (by kernel_rfl) (by kernel_rfl) ?qQ7 (Or.inl ⟨by rfl, ?qh7⟩) hHeld ?qr7
                  case qQ7 => exact fun _ _ _ h => h
                  case qh7 => (intro w hSw; (try dsimp only at hSw); go_simp; try with_reducible rfl)
                  try simp only [Act.put, List.setIfInBounds_toArray, List.set_cons_zero, List.set_cons_succ]
                  refine wpAnyH_ready (rs := [8]) (by kernel_rfl) (by simp) ?_
                  refine AllReadyH.cons rfl (fun K hK => ?_) AllReadyH.nil
                  go_simp
                  go_wp2_with (first
                    | (go_at_call 21; (with_reducible refine (HTR.out _).mono ?_); rintro e1 wT ⟨rfl, hb⟩; (have HBT : Hid (Below w9.heap.size w9 wT ∧ wT.cell? ⟨wb, 0, none⟩ = some (.string T) ∧ wT.cell? ⟨wb, 2, none⟩ = some (.int .i64 a) ∧ wT.cell? ⟨BS, i, none⟩ = some (.string u)) := (by first | exact trk3 HC1.out hb | exact trk3d HC1.out hb | exact trk3n HC1.out hb)); clear hb))
                  refine hK.out _ _ ⟨HBT.out.2.2.2, HBT.out.2.2.1⟩ (fun hHeld => ?_)
                  clear hK K
                  try simp only [Act.put, List.setIfInBounds_toArray, List.set_cons_zero, List.set_cons_succ]
                  refine wpAnyH_take (i := 9) (v := ?qv9) (by (simp only [List.getElem?_toArray, List.getElem?_cons_zero, List.getElem?_cons_succ]; rfl)) (by kernel_rfl) (by kernel_rfl) (by kernel_rfl) ?qQ9 (Or.inl ⟨by rfl, ?qh9⟩) hHeld ?qr9
                  case qQ9 => exact fun _ _ _ h => h
                  case qh9 => (intro w hSw; (try dsimp only at hSw); go_simp; try with_reducible rfl)
                  try simp only [Act.put, List.setIfInBounds_toArray, List.set_cons_zero, List.set_cons_succ]
                  refine wpAnyH_take (i := 10) (v := ?qv10) (by (simp only [List.getElem?_toArray, List.getElem?_cons_zero, List.getElem?_cons_succ]; rfl)) (by kernel_rfl) (by kernel_rfl) (by kernel_rfl) ?qQ10 (Or.inl ⟨by rfl, ?qh10⟩) hHeld ?qr10
                  case qQ10 => exact fun _ _ _ h => h
                  case qh10 => (intro w hSw; (try dsimp only at hSw); go_simp; try with_reducible rfl)
                  try simp only [Act.put, List.setIfInBounds_toArray, List.set_cons_zero, List.set_cons_succ]
                  refine wpAnyH_take (i := 11) (v := ?qv11) (by (simp only [List.getElem?_toArray, List.getElem?_cons_zero, List.getElem?_cons_succ]; rfl)) (by kernel_rfl) (by kernel_rfl) (by kernel_rfl) ?qQ11 (Or.inl ⟨by rfl, ?qh11⟩) hHeld ?qr11
                  case qQ11 => exact fun _ _ _ h => h
                  case qh11 => (intro w hSw; (try dsimp only at hSw); go_simp; try with_reducible rfl)
                  try simp only [Act.put, List.setIfInBounds_toArray, List.set_cons_zero, List.set_cons_succ]
                  refine wpAnyH_take (i := 12) (v := ?qv12) (by (simp only [List.getElem?_toArray, List.getElem?_cons_zero, List.getElem?_cons_succ]; rfl)) (by kernel_rfl) (by kernel_rfl) (by kernel_rfl) ?qQ12 (Or.inl ⟨by rfl, ?qh12⟩) hHeld ?qr12
                  case qQ12 => exact fun _ _ _ h => h
                  case qh12 => (intro w hSw; (try dsimp only at hSw); go_simp; try with_reducible rfl)
                  try simp only [Act.put, List.setIfInBounds_toArray, List.set_cons_zero, List.set_cons_succ]
                  refine wpAnyH_take (i := 13) (v := ?qv13) (by (simp only [List.getElem?_toArray, List.getElem?_cons_zero, List.getElem?_cons_succ]; rfl)) (by kernel_rfl) (by kernel_rfl) (by kernel_rfl) ?qQ13 (Or.inl ⟨by rfl, ?qh13⟩) hHeld ?qr13
                  case qQ13 => exact fun _ _ _ h => h
                  case qh13 => (intro w hSw; (try dsimp only at hSw); go_simp; try with_reducible rfl)
                  try simp only [Act.put, List.setIfInBounds_toArray, List.set_cons_zero, List.set_cons_succ]
                  refine wpAnyH_take (i := 14) (v := undef) (by (simp only [List.getElem?_toArray, List.getElem?_cons_zero, List.getElem?_cons_succ]; rfl)) (by kernel_rfl) (by kernel_rfl) (by kernel_rfl) ?qQ14 (Or.inr ⟨by rfl, rfl⟩) hHeld ?qr14
                  case qQ14 => exact fun _ _ _ h => h
                  try simp only [Act.put, List.setIfInBounds_toArray, List.set_cons_zero, List.set_cons_succ]
                  refine wpAnyH_take (i := 15) (v := undef) (by (simp only [List.getElem?_toArray, List.getElem?_cons_zero, List.getElem?_cons_succ]; rfl)) (by kernel_rfl) (by kernel_rfl) (by kernel_rfl) ?qQ15 (Or.inr ⟨by rfl, rfl⟩) hHeld ?qr15
                  case qQ15 => exact fun _ _ _ h => h
                  try simp only [Act.put, List.setIfInBounds_toArray, List.set_cons_zero, List.set_cons_succ]
                  refine wpAnyH_take (i := 16) (v := undef) (by (simp only [List.getElem?_toArray, List.getElem?_cons_zero, List.getElem?_cons_succ]; rfl)) (by kernel_rfl) (by kernel_rfl) (by kernel_rfl) ?qQ16 (Or.inr ⟨by rfl, rfl⟩) hHeld ?qr16
                  case qQ16 => exact fun _ _ _ h => h
                  try simp only [Act.put, List.setIfInBounds_toArray, List.set_cons_zero, List.set_cons_succ]
                  refine wpAnyH_take (i := 17) (v := undef) (by (simp only [List.getElem?_toArray, List.getElem?_cons_zero, List.getElem?_cons_succ]; rfl)) (by kernel_rfl) (by kernel_rfl) (by kernel_rfl) ?qQ17 (Or.inr ⟨by rfl, rfl⟩) hHeld ?qr17
                  case qQ17 => exact fun _ _ _ h => h
                  try simp only [Act.put, List.setIfInBounds_toArray, List.set_cons_zero, List.set_cons_succ]
                  refine wpAnyH_take (i := 18) (v := ?qv18) (by (simp only [List.getElem?_toArray, List.getElem?_cons_zero, List.getElem?_cons_succ]; rfl)) (by kernel_rfl) (by kernel_rfl) (by kernel_rfl) ?qQ18 (Or.inl ⟨by rfl, ?qh18⟩) hHeld ?qr18
                  case qQ18 => exact fun _ _ _ h => h
                  case qh18 => (intro w hSw; (try dsimp only at hSw); go_simp; try with_reducible rfl)
                  try simp only [Act.put, List.setIfInBounds_toArray, List.set_cons_zero, List.set_cons_succ]
                  refine wpAnyH_take (i := 19) (v := ?qv19) (by (simp only [List.getElem?_toArray, List.getElem?_cons_zero, List.getElem?_cons_succ]; rfl)) (by kernel_rfl) (by kernel_rfl) (by kernel_rfl) ?qQ19 (Or.inl ⟨by rfl, ?qh19⟩) hHeld ?qr19
                  case qQ19 => exact fun _ _ _ h => h
                  case qh19 => (intro w hSw; (try dsimp only at hSw); go_simp; try with_reducible rfl)
                  try simp only [Act.put, List.setIfInBounds_toArray, List.set_cons_zero, List.set_cons_succ]
                  refine wpAnyH_done (by kernel_rfl) ?_ _
                  go_wp2_with fail
                  go_meet
                  exact ⟨rfl, HBT.out.1, HBT.out.2.1, HBT.out.2.2.1⟩
              case rest =>
                obtain ⟨rfl, HC2⟩ := hcut
                clear c0 c2 cl hsl2
                have c0 := HC2.out.2.1
                have c2 := HC2.out.2.2
                go_wp2_with fail
                go_roundw
                case rel => exact ⟨b, k + 1, by omega, by rfl, by go_num, f4, by rw [decide_eq_true (Nat.succ_pos k)]; exact HF6.out, HC2.out.1⟩
                case measure => simp [intOf]; omega
          · have hki : ¬ (k : Int) < (n : Int) := by omega
            obtain rfl : k = n := by omega
            have hnil : (wds u).drop k = [] := List.drop_eq_nil_of_le (by have := HFW.out.2.2.2; omega)
            have hF := HF.out.1
            rw [hnil] at hF
            obtain ⟨hF1, hF2⟩ := hF
            have hsl3 := sub_from u e heu
            obtain ⟨R, hR⟩ : ∃ R, u.extract e u.size = R := ⟨_, rfl⟩
            have hRs : R.size = u.size - e := by rw [← hR, ex_size (Nat.le_refl _)]
            have hrr := HFW.out.2.1
            have hru := HFW.out.1
            have HTL : Hid (∀ w : World, Calls Tryd.prog 22 #[.string R, .string ⟨#[32, 9, 13]⟩] w fun e1 w' => e1 = .returned (.string (R.extract (r - e) R.size)) ∧ Below w.heap.size w w') := fun w => by
              refine trimL_any R (r - e) w (by omega) (fun j hj => ?_) (fun hlt => ?_)
              · rw [← hR, bty_ex (Nat.le_refl _) (by omega)]; exact hF2 _ (by omega) (by omega)
              · rcases hrr with h | ⟨h, h2⟩
                · omega
                · rw [← hR, bty_ex (Nat.le_refl _) (by omega), show e + (r - e) = r by omega]
                  unfold blk; omega
            have hQ : (R.extract (r - e) R.size).size = u.size - r := by rw [ex_size (Nat.le_refl _)]; omega
            have hQ0 : r < u.size → bty (R.extract (r - e) R.size) 0 = bty u r := fun h => by
              rw [bty_ex (Nat.le_refl _) (by omega), ← hR, bty_ex (Nat.le_refl _) (by omega)]; congr 1; omega
            rw [hR] at hsl3
            generalize R.extract (r - e) R.size = Q at HTL hQ hQ0
            clear hnil hF1 hF2 hR hRs
            rcases hrr with hrr | ⟨hrr, hlt⟩
            · have hQe : (Q.toList == (⟨#[]⟩ : ByteArray).toList) = true := by
                have : Q = ⟨#[]⟩ := bty_all (by rw [hQ]; show _ = 0; omega) (fun i hi => by omega)
                rw [this]; exact beq_self_eq_true _
              have hQem : Q.toList.isEmpty = true := by
                have : Q = ⟨#[]⟩ := bty_all (by rw [hQ]; show _ = 0; omega) (fun i hi => by omega)
                rw [this, ByteArray.toList_eq]; rfl
              go_wp2_with (first
                | (go_at_call 22; (with_reducible refine (HTL.out _).mono ?_); rintro e1 wT ⟨rfl, hb⟩; (have HBT : Hid (Below w9.heap.size w9 wT) := HF.out.2.trans (hb.mono HF.out.2.size)); clear hb))
              go_roundw
              case rel => exact ⟨i + 1, by omega, by go_num, HBT.out⟩
              case measure => simp [intOf]; omega
            · have hQp : 0 < Q.size := by omega
              have hgq := bty_get hQp
              rw [hQ0 hlt] at hgq
              have hQem : Q.toList.isEmpty = false := by
                rw [ByteArray.toList_eq, List.isEmpty_eq_false_iff]
                intro e2
                have : Q.data.toList.length = 0 := by rw [e2]; rfl
                rw [← Lib.size_eq] at this; omega
              obtain ⟨c, hc⟩ : ∃ c, bty u r = c := ⟨_, rfl⟩
              rw [hc] at hgq hrr
              clear hQ0 hc
              rcases hrr with rfl | rfl
              all_goals
                go_wp2_with (first
                  | (go_at_call 22; (with_reducible refine (HTL.out _).mono ?_); rintro e1 wT ⟨rfl, hb⟩; (have HBT : Hid (Below w9.heap.size w9 wT) := HF.out.2.trans (hb.mono HF.out.2.size)); clear hb))
                go_roundw
                case rel => exact ⟨i + 1, by omega, by go_num, HBT.out⟩
                case measure => simp [intOf]; omega
      · have hpi : ¬ (i : Int) < ((N : Nat) : Int) := by omega
        go_wp2_with fail
        go_ret
        exact ⟨rfl, HW9.out.trans (HI.out.mono HW9.out.size)⟩
end Go.Proofs.YtdcodajjcaipdaaDoor
