/-
  The walk of PivotFirst.
-/
import Derived.Test.YtgpjlobclcbniaaXi
import Derived.Test.YtgpjlobclcbniaaXf
import Derived.Deep.QuietTactic
import Derived.BigQuiet
import Derived.Deep.CutRange
import Derived.Deep.DeepCutAuto
import Derived.Deep.RegionWith
namespace Go.Proofs.Ytgpjlobclcbniaa
open Fl RowKit

theorem choose_ln {A : Option Addr} {n cap : Nat} {xs : List Cw} {fr : Int} {W : World} (hn : xs.length = n) (hsz : n * 16 ≤ 140737488355328) (hcap : n ≤ cap) (hc : Rc W A xs) (hx : okl xs) :
    Calls Try.prog 11 #[.slice A n cap, .int .i64 fr] W fun e w' => ∃ m, e = .returned (.tuple #[.int .i64 (chI xs fr), .int .i64 (chE xs fr)]) ∧ w' = W.drewN m := by
  subst hn
  exact choose_any A cap xs fr W hsz hcap hc hx
theorem grow_below {W0 w w1 : World} {o : Obj} {v : Value} (hb : Below W0.heap.size W0 w) (hg : (w.alloc o).grownBy w1 v.ownBlock) (ho : ∀ j, v.ownBlock = some j → W0.heap.size ≤ j) : Below W0.heap.size W0 w1 := (hb.alloc hb.size o).grown hg (Nat.le_trans hb.size (by simp)) ho
theorem equal_half {W : World} {x : Cw} {sr si : Nat} (h1 : rep (addA (mulA (some 4602678819172646912) (ans x.1)) (mulA (some 4602678819172646912) (ans x.1))) sr) (h2 : rep (addA (mulA (some 4602678819172646912) (ans x.2)) (mulA (some 4602678819172646912) (ans x.2))) si) (hx : okz x) :
    Calls Try.prog 32 #[.complex .f64 sr si, .complex .f64 x.1 x.2] W fun e w' => e = .returned (.bool (exq x (hlf x))) ∧ w' = W := equal_exq (s := (sr, si)) (H := hlf x) h1 h2 hx
theorem ord_lt {a b : Nat} (ha : a ≤ 9218868437227405312) (hb : b ≤ 9218868437227405312) (h : a < b) : FloatKind.f64.format.order a b = some .lt := by
  rw [ord_le ha hb, Int.compare_eq_lt.2 (by omega)]
/-- what an answer of Choose says -/
theorem ch_facts {xs : List Cw} {fr : Int} (h0 : chE xs fr = 0) : ∃ f p : Nat, fr = f ∧ xs.length ≤ 64 ∧ f + p < xs.length ∧ chI xs f = (f : Int) + (p : Int) ∧ (∀ j, f ≤ j → j < xs.length → finZ (zat xs j) = true) ∧ (∀ j, f ≤ j → j < xs.length → wt (zat xs j) ≤ wt (zat xs (f + p))) ∧ (∀ j, f ≤ j → j < f + p → wt (zat xs j) < wt (zat xs (f + p))) := by
  by_cases h1 : 64 < xs.length
  · rw [chE_3 h1] at h0; cases h0
  by_cases h2 : 0 ≤ fr ∧ fr < (xs.length : Int)
  case neg => rw [chE_2 h1 h2] at h0; cases h0
  obtain ⟨f, rfl⟩ : ∃ f : Nat, fr = f := ⟨fr.toNat, by omega⟩
  have hlt : f < xs.length := by omega
  cases h3 : finL (xs.drop f) (xs.length - f)
  · rw [chE_5 h1 hlt h3] at h0; cases h0
  by_cases h4 : (hv (xs.drop f)).2 = 0
  · rw [chE_7 h1 hlt h3 h4] at h0; cases h0
  have hL : (xs.drop f).length = xs.length - f := List.length_drop
  have hle := fstG_le (wts (xs.drop f)) (xs.drop f).length
  have hI := chI_0 h0
  rcases fstG_at (wts (xs.drop f)) (xs.drop f).length with ⟨h, _⟩ | ⟨_, a2, a3, a4⟩
  · exact absurd h h4
  change (hv (xs.drop f)).1 < _ at a2
  change wts (xs.drop f) (hv (xs.drop f)).1 = (hv (xs.drop f)).2 at a3
  change ∀ j, j < (hv (xs.drop f)).1 → wts (xs.drop f) j < (hv (xs.drop f)).2 at a4
  change ∀ j, j < _ → wts (xs.drop f) j ≤ (hv (xs.drop f)).2 at hle
  obtain ⟨p, hp⟩ : ∃ p, p = (hv (xs.drop f)).1 := ⟨_, rfl⟩
  rw [← hp] at a2 a3 a4 hI
  have ev : ∀ j, f ≤ j → wts (xs.drop f) (j - f) = wt (zat xs j) := fun j hj => by
    unfold wts; rw [zat_drop]; congr 2; omega
  have ep : wts (xs.drop f) p = wt (zat xs (f + p)) := by unfold wts; rw [zat_drop]
  refine ⟨f, p, rfl, by omega, by omega, by rw [hI]; omega, ?_, ?_, ?_⟩
  · intro j ha hb
    have := finL_at h3 (j - f) (by omega)
    rwa [zat_drop, show f + (j - f) = j by omega] at this
  · intro j ha hb
    rw [← ev j ha, ← ep, a3]
    exact hle _ (by omega)
  · intro j ha hb
    rw [← ev j ha, ← ep, a3]
    exact a4 _ (by omega)
theorem first_no (fr : Int) (ao : Option Addr) (n cap : Nat) (xs : List Cw) (w : World) (hn : xs.length = n) (hsz : n * 16 + 192 ≤ 140737488355328) (hc : Rz w ao xs) (hx : okl xs) (hE : ¬ chE xs fr = 0) :
    Calls Try.prog 6 #[.slice ao n cap, .int .i64 fr] w fun e w' => e = .returned (.bool true) ∧ Below w.heap.size w w' := by
  have hs1 : n * 16 ≤ 140737488355328 := by omega
  have HX := hid_of hx
  clear hx
  have CH : ∀ (W : World) (A : Option Addr) (c : Nat), Src W A c n xs → Calls Try.prog 11 #[.slice A n c, .int .i64 fr] W fun e w' => ∃ m, e = .returned (.tuple #[.int .i64 (chI xs fr), .int .i64 (chE xs fr)]) ∧ w' = W.drewN m := fun W A c h => choose_ln hn hs1 (by have := h.sl.cap; rw [← hn]; exact this) h.sl.rd HX.out
  obtain ⟨E, hEe⟩ : ∃ E, E = chE xs fr := ⟨_, rfl⟩
  rw [← hEe] at hE CH
  have HCH := hid_of CH
  clear CH hEe
  go_enter Try.func6, Try.ntmps6
  go_wp2_with (first
    | (go_at_call 9; (with_reducible refine (tnumbers hn hs1 HX.out hc).mono ?_); rintro e w1 ⟨A, c, rfl, SA, hb1⟩; have B1 := hid_of hb1; have HSA := hid_of SA; clear hb1 SA)
    | (go_at_call 11; (with_reducible refine (HCH.out _ _ _ HSA.out).mono ?_); rintro e w3 ⟨m3, rfl, rfl⟩)
    | (go_at_call 13; (with_reducible refine (plives_any _).mono ?_); rintro e w5 ⟨rfl, hb5⟩; have B5 := b_of (below_drewN B1.out _) hb5 (below_drewN B1.out _).size; clear hb5 B1))
  go_ret
  exact ⟨rfl, B5⟩

set_option maxRecDepth 20000 in
set_option maxHeartbeats 16000000 in
theorem first_yes (fr : Int) (ao : Option Addr) (n cap : Nat) (xs : List Cw) (w : World) (hn : xs.length = n) (hsz : n * 16 + 192 ≤ 140737488355328) (hc : Rz w ao xs) (hx : okl xs) (hE : chE xs fr = 0) :
    Calls Try.prog 6 #[.slice ao n cap, .int .i64 fr] w fun e w' => e = .returned (.bool true) ∧ Below w.heap.size w w' := by
  obtain ⟨i0, hi, hz0, hz1, hz2⟩ := info_parts Try.infoC
  have hs1 : n * 16 ≤ 140737488355328 := by omega
  obtain ⟨f, p, rfl, h64, hp, hI, hfin, hmax, hfst⟩ := ch_facts hE
  rw [hn] at h64 hp hfin hmax
  have CH : ∀ (W : World) (A : Option Addr) (c : Nat), Src W A c n xs → Calls Try.prog 11 #[.slice A n c, .int .i64 f] W fun e w' => ∃ m, e = .returned (.tuple #[.int .i64 ((f : Int) + (p : Int)), .int .i64 0]) ∧ w' = W.drewN m := fun W A c h => by
    have := choose_ln (fr := f) hn hs1 (by have := h.sl.cap; rw [← hn]; exact this) h.sl.rd hx
    rw [hI, hE] at this
    exact this
  have TU : ∀ (W : World) (g c : Nat) (ts : List Cw), ts.length = n → repl (fun j => trn (zat xs j)) n ts → Rc W (some ⟨g, 0, none⟩) ts → n ≤ c → Calls Try.prog 11 #[.slice (some ⟨g, 0, none⟩) n c, .int .i64 f] W fun e w' => ∃ m, e = .returned (.tuple #[.int .i64 ((f : Int) + (p : Int)), .int .i64 0]) ∧ w' = W.drewN m := fun W g c ts hl hr hrc hcp => by
    have k := ch_turn hn hx hl hr hE (fun j a b => hfin j (by simpa using a) b)
    have := choose_ln (fr := f) hl hs1 hcp hrc (okl_of hl hr)
    rw [k.1, k.2, hI] at this
    exact this
  have HA : ∀ (W : World) (g c : Nat) (hs : List Cw), hs.length = n → repl (fun j => hlf (zat xs j)) n hs → Rc W (some ⟨g, 0, none⟩) hs → n ≤ c → Calls Try.prog 11 #[.slice (some ⟨g, 0, none⟩) n c, .int .i64 f] W fun e w' => ∃ m I E, e = .returned (.tuple #[.int .i64 I, .int .i64 E]) ∧ (exL xs n = true → I = (f : Int) + (p : Int) ∧ E = 0) ∧ w' = W.drewN m := fun W g c hs hl hr hrc hcp => by
    have := choose_ln (fr := f) hl hs1 hcp hrc (okl_of hl hr)
    refine this.mono ?_
    rintro e w' ⟨m, rfl, rfl⟩
    refine ⟨m, _, _, rfl, ?_, rfl⟩
    intro he
    have k := ch_half hn hl hr he hE (fun j a b => hfin j (by simpa using a) b)
    rw [k.1, k.2, hI]
    exact ⟨rfl, rfl⟩
  have HCH := hid_of CH
  have HTU := hid_of TU
  have HHA := hid_of HA
  have HX := hid_of hx
  have HFIN := hid_of hfin
  have HMAX := hid_of hmax
  have HFST := hid_of hfst
  clear CH TU HA hx hfin hmax hfst hI hE
  go_enter Try.func6, Try.ntmps6
  go_wp2_with (first
    | (go_at_call 9; (with_reducible refine (tnumbers hn hs1 HX.out hc).mono ?_); rintro e w1 ⟨A, c, rfl, SA, hb1⟩; have B1 := hid_of hb1; have HSA := hid_of SA; clear hb1 SA)
    | (go_at_call 11; (with_reducible refine (HCH.out _ _ _ HSA.out).mono ?_); rintro e w3 ⟨m3, rfl, rfl⟩))
  have HSA2 := hid_of (HSA.out.drewN m3)
  have B2 := hid_of (below_drewN B1.out m3)
  obtain ⟨W0, hW0⟩ : ∃ W0, W0 = w1.drewN m3 := ⟨_, rfl⟩
  rw [← hW0] at HSA2 B2 ⊢
  clear HSA B1 hW0
  go_loopw [8, 9, 10, 11] (fun vh vt ev i wr => ∃ (k : Nat) (hs ts : List Cw) (v0 v1 : Value), k ≤ n ∧ i = .int .i64 k ∧ v0 = vh ∧ v1 = vt ∧ ev = .bool (exL xs k) ∧ hs.length = k ∧ ts.length = k ∧ repl (fun j => hlf (zat xs j)) k hs ∧ repl (fun j => trn (zat xs j)) k ts ∧ G2 W0.heap.size k k hs ts v0 v1 wr ∧ Below W0.heap.size W0 wr) (fun _ _ _ i _ => n - (intOf i).toNat)
  case atStart => exact ⟨0, [], [], _, _, Nat.zero_le _, rfl, rfl, rfl, rfl, rfl, rfl, fun j hj => absurd hj (by omega), fun j hj => absurd hj (by omega), G2.nil _ _, Below.refl _ _⟩
  case round =>
    obtain ⟨k, hs, ts, v0, v1, hk, rfl, rfl, rfl, rfl, hlh, hlt', hrh, hrt, hG, hbel⟩ := hrel
    by_cases hlt : k < n
    · obtain ⟨q, off, hA, hq, hcx0⟩ := HSA2.out.sl.rd k (by omega)
      obtain ⟨q', off', hA', hq', hcy0⟩ := HSA2.out.sl.rd (f + p) (by omega)
      rw [hA] at hA'
      cases hA'
      subst hA
      have hox := HX.out k
      have hoy := HX.out (f + p)
      have hfy := HFIN.out (f + p) (by omega) (by omega)
      have hfx := HFIN.out k
      have hmx := HMAX.out k
      have hft := HFST.out k
      have EX : exL xs (k + 1) = (exL xs k && (exq (zat xs k) (hlf (zat xs k)) && fnq (zat xs k))) := rfl
      have HH : (fun j => hlf (zat xs j)) k = hlf (zat xs k) := rfl
      have TT : (fun j => trn (zat xs j)) k = trn (zat xs k) := rfl
      obtain ⟨x, hxe⟩ : ∃ x, x = zat xs k := ⟨_, rfl⟩
      obtain ⟨y, hye⟩ : ∃ y, y = zat xs (f + p) := ⟨_, rfl⟩
      rw [← hxe] at hcx0 hox hfx hmx hft EX HH TT
      rw [← hye] at hcy0 hoy hfy hmx hft
      unfold cx at hcx0 hcy0
      have hcx := (hbel.cell (p := ⟨q, off + k, none⟩) hq).trans hcx0
      have hcy := (hbel.cell (p := ⟨q, off + (f + p), none⟩) hq).trans hcy0
      have C1 := hid_of hcx0
      have C2 := hid_of hcy0
      have hS := hbel.size
      have HB := hid_of hbel
      have HG := hid_of hG
      have HRH := hid_of hrh
      have HRT := hid_of hrt
      have HLH := hid_of hlh
      have HLT := hid_of hlt'
      have HEX := hid_of EX
      have HHH := hid_of HH
      have HTT := hid_of TT
      have HFX := hid_of hfx
      have HMX := hid_of hmx
      have HFT := hid_of hft
      have rx1 := rep_ans hox.1
      have rx2 := rep_ans hox.2
      have ly := wt_le y
      have lx := wt_le x
      clear hxe hye hcx0 hcy0 hbel hG hrh hrt hlh hlt' EX HH TT hfx hmx hft
      obtain ⟨e0, he0⟩ : ∃ e0, e0 = exL xs k := ⟨_, rfl⟩
      rw [← he0] at HEX ⊢
      clear he0
      go_wp2_with (first
          | (go_at_call 31; (with_reducible refine (scale_any _ rx1 rx2 rep_half).mono ?_); rintro e w4 ⟨zr, zi, m4, rfl, hz4, hz5, rfl⟩))
      go_cut [10] (fun ev wc => ev = .bool (exL xs (k + 1)) ∧ ∃ nn, wc = wr.drewN nn)
      case first =>
        cases e0
        · go_quiet (fail)
          all_goals
            go_wp2_with fail
            go_meet
            case rel => exact ⟨by rw [HEX.out]; rfl, by first | exact ⟨_, rfl⟩ | (simp only [World.drewN_drewN]; exact ⟨_, rfl⟩)⟩
        · cases hQ : exq x (hlf x)
          all_goals rw [hQ] at HEX
          ·
            first
            | (go_region_with
                (first
                | (go_at_call 33; (with_reducible refine (add_any _ hz4 hz5 hz4 hz5).mono ?_); rintro e w8 ⟨sr, si, ms, rfl, hs1', hs2', rfl⟩)
                | (go_at_call 32; (with_reducible refine (equal_half hs1' hs2' hox).mono ?_); rintro e w8 ⟨rfl, hw8⟩; subst w8; rw [hQ])))
            | fail
            all_goals
              go_wp2_with fail
              go_meet
              case rel => exact ⟨by rw [HEX.out]; rfl, by first | exact ⟨_, rfl⟩ | (simp only [World.drewN_drewN]; exact ⟨_, rfl⟩)⟩
          ·
            go_region_held_law (fun W => W.cell? ⟨q, off + k, none⟩ = some (.complex .f64 x.1 x.2)) (first | (with_reducible exact hcx) | go_keep)
              (first
              | (go_at_call 33; (with_reducible refine (add_any _ hz4 hz5 hz4 hz5).mono ?_); rintro e w8 ⟨sr, si, ms, rfl, hs1', hs2', rfl⟩)
              | (go_at_call 32; (with_reducible refine (equal_half hs1' hs2' hox).mono ?_); rintro e w8 ⟨rfl, hw8⟩; subst w8; rw [hQ])
              | (go_at_call 35; (with_reducible refine (size1_any _ rx1 rx2).mono ?_); rintro e w8 ⟨rs, mr, rfl, hrs, rfl⟩)
              | (go_at_call 34; (with_reducible refine (kfin_q (x := x) hrs).mono ?_); rintro e w8 ⟨mf, rfl, rfl⟩))
            all_goals
              go_wp2_with fail
              go_meet
              case rel => exact ⟨by rw [HEX.out]; rfl, by first | exact ⟨_, rfl⟩ | (simp only [World.drewN_drewN]; exact ⟨_, rfl⟩)⟩
      case rest =>
        obtain ⟨rfl, nn, rfl⟩ := hcut
        by_cases hkf : k < f
        · go_wp2_with (first
            | (at_builtin; refine wpList_append_lies _ (by rfl) _ _ 23 (by rfl) W0.heap.size 55 i0 (.complex .f64 0 0) 1 16 Try.underlying23 hi hz0 hz1 hz2 (by rfl) (by decide) (v0) k (hs.map cx) (by rfl) (G2.alloc (HG.out.drewN _) _).oh ⟨_, 0, none⟩ 1 1 [.complex .f64 zr zi] (by rfl) (by rfl) (fun j u hj => by match j, hj with | 0, hj => (simp at hj; subst hj; simp [Addr.add, new_cell])) (fun u hu => by simp at hu; subst hu; rfl) (by decide) (by unfold maxLen; omega) (by omega) (by simp; omega) _ rfl ?_; intro g1 cap1 w5 hown1 hgrow1 hat1 hlt1; have G1 := hid_of ((G2.alloc (HG.out.drewN _) _).pushH (r := (zr, zi)) hown1 hgrow1 hat1 rfl); have B5 := hid_of (grow_below (below_drewN HB.out _) hgrow1 (fun j hj => own_ge HG.out.oh hj)); have hcx5 := (B5.out.cell (p := ⟨q, off + k, none⟩) hq).trans C1.out; have hS5 := B5.out.size; clear hown1 hgrow1 hat1)
            | (go_at_call 37; (with_reducible refine (conj_any _ rx1 rx2).mono ?_); rintro e w6 ⟨ci, rfl, hci, hw6⟩; subst w6)
            | (go_at_call 36; (with_reducible refine (neg_any _ rx1 hci).mono ?_); rintro e w6 ⟨tr, ti, rfl, htr, hti, hw6⟩; subst w6)
            | (at_builtin; refine wpList_append_lies _ (by rfl) _ _ 23 (by rfl) W0.heap.size 55 i0 (.complex .f64 0 0) 1 16 Try.underlying23 hi hz0 hz1 hz2 (by rfl) (by decide) (v1) k (ts.map cx) (by rfl) (G1.out.alloc _).ot ⟨_, 0, none⟩ 1 1 [.complex .f64 tr ti] (by rfl) (by rfl) (fun j u hj => by match j, hj with | 0, hj => (simp at hj; subst hj; simp [Addr.add])) (fun u hu => by simp at hu; subst hu; rfl) (by decide) (by unfold maxLen; omega) (by omega) (by simp; omega) _ rfl ?_; intro g2 cap2 w7 hown2 hgrow2 hat2 hlt2; have G3 := hid_of ((G1.out.alloc _).pushT (r := (tr, ti)) hown2 hgrow2 hat2 rfl); have B7 := hid_of (grow_below B5.out hgrow2 (fun j hj => own_ge G1.out.ot hj)); have hcx7 := (B7.out.cell (p := ⟨q, off + k, none⟩) hq).trans C1.out; have hcy7 := (B7.out.cell (p := ⟨q, off + (f + p), none⟩) hq).trans C2.out; clear hown2 hgrow2 hat2 hcx5 G1 B5))
          go_roundw
          case measure => simp [intOf]; omega
          case rel => exact ⟨k + 1, hs ++ [(zr, zi)], ts ++ [(tr, ti)], _, _, by omega, by go_num, rfl, rfl, rfl, by rw [List.length_append, HLH.out]; rfl, by rw [List.length_append, HLT.out]; rfl, repl_push HLH.out HRH.out (by rw [HHH.out]; exact ⟨hz4, hz5⟩), repl_push HLT.out HRT.out (by rw [HTT.out]; exact ⟨htr, hti⟩), G3.out, B7.out⟩
        · have hfx := HFX.out (by omega) hlt
          have hord : FloatKind.f64.format.order (wt x) (wt y) = some .lt ∧ k < f + p ∨ (FloatKind.f64.format.order (wt x) (wt y) == some .gt) = false ∧ ¬ k < f + p := by
            by_cases hki : k < f + p
            · exact .inl ⟨ord_lt lx ly (HFT.out (by omega) hki), hki⟩
            · exact .inr ⟨ord_ngt lx ly (by have := HMX.out (by omega) hlt; omega), hki⟩
          go_wp2_with (first
            | (at_builtin; refine wpList_append_lies _ (by rfl) _ _ 23 (by rfl) W0.heap.size 55 i0 (.complex .f64 0 0) 1 16 Try.underlying23 hi hz0 hz1 hz2 (by rfl) (by decide) (v0) k (hs.map cx) (by rfl) (G2.alloc (HG.out.drewN _) _).oh ⟨_, 0, none⟩ 1 1 [.complex .f64 zr zi] (by rfl) (by rfl) (fun j u hj => by match j, hj with | 0, hj => (simp at hj; subst hj; simp [Addr.add, new_cell])) (fun u hu => by simp at hu; subst hu; rfl) (by decide) (by unfold maxLen; omega) (by omega) (by simp; omega) _ rfl ?_; intro g1 cap1 w5 hown1 hgrow1 hat1 hlt1; have G1 := hid_of ((G2.alloc (HG.out.drewN _) _).pushH (r := (zr, zi)) hown1 hgrow1 hat1 rfl); have B5 := hid_of (grow_below (below_drewN HB.out _) hgrow1 (fun j hj => own_ge HG.out.oh hj)); have hcx5 := (B5.out.cell (p := ⟨q, off + k, none⟩) hq).trans C1.out; have hS5 := B5.out.size; clear hown1 hgrow1 hat1)
            | (go_at_call 37; (with_reducible refine (conj_any _ rx1 rx2).mono ?_); rintro e w6 ⟨ci, rfl, hci, hw6⟩; subst w6)
            | (go_at_call 36; (with_reducible refine (neg_any _ rx1 hci).mono ?_); rintro e w6 ⟨tr, ti, rfl, htr, hti, hw6⟩; subst w6)
            | (at_builtin; refine wpList_append_lies _ (by rfl) _ _ 23 (by rfl) W0.heap.size 55 i0 (.complex .f64 0 0) 1 16 Try.underlying23 hi hz0 hz1 hz2 (by rfl) (by decide) (v1) k (ts.map cx) (by rfl) (G1.out.alloc _).ot ⟨_, 0, none⟩ 1 1 [.complex .f64 tr ti] (by rfl) (by rfl) (fun j u hj => by match j, hj with | 0, hj => (simp at hj; subst hj; simp [Addr.add])) (fun u hu => by simp at hu; subst hu; rfl) (by decide) (by unfold maxLen; omega) (by omega) (by simp; omega) _ rfl ?_; intro g2 cap2 w7 hown2 hgrow2 hat2 hlt2; have G3 := hid_of ((G1.out.alloc _).pushT (r := (tr, ti)) hown2 hgrow2 hat2 rfl); have B7 := hid_of (grow_below B5.out hgrow2 (fun j hj => own_ge G1.out.ot hj)); have hcx7 := (B7.out.cell (p := ⟨q, off + k, none⟩) hq).trans C1.out; have hcy7 := (B7.out.cell (p := ⟨q, off + (f + p), none⟩) hq).trans C2.out; clear hown2 hgrow2 hat2 hcx5 G1 B5))
          go_region_held_law (fun W => W.cell? ⟨q, off + k, none⟩ = some (.complex .f64 x.1 x.2) ∧ W.cell? ⟨q, off + (f + p), none⟩ = some (.complex .f64 y.1 y.2)) (first | (with_reducible exact ⟨hcx7, hcy7⟩) | go_keep)
            (first
            | (go_at_call 35; (with_reducible refine (size1_wt hox hfx).mono ?_); rintro e w8 ⟨m8, rfl, rfl⟩)
            | (go_at_call 35; (with_reducible refine (size1_wt hoy hfy).mono ?_); rintro e w8 ⟨m9, rfl, rfl⟩))
          all_goals
            clear hcx7 hcy7
            rcases hord with ⟨ho, hki⟩ | ⟨ho, hki⟩
            all_goals
              go_wp2
              go_roundw
              case measure => simp [intOf]; omega
              case rel => exact ⟨k + 1, hs ++ [(zr, zi)], ts ++ [(tr, ti)], _, _, by omega, by go_num, rfl, rfl, rfl, by rw [List.length_append, HLH.out]; rfl, by rw [List.length_append, HLT.out]; rfl, repl_push HLH.out HRH.out (by rw [HHH.out]; exact ⟨hz4, hz5⟩), repl_push HLT.out HRT.out (by rw [HTT.out]; exact ⟨htr, hti⟩), G3.out.drewN _, below_drewN B7.out _⟩
    · have e : k = n := by omega
      subst e
      obtain ⟨g1, c1, rfl, hg1, hc1, _⟩ := own_shape hG.oh (by omega)
      obtain ⟨g2, c2, rfl, hg2, hc2, _⟩ := own_shape hG.ot (by omega)
      have R1 : Rc wr (some ⟨g1, 0, none⟩) hs := by
        obtain ⟨A', C', hv, _, _, hr⟩ := own_rc hlh.symm hG.oh
        cases hv
        exact hr
      have R2 : Rc wr (some ⟨g2, 0, none⟩) ts := by
        obtain ⟨A', C', hv, _, _, hr⟩ := own_rc hlt'.symm hG.ot
        cases hv
        exact hr
      have HR1 := hid_of R1
      have HR2 := hid_of R2
      have HLH := hid_of hlh
      have HLT := hid_of hlt'
      have HRH := hid_of hrh
      have HRT := hid_of hrt
      have BW := hid_of (b_of B2.out hbel B2.out.size)
      clear R1 R2 hlh hlt' hrh hrt hG hbel hg1 hg2
      cases hex : exL xs k
      · go_wp2_with (first
          | (go_at_call 11; (with_reducible refine (HTU.out _ g2 c2 ts HLT.out HRT.out HR2.out hc2).mono ?_); rintro e w8 ⟨mt, rfl, rfl⟩)
          | (go_at_call 11; (with_reducible refine (HHA.out _ g1 c1 hs HLH.out HRH.out (HR1.out.drewN _) hc1).mono ?_); rintro e w8 ⟨mh, I, E, rfl, hIE, rfl⟩; clear hIE)
          | (go_at_call 13; (with_reducible refine (plives_any _).mono ?_); rintro e w9 ⟨rfl, hb9⟩; have B9 := b_of (below_drewN BW.out _) hb9 (below_drewN BW.out _).size; clear hb9 BW))
        go_ret
        exact ⟨rfl, B9⟩
      · go_wp2_with (first
          | (go_at_call 11; (with_reducible refine (HTU.out _ g2 c2 ts HLT.out HRT.out HR2.out hc2).mono ?_); rintro e w8 ⟨mt, rfl, rfl⟩)
          | (go_at_call 11; (with_reducible refine (HHA.out _ g1 c1 hs HLH.out HRH.out (HR1.out.drewN _) hc1).mono ?_); rintro e w8 ⟨mh, I, E, rfl, hIE, rfl⟩; obtain ⟨rfl, rfl⟩ := hIE hex)
          | (go_at_call 13; (with_reducible refine (plives_any _).mono ?_); rintro e w9 ⟨rfl, hb9⟩; have B9 := b_of (below_drewN BW.out _) hb9 (below_drewN BW.out _).size; clear hb9 BW))
        go_ret
        exact ⟨rfl, B9⟩

theorem first_any (fr : Int) (ao : Option Addr) (n cap : Nat) (xs : List Cw) (w : World) (hn : xs.length = n) (hsz : n * 16 + 192 ≤ 140737488355328) (hc : Rz w ao xs) (hx : okl xs) :
    Calls Try.prog 6 #[.slice ao n cap, .int .i64 fr] w fun e w' => e = .returned (.bool true) ∧ Below w.heap.size w w' := by
  by_cases hE : chE xs fr = 0
  · exact first_yes fr ao n cap xs w hn hsz hc hx hE
  · exact first_no fr ao n cap xs w hn hsz hc hx hE

end Go.Proofs.Ytgpjlobclcbniaa
