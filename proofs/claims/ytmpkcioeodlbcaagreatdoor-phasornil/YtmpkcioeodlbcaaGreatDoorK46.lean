/-
  Several texts in one: Lwi Slb0 Slb Slc Lwj.
-/
import Derived.Test.YtmpkcioeodlbcaaGreatDoorK45
import Derived.Deep.RegionWith
import Derived.Deep.RegionHeldLaw
import Derived.Deep.DeepCutAuto
namespace Go.Proofs.YtmpkcioeodlbcaaGreatDoor
open Fl RowKit
/-- what a Lower holds: the pointer is nil and nothing is held, or there is such a struct -/
def Hs (w : World) (v : Value) (A : Option Addr) (n c : Nat) (B : Option Addr) (m d : Nat) (s : Int) : Prop :=
  (v = .pointer none ∧ A = none ∧ n = 0 ∧ c = 0 ∧ B = none ∧ m = 0 ∧ d = 0 ∧ s = 0) ∨ ∃ p, v = .pointer (some ⟨p, 0, none⟩) ∧ V3 p (.slice A n c) (.slice B m d) (.int .i64 s) w
theorem Hs.below {w w' : World} {v : Value} {A B : Option Addr} {n c m d : Nat} {s : Int} (h : Hs w v A n c B m d s) (hb : Below w.heap.size w w') : Hs w' v A n c B m d s := by
  rcases h with h | ⟨p, h1, h2⟩
  · exact .inl h
  · exact .inr ⟨p, h1, h2.below hb⟩
theorem Lo.hs {w : World} {b p n gr go : Nat} {bl : Nat → Nat} {M : Nat → Nat → Cw} {o : Nat → Nat} {s : Int} (h : Lo w b p n gr go bl M o s) : Hs w (.pointer (some ⟨p, 0, none⟩)) (some ⟨gr, 0, none⟩) n n (some ⟨go, 0, none⟩) n n s := .inr ⟨p, rfl, h.v⟩
set_option maxHeartbeats 1000000 in
theorem held_any {v : Value} {A B : Option Addr} {n c m d : Nat} {s : Int} {w : World} (h : Hs w v A n c B m d s) :
    Calls Tryz.prog 164 #[v] w fun e w' => e = .returned (.agg #[.slice A n c, .slice B m d, .int .i64 s]) ∧ Below w.heap.size w w' := by
  have V0 : V3 w.heap.size (.slice none 0 0) (.slice none 0 0) (.int .i64 0) (w.alloc (.cells #[.slice none 0 0, .slice none 0 0, .int .i64 0] 212)) := v3_new w _ _ _ _
  have B0 : Below w.heap.size w (w.alloc (.cells #[.slice none 0 0, .slice none 0 0, .int .i64 0] 212)) := bal _ _
  rcases h with ⟨rfl, rfl, rfl, rfl, rfl, rfl, rfl, rfl⟩ | ⟨p, rfl, hv⟩
  · clear V0 B0
    go_enter Tryz.func164, Tryz.ntmps164
    go_wp2
    refine bodyPost_ret (by simp [results, Tryz.results164, go_sem]; try rfl) rfl ?_
    exact ⟨rfl, bal _ _⟩
  · have hv1 := hv.below B0
    have c0 := hv1.c0
    have c1 := hv1.c1
    have c2 := hv1.c2
    have pl := hv.lt
    clear V0 B0 hv hv1
    go_enter Tryz.func164, Tryz.ntmps164
    go_wp2
    refine bodyPost_ret (by simp [results, Tryz.results164, go_sem]; try rfl) rfl ?_
    exact ⟨rfl, bal _ _⟩
@[go_sem] theorem run_fieldL0 (A B : Option Addr) (n c m d : Nat) (s : Int) (w : World) : Sem.run Tryz.prog (Instr.field 212 (.agg #[.slice A n c, .slice B m d, .int .i64 s]) 0) w = .ok (.slice A n c) w := by kernel_rfl
@[go_sem] theorem run_fieldL1 (A B : Option Addr) (n c m d : Nat) (s : Int) (w : World) : Sem.run Tryz.prog (Instr.field 212 (.agg #[.slice A n c, .slice B m d, .int .i64 s]) 1) w = .ok (.slice B m d) w := by kernel_rfl
@[go_sem] theorem run_fieldL2 (A B : Option Addr) (n c m d : Nat) (s : Int) (w : World) : Sem.run Tryz.prog (Instr.field 212 (.agg #[.slice A n c, .slice B m d, .int .i64 s]) 2) w = .ok (.int .i64 s) w := by kernel_rfl
theorem lsize_any {v : Value} {A B : Option Addr} {n c m d : Nat} {s : Int} {w : World} (h : Hs w v A n c B m d s) :
    Calls Tryz.prog 125 #[v] w fun e w' => e = .returned (.int .i64 n) ∧ Below w.heap.size w w' := by
  have HH := hid_o h
  clear h
  go_enter Tryz.func125, Tryz.ntmps125
  go_wp2_with (go_at_call 164; (with_reducible refine (held_any HH.out).mono ?_); rintro e w1 ⟨rfl, hb⟩)
  go_ret
  exact ⟨rfl, hb⟩
theorem lsign_any {v : Value} {A B : Option Addr} {n c m d : Nat} {s : Int} {w : World} (h : Hs w v A n c B m d s) :
    Calls Tryz.prog 124 #[v] w fun e w' => e = .returned (.int .i64 s) ∧ Below w.heap.size w w' := by
  have HH := hid_o h
  clear h
  go_enter Tryz.func124, Tryz.ntmps124
  go_wp2_with (go_at_call 164; (with_reducible refine (held_any HH.out).mono ?_); rintro e w1 ⟨rfl, hb⟩)
  go_ret
  exact ⟨rfl, hb⟩
set_option maxHeartbeats 2000000 in
theorem lorder_any {v : Value} {A B : Option Addr} {n c m d : Nat} {s : Int} {w : World} (zs : List Int) (hm : zs.length = m) (hm4 : m ≤ 4096) (h : Hs w v A n c B m d s) (hc : Qi w B zs) :
    Calls Tryz.prog 142 #[v] w fun e w' => ∃ g, e = .returned (.slice (some ⟨g, 0, none⟩) m m) ∧ Ir w' w.heap.size (.slice (some ⟨g, 0, none⟩) m m) m zs ∧ Below w.heap.size w w' := by
  obtain ⟨i0, hi, hz0, hz1, hz2⟩ := info_parts Tryz.infoI
  have HC := hid_o hc
  have HH := hid_o h
  clear hc h
  go_enter Tryz.func142, Tryz.ntmps142
  go_wp2_with (first
    | (go_at_call 164; (with_reducible refine (held_any HH.out).mono ?_); rintro e w1 ⟨rfl, hb⟩; have HB1 := hid_o hb; clear hb)
    | (at_make; (refine wpList_make_full _ rfl _ _ 160 rfl w1.heap.size 3 i0 (.int .i64 0) 1 Tryz.underlying160 hi hz0 hz1 _ _ _ _ m rfl rfl rfl rfl (by rw [hz2]; omega) (by unfold maxLen; omega) (Nat.le_refl _) ?_); intro w2 hown hgrow; (have BB : Below w1.heap.size w1 w2 := (Below.refl _ _).grown hgrow (Nat.le_refl _) (by intro k hk; simp at hk)); (have HB2 := hid_o (HB1.out.trans (BB.mono HB1.out.size))); (obtain ⟨cur, hcur, hcs⟩ := made_cur hown); clear hown hgrow BB)
    | (refine wpList_copy_splice rfl _ _ _ _ rfl 3 Tryz.underlying160 Tryz.infoIs _ _ _ _ _ _ rfl rfl w1.heap.size 0 cur _ hcur (zs.map ci) (by simp [hm]) (fun h0 => ⟨rfl, src_at (HC.out.below HB2.out) h0⟩) (by rw [List.length_map, hcs]; omega) one_ci w.heap.size w HB2.out HB1.out.size ?_; intro w3 hb2 B2; clear hcur))
  go_ret
  rw [splice_all (by rw [hcs, List.length_map, hm])] at hb2
  exact ⟨w1.heap.size, rfl, ir_of hm (by unfold maxLen; omega) HB1.out.size hb2.out, B2⟩

/-- rows that are read: a slice of rows, each of n numbers -/
structure Rws (w : World) (A : Option Addr) (n : Nat) (M : Nat → Nat → Cw) : Prop where
  at_ : ∀ i, i < n → ∃ gr bl, A = some ⟨gr, 0, none⟩ ∧ gr < w.heap.size ∧ w.cell? ⟨gr, i, none⟩ = some (.slice (some ⟨bl, 0, none⟩) n n) ∧ bl < w.heap.size ∧ ∀ j, j < n → w.cell? ⟨bl, j, none⟩ = some (cx (M i j))
theorem Rws.below {w w' : World} {A : Option Addr} {n : Nat} {M : Nat → Nat → Cw} (h : Rws w A n M) (hb : Below w.heap.size w w') : Rws w' A n M := by
  refine ⟨fun i hi => ?_⟩
  obtain ⟨gr, bl, h1, h2, h3, h4, h5⟩ := h.at_ i hi
  exact ⟨gr, bl, h1, Nat.lt_of_lt_of_le h2 hb.size, (hb.cell (p := ⟨gr, i, none⟩) h2).trans h3, Nat.lt_of_lt_of_le h4 hb.size, fun j hj => (hb.cell (p := ⟨bl, j, none⟩) h4).trans (h5 j hj)⟩
/-- what a function of a row, a column and a number says -/
def Says3 (F : FuncId) (n : Nat) (f : Nat → Nat → Cw → Cw) : Prop :=
  ∀ (i j : Nat) (z : Cw) (W : World), i < n → j < n → Calls Tryz.prog F #[.int .i64 i, .int .i64 j, .complex .f64 z.1 z.2] W fun e W' => e = .returned (.complex .f64 (f i j z).1 (f i j z).2) ∧ W' = W
def flw (n : Nat) (E : Nat → Nat → Cw) (k : Nat) : Cw := E (k / n) (k % n)
theorem flw_at {n i j : Nat} {E : Nat → Nat → Cw} (hj : j < n) : flw n E (i * n + j) = E i j := by
  unfold flw
  rw [Nat.add_comm, Nat.add_mul_div_right _ _ (by omega), Nat.div_eq_of_lt hj, Nat.add_mul_mod_self_right, Nat.mod_eq_of_lt hj, Nat.zero_add]
set_option maxHeartbeats 4000000 in
theorem laid_any (F : FuncId) (f : Nat → Nat → Cw → Cw) {v : Value} {A B : Option Addr} {n c m d : Nat} {s : Int} {M : Nat → Nat → Cw} {w : World} (hn : n ≤ 64) (hE : Ent F) (hF : Says3 F n f) (h : Hs w v A n c B m d s) (hR : Rws w A n M) :
    Calls Tryz.prog 189 #[v, .func (.func F) #[] #[]] w fun e w' => ∃ g, e = .returned (.agg #[.int .i64 n, .int .i64 n, .slice (some ⟨g, 0, none⟩) (n * n) (n * n)]) ∧ Rw w' w.heap.size (.slice (some ⟨g, 0, none⟩) (n * n) (n * n)) (n * n) (ro (n * n) (flw n (fun i j => f i j (M i j)))) ∧ Below w.heap.size w w' := by
  obtain ⟨i0, hi, hz0, hz1, hz2⟩ := info_parts Tryz.infoC
  have h4 := le_4096 hn hn
  have hm := wrap_mul (i := n) (C := n) (by omega) (by omega)
  obtain ⟨N, hne⟩ : ∃ N, N = n * n := ⟨_, rfl⟩
  rw [← hne] at hm h4 ⊢
  have HN := hid_o hne
  have V0 : V3 w.heap.size (.int .i64 0) (.int .i64 0) (.slice none 0 0) (w.alloc (.cells #[.int .i64 0, .int .i64 0, .slice none 0 0] 120)) := v3_new w _ _ _ _
  have B0 : Below w.heap.size w (w.alloc (.cells #[.int .i64 0, .int .i64 0, .slice none 0 0] 120)) := bal _ _
  have H1 := hid_o (h.below B0)
  have HV := hid_o V0
  have HB := hid_o B0
  have HR := hid_o hR
  have HF := hid_o hF
  have HEN := hid_o hE
  clear hne h V0 B0 hR hF hE
  go_enter Tryz.func189, Tryz.ntmps189
  go_wp2_with (first
    | (go_at_call 164; (with_reducible refine (held_any H1.out).mono ?_); rintro e w1 ⟨rfl, hb⟩; have HB1 := hid_o (HB.out.trans (hb.mono (by simp))); have HV1 := hid_o (HV.out.below hb); clear hb)
    | (at_make; refine wpList_make_full _ rfl _ _ 32 rfl w1.heap.size 39 i0 (.complex .f64 0 0) 1 Tryz.underlying32 hi hz0 hz1 _ _ _ _ N rfl rfl (by first | rfl | exact hm) (by first | rfl | exact hm) (by rw [hz2]; omega) (by unfold maxLen; omega) (Nat.le_refl _) ?_; intro w2 hown hgrow; (have BB : Below w1.heap.size w1 w2 := (Below.refl _ _).grown hgrow (Nat.le_refl _) (by intro k hk; simp at hk)); rw [made_zeroC, ro_zero] at hown; (have RW : Hid (Rw w2 w.heap.size (.slice (some ⟨w1.heap.size, 0, none⟩) N N) N (ro N (fun _ => (0, 0)))) := ⟨ro_len _ _, own_base hown HB1.out.size⟩); (have HB2 := hid_o (HB1.out.trans (BB.mono HB1.out.size))); (have HV2 := hid_o (HV1.out.below BB)); (have HS1 := hid_o HB1.out.size); (have HVL := hid_o HV1.out.lt); clear hown hgrow BB hm))
  go_loopw [23] (fun iv wr => ∃ (i : Nat) (y : Nat → Cw), i ≤ n ∧ iv = .int .i64 i ∧ (∀ k, k < i * n → y k = flw n (fun i j => f i j (M i j)) k) ∧ Rw wr w.heap.size (.slice (some ⟨w1.heap.size, 0, none⟩) N N) N (ro N y) ∧ V3 w.heap.size (.int .i64 0) (.int .i64 0) (.slice none 0 0) wr ∧ Below w.heap.size w wr) (fun iv _ => n - (intOf iv).toNat)
  case atStart => exact ⟨0, _, Nat.zero_le _, rfl, fun k hk => absurd hk (by omega), RW.out, HV2.out, HB2.out⟩
  case round =>
    clear RW HB2 HV2
    obtain ⟨i, y, hin, rfl, hy, hrw, hV, hbel⟩ := hrel
    by_cases hlt : i < n
    · obtain ⟨gr, bl, hA, gl, d1, bll, d2⟩ := (HR.out.below hbel).at_ i hlt
      obtain ⟨_, bl0, hA0, gl0, d10, bll0, d20⟩ := HR.out.at_ i hlt
      subst hA
      cases hA0
      have ebl : bl0 = bl := by
        rw [hbel.cell (p := ⟨gr, i, none⟩) gl0, d10] at d1
        cases d1; rfl
      subst ebl
      have HMI := hid_o (wrap_mul (i := i) (C := n) (by omega) (by omega))
      have h1 : (i + 1) * n ≤ n * n := Nat.mul_le_mul_right _ (by omega)
      rw [Nat.succ_mul, ← HN.out] at h1
      obtain ⟨k, hke⟩ : ∃ k, k = i * n := ⟨_, rfl⟩
      have HK := hid_o hke
      rw [← hke] at HMI h1 hy
      have D20 := hid_o d20
      have BLL := hid_o bll0
      clear hke d2 d20 d10 bll gl gl0 bll0
      go_wp2
      go_loopw [30] (fun jv wr => ∃ (j : Nat) (y : Nat → Cw), j ≤ n ∧ jv = .int .i64 j ∧ (∀ t, t < k + j → y t = flw n (fun i j => f i j (M i j)) t) ∧ Rw wr w.heap.size (.slice (some ⟨w1.heap.size, 0, none⟩) N N) N (ro N y) ∧ V3 w.heap.size (.int .i64 0) (.int .i64 0) (.slice none 0 0) wr ∧ Below w.heap.size w wr) (fun jv _ => n - (intOf jv).toNat)
      case atStart => exact ⟨0, y, Nat.zero_le _, rfl, hy, hrw, hV, hbel⟩
      case round =>
        clear hy hrw hV hbel d1
        obtain ⟨j, y, hjn, rfl, hy, hrw, hV, hbel⟩ := hrel
        by_cases hjl : j < n
        · have e1 : wr.cell? ⟨bl0, j, none⟩ = some (cx (M i j)) := (hbel.cell (p := ⟨bl0, j, none⟩) BLL.out).trans (D20.out j hjl)
          have e2 := rw_cell hrw (j := k + j) (by omega)
          have fz := hrw.own.frozenAt (k + j)
          have HFn := hid_o (fun W => HF.out i j (M i j) W hlt hjl)
          have HX : Hid (flw n (fun i j => f i j (M i j)) (k + j) = f i j (M i j)) := by show _ = _; rw [HK.out]; exact flw_at hjl
          obtain ⟨z, hz⟩ : ∃ z, z = M i j := ⟨_, rfl⟩
          rw [← hz] at e1 HFn
          obtain ⟨r, hr⟩ : ∃ r, r = f i j z := ⟨_, rfl⟩
          rw [← hr] at HFn
          have HX2 : Hid (flw n (fun i j => f i j (M i j)) (k + j) = r) := by rw [hr, hz]; exact HX.out
          have HY := hid_o hy
          have HRW := hid_o hrw
          have HVv := hid_o hV
          have HBE := hid_o hbel
          have HE := HEN.out
          unfold Ent at HE
          unfold cx at e1 e2
          clear hr hz hy hrw hV hbel HX
          have hmi := HMI.out
          go_wp2_with ((with_reducible refine (HFn.out _).mono ?_); rintro e w5 ⟨rfl, hw5⟩; subst w5)
          clear hmi
          go_roundw
          case measure => simp [intOf]; omega
          case rel =>
            refine ⟨j + 1, upz y (k + j) r, by omega, by go_num, fun t ht => ?_, rw_set HRW.out (k + j) r, HVv.out.other (by have := HS1.out; have := HVL.out; show w1.heap.size ≠ w.heap.size; omega) _, HBE.out.setCell (p := ⟨w1.heap.size, k + j, none⟩) HS1.out _⟩
            by_cases e : t = k + j
            · rw [e, upz_self]; exact HX2.out.symm
            · rw [upz_ne _ _ e]; exact HY.out t (by omega)
        · have e : j = n := by omega
          subst e
          go_wp2
          go_roundw
          case rel => exact ⟨i + 1, y, by omega, by go_num, fun t ht => hy t (by rw [Nat.succ_mul, ← HK.out] at ht; exact ht), hrw, hV, hbel⟩
          case measure => simp [intOf]; omega
    · have e : i = n := by omega
      subst e
      have q0 := hV.c0
      have q1 := hV.c1
      have q2 := hV.c2
      have q3 := hV.f0
      have q4 := hV.f1
      have q5 := hV.f2
      have vlt := hV.lt
      obtain ⟨m0, m1, m2⟩ := hV.reads
      have HY := hid_o hy
      have HRW := hid_o hrw
      have HBE := hid_o hbel
      clear hy hrw hbel HR
      go_wp2
      refine bodyPost_ret (by simp [results, Tryz.results189, go_sem, m0, m1, m2]; try rfl) rfl ?_
      refine ⟨w1.heap.size, rfl, ?_, below_set3 HBE.out (Nat.le_refl _) _ _ _⟩
      rw [← ro_congr (fun t ht => HY.out t (by rw [← HN.out]; exact ht))]
      exact ⟨HRW.out.len, own_at HRW.out.own (fun g hg => by cases hg; exact set3_block (by have h1 := HVL.out; have h2 := HS1.out; exact Nat.ne_of_lt h1))⟩

end Go.Proofs.YtmpkcioeodlbcaaGreatDoor
namespace Go.Proofs.YtmpkcioeodlbcaaGreatDoor
open Fl RowKit
theorem sub_rc {w : World} {A : Option Addr} {N : Nat} {E : Nat → Cw} (h : Rc w A (ro N E)) {B off : Nat} (hA : A = some ⟨B, off, none⟩) (hB : B < w.heap.size) (k n : Nat) (hk : k + n ≤ N) : Rc w (some ⟨B, off + k, none⟩) (ro n (fun j => E (k + j))) := by
  intro j hj
  rw [ro_len] at hj
  obtain ⟨B', off', h1, h2, h3⟩ := h (k + j) (by rw [ro_len]; omega)
  rw [hA] at h1
  cases h1
  refine ⟨B, off + k, rfl, hB, ?_⟩
  rw [ro_at _ hj, Nat.add_assoc]
  rw [ro_at _ (by omega)] at h3
  exact h3
theorem ro_rep {n m : Nat} {E : Nat → Cw} {f : Nat → Cn} (h : ∀ j, j < n → repz (f j) (E j)) (hm : m ≤ n) : repl f m (ro m E) := fun j hj => by rw [ro_at _ hj]; exact h j (by omega)
/-- the matrix' answers by row and column -/
def mz (n : Nat) (E : Nat → Cw) (i j : Nat) : Cn := anz (E (i * n + j))
theorem repz_up {n i : Nat} {f : Nat → Cn} {y : Nat → Cw} {v : Cn} {r : Cw} (h : ∀ j, j < n → repz (f j) (y j)) (hr : repz v r) : ∀ j, j < n → repz (upC f i v j) (upz y i r j) := fun j hj => by
  by_cases e : j = i
  · subst e; rw [upC_self, upz_self]; exact hr
  · rw [upC_ne _ _ e, upz_ne _ _ e]; exact h j hj
theorem ro_okl {n : Nat} {f : Nat → Cn} {y : Nat → Cw} (h : ∀ j, j < n → repz (f j) (y j)) : okl (ro n y) := ro_ok (fun j hj => (h j hj).ok)
theorem rc_set {w : World} {A : Option Addr} {xs : List Cw} {g : Nat} (h : Rc w A xs) (hA : ∀ B off, A = some ⟨B, off, none⟩ → B ≠ g) (k : Nat) (v : Value) : Rc (w.setCell ⟨g, k, none⟩ v) A xs := fun j hj => by
  obtain ⟨B, off, h1, h2, h3⟩ := h j hj
  refine ⟨B, off, h1, by simpa using h2, ?_⟩
  rw [other_cell _ (by intro e; exact hA B off h1 (congrArg Addr.block e).symm)]
  exact h3

end Go.Proofs.YtmpkcioeodlbcaaGreatDoor
namespace Go.Proofs.YtmpkcioeodlbcaaGreatDoor
open Fl RowKit
set_option maxHeartbeats 4000000 in
theorem forward_any (F : FuncId) (L : Cn → Cn → Cn) {b g c n ca : Nat} {A : Option Addr} {E y0 : Nat → Cw} {f0 : Nat → Cn} {w : World} (hEn : Ent F) (hF : SaysF F L) (hn : n ≤ 64) (hca : n * n ≤ ca) (hM : Rc w A (ro (n * n) E)) (hAg : ∀ B off, 0 < n → A = some ⟨B, off, none⟩ → B ≠ g) (hW : ∀ k, k < n * n → okz (E k))
    (hR : Rw w b (.slice (some ⟨g, 0, none⟩) n c) n (ro n y0)) (hc : n ≤ c) (hy : ∀ j, j < n → repz (f0 j) (y0 j)) :
    Calls Tryz.prog 185 #[.agg #[.int .i64 n, .int .i64 n, .slice A (n * n) ca], .slice (some ⟨g, 0, none⟩) n c, .func (.func F) #[] #[]] w fun e w' => ∃ y : Nat → Cw, e = .returned (.bool (finL (ro n y) n)) ∧ (∀ j, j < n → repz (fwS (mz n E) L f0 n j) (y j)) ∧ Rw w' b (.slice (some ⟨g, 0, none⟩) n c) n (ro n y) ∧ Below b w w' := by
  have h4 := le_4096 hn hn
  obtain ⟨N, hne⟩ : ∃ N, N = n * n := ⟨_, rfl⟩
  rw [← hne] at h4 hca hM hW ⊢
  have HN := hid_o hne
  have hbs : b ≤ w.heap.size := by have := hR.lt; omega
  have V0 : V3 w.heap.size (.int .i64 n) (.int .i64 n) (.slice A N ca) (w.alloc (.cells #[.int .i64 n, .int .i64 n, .slice A N ca] 120)) := v3_new w _ _ _ _
  have B0 : Below b w (w.alloc (.cells #[.int .i64 n, .int .i64 n, .slice A N ca] 120)) := (bal _ _).mono hbs
  have R0 := hid_o (hR.below (bal w (.cells #[.int .i64 n, .int .i64 n, .slice A N ca] 120)))
  have HGL := hid_o hR.lt
  have HV := hid_o V0
  have HB := hid_o B0
  have HM := hid_o (hM.below (bal w (.cells #[.int .i64 n, .int .i64 n, .slice A N ca] 120)))
  have HAG := hid_o hAg
  have HW := hid_o hW
  have HF := hid_o hF
  have HEN := hid_o hEn
  have HY := hid_o hy
  have HBS := hid_o hbs
  clear hAg hne V0 B0 hM hW hF hEn hR hy hbs
  go_enter Tryz.func185, Tryz.ntmps185
  go_wp2
  go_loopw [11] (fun iv wr => ∃ (i : Nat) (y : Nat → Cw), i ≤ n ∧ iv = .int .i64 i ∧ (∀ j, j < n → repz (fwS (mz n E) L f0 i j) (y j)) ∧ Rw wr b (.slice (some ⟨g, 0, none⟩) n c) n (ro n y) ∧ V3 w.heap.size (.int .i64 n) (.int .i64 n) (.slice A N ca) wr ∧ Below b w wr ∧ Rc wr A (ro N E)) (fun iv _ => n - (intOf iv).toNat)
  case atStart => exact ⟨0, y0, Nat.zero_le _, rfl, HY.out, R0.out, HV.out, HB.out, HM.out⟩
  case round =>
    clear R0 HV HB HY HM
    obtain ⟨i, y, hin, rfl, hy, hrw, hV, hbel, hRc⟩ := hrel
    by_cases hlt : i < n
    · have hkN : i * n + n ≤ N := by rw [HN.out]; have := Nat.mul_le_mul_right n (show i + 1 ≤ n by omega); rw [Nat.succ_mul] at this; exact this
      have hm := wrap_mul (i := i) (C := n) (by omega) (by omega)
      have hm2 := wrap_mul (i := i + 1) (C := n) (by omega) (by omega)
      rw [Nat.succ_mul, Int.natCast_add, Int.natCast_one] at hm2
      have HRC := hid_o hRc
      obtain ⟨B, off, hA, hBl, hcell⟩ := hRc (i * n + i) (by rw [ro_len]; omega)
      have hsub := sub_rc hRc hA hBl (i * n) i (by omega)
      have hkn : Rc wr (some ⟨g, 0, none⟩) (ro i (fun j => y (0 + j))) := sub_rc (hrw.rc) rfl hrw.lt.2 0 i (by omega)
      have hEr : repl (mz n E i) i (ro i (fun j => E (i * n + j))) := ro_rep (n := i) (fun j hj => repz_anz (HW.out _ (by omega))) (Nat.le_refl _)
      have hKr : repl (fwS (mz n E) L f0 i) i (ro i (fun j => y (0 + j))) := ro_rep (n := n) (fun j hj => by rw [Nat.zero_add]; exact hy j hj) hin
      have hd := HW.out (i * n + i) (by omega)
      have hmzd : mz n E i i = anz (E (i * n + i)) := rfl
      rw [ro_at _ (by omega)] at hcell
      obtain ⟨x, hxe⟩ : ∃ x, x = E (i * n + i) := ⟨_, rfl⟩
      rw [← hxe] at hcell hd hmzd
      obtain ⟨k, hke⟩ : ∃ k, k = i * n := ⟨_, rfl⟩
      rw [← hke] at hm hm2 hkN hcell hsub hEr
      subst hA
      have cy := rw_cell hrw hlt
      have fz := hrw.own.frozenAt i
      have hyi := hy i hlt
      obtain ⟨u, hue⟩ : ∃ u, u = y i := ⟨_, rfl⟩
      rw [← hue] at cy hyi
      unfold cx at hcell cy
      rw [← Nat.add_assoc] at hcell
      have c0 := hV.c0
      have c1 := hV.c1
      have c2 := hV.c2
      have vl := hV.lt
      have gl := hrw.lt.2
      have HRD := hid_o (fun (S : Cn) (hS : repz S u) => reduced_any u S _ _ (ca - k) c i i _ _ _ _ wr.drew hS (ro_len _ _) (ro_len _ _) (Nat.le_refl _) (by omega) (hsub.drewN 1) (hkn.drewN 1) hEr hKr)
      have HFn := hid_o (fun (p : Cw) (P : Cn) (W : World) (hp : repz P p) => HF.out p x P W hp hd)
      have HE := HEN.out
      unfold Ent at HE
      have HYI := hid_o hyi
      have HRW := hid_o hrw
      have HVv := hid_o hV
      have HBE := hid_o hbel
      have HYY := hid_o hy
      have HD := hid_o hd
      have HMZ := hid_o hmzd
      clear hxe hke hue hsub hkn hEr hKr hRc hyi hrw hV hbel hy hd hmzd
      go_wp2
      simp only [Nat.add_sub_cancel_left]
      clear hm hm2 c0 c1 c2
      have hik : i ≤ ca - k := by omega
      go_region_with (first
        | (go_at_call 216; (with_reducible refine (HRD.out _ HYI.out).mono ?_); rintro e w' ⟨r, m1, rfl, hr, rfl⟩; have HR := hid_o hr; clear hr)
        | ((with_reducible refine (HFn.out _ _ _ HR.out).mono ?_); rintro e w' ⟨q, m2, rfl, hq, rfl⟩; have HQ := hid_o hq; clear hq))
      all_goals
        go_wp2_with fail
        go_roundw
        case measure => simp [intOf]; omega
        case rel =>
          refine ⟨i + 1, upz y i q, by omega, by go_num, ?_, rw_set (HRW.out.drewN _) i q, (HVv.out.drewN _).other (q := ⟨g, i, none⟩) (by have := HGL.out; show g ≠ w.heap.size; omega) _, (below_drewN HBE.out _).setCell (p := ⟨g, i, none⟩) HGL.out.1 _, rc_set (HRC.out.drewN _) (fun B off e => HAG.out B off (by omega) e) i _⟩
          show ∀ j, j < n → repz (upC _ i _ j) _
          exact repz_up HYY.out (by rw [HMZ.out]; exact HQ.out)
    · have e : i = n := by omega
      subst e
      clear hRc
      have hRc := hrw.rc
      have HO := hid_o (ro_okl hy)
      have HRW := hid_o hrw
      have HBE := hid_o hbel
      have HYY := hid_o hy
      have HAF := hid_o (allfin_any (some ⟨g, 0, none⟩) c i (ro i y) wr (ro_len _ _) (by omega) hRc (ro_okl hy))
      clear hRc hrw hbel hy hV HW HF HEN
      go_wp2_with (go_at_call 184; (with_reducible refine HAF.out.mono ?_); rintro e w' ⟨rfl, rfl⟩)
      go_ret
      exact ⟨y, rfl, HYY.out, HRW.out, HBE.out⟩

end Go.Proofs.YtmpkcioeodlbcaaGreatDoor
namespace Go.Proofs.YtmpkcioeodlbcaaGreatDoor
open Fl RowKit
set_option maxHeartbeats 4000000 in
theorem backward_any (F : FuncId) (L : Cn → Cn → Cn) {b g n : Nat} {A : Option Addr} {E y0 : Nat → Cw} {f0 : Nat → Cn} {w : World} (hEn : Ent F) (hF : SaysF F L) (hn : n ≤ 64) (hM : Rc w A (ro (n * n) E)) (hAg : ∀ B off, 0 < n → A = some ⟨B, off, none⟩ → B ≠ g) (hW : ∀ k, k < n * n → okz (E k))
    (hR : Rw w b (.slice (some ⟨g, 0, none⟩) n n) n (ro n y0)) (hy : ∀ j, j < n → repz (f0 j) (y0 j)) :
    Calls Tryz.prog 187 #[.agg #[.int .i64 n, .int .i64 n, .slice A (n * n) (n * n)], .slice (some ⟨g, 0, none⟩) n n, .func (.func F) #[] #[]] w fun e w' => ∃ y : Nat → Cw, e = .returned (.bool (finL (ro n y) n)) ∧ (∀ j, j < n → repz (bwS n (mz n E) L f0 n j) (y j)) ∧ Rw w' b (.slice (some ⟨g, 0, none⟩) n n) n (ro n y) ∧ Below b w w' := by
  have h4 := le_4096 hn hn
  obtain ⟨N, hne⟩ : ∃ N, N = n * n := ⟨_, rfl⟩
  rw [← hne] at h4 hM hW ⊢
  have HN := hid_o hne
  have hbs : b ≤ w.heap.size := by have := hR.lt; omega
  have V0 : V3 w.heap.size (.int .i64 n) (.int .i64 n) (.slice A N N) (w.alloc (.cells #[.int .i64 n, .int .i64 n, .slice A N N] 120)) := v3_new w _ _ _ _
  have B0 : Below b w (w.alloc (.cells #[.int .i64 n, .int .i64 n, .slice A N N] 120)) := (bal _ _).mono hbs
  have R0 := hid_o (hR.below (bal w (.cells #[.int .i64 n, .int .i64 n, .slice A N N] 120)))
  have HGL := hid_o hR.lt
  have HV := hid_o V0
  have HB := hid_o B0
  have HM := hid_o (hM.below (bal w (.cells #[.int .i64 n, .int .i64 n, .slice A N N] 120)))
  have HAG := hid_o hAg
  have HW := hid_o hW
  have HF := hid_o hF
  have HEN := hid_o hEn
  have HY := hid_o hy
  have HBS := hid_o hbs
  clear hAg hne V0 B0 hM hW hF hEn hR hy hbs
  go_enter Tryz.func187, Tryz.ntmps187
  go_wp2
  go_loopw [7] (fun iv wr => ∃ (t : Nat) (y : Nat → Cw), t ≤ n ∧ iv = .int .i64 ((n : Int) - 1 - t) ∧ (∀ j, j < n → repz (bwS n (mz n E) L f0 t j) (y j)) ∧ Rw wr b (.slice (some ⟨g, 0, none⟩) n n) n (ro n y) ∧ V3 w.heap.size (.int .i64 n) (.int .i64 n) (.slice A N N) wr ∧ Below b w wr ∧ Rc wr A (ro N E)) (fun iv _ => (intOf iv + 1).toNat)
  case atStart => exact ⟨0, y0, Nat.zero_le _, congrArg (Value.int IntKind.i64) (by simp), HY.out, R0.out, HV.out, HB.out, HM.out⟩
  case round =>
    clear R0 HV HB HY HM
    obtain ⟨t, y, htn, hiv, hy, hrw, hV, hbel, hRc⟩ := hrel
    by_cases hlt : t < n
    · obtain ⟨i, hi⟩ : ∃ i : Nat, i + 1 + t = n := ⟨n - 1 - t, by omega⟩
      have hi' : i < n := by omega
      have hit : (n : Int) - 1 - t = (i : Int) := by omega
      rw [hit] at hiv
      subst hiv
      have hkN : i * n + n ≤ N := by rw [HN.out]; have := Nat.mul_le_mul_right n (show i + 1 ≤ n by omega); rw [Nat.succ_mul] at this; exact this
      have HM1 := hid_o (wrap_mul (i := i) (C := n) (by omega) (by omega))
      have HM2 : Hid (wrap64 (((i : Int) + 1) * (n : Int)) = ((i * n + n : Nat) : Int)) := by
        have hm2 := wrap_mul (i := i + 1) (C := n) (by omega) (by omega)
        rw [Nat.succ_mul, Int.natCast_add, Int.natCast_one] at hm2
        exact hm2
      have hn4 : n - (i + 1) ≤ 4096 := by omega
      have HRC := hid_o hRc
      obtain ⟨B, off, hA, hBl, hcell⟩ := hRc (i * n + i) (by rw [ro_len]; omega)
      have hsub := sub_rc hRc hA hBl (i * n + (i + 1)) (n - (i + 1)) (by omega)
      have hkn := sub_rc (hrw.rc) rfl hrw.lt.2 (i + 1) (n - (i + 1)) (by omega)
      have hEr : repl (fun k => mz n E i (i + 1 + k)) (n - (i + 1)) (ro (n - (i + 1)) (fun j => E (i * n + (i + 1) + j))) := ro_rep (n := n - (i + 1)) (fun j hj => by unfold mz; rw [← Nat.add_assoc (i * n)]; exact repz_anz (HW.out _ (by omega))) (Nat.le_refl _)
      have hKr : repl (fun k => bwS n (mz n E) L f0 t (i + 1 + k)) (n - (i + 1)) (ro (n - (i + 1)) (fun j => y (i + 1 + j))) := ro_rep (n := n - (i + 1)) (fun j hj => hy _ (by omega)) (Nat.le_refl _)
      have hd := HW.out (i * n + i) (by omega)
      have hmzd : mz n E i i = anz (E (i * n + i)) := rfl
      rw [ro_at _ (by omega)] at hcell
      obtain ⟨x, hxe⟩ : ∃ x, x = E (i * n + i) := ⟨_, rfl⟩
      rw [← hxe] at hcell hd hmzd
      obtain ⟨k, hke⟩ : ∃ k, k = i * n := ⟨_, rfl⟩
      have HK := hid_o hke
      rw [← hke] at HM1 HM2 hkN hcell hsub hEr
      rw [← Nat.add_assoc off] at hsub
      rw [Nat.zero_add] at hkn
      subst hA
      have cy := rw_cell hrw hi'
      have fz := hrw.own.frozenAt i
      have hyi := hy i hi'
      obtain ⟨u, hue⟩ : ∃ u, u = y i := ⟨_, rfl⟩
      rw [← hue] at cy hyi
      unfold cx at hcell cy
      rw [← Nat.add_assoc] at hcell
      have c0 := hV.c0
      have c1 := hV.c1
      have c2 := hV.c2
      have vl := hV.lt
      have gl := hrw.lt.2
      have HRD := hid_o (fun (S : Cn) (hS : repz S u) => reduced_any u S _ _ (N - k - (i + 1)) (n - (i + 1)) (n - (i + 1)) (n - (i + 1)) _ _ _ _ wr.drew hS (ro_len _ _) (ro_len _ _) (Nat.le_refl _) hn4 (hsub.drewN 1) (hkn.drewN 1) hEr hKr)
      have HFn := hid_o (fun (p : Cw) (P : Cn) (W : World) (hp : repz P p) => HF.out p x P W hp hd)
      have HE := HEN.out
      unfold Ent at HE
      have HYI := hid_o hyi
      have HRW := hid_o hrw
      have HVv := hid_o hV
      have HBE := hid_o hbel
      have HYY := hid_o hy
      have HD := hid_o hd
      have HMZ := hid_o hmzd
      have HI := hid_o hi
      have HLT := hid_o hlt
      have HTN := hid_o htn
      clear hlt htn hn4 hxe hke hue hsub hkn hEr hKr hRc hyi hrw hV hbel hy hd hmzd hi hit
      have HVL := hid_o vl
      have HGLL := hid_o gl
      have HBLL := hid_o hBl
      clear vl gl hBl
      have hm := HM1.out
      have hm2 := HM2.out
      go_wp2
      simp only [Nat.add_sub_cancel_left]
      clear hm hm2 c0 c1 c2
      have vl := HVL.out
      have gl := HGLL.out
      have hBl := HBLL.out
      have hwr : IntKind.i64.wrap ((i : Int) + 1) = (i : Int) + 1 := by rw [IntKind.wrap_i64]; omega
      rcases Nat.eq_zero_or_pos t with ht0 | ht0
      · have hik0 : n = i + 1 := by have := HI.out; omega
        have HNN := HN.out
        have HKE := HK.out
        have hik4 : N - k = n := by rw [HNN, HKE, hik0, Nat.succ_mul]; omega
        have hik5 : i + 1 = n := hik0.symm
        clear HNN HKE hik0
        have hik6 : (0 : Int) ≤ (i : Int) + 1 := by omega
        have hik7 : (i : Int) + 1 ≤ (n : Int) := by omega
        have HRE := hid_o (fun (ao bo : Option Addr) (l1 c1 l2 c2 : Nat) (e1 : l1 = 0) (e2 : l2 = 0) => (by subst e1 e2; exact reduced_any u _ ao bo c1 c2 0 0 (fun k => mz n E i (i + 1 + k)) (fun k => bwS n (mz n E) L f0 t (i + 1 + k)) [] [] wr.drew HYI.out rfl rfl (Nat.le_refl _) (by omega) (Rc.nil _ _) (Rc.nil _ _) (fun j hj => absurd hj (by omega)) (fun j hj => absurd hj (by omega)) : Calls Tryz.prog 216 #[.complex .f64 u.1 u.2, .slice ao l1 c1, .slice bo l2 c2] wr.drew fun e w' => ∃ (r : Cw) (m : Nat), e = .returned (.complex .f64 r.1 r.2) ∧ repz (redS (bwS n (mz n E) L f0 t i) (fun k => mz n E i (i + 1 + k)) (fun k => bwS n (mz n E) L f0 t (i + 1 + k)) 0) r ∧ w' = wr.drew.drewN m))
        clear HRD
        go_region_with (first
          | (go_at_call 216; (with_reducible refine (HRE.out _ _ _ _ _ _ (by omega) (by omega)).mono ?_); rintro e w' ⟨r, m1, rfl, hr, rfl⟩; have HR := hid_o hr; clear hr)
          | ((with_reducible refine (HFn.out _ _ _ HR.out).mono ?_); rintro e w' ⟨q, m2, rfl, hq, rfl⟩; have HQ := hid_o hq; clear hq))
        all_goals
          go_wp2_with fail
          go_roundw
          case measure => first | (simp [intOf]; done) | (simp [intOf]; omega)
          case rel =>
            refine ⟨t + 1, upz y i q, by have := HLT.out; omega, by have := HI.out; go_num, ?_, rw_set (HRW.out.drewN _) i q, (HVv.out.drewN _).other (q := ⟨g, i, none⟩) (by have := HGL.out; show g ≠ w.heap.size; omega) _, (below_drewN HBE.out _).setCell (p := ⟨g, i, none⟩) HGL.out.1 _, rc_set (HRC.out.drewN _) (fun B off e => HAG.out B off (by omega) e) i _⟩
            have e1 : n - 1 - t = i := by have := HI.out; omega
            have e2 : n - 1 - i = 0 := by have := HI.out; omega
            show ∀ j, j < n → repz (stB n (mz n E) L (n - 1 - t) (bwS n (mz n E) L f0 t) j) _
            rw [e1]
            unfold stB
            rw [e2]
            exact repz_up HYY.out (by rw [HMZ.out]; exact HQ.out)
      · have hik : i + 1 < n := by have := HI.out; omega
        have hik2 : i + 1 < N - k := by omega
        have hik3 : n ≤ N - k := by omega
        have hik4 : ¬ (N - k = i + 1) := by omega
        have hik5 : ¬ (n = i + 1) := by omega
        have hik6 : (0 : Int) ≤ (i : Int) + 1 := by omega
        have hik7 : (i : Int) + 1 ≤ (n : Int) := by omega
        go_region_with (first
          | (go_at_call 216; (with_reducible refine (HRD.out _ HYI.out).mono ?_); rintro e w' ⟨r, m1, rfl, hr, rfl⟩; have HR := hid_o hr; clear hr)
          | ((with_reducible refine (HFn.out _ _ _ HR.out).mono ?_); rintro e w' ⟨q, m2, rfl, hq, rfl⟩; have HQ := hid_o hq; clear hq))
        all_goals
          go_wp2_with fail
          go_roundw
          case measure => first | (simp [intOf]; done) | (simp [intOf]; omega)
          case rel =>
            refine ⟨t + 1, upz y i q, by have := HLT.out; omega, by have := HI.out; go_num, ?_, rw_set (HRW.out.drewN _) i q, (HVv.out.drewN _).other (q := ⟨g, i, none⟩) (by have := HGL.out; show g ≠ w.heap.size; omega) _, (below_drewN HBE.out _).setCell (p := ⟨g, i, none⟩) HGL.out.1 _, rc_set (HRC.out.drewN _) (fun B off e => HAG.out B off (by omega) e) i _⟩
            have e1 : n - 1 - t = i := by have := HI.out; omega
            have e2 : n - 1 - i = n - (i + 1) := by omega
            show ∀ j, j < n → repz (stB n (mz n E) L (n - 1 - t) (bwS n (mz n E) L f0 t) j) _
            rw [e1]
            unfold stB
            rw [e2]
            exact repz_up HYY.out (by rw [HMZ.out]; exact HQ.out)
    · have e : t = n := by omega
      subst e
      have hit : (t : Int) - 1 - t = -1 := by omega
      rw [hit] at hiv
      subst hiv
      clear hRc
      have hRc := hrw.rc
      have HRW := hid_o hrw
      have HBE := hid_o hbel
      have HYY := hid_o hy
      have HAF := hid_o (allfin_any (some ⟨g, 0, none⟩) t t (ro t y) wr (ro_len _ _) (by omega) hRc (ro_okl hy))
      clear hRc hrw hbel hy hV HW HF HEN hit
      go_wp2_with (go_at_call 184; (with_reducible refine HAF.out.mono ?_); rintro e w' ⟨rfl, rfl⟩)
      go_ret
      exact ⟨y, rfl, HYY.out, HRW.out, HBE.out⟩

end Go.Proofs.YtmpkcioeodlbcaaGreatDoor
namespace Go.Proofs.YtmpkcioeodlbcaaGreatDoor
open Fl RowKit
def lF (i j : Nat) (z : Cw) : Cw := if j < i then z else if j = i then (4607182418800017408, 0) else (0, 0)
def uF (i j : Nat) (z : Cw) : Cw := if j < i then (0, 0) else z
theorem says_l (n : Nat) (_hn : n ≤ 64) : Says3 190 n lF := by
  intro i j z W hi hj
  by_cases h1 : j < i
  · have e : lF i j z = z := if_pos h1
    rw [e]
    clear e
    go_enter Tryz.func190, Tryz.ntmps190
    go_wp2
    go_ret
    exact ⟨rfl, rfl⟩
  · by_cases h2 : j = i
    · have e : lF i j z = (4607182418800017408, 0) := by unfold lF; rw [if_neg h1, if_pos h2]
      rw [e]
      subst h2
      clear e h1
      go_enter Tryz.func190, Tryz.ntmps190
      go_wp2
      go_ret
      exact ⟨rfl, rfl⟩
    · have e : lF i j z = (0, 0) := by unfold lF; rw [if_neg h1, if_neg h2]
      rw [e]
      clear e
      go_enter Tryz.func190, Tryz.ntmps190
      go_wp2
      go_ret
      exact ⟨rfl, rfl⟩
theorem says_u (n : Nat) (_hn : n ≤ 64) : Says3 191 n uF := by
  intro i j z W hi hj
  by_cases h1 : j < i
  · have e : uF i j z = (0, 0) := if_pos h1
    rw [e]
    clear e
    go_enter Tryz.func191, Tryz.ntmps191
    go_wp2
    go_ret
    exact ⟨rfl, rfl⟩
  · have e : uF i j z = z := if_neg h1
    rw [e]
    clear e
    go_enter Tryz.func191, Tryz.ntmps191
    go_wp2
    go_ret
    exact ⟨rfl, rfl⟩
theorem ent_l : Ent 190 := by unfold Ent; intro args w; go_simp
theorem ent_u : Ent 191 := by unfold Ent; intro args w; go_simp
def lE (M : Nat → Nat → Cw) (i j : Nat) : Cw := lF i j (M i j)
def uE (M : Nat → Nat → Cw) (i j : Nat) : Cw := uF i j (M i j)
section call
variable {v : Value} {A B : Option Addr} {n c m d : Nat} {s : Int} {M : Nat → Nat → Cw} {w : World} (hn : n ≤ 64) (h : Hs w v A n c B m d s) (hR : Rws w A n M)
include hn h hR
set_option maxHeartbeats 1000000 in
theorem l_any : Calls Tryz.prog 143 #[v] w fun e w' => ∃ g, e = .returned (.agg #[.int .i64 n, .int .i64 n, .slice (some ⟨g, 0, none⟩) (n * n) (n * n)]) ∧ Rw w' w.heap.size (.slice (some ⟨g, 0, none⟩) (n * n) (n * n)) (n * n) (ro (n * n) (flw n (lE M))) ∧ Below w.heap.size w w' := by
  have V0 : V3 w.heap.size (.int .i64 0) (.int .i64 0) (.slice none 0 0) (w.alloc (.cells #[.int .i64 0, .int .i64 0, .slice none 0 0] 120)) := v3_new w _ _ _ _
  have B0 : Below w.heap.size w (w.alloc (.cells #[.int .i64 0, .int .i64 0, .slice none 0 0] 120)) := bal _ _
  have LA := hid_o (laid_any 190 lF hn ent_l (says_l n hn) (h.below B0) (hR.below B0))
  have HV := hid_o V0
  have HB := hid_o B0
  clear h hR V0 B0
  go_enter Tryz.func143, Tryz.ntmps143
  go_wp2_with (go_at_call 189; (with_reducible refine LA.out.mono ?_); rintro e w1 ⟨g, rfl, hrw, hb⟩; (have V1 := HV.out.below hb); (have q0 := V1.c0); (have q1 := V1.c1); (have q2 := V1.c2); (have q3 := V1.f0); (have q4 := V1.f1); (have q5 := V1.f2); (have ql := V1.lt); (have HV1 := hid_o V1); (have HRW := hid_o hrw); (have HB1 := hid_o (HB.out.trans (hb.mono (by simp)))); clear hb hrw V1 LA)
  obtain ⟨m0, m1, m2⟩ := HV1.out.reads
  refine bodyPost_ret (by simp [results, Tryz.results143, go_sem, m0, m1, m2]; try rfl) rfl ?_
  have hge := HRW.out.lt
  simp only [size_al] at hge
  refine ⟨g, rfl, ⟨HRW.out.len, own_at (own_base HRW.out.own (by simp)) (fun q hq => by cases hq; exact set3_block (show w.heap.size ≠ g by omega))⟩, below_set3 HB1.out (Nat.le_refl _) _ _ _⟩
set_option maxHeartbeats 1000000 in
theorem u_any : Calls Tryz.prog 144 #[v] w fun e w' => ∃ g, e = .returned (.agg #[.int .i64 n, .int .i64 n, .slice (some ⟨g, 0, none⟩) (n * n) (n * n)]) ∧ Rw w' w.heap.size (.slice (some ⟨g, 0, none⟩) (n * n) (n * n)) (n * n) (ro (n * n) (flw n (uE M))) ∧ Below w.heap.size w w' := by
  have V0 : V3 w.heap.size (.int .i64 0) (.int .i64 0) (.slice none 0 0) (w.alloc (.cells #[.int .i64 0, .int .i64 0, .slice none 0 0] 120)) := v3_new w _ _ _ _
  have B0 : Below w.heap.size w (w.alloc (.cells #[.int .i64 0, .int .i64 0, .slice none 0 0] 120)) := bal _ _
  have LA := hid_o (laid_any 191 uF hn ent_u (says_u n hn) (h.below B0) (hR.below B0))
  have HV := hid_o V0
  have HB := hid_o B0
  clear h hR V0 B0
  go_enter Tryz.func144, Tryz.ntmps144
  go_wp2_with (go_at_call 189; (with_reducible refine LA.out.mono ?_); rintro e w1 ⟨g, rfl, hrw, hb⟩; (have V1 := HV.out.below hb); (have q0 := V1.c0); (have q1 := V1.c1); (have q2 := V1.c2); (have q3 := V1.f0); (have q4 := V1.f1); (have q5 := V1.f2); (have ql := V1.lt); (have HV1 := hid_o V1); (have HRW := hid_o hrw); (have HB1 := hid_o (HB.out.trans (hb.mono (by simp)))); clear hb hrw V1 LA)
  obtain ⟨m0, m1, m2⟩ := HV1.out.reads
  refine bodyPost_ret (by simp [results, Tryz.results144, go_sem, m0, m1, m2]; try rfl) rfl ?_
  have hge := HRW.out.lt
  simp only [size_al] at hge
  refine ⟨g, rfl, ⟨HRW.out.len, own_at (own_base HRW.out.own (by simp)) (fun q hq => by cases hq; exact set3_block (show w.heap.size ≠ g by omega))⟩, below_set3 HB1.out (Nat.le_refl _) _ _ _⟩
end call
end Go.Proofs.YtmpkcioeodlbcaaGreatDoor
