/-
  SolveMirrors' walk, where both are eliminated.
-/
import Derived.Test.YtpaljgbhladceaaWSM1
namespace Go.Proofs.Ytpaljgbhladceaa
open Fl RowKit

theorem mkT {N T : Nat} {f : Nat → Cw} {S : Es} (hT : T = N * N) (h : OfMakes N f S) : ∀ (W : World) (A : Option Addr) (c : Nat), T ≤ c → Rc W A (ro T f) → Calls Try.prog 11 #[.agg #[.int .i64 N, .int .i64 N, .slice A T c]] W fun e w' => ∃ p, e = .returned (.tuple #[.pointer (some ⟨p, 0, none⟩), .agg #[.int .i64 0, .int .i64 0]]) ∧ Lhd w' (.pointer (some ⟨p, 0, none⟩)) N S.M S.o S.s ∧ Below W.heap.size W w' := by
  subst hT
  intro W A c h1 h2
  refine (h W A c h1 h2).mono ?_
  rintro e w' ⟨p, gr, go, bl, rfl, hL, hb⟩
  exact ⟨p, rfl, hL.lh, hb⟩
/-- all that the walk carries -/
structure Mc10 (w0 : World) (N px py l : Nat) (S S1 : Es) (A : Option Addr) (zs : List Cw) (W : World) : Prop where
  x : Lhd W (.pointer (some ⟨px, 0, none⟩)) N S.M S.o S.s
  y : Lhd W (.pointer (some ⟨py, 0, none⟩)) N S1.M S1.o S1.s
  v : Rc W A (ro l (zat zs))
  b : Below w0.heap.size w0 W
theorem Mc10.below {w0 : World} {N px py l : Nat} {S S1 : Es} {A : Option Addr} {zs : List Cw} {W W' : World} (h : Mc10 w0 N px py l S S1 A zs W) (hb : Below W.heap.size W W') : Mc10 w0 N px py l S S1 A zs W' :=
  ⟨h.x.below hb, h.y.below hb, h.v.below hb, bt h.b hb⟩
theorem conjL (ao : Option Addr) (cap n : Nat) (f : Nat → Cw) (w : World) (hsz : n * 16 ≤ 140737488355328) (hc : Rc w ao (ro n f)) (hx : ∀ k, k < n → okz (f k)) :
    Calls Try.prog 27 #[.slice ao n cap] w fun e w' => ∃ A c, e = .returned (.slice A n c) ∧ Rc w' A (ro n (fun k => cjw (f k))) ∧ Below w.heap.size w w' := by
  refine (conjN_big ao cap n f w hsz hc hx).mono ?_
  rintro e w' ⟨A, c, rfl, hR, hb⟩
  exact ⟨A, c, rfl, rw_rc hR, hb⟩
theorem nS_le {N : Nat} (hN : N ≤ 64) (E : Int) : nS10 N E ≤ 64 := by unfold nS10; split <;> omega
set_option maxRecDepth 20000 in
set_option maxHeartbeats 8000000 in
theorem smir_ok (a : Int) (j : Nat) (HPK : ∀ w, Calls Try.prog 13 #[.int .i64 a, .int .i64 17] w fun e w' => e = .returned (.int .i64 (j : Int)) ∧ w' = w) (N T : Nat) (S S1 : Es) (ao bo : Option Addr) (cap n cb nb : Nat) (xs zs : List Cw) (w : World) (hn : xs.length = n) (hsz : n * 16 ≤ 140737488355328) (hc : Rz w ao xs) (hx : okl xs) (hnb : zs.length = nb) (hsb : nb * 16 ≤ 140737488355328) (hd : Rz w bo zs) (hz : okl zs)
    (hN : N ≤ 64) (h4 : T ≤ 4096) (hS : Eok N S) (hS1 : Eok N S1) (hC : Cj N S S1) (hin : inO N S.o) (hp : pvOk N (fun i => S.M i i)) (hp1 : pvOk N (fun i => S1.M i i))
    (SQ : ∀ (ao : Option Addr) (cap n : Nat) (xs : List Cw) (w : World), xs.length = n → n * 16 ≤ 140737488355328 → Rz w ao xs → Calls Try.prog 12 #[.int .i64 (j : Int), .slice ao n cap] w fun e w' => ∃ A c, e = .returned (.agg #[.int .i64 N, .int .i64 N, .slice A T c]) ∧ T ≤ c ∧ Rc w' A (ro T (zat xs)) ∧ Below w.heap.size w w')
    (O1 : ∀ (W : World) (A : Option Addr) (c : Nat), T ≤ c → Rc W A (ro T (zat xs)) → Calls Try.prog 11 #[.agg #[.int .i64 N, .int .i64 N, .slice A T c]] W fun e w' => ∃ p, e = .returned (.tuple #[.pointer (some ⟨p, 0, none⟩), .agg #[.int .i64 0, .int .i64 0]]) ∧ Lhd w' (.pointer (some ⟨p, 0, none⟩)) N S.M S.o S.s ∧ Below W.heap.size W w')
    (O2 : ∀ (W : World) (A : Option Addr) (c : Nat), T ≤ c → Rc W A (ro T (fun k => cjw (zat xs k))) → Calls Try.prog 11 #[.agg #[.int .i64 N, .int .i64 N, .slice A T c]] W fun e w' => ∃ p, e = .returned (.tuple #[.pointer (some ⟨p, 0, none⟩), .agg #[.int .i64 0, .int .i64 0]]) ∧ Lhd w' (.pointer (some ⟨p, 0, none⟩)) N S1.M S1.o S1.s ∧ Below W.heap.size W w') :
    Calls Try.prog 5 #[.int .i64 a, .slice ao n cap, .slice bo nb cb] w fun e w' => e = .returned (.bool true) ∧ Below w.heap.size w w' := by
  have hin1 : inO N S1.o := by rw [hC.o]; exact hin
  obtain ⟨E1, hE1⟩ : ∃ E1, E1 = sE N S.s nb zs (solK N S.M S.o zs) := ⟨_, rfl⟩
  obtain ⟨E2, hE2⟩ : ∃ E2, E2 = sE N S.s nb zs (trK N S.M zs) := ⟨_, rfl⟩
  obtain ⟨s1, s2⟩ := smir_s hS hS1 hC hin hp1 hz E1 hE1
  obtain ⟨t1, t2⟩ := smir_t hS hS1 hC hin hp1 hz E2 hE2
  obtain ⟨d1, d2, d3, d4⟩ := smir_d hS hS1 hC hp hp1
  have m1 := nS_le hN E1
  have m2 := nS_le hN E2
  have hcl : ∀ k, okz (zat (ro nb (fun k => cjw (zat zs k))) k) := ro_ok (fun k _ => cjw_ok (hz k))
  have HCS1 : Hid (∀ (W : World) (v : Value) (A : Option Addr) (c : Nat), Lhd W v N S.M S.o S.s → Rc W A (ro nb (zat zs)) → Calls Try.prog 14 #[v, .slice A nb c] W fun e w' => ∃ A c y, e = .returned (.tuple #[.slice A (nS10 N E1) c, .int .i64 E1]) ∧ Rc w' A (ro (nS10 N E1) y) ∧ (∀ k, k < nS10 N E1 → repz (solX N S.M S.o zs k) (y k)) ∧ Below W.heap.size W w') := fun W v A c h1 h2 => solveC h1 hnb (by omega) hN (by rw [← ro_of hnb] at h2; exact h2) hz hS.ok hin E1 hE1
  have HCT1 : Hid (∀ (W : World) (v : Value) (A : Option Addr) (c : Nat), Lhd W v N S.M S.o S.s → Rc W A (ro nb (zat zs)) → Calls Try.prog 28 #[v, .slice A nb c] W fun e w' => ∃ A c y, e = .returned (.tuple #[.slice A (nS10 N E2) c, .int .i64 E2]) ∧ Rc w' A (ro (nS10 N E2) y) ∧ (∀ i, i < nS10 N E2 → repz (trZ N S.M zs i) (y (S.o i))) ∧ Below W.heap.size W w') := fun W v A c h1 h2 => transC h1 hnb (by omega) hN (by rw [← ro_of hnb] at h2; exact h2) hz hS.ok hin E2 hE2
  have HCS2 : Hid (∀ (W : World) (v : Value) (A : Option Addr) (c : Nat), Lhd W v N S1.M S1.o S1.s → Rc W A (ro nb (fun k => cjw (zat zs k))) → Calls Try.prog 14 #[v, .slice A nb c] W fun e w' => ∃ A c y, e = .returned (.tuple #[.slice A (nS10 N E1) c, .int .i64 E1]) ∧ Rc w' A (ro (nS10 N E1) y) ∧ (∀ k, k < nS10 N E1 → repz (solX N S1.M S1.o (ro nb (fun k => cjw (zat zs k))) k) (y k)) ∧ Below W.heap.size W w') := fun W v A c h1 h2 => solveC h1 (ro_len _ _) (by omega) hN h2 hcl hS1.ok hin1 E1 s1
  have HCT2 : Hid (∀ (W : World) (v : Value) (A : Option Addr) (c : Nat), Lhd W v N S1.M S1.o S1.s → Rc W A (ro nb (fun k => cjw (zat zs k))) → Calls Try.prog 28 #[v, .slice A nb c] W fun e w' => ∃ A c y, e = .returned (.tuple #[.slice A (nS10 N E2) c, .int .i64 E2]) ∧ Rc w' A (ro (nS10 N E2) y) ∧ (∀ i, i < nS10 N E2 → repz (trZ N S1.M (ro nb (fun k => cjw (zat zs k))) i) (y (S1.o i))) ∧ Below W.heap.size W w') := fun W v A c h1 h2 => transC h1 (ro_len _ _) (by omega) hN h2 hcl hS1.ok hin1 E2 t1
  have HTok : Hid (∀ y : Nat → Cw, (∀ i, i < nS10 N E2 → repz (trZ N S.M zs i) (y (S.o i))) → ∀ k, k < nS10 N E2 → okz (y k)) := fun y hy k hk => by
    have hm : nS10 N E2 = N := by
      have hk2 := hk
      unfold nS10 at hk2 ⊢
      by_cases h0 : E2 = 0
      · rw [if_pos h0]
      · rw [if_neg h0] at hk2; omega
    obtain ⟨i, i1, i2⟩ := inj_surj N S.o hin.1 hin.2 k (by omega)
    rw [← i2]
    exact (hy i (by omega)).ok
  have HSS := hid_o s2
  have HTT := hid_o t2
  have hsne : ¬ S.s = 0 := by rcases hS.pm with h | h <;> rw [h] <;> decide
  have hsne1 : ¬ S1.s = 0 := by rcases hS1.pm with h | h <;> rw [h] <;> decide
  have HD1 := hid_o (fun (W : World) (v : Value) (h : Lhd W v N S.M S.o S.s) => det_any h hsne hN hp)
  have HD2 := hid_o (fun (W : World) (v : Value) (h : Lhd W v N S1.M S1.o S1.s) => det_any h hsne1 hN hp1)
  rw [d1] at HD2
  obtain ⟨ed, hed⟩ : ∃ ed, ed = (detS (fun i => S.M i i) N).2 := ⟨_, rfl⟩
  rw [← hed] at HD1 HD2
  obtain ⟨dz, hdz⟩ : ∃ dz, dz = detR S.s N (fun i => S.M i i) := ⟨_, rfl⟩
  obtain ⟨dc, hdc⟩ : ∃ dc, dc = detR S1.s N (fun i => S1.M i i) := ⟨_, rfl⟩
  rw [← hdz] at HD1 d2 d3 d4
  rw [← hdc] at HD2 d3 d4
  have z1 := d2.1.1
  have z2 := d2.1.2
  have hf := d2.fin1
  have HMX := hid_o (fun W => mmax_any (mg dz.1) (mg dz.2) W hf.1 hf.2.1 (by have := d2.2.1; unfold gz W1 at this; omega))
  have hgz : max (mg dz.1) (mg dz.2) = gz dz := rfl
  rw [hgz] at HMX
  obtain ⟨G, hG⟩ : ∃ G, G = gz dz := ⟨_, rfl⟩
  have g1 := d2.2.1
  have g2 := d2.2.2
  rw [← hG] at HMX g1 g2
  unfold W1 at g1
  unfold W2 at g2
  have gm : mg G = G := by unfold mg; omega
  have gn : nan G = false := by unfold nan; rw [gm]; simp; omega
  have gp : plc G = (G : Int) := by have := plc_mg G; rw [gm] at this; exact this
  have o2 : (FloatKind.f64.format.order G 4611686018427387904 == some .lt) = true := by
    rw [order_lt gn (by decide), gp, show plc 4611686018427387904 = 4611686018427387904 by decide]; exact decide_eq_true (by omega)
  have oge : (FloatKind.f64.format.order G 4607182418800017408 == some .gt || FloatKind.f64.format.order G 4607182418800017408 == some .eq) = true := by
    rw [order_gt gn (by decide), order_eqb gn (by decide), gp, show plc 4607182418800017408 = 4607182418800017408 by decide, Bool.or_eq_true, decide_eq_true_eq, decide_eq_true_eq]
    omega
  have HSQ := hid_o SQ
  have HO1 := hid_o O1
  have HO2 := hid_o O2
  have HC := hid_o hc
  have HX := hid_o hx
  have HP := hid_o HPK
  have HDz := hid_o hd
  have HZ := hid_o hz
  have hneg := neg_ngW z2
  unfold eqB at d3 d4
  have k1 : nS10 N E1 * 16 ≤ 140737488355328 := by omega
  have k2 : nS10 N E2 * 16 ≤ 140737488355328 := by omega
  have HZk : Hid (∀ k, k < nb → okz (zat zs k)) := fun k _ => HZ.out k
  have st : Stg 0 := ⟨trivial⟩
  subst hnb
  clear SQ O1 O2 hc hx HPK hd hz hE1 hE2 s1 s2 t1 t2 hcl hS hS1 hC hin hin1 hp hp1 d1 hed hdz hdc hG hgz hf d2 hsne hsne1 gm gn gp g1 g2
  go_enter Try.func5, Try.ntmps5
  go_wp2_with (first
    | (go_at_call 9; (with_reducible refine (awake10 _).mono ?_); rintro e w0 ⟨rfl, hb⟩; (have B0 := hid_o hb); clear hb)
    | (go_at_call 13; (with_reducible refine (HP.out _).mono ?_); rintro e w' ⟨rfl, rfl⟩)
    | (go_at_call 12; (refine (HSQ.out _ _ _ _ _ hn hsz (HC.out.below B0.out)).mono ?_); rintro e w1 ⟨A, c, rfl, hcap, hR, hb⟩; (have V1 := hid_o (v3_new w1 (.int .i64 N) (.int .i64 N) (.slice A T c) 39)); (have R1 := hid_o (hR.below (bal _ (.cells #[.int .i64 N, .int .i64 N, .slice A T c] 39)))); (have B1 := hid_o (ba (bt B0.out hb) (.cells #[.int .i64 N, .int .i64 N, .slice A T c] 39))); clear hR hb)
    | (go_at_call 11; (refine (HO1.out _ _ _ hcap R1.out).mono ?_); rintro e w2 ⟨px, rfl, hLx, hb⟩; (have V2 := (V1.out.below hb).below (bal _ (.cells #[.int .i64 0, .int .i64 0] 35))); (have c0 := V2.c0); (have c1 := V2.c1); (have c2 := V2.c2); (have F2 := hid_o (v2_new w2 (.int .i64 0) (.int .i64 0) 35)); (have R2 := hid_o ((R1.out.below hb).below (bal _ (.cells #[.int .i64 0, .int .i64 0] 35)))); (have X2 := hid_o (hLx.below (bal _ (.cells #[.int .i64 0, .int .i64 0] 35)))); (have B2 := hid_o (ba (bt B1.out hb) (.cells #[.int .i64 0, .int .i64 0] 35))); clear V2 hb R1 V1 B1 hLx)
    | (go_at_call 26; (refine (conjT _ _ _ _ _ (zat xs) _ h4 R2.out (fun k _ => HX.out k)).mono ?_); rintro e w3 ⟨A', c', rfl, hcap', hR, hb⟩; (have R3 := hid_o hR); (have F3 := hid_o (F2.out.below hb)); (have X3 := hid_o (X2.out.below hb)); (have B3 := hid_o (bt B2.out hb)); clear hR hb R2 F2 B2 X2 c0 c1 c2)
    | (go_at_call 11; (refine (HO2.out _ _ _ hcap' R3.out).mono ?_); rintro e w4 ⟨py, rfl, hLy, hb⟩; (have F4 := (F3.out.below hb).below (bal _ (.cells #[.int .i64 0, .int .i64 0] 35))); (have d0 := F4.c0); (have d1 := F4.c1); (have X4 := hid_o ((X3.out.below hb).below (bal _ (.cells #[.int .i64 0, .int .i64 0] 35)))); (have Y4 := hid_o (hLy.below (bal _ (.cells #[.int .i64 0, .int .i64 0] 35)))); (have B4 := hid_o (ba (bt B3.out hb) (.cells #[.int .i64 0, .int .i64 0] 35))); clear hb F4 F3 B3 R3 X3 hLy)
    | (go_at_call 8; (with_reducible refine (numbers_any _ _ zs _ hsb (HDz.out.below B4.out)).mono ?_); rintro e w5 ⟨v, rfl, ho, hb⟩; (obtain ⟨AV, cV, rfl, _, _, hr⟩ := own_rc rfl ho); (rw [ro_of (xs := zs) rfl] at hr); (have HM : Hid (Mc10 w N px py zs.length S S1 AV zs w5) := ⟨X4.out.below hb, Y4.out.below hb, hr, bt B4.out hb⟩); clear hb hr ho X4 Y4 B4 d0 d1)
    | (go_at_call 14; (with_reducible refine (HCS1.out _ _ _ _ HM.out.x HM.out.v).mono ?_); rintro e w6 ⟨As, cs, ys, rfl, hR, hy, hb⟩; (have RS := hid_o hR); (have YS := hid_o hy); (replace HM := hid_o (HM.out.below hb)); clear hb hR hy)
    | ((have _ := (st : Stg 0)); go_at_call 27; (with_reducible refine (conjL _ _ _ _ _ hsb HM.out.v HZk.out).mono ?_); rintro e w7 ⟨A7, c7, rfl, hR, hb⟩; (have RC := hid_o hR); (replace RS := hid_o (RS.out.below hb)); (replace HM := hid_o (HM.out.below hb)); clear hb hR st; (have st : Stg 1 := ⟨trivial⟩))
    | (go_at_call 14; (with_reducible refine (HCS2.out _ _ _ _ HM.out.y RC.out).mono ?_); rintro e w8 ⟨At, ct, yt, rfl, hR, hy, hb⟩; (have RT := hid_o hR); (have YT := hid_o hy); (replace RS := hid_o (RS.out.below hb)); (replace HM := hid_o (HM.out.below hb)); clear hb hR hy RC)
    | (go_at_call 28; (with_reducible refine (HCT1.out _ _ _ _ HM.out.x HM.out.v).mono ?_); rintro e w9 ⟨Au, cu, yu, rfl, hR, hy, hb⟩; (have RU := hid_o hR); (have YU := hid_o hy); (have HUk := hid_o (HTok.out _ hy)); (replace RS := hid_o (RS.out.below hb)); (replace RT := hid_o (RT.out.below hb)); (replace HM := hid_o (HM.out.below hb)); clear hb hR hy)
    | ((have _ := (st : Stg 1)); go_at_call 27; (with_reducible refine (conjL _ _ _ _ _ hsb HM.out.v HZk.out).mono ?_); rintro e w10 ⟨A10, c10, rfl, hR, hb⟩; (have RC := hid_o hR); (replace RS := hid_o (RS.out.below hb)); (replace RT := hid_o (RT.out.below hb)); (replace RU := hid_o (RU.out.below hb)); (replace HM := hid_o (HM.out.below hb)); clear hb hR st; (have st : Stg 2 := ⟨trivial⟩))
    | (go_at_call 28; (with_reducible refine (HCT2.out _ _ _ _ HM.out.y RC.out).mono ?_); rintro e w11 ⟨Aw, cw, yw, rfl, hR, hy, hb⟩; (have RW := hid_o hR); (have YW := hid_o hy); (replace RS := hid_o (RS.out.below hb)); (replace RT := hid_o (RT.out.below hb)); (replace RU := hid_o (RU.out.below hb)); (replace HM := hid_o (HM.out.below hb)); clear hb hR hy RC)
    | (go_at_call 29; (with_reducible refine (HD1.out _ _ HM.out.x).mono ?_); rintro e w12 ⟨rfl, hb⟩; (replace RS := hid_o (RS.out.below hb)); (replace RT := hid_o (RT.out.below hb)); (replace RU := hid_o (RU.out.below hb)); (replace RW := hid_o (RW.out.below hb)); (replace HM := hid_o (HM.out.below hb)); clear hb)
    | (go_at_call 29; (with_reducible refine (HD2.out _ _ HM.out.y).mono ?_); rintro e w13 ⟨rfl, hb⟩; (replace RS := hid_o (RS.out.below hb)); (replace RT := hid_o (RT.out.below hb)); (replace RU := hid_o (RU.out.below hb)); (replace RW := hid_o (RW.out.below hb)); (replace HM := hid_o (HM.out.below hb)); clear hb)
    | (go_at_call 31; first | ((with_reducible refine (mabs_any dz.1 _ z1).mono ?_); rintro e w' ⟨rfl, rfl⟩) | ((with_reducible refine (mabs_any dz.2 _ z2).mono ?_); rintro e w' ⟨rfl, rfl⟩))
    | (go_at_call 30; (with_reducible refine (HMX.out _).mono ?_); rintro e w' ⟨rfl, rfl⟩)
    | ((have _ := (st : Stg 2)); go_at_call 27; (with_reducible refine (conjL _ _ _ _ _ k1 RS.out (fun k hk => (YS.out k hk).ok)).mono ?_); rintro e w14 ⟨A14, c14, rfl, hR, hb⟩; (have RC := hid_o hR); (replace RT := hid_o (RT.out.below hb)); (replace RU := hid_o (RU.out.below hb)); (replace RW := hid_o (RW.out.below hb)); (replace HM := hid_o (HM.out.below hb)); clear hb hR st; (have st : Stg 3 := ⟨trivial⟩))
    | ((have _ := (st : Stg 3)); go_at_call 32; (with_reducible refine (kequal_len _ _ _ _ _ _ _ _ k1 (ro_len _ _) (ro_len _ _) RT.out RC.out (HSS.out _ _ YS.out YT.out)).mono ?_); rintro e w15 ⟨m15, rfl, hw⟩; subst w15; (replace RU := hid_o (RU.out.drewN m15)); (replace RW := hid_o (RW.out.drewN m15)); (have B15 := hid_o (below_drewN HM.out.b m15)); clear RC RT RS HM st; (have st : Stg 4 := ⟨trivial⟩))
    | ((have _ := (st : Stg 4)); go_at_call 27; (with_reducible refine (conjL _ _ _ _ _ k2 RU.out HUk.out).mono ?_); rintro e w16 ⟨A16, c16, rfl, hR, hb⟩; (have RC := hid_o hR); (replace RW := hid_o (RW.out.below hb)); (have B16 := hid_o (bt B15.out hb)); clear hb hR st; (have st : Stg 5 := ⟨trivial⟩))
    | ((have _ := (st : Stg 5)); go_at_call 32; (with_reducible refine (kequal_len _ _ _ _ _ _ _ _ k2 (ro_len _ _) (ro_len _ _) RW.out RC.out (HTT.out _ _ YU.out YW.out)).mono ?_); rintro e w17 ⟨m17, rfl, hw⟩; subst w17; (have B17 := hid_o (below_drewN B16.out m17)); clear RC RW))
  go_ret
  exact ⟨rfl, B17.out⟩

end Go.Proofs.Ytpaljgbhladceaa
