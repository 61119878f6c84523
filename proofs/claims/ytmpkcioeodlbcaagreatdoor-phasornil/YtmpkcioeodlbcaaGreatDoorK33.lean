/-
  Several texts in one: Stq Adb Adc.
-/
import Derived.Test.YtmpkcioeodlbcaaGreatDoorK32
import Derived.Test.YtmpkcioeodlbcaaGreatDoorK13
namespace Go.Proofs.YtmpkcioeodlbcaaGreatDoor
open Fl RowKit
set_option linter.unusedVariables false
/-- the program's sheet at block s: its net, its omega, the rows ahead of the branches', its entries -/
structure Sp (w : World) (s : Nat) (v : Value) (o nn : Nat) (S : Sh) : Prop where
  c0 : w.cell? ⟨s, 0, none⟩ = some v
  c1 : w.cell? ⟨s, 1, none⟩ = some (.float .f64 o)
  c2 : w.cell? ⟨s, 2, none⟩ = some (.int .i64 nn)
  ent : ∀ i j, i < 64 → j < 64 → ∃ r : Cw, w.cell? ⟨s, 3 + i * 64 + j, none⟩ = some (cx r) ∧ repz (S.m i j) r
  err : w.cell? ⟨s, 4099, none⟩ = some (.int .i64 (if S.ov = true then 6 else 0))
  fz : ∀ k, w.frozen? ⟨s, k, none⟩ = false
theorem Sp.below {w w' : World} {s : Nat} {v : Value} {o nn : Nat} {S : Sh} {n : Nat} (h : Sp w s v o nn S) (hb : Below n w w') (hs : s < n) : Sp w' s v o nn S := by
  have k : ∀ (j : Nat) (u : Value), w.cell? ⟨s, j, none⟩ = some u → w'.cell? ⟨s, j, none⟩ = some u := fun j u hc => (hb.cell (p := ⟨s, j, none⟩) hs).trans hc
  refine ⟨k _ _ h.c0, k _ _ h.c1, k _ _ h.c2, fun i j hi hj => ?_, k _ _ h.err, fun j => ?_⟩
  · obtain ⟨r, h1, h2⟩ := h.ent i j hi hj
    exact ⟨r, k _ _ h1, h2⟩
  · have := hb.block s hs
    have e := h.fz j
    unfold World.frozen? at *
    simp only [this] at *
    exact e
theorem Sp.drewN {w : World} {s : Nat} {v : Value} {o nn : Nat} {S : Sh} (h : Sp w s v o nn S) (m : Nat) : Sp (w.drewN m) s v o nn S := ⟨h.c0, h.c1, h.c2, h.ent, h.err, h.fz⟩
/-- an entry changed, in memory -/
theorem Sp.put {w : World} {s : Nat} {v : Value} {o nn : Nat} {S : Sh} (h : Sp w s v o nn S) {op : Cn → Cn → Cn} {i j : Nat} (hi : i < 64) (hj : j < 64) {Y : Cn} {r : Cw} (hr : repz (op (S.m i j) Y) r) :
    (finC (op (S.m i j) Y) = true → Sp (w.setCell ⟨s, 3 + i * 64 + j, none⟩ (cx r)) s v o nn (S.put op i j Y)) ∧
    (finC (op (S.m i j) Y) = false → Sp ((w.setCell ⟨s, 3 + i * 64 + j, none⟩ (cx r)).setCell ⟨s, 4099, none⟩ (.int .i64 6)) s v o nn (S.put op i j Y)) := by
  have ot : ∀ (W : World) (a b : Nat) (u : Value), a ≠ b → (W.setCell ⟨s, a, none⟩ u).cell? ⟨s, b, none⟩ = W.cell? ⟨s, b, none⟩ := fun W a b u hab => World.cell?_setCell_other _ _ _ _ (fun e => hab (by simpa using congrArg Addr.off e))
  have fr : ∀ (W : World) (a b : Nat) (u : Value), W.frozen? ⟨s, b, none⟩ = false → (W.setCell ⟨s, a, none⟩ u).frozen? ⟨s, b, none⟩ = false := fun W a b u hf => by rw [World.frozen?_setCell]; exact hf
  have e1 : ∀ a b, a < 64 → b < 64 → ∃ r' : Cw, (w.setCell ⟨s, 3 + i * 64 + j, none⟩ (cx r)).cell? ⟨s, 3 + a * 64 + b, none⟩ = some (cx r') ∧ repz ((S.put op i j Y).m a b) r' := by
    intro a b ha hb
    by_cases e : a = i ∧ b = j
    · obtain ⟨rfl, rfl⟩ := e
      obtain ⟨r0, q0, _⟩ := h.ent a b ha hb
      refine ⟨r, World.cell?_setCell_same _ _ _ q0, ?_⟩
      simpa [Sh.put] using hr
    · obtain ⟨r0, q0, q1⟩ := h.ent a b ha hb
      refine ⟨r0, ?_, ?_⟩
      · rw [ot _ _ _ _ (by omega)]; exact q0
      · have : (S.put op i j Y).m a b = S.m a b := by simp only [Sh.put]; rw [if_neg e]
        rw [this]; exact q1
  constructor
  · intro hf
    refine ⟨?_, ?_, ?_, e1, ?_, fun k => fr _ _ _ _ (h.fz k)⟩
    · rw [ot _ _ _ _ (by omega)]; exact h.c0
    · rw [ot _ _ _ _ (by omega)]; exact h.c1
    · rw [ot _ _ _ _ (by omega)]; exact h.c2
    · rw [ot _ _ _ _ (by omega)]
      have : (S.put op i j Y).ov = S.ov := by simp [Sh.put, hf]
      rw [this]; exact h.err
  · intro hf
    refine ⟨?_, ?_, ?_, fun a b ha hb => ?_, ?_, fun k => fr _ _ _ _ (fr _ _ _ _ (h.fz k))⟩
    · rw [ot _ _ _ _ (by omega), ot _ _ _ _ (by omega)]; exact h.c0
    · rw [ot _ _ _ _ (by omega), ot _ _ _ _ (by omega)]; exact h.c1
    · rw [ot _ _ _ _ (by omega), ot _ _ _ _ (by omega)]; exact h.c2
    · rw [ot _ _ _ _ (by omega)]; exact e1 a b ha hb
    · have : (S.put op i j Y).ov = true := by simp [Sh.put, hf]
      rw [this, if_pos rfl]
      refine World.cell?_setCell_same _ _ _ (u := .int .i64 (if S.ov = true then 6 else 0)) ?_
      rw [ot _ _ _ _ (by omega)]; exact h.err

set_option maxHeartbeats 4000000 in
/-- an entry changed, unless it is the ground's -/
theorem chg_any {F : FuncId} {op : Cn → Cn → Cn} (hE : Ent F) (hF : Op2 F op) {w : World} {s : Nat} {v : Value} {o nn : Nat} {S : Sh} (h : Sp w s v o nn S) {i j : Int} (hi : -1 ≤ i) (hi2 : i < 64) (hj : -1 ≤ j) (hj2 : j < 64) {y : Cw} (hy : okz y) :
    Calls Tryz.prog 235 #[.pointer (some ⟨s, 0, none⟩), .int .i64 i, .int .i64 j, .func (.func F) #[] #[], .complex .f64 y.1 y.2] w fun e w' => e = .returned (.tuple #[]) ∧ Sp w' s v o nn (S.chg op i j (anz y)) ∧ Kp s w w' := by
  have H := hidS h
  clear h
  by_cases i1 : i = -1
  · subst i1
    have hS : S.chg op (-1) j (anz y) = S := by unfold Sh.chg; rw [if_pos (.inl (by decide))]
    rw [hS]
    go_enter Tryz.func235, Tryz.ntmps235
    go_wp2_with fail
    refine bodyPost_ret (by simp [results, Tryz.results235, go_sem]; try rfl) rfl ?_
    exact ⟨rfl, H.out, Kp.refl _ _⟩
  by_cases j1 : j = -1
  · subst j1
    have hS : S.chg op i (-1) (anz y) = S := by unfold Sh.chg; rw [if_pos (.inr (by decide))]
    rw [hS]
    go_enter Tryz.func235, Tryz.ntmps235
    go_wp2_with fail
    refine bodyPost_ret (by simp [results, Tryz.results235, go_sem]; try rfl) rfl ?_
    exact ⟨rfl, H.out, Kp.refl _ _⟩
  obtain ⟨a, rfl⟩ : ∃ a : Nat, i = a := ⟨i.toNat, by omega⟩
  obtain ⟨b, rfl⟩ : ∃ b : Nat, j = b := ⟨j.toNat, by omega⟩
  have hS : S.chg op (a : Int) (b : Int) (anz y) = S.put op a b (anz y) := by unfold Sh.chg; rw [if_neg (by omega)]; rfl
  rw [hS]
  have ha : a < 64 := by omega
  have hb : b < 64 := by omega
  obtain ⟨x, hx, hr⟩ := H.out.ent a b ha hb
  have hxx : anz x = S.m a b := hr.anz
  have hxo : okz x := hr.ok
  have hc3 : w.cell? ⟨s, 3 + a * 64 + b, none⟩ = some (cx x) := hx
  have hfz := H.out.fz (3 + a * 64 + b)
  have HX := hidS hxx
  have HO := hidS hxo
  obtain ⟨f, hf⟩ : ∃ f, finC (op (S.m a b) (anz y)) = f := ⟨_, rfl⟩
  have HFI : Hid (finC (op (anz x) (anz y)) = f) := by show _ = _; rw [hxx]; exact hf
  have HFF := hidS hf
  have HP := hidS (fun (m : Nat) (r : Cw) (q : repz (op (S.m a b) (anz y)) r) => (H.out.drewN m).put ha hb (op := op) (Y := anz y) (r := r) q)
  clear hf hxx hxo hx hr hS
  have i2 : ((a : Int) == -1) = false := by simp
  have j2 : ((b : Int) == -1) = false := by simp
  have hE2 := hE
  unfold Ent at hE2
  cases f
  all_goals
    go_enter Tryz.func235, Tryz.ntmps235
    go_wp2_with (go_at_call 255; (with_reducible refine (sput_any hE hF HO.out hy hc3 hfz _ HFI.out).mono ?_); rintro e w1 ⟨rfl, r, m, hrr, rfl⟩; rw [HX.out] at hrr; (have HR := hidS hrr); clear hrr; (have hk : ((w.drewN m).setCell ⟨s, 3 + a * 64 + b, none⟩ (cx r)).cell? ⟨s, 4099, none⟩ = some (.int .i64 (if S.ov = true then 6 else 0)) := (World.cell?_setCell_other _ _ _ _ (fun e => by have := congrArg Addr.off e; simp at this; omega)).trans H.out.err); (have hz : ((w.drewN m).setCell ⟨s, 3 + a * 64 + b, none⟩ (cx r)).frozen? ⟨s, 4099, none⟩ = false := (by rw [World.frozen?_setCell]; exact H.out.fz 4099)))
    refine bodyPost_end (by simp [results, Tryz.results235, go_sem]; try rfl) rfl ?_
  · exact ⟨rfl, (HP.out m r HR.out).2 HFF.out, ((Kp.dN s w m).setCell (3 + a * 64 + b) (cx r)).setCell 4099 (.int .i64 6)⟩
  · exact ⟨rfl, (HP.out m r HR.out).1 HFF.out, (Kp.dN s w m).setCell (3 + a * 64 + b) (cx r)⟩
/-- what a change of a place of the sheet does -/
def Chg (F : FuncId) (op : Cn → Cn → Cn) : Prop := ∀ (w : World) (s : Nat) (v : Value) (o nn : Nat) (S : Sh) (i j : Int) (y : Cw), Sp w s v o nn S → -1 ≤ i → i < 64 → -1 ≤ j → j < 64 → okz y → Calls Tryz.prog F #[.pointer (some ⟨s, 0, none⟩), .int .i64 i, .int .i64 j, .complex .f64 y.1 y.2] w fun e w' => e = .returned (.tuple #[]) ∧ Sp w' s v o nn (S.chg op i j (anz y)) ∧ Kp s w w'
theorem sadd_c : Chg 209 addZ := by
  intro w s v o nn S i j y h hi hi2 hj hj2 hy
  have HC := hidS (chg_any ent2_add op2_add h hi hi2 hj hj2 hy)
  clear h
  go_enter Tryz.func209, Tryz.ntmps209
  go_wp2_with (go_at_call 235; (with_reducible refine (HC.out).mono ?_); rintro e w1 ⟨rfl, h1⟩)
  refine bodyPost_end (by simp [results, Tryz.results209, go_sem]; try rfl) rfl ?_
  exact ⟨rfl, h1⟩
theorem ssub_c : Chg 210 subZ := by
  intro w s v o nn S i j y h hi hi2 hj hj2 hy
  have HC := hidS (chg_any ent2_sub op2_sub h hi hi2 hj hj2 hy)
  clear h
  go_enter Tryz.func210, Tryz.ntmps210
  go_wp2_with (go_at_call 235; (with_reducible refine (HC.out).mono ?_); rintro e w1 ⟨rfl, h1⟩)
  refine bodyPost_end (by simp [results, Tryz.results210, go_sem]; try rfl) rfl ?_
  exact ⟨rfl, h1⟩
end Go.Proofs.YtmpkcioeodlbcaaGreatDoor
namespace Go.Proofs.YtmpkcioeodlbcaaGreatDoor
open Fl RowKit
set_option linter.unusedVariables false
theorem afin_any (x : Nat) (w : World) (hx : x < 18446744073709551616) :
    Calls Tryz.prog 283 #[.float .f64 x] w fun e w' => e = .returned (.bool (finB x)) ∧ w' = w := by
  have hk : (finB x && finB 0) = finB x := by rw [show finB 0 = true from by decide, Bool.and_true]
  have HK : Hid ((finB x && finB 0) = finB x) := hk
  clear hk
  go_enter Tryz.func283, Tryz.ntmps283
  go_wp2_with (first | (go_at_call 59; refine (fin_any x 0 _ hx (by decide)).mono ?_; rintro e w' ⟨rfl, rfl⟩))
  go_ret
  exact ⟨retb HK.out, rfl⟩
theorem fin_nan_Adb {x : Nat} (h : finB x = true) : nan x = false := fin_not_nan (finB_iff.1 h)
theorem freq_any (x : Nat) (w : World) (hx : x < 18446744073709551616) :
    Calls Tryz.prog 254 #[.float .f64 x] w fun e w' => e = .returned (.int .i64 (frI x)) ∧ w' = w := by
  cases hf : finB x
  · have hr : frI x = 5 := by unfold frI; rw [if_pos hf]
    rw [hr]
    have HF : Hid _ := hf
    clear hr hf
    go_enter Tryz.func254, Tryz.ntmps254
    go_wp2_with (first | (go_at_call 283; refine (afin_any x _ hx).mono ?_; rintro e w' ⟨rfl, rfl⟩; rw [HF.out]))
    go_ret
    exact ⟨rfl, rfl⟩
  · have hn := fin_nan_Adb hf
    cases hp : posV x
    · have hr : frI x = 2 := by unfold frI; rw [hf, hp]; rfl
      rw [hr]
      have HF : Hid _ := hf
      have h1 := (leq_iff hn).1 hp
      clear hr hf hp hn
      go_enter Tryz.func254, Tryz.ntmps254
      go_wp2_with (first | (go_at_call 283; refine (afin_any x _ hx).mono ?_; rintro e w' ⟨rfl, rfl⟩; rw [HF.out]))
      all_goals go_ret
      all_goals first | exact ⟨rfl, rfl⟩ | simp_all
    · have hr : frI x = 0 := by unfold frI; rw [hf, hp]; rfl
      rw [hr]
      have HF : Hid _ := hf
      have h1 : ¬ (FloatKind.f64.format.order x 0 = some .lt ∨ FloatKind.f64.format.order x 0 = some .eq) := fun q => by rw [(leq_iff hn).2 q] at hp; cases hp
      clear hr hf hp hn
      go_enter Tryz.func254, Tryz.ntmps254
      go_wp2_with (first | (go_at_call 283; refine (afin_any x _ hx).mono ?_; rintro e w' ⟨rfl, rfl⟩; rw [HF.out]))
      all_goals go_ret
      all_goals first | exact ⟨rfl, rfl⟩ | simp_all
theorem chk_wA (x : Elm) (w : World) (h : x.ok) : Calls Tryz.prog 81 #[.agg #[.int .u8 (x.k : Int), .string x.n, .string x.a, .string x.b, .string x.c, .string x.d, .float .f64 x.v, .int .i64 x.ph]] w fun e w' => e = .returned (.int .i64 (chkI x)) ∧ Below w.heap.size w w' := check_any x w h
theorem acheck_any (x : Elm) (o : Nat) (w : World) (h : x.ok) (ho : o < 18446744073709551616) :
    Calls Tryz.prog 231 #[elV x, .float .f64 o] w fun e w' => e = .returned (.int .i64 (ckA x o)) ∧ Below w.heap.size w w' := by
  have E0 : Hid (EC w (w.alloc (.cells (elA x) 96)) w.heap.size x) := ec_new w x
  by_cases hf : frI o = 0
  · have hr : ckA x o = chkI x := by unfold ckA; rw [if_pos hf]
    rw [hr]
    have HF : Hid _ := hf
    clear hr hf
    unfold elV
    go_enter Tryz.func231, Tryz.ntmps231
    go_wp2_with (first
      | (go_at_call 254; (with_reducible refine (freq_any o _ ho).mono ?_); rintro e w' ⟨rfl, rfl⟩; rw [HF.out]; (obtain ⟨l1, c10, c11, c12, c13, c14, c15, c16, c17⟩ := E0.out.f))
      | (go_at_call 81; (with_reducible refine (chk_wA x _ h).mono ?_); rintro e w1 ⟨rfl, hb⟩; (have E1 : Hid _ := E0.out.below hb); clear hb E0))
    go_ret
    exact ⟨rfl, E1.out.bel⟩
  · have hr : ckA x o = frI o := by unfold ckA; rw [if_neg hf]
    rw [hr]
    have hq : (frI o != 0) = true := by simp [hf]
    clear hr hf
    unfold elV
    go_enter Tryz.func231, Tryz.ntmps231
    go_wp2_with (first
      | (go_at_call 254; (with_reducible refine (freq_any o _ ho).mono ?_); rintro e w' ⟨rfl, rfl⟩))
    go_ret
    exact ⟨rfl, E0.out.bel⟩
theorem atold_any (a b : Nat) (w : World) (ha : a < 18446744073709551616) (hb : b < 18446744073709551616) :
    Calls Tryz.prog 232 #[.complex .f64 a b] w fun e w' => e = .returned (tV (toA a b)) ∧ w' = w := by
  unfold tV toA
  cases hf : (finB a && finB b)
  all_goals
    have HF : Hid _ := hf
    clear hf
    go_enter Tryz.func232, Tryz.ntmps232
    go_wp2_with (first
      | (go_at_call 59; (with_reducible refine (fin_any a b _ ha hb).mono ?_); rintro e w' ⟨rfl, rfl⟩; rw [HF.out]))
    go_ret2
    exact ⟨rfl, rfl⟩
theorem product_any (x : Elm) (o : Nat) (w : World) (ho : fin o) (hv : fin x.v) :
    Calls Tryz.prog 233 #[elV x, .float .f64 o] w fun e w' => e = .returned (tV (prA o x.v)) ∧ Below w.heap.size w w' := by
  have E0 : Hid (EC w (w.alloc (.cells (elA x) 96)) w.heap.size x) := ec_new w x
  have hm := mul_some ho hv
  have mv := mulV_of hm
  have mn := fN_some hm
  have hb := (mul_bd hm).1
  have HB : Hid _ := hb
  clear hm hb
  unfold prA
  unfold elV
  go_enter Tryz.func233, Tryz.ntmps233
  go_wp2_with (first
    | (go_at_call 232; (with_reducible refine (atold_any 0 (mW o x.v) _ (by decide) HB.out).mono ?_); rintro e w' ⟨rfl, rfl⟩; unfold tV))
  go_ret2
  exact ⟨rfl, E0.out.bel⟩
end Go.Proofs.YtmpkcioeodlbcaaGreatDoor
namespace Go.Proofs.YtmpkcioeodlbcaaGreatDoor
open Fl RowKit
set_option linter.unusedVariables false
theorem product_w (x : Elm) (o : Nat) (w : World) (ho : fin o) (hv : fin x.v) (u : Tr3) (hu : prA o x.v = u) :
    Calls Tryz.prog 233 #[.agg #[.int .u8 (x.k : Int), .string x.n, .string x.a, .string x.b, .string x.c, .string x.d, .float .f64 x.v, .int .i64 x.ph], .float .f64 o] w fun e w' => e = .returned (.tuple #[.complex .f64 u.1 u.2.1, .int .i64 u.2.2]) ∧ Below w.heap.size w w' := by subst hu; exact product_any x o w ho hv
theorem prA_ok {o v : Nat} (h : finB (mW o v) = true) : prA o v = (0, mW o v, 0) := by unfold prA toA; rw [h]; rfl
theorem prA_no {o v : Nat} (h : finB (mW o v) = false) : prA o v = (0, 0, 6) := by unfold prA toA; rw [h]; rfl
theorem neg_ngW_Adc {q : Nat} (h : q < 18446744073709551616) : Op.negFloat .f64 q = ngW q := by
  unfold ngW
  split
  · exact neg_of_pos ‹_›
  · exact neg_of_neg (by omega) h
theorem mW_nan {o v : Nat} (ho : fin o) (hv : fin v) : nan (mW o v) = false := (mul_bd (mul_some ho hv)).2
theorem aover_any (x : Elm) (o : Nat) (w : World) (ho : fin o) (hv : fin x.v) :
    Calls Tryz.prog 234 #[elV x, .float .f64 o] w fun e w' => e = .returned (tV (ovA o x.v)) ∧ Below w.heap.size w w' := by
  have E0 : Hid (EC w (w.alloc (.cells (elA x) 96)) w.heap.size x) := ec_new w x
  obtain ⟨l1, c10, c11, c12, c13, c14, c15, c16, c17⟩ := E0.out.f
  cases hf : finB (mW o x.v)
  · have HP : Hid _ := fun W => product_w x o W ho hv (0, 0, 6) (prA_no hf)
    have hr : ovA o x.v = (0, 0, 6) := by unfold ovA; rw [hf]; rfl
    rw [hr]
    clear hr hf
    unfold tV elV
    go_enter Tryz.func234, Tryz.ntmps234
    go_wp2_with (first
      | (go_at_call 233; (with_reducible refine (HP.out _).mono ?_); rintro e w1 ⟨rfl, hb⟩; (have E1 : Hid _ := E0.out.below hb); clear hb E0))
    go_ret2
    exact ⟨rfl, E1.out.bel⟩
  · have HP : Hid _ := fun W => product_w x o W ho hv (0, mW o x.v, 0) (prA_ok hf)
    have hr : ovA o x.v = toA 0 (ngW (dW (mW o x.v))) := by unfold ovA; rw [hf]; rfl
    rw [hr]
    have hn := mW_nan ho hv
    have hd := dW_some hn
    have hb := dW_bd hn
    have mv := divV_of hd
    have mn := fN_some hd
    have hng := neg_ngW_Adc hb.1
    have HB : Hid _ := ngW_lt hb.1
    clear hr hf hn hd hb
    unfold elV
    go_enter Tryz.func234, Tryz.ntmps234
    go_wp2_with (first
      | (go_at_call 233; (with_reducible refine (HP.out _).mono ?_); rintro e w1 ⟨rfl, hb⟩; (have E1 : Hid _ := E0.out.below hb); clear hb E0)
      | (go_at_call 232; (with_reducible refine (atold_any 0 (ngW (dW (mW o x.v))) _ (by decide) HB.out).mono ?_); rintro e w' ⟨rfl, rfl⟩; unfold tV))
    go_ret2
    exact ⟨rfl, E1.out.bel⟩
theorem acheck_w (x : Elm) (o : Nat) (w : World) (h : x.ok) (ho : o < 18446744073709551616) (u : Int) (hu : ckA x o = u) :
    Calls Tryz.prog 231 #[.agg #[.int .u8 (x.k : Int), .string x.n, .string x.a, .string x.b, .string x.c, .string x.d, .float .f64 x.v, .int .i64 x.ph], .float .f64 o] w fun e w' => e = .returned (.int .i64 u) ∧ Below w.heap.size w w' := by subst hu; exact acheck_any x o w h ho
theorem over_w (x : Elm) (o : Nat) (w : World) (ho : fin o) (hv : fin x.v) :
    Calls Tryz.prog 234 #[.agg #[.int .u8 (x.k : Int), .string x.n, .string x.a, .string x.b, .string x.c, .string x.d, .float .f64 x.v, .int .i64 x.ph], .float .f64 o] w fun e w' => e = .returned (.tuple #[.complex .f64 (ovA o x.v).1 (ovA o x.v).2.1, .int .i64 (ovA o x.v).2.2]) ∧ Below w.heap.size w w' := aover_any x o w ho hv
/-- the kinds -/
theorem kinds4 (k : Nat) : (k = 1 ∨ k = 8) ∨ k = 3 ∨ k = 2 ∨ (¬ k = 1 ∧ ¬ k = 8 ∧ ¬ k = 3 ∧ ¬ k = 2) := by omega
set_option maxRecDepth 100000 in
set_option maxHeartbeats 1000000 in
theorem aof_any (x : Elm) (o : Nat) (w : World) (h : x.ok) (ho : o < 18446744073709551616) :
    Calls Tryz.prog 207 #[elV x, .float .f64 o] w fun e w' => e = .returned (tV (ofT x o)) ∧ Below w.heap.size w w' := by
  have E0 : Hid (EC w (w.alloc (.cells (elA x) 96)) w.heap.size x) := ec_new w x
  obtain ⟨l1, c10, c11, c12, c13, c14, c15, c16, c17⟩ := E0.out.f
  by_cases hc : ckA x o = 0
  · have HC : Hid _ := fun W => acheck_w x o W h ho 0 hc
    have fo := (fr_zero (ck_zero hc).1).1
    have fv := (chk_zero (ck_zero hc).2).1
    have HFO : Hid (fin o) := fo
    have HFV : Hid (fin x.v) := fv
    have hn := fin_not_nan fv
    have hd := dW_some hn
    have mv := divV_of hd
    have mn := fN_some hd
    have HDB : Hid _ := (dW_bd hn).1
    have hr : ofT x o = if x.k = 1 ∨ x.k = 8 then toA (dW x.v) 0 else if x.k = 3 then prA o x.v else if x.k = 2 then ovA o x.v else (0, 0, 2) := by unfold ofT; rw [if_pos hc]
    rw [hr]
    clear hr hc fo fv hn hd
    rcases kinds4 x.k with hk | hk | hk | ⟨k1, k8, k3, k2⟩
    · rw [if_pos hk]
      have hb : ((x.k : Int) == 1) = true ∨ (((x.k : Int) == 1) = false ∧ ((x.k : Int) == 8) = true) := by
        rcases hk with hk | hk
        · left; rw [hk]; rfl
        · right; rw [hk]; exact ⟨rfl, rfl⟩
      clear hk
      unfold elV
      rcases hb with hb | ⟨hb, hb2⟩
      all_goals
        go_enter Tryz.func207, Tryz.ntmps207
        go_wp2_with (first
          | (go_at_call 231; (with_reducible refine (HC.out _).mono ?_); rintro e w1 ⟨rfl, hb⟩; (have E1 : Hid _ := E0.out.below hb); (obtain ⟨l1, c10, c11, c12, c13, c14, c15, c16, c17⟩ := E1.out.f); clear hb E0)
          | (go_at_call 232; (with_reducible refine (atold_any (dW x.v) 0 _ HDB.out (by decide)).mono ?_); rintro e w' ⟨rfl, rfl⟩; unfold tV))
        go_ret2
        exact ⟨rfl, E1.out.bel⟩
    · rw [if_neg (by omega), if_pos hk]
      have hb1 : ((x.k : Int) == 1) = false := by rw [hk]; rfl
      have hb2 : ((x.k : Int) == 8) = false := by rw [hk]; rfl
      have hb3 : ((x.k : Int) == 3) = true := by rw [hk]; rfl
      clear hk
      unfold elV
      go_enter Tryz.func207, Tryz.ntmps207
      go_wp2_with (first
        | (go_at_call 231; (with_reducible refine (HC.out _).mono ?_); rintro e w1 ⟨rfl, hb⟩; (have E1 : Hid _ := E0.out.below hb); (obtain ⟨l1, c10, c11, c12, c13, c14, c15, c16, c17⟩ := E1.out.f); clear hb E0)
        | (go_at_call 233; (with_reducible refine (product_w x o _ HFO.out HFV.out _ rfl).mono ?_); rintro e w' ⟨rfl, hb⟩; (have E2 : Hid _ := E1.out.below hb); clear hb E1))
      go_ret2
      exact ⟨rfl, E2.out.bel⟩
    · rw [if_neg (by omega), if_neg (by omega), if_pos hk]
      have hb1 : ((x.k : Int) == 1) = false := by rw [hk]; rfl
      have hb2 : ((x.k : Int) == 8) = false := by rw [hk]; rfl
      have hb3 : ((x.k : Int) == 3) = false := by rw [hk]; rfl
      have hb4 : ((x.k : Int) == 2) = true := by rw [hk]; rfl
      clear hk
      unfold elV
      go_enter Tryz.func207, Tryz.ntmps207
      go_wp2_with (first
        | (go_at_call 231; (with_reducible refine (HC.out _).mono ?_); rintro e w1 ⟨rfl, hb⟩; (have E1 : Hid _ := E0.out.below hb); (obtain ⟨l1, c10, c11, c12, c13, c14, c15, c16, c17⟩ := E1.out.f); clear hb E0)
        | (go_at_call 234; (with_reducible refine (over_w x o _ HFO.out HFV.out).mono ?_); rintro e w' ⟨rfl, hb⟩; (have E2 : Hid _ := E1.out.below hb); clear hb E1))
      go_ret2
      exact ⟨rfl, E2.out.bel⟩
    · rw [if_neg (by omega), if_neg k3, if_neg k2]
      have hb1 : ((x.k : Int) == 1) = false := by rw [beq_eq_false_iff_ne]; omega
      have hb2 : ((x.k : Int) == 8) = false := by rw [beq_eq_false_iff_ne]; omega
      have hb3 : ((x.k : Int) == 3) = false := by rw [beq_eq_false_iff_ne]; omega
      have hb4 : ((x.k : Int) == 2) = false := by rw [beq_eq_false_iff_ne]; omega
      clear k1 k8 k3 k2
      unfold elV
      go_enter Tryz.func207, Tryz.ntmps207
      go_wp2_with (first
        | (go_at_call 231; (with_reducible refine (HC.out _).mono ?_); rintro e w1 ⟨rfl, hb⟩; (have E1 : Hid _ := E0.out.below hb); (obtain ⟨l1, c10, c11, c12, c13, c14, c15, c16, c17⟩ := E1.out.f); clear hb E0))
      go_ret2
      exact ⟨rfl, E1.out.bel⟩
  · have HC : Hid _ := fun W => acheck_w x o W h ho _ rfl
    have hr : ofT x o = (0, 0, ckA x o) := by unfold ofT; rw [if_neg hc]
    rw [hr]
    have hq : (ckA x o != 0) = true := by simp [hc]
    clear hr hc
    unfold elV
    go_enter Tryz.func207, Tryz.ntmps207
    go_wp2_with (first
      | (go_at_call 231; (with_reducible refine (HC.out _).mono ?_); rintro e w1 ⟨rfl, hb⟩; (have E1 : Hid _ := E0.out.below hb); clear hb E0))
    go_ret2
    exact ⟨rfl, E1.out.bel⟩
end Go.Proofs.YtmpkcioeodlbcaaGreatDoor
