/-
  Several texts in one: Stp Stq Str Sts Stu Stv.
-/
import Derived.Test.YtmpkcioeodlbcaaGreatDoorK34
import Derived.Test.YtmpkcioeodlbcaaGreatDoorK23
import Derived.Test.YtmpkcioeodlbcaaGreatDoorK27
import Derived.Deep.RegionHeldLaw
namespace Go.Proofs.YtmpkcioeodlbcaaGreatDoor
open Fl RowKit
set_option linter.unusedVariables false
/-- a matrix while it is stamped: its entries, and whether one that was put there was not finite -/
structure Sh where
  m : Nat → Nat → Cn
  ov : Bool
def Sh.zero : Sh := ⟨fun _ _ => (some 0, some 0), false⟩
/-- an entry changed -/
def Sh.put (S : Sh) (op : Cn → Cn → Cn) (i j : Nat) (Y : Cn) : Sh := ⟨fun a b => if a = i ∧ b = j then op (S.m i j) Y else S.m a b, S.ov || !finC (op (S.m i j) Y)⟩
/-- an entry changed, unless it is the ground's -/
def Sh.chg (S : Sh) (op : Cn → Cn → Cn) (i j : Int) (Y : Cn) : Sh := if i < 0 ∨ j < 0 then S else S.put op i.toNat j.toNat Y
def one1 : Cn := (some 4607182418800017408, some 0)
def valC (x : Elm) : Cn := (ans x.v, some 0)
def bra (N : Ns) (x : Elm) (S : Sh) : Sh :=
  (((S.chg addZ (plI N x.a) (rwI N x) one1).chg addZ (rwI N x) (plI N x.a) one1).chg subZ (plI N x.b) (rwI N x) one1).chg subZ (rwI N x) (plI N x.b) one1
def adm (N : Ns) (x : Elm) (Y : Cn) (S : Sh) : Sh :=
  (((S.chg addZ (plI N x.a) (plI N x.a) Y).chg addZ (plI N x.b) (plI N x.b) Y).chg subZ (plI N x.a) (plI N x.b) Y).chg subZ (plI N x.b) (plI N x.a) Y
def tra (N : Ns) (x : Elm) (S : Sh) : Sh :=
  (((S.chg addZ (plI N x.a) (plI N x.c) (valC x)).chg subZ (plI N x.a) (plI N x.d) (valC x)).chg subZ (plI N x.b) (plI N x.c) (valC x)).chg addZ (plI N x.b) (plI N x.d) (valC x)
def amp (N : Ns) (x : Elm) (S : Sh) : Sh :=
  ((bra N x S).chg subZ (rwI N x) (plI N x.c) (valC x)).chg addZ (rwI N x) (plI N x.d) (valC x)
/-- what an element stamps -/
def stE (N : Ns) (o : Nat) (x : Elm) (S : Sh) : Sh :=
  if x.k = 4 then S else if x.k = 5 then bra N x S else if x.k = 6 then tra N x S else if x.k = 7 then amp N x S
  else adm N x (ans (ofT x o).1, ans (ofT x o).2.1) S
/-- what its admittance is refused for -/
def stR (o : Nat) (x : Elm) : Int := if x.k = 4 ∨ x.k = 5 ∨ x.k = 6 ∨ x.k = 7 then 0 else (ofT x o).2.2
/-- what the elements from the i-th on stamp: the fault, the matrix -/
def stL (N : Ns) (o : Nat) (S : Sh) (i : Nat) : List Elm → (Int × Int) × Sh
  | [] => ((0, 0), S)
  | x :: t => if stR o x ≠ 0 then ((stR o x, i), S) else if (stE N o x S).ov = true then ((6, i), stE N o x S) else stL N o (stE N o x S) (i + 1) t
/-- what Matrix answers of a net that is made -/
def stA (N : Ns) (o : Nat) : (Int × Int) × Sh := if frI o ≠ 0 then ((frI o, -1), Sh.zero) else stL N o Sh.zero 0 N.es
theorem stL_bad {N : Ns} {o i : Nat} {S : Sh} {x : Elm} {t : List Elm} (h : stR o x ≠ 0) : stL N o S i (x :: t) = ((stR o x, (i : Int)), S) := by rw [stL, if_pos h]
theorem stL_over {N : Ns} {o i : Nat} {S : Sh} {x : Elm} {t : List Elm} (h : stR o x = 0) (h2 : (stE N o x S).ov = true) : stL N o S i (x :: t) = ((6, (i : Int)), stE N o x S) := by rw [stL, if_neg (by simp [h]), if_pos h2]
theorem stL_go {N : Ns} {o i : Nat} {S : Sh} {x : Elm} {t : List Elm} (h : stR o x = 0) (h2 : (stE N o x S).ov = false) : stL N o S i (x :: t) = stL N o (stE N o x S) (i + 1) t := by rw [stL, if_neg (by simp [h]), if_neg (by simp [h2])]
end Go.Proofs.YtmpkcioeodlbcaaGreatDoor
namespace Go.Proofs.YtmpkcioeodlbcaaGreatDoor
open Fl RowKit
set_option linter.unusedVariables false
/-- the program's sheet at block s: its net, its omega, the rows ahead of the branches', its entries -/
structure Sp (w : World) (s : Nat) (v : Value) (o nn : Nat) (S : Sh) : Prop where
  c0 : w.cell? ⟨s, 0, none⟩ = some v
  c1 : w.cell? ⟨s, 1, none⟩ = some (.float .f64 o)
  c2 : w.cell? ⟨s, 2, none⟩ = some (.int .i64 nn)
  ent : ∀ i j, i < 64 → j < 64 → ∃ r : Cw, w.cell? ⟨s, 3 + i * 64 + j, none⟩ = some (cx r) ∧ repz (S.m i j) r
  err : w.cell? ⟨s, 4099, none⟩ = some (.int .i64 (if S.ov = true then 6 else 0))
  fz : ∀ k, w.frozen? ⟨s, k, none⟩ = false
theorem Sp.below {w w' : World} {s : Nat} {v : Value} {o nn : Nat} {S : Sh} {n : Nat} (h : Sp w s v o nn S) (hb : Below n w w') (hs : s < n) : Sp w' s v o nn S := by
  have k : ∀ (j : Nat) (u : Value), w.cell? ⟨s, j, none⟩ = some u → w'.cell? ⟨s, j, none⟩ = some u := fun j u hc => (hb.cell (p := ⟨s, j, none⟩) hs).trans hc
  refine ⟨k _ _ h.c0, k _ _ h.c1, k _ _ h.c2, fun i j hi hj => ?_, k _ _ h.err, fun j => ?_⟩
  · obtain ⟨r, h1, h2⟩ := h.ent i j hi hj
    exact ⟨r, k _ _ h1, h2⟩
  · have := hb.block s hs
    have e := h.fz j
    unfold World.frozen? at *
    simp only [this] at *
    exact e
theorem Sp.drewN {w : World} {s : Nat} {v : Value} {o nn : Nat} {S : Sh} (h : Sp w s v o nn S) (m : Nat) : Sp (w.drewN m) s v o nn S := ⟨h.c0, h.c1, h.c2, h.ent, h.err, h.fz⟩
/-- an entry changed, in memory -/
theorem Sp.put {w : World} {s : Nat} {v : Value} {o nn : Nat} {S : Sh} (h : Sp w s v o nn S) {op : Cn → Cn → Cn} {i j : Nat} (hi : i < 64) (hj : j < 64) {Y : Cn} {r : Cw} (hr : repz (op (S.m i j) Y) r) :
    (finC (op (S.m i j) Y) = true → Sp (w.setCell ⟨s, 3 + i * 64 + j, none⟩ (cx r)) s v o nn (S.put op i j Y)) ∧
    (finC (op (S.m i j) Y) = false → Sp ((w.setCell ⟨s, 3 + i * 64 + j, none⟩ (cx r)).setCell ⟨s, 4099, none⟩ (.int .i64 6)) s v o nn (S.put op i j Y)) := by
  have ot : ∀ (W : World) (a b : Nat) (u : Value), a ≠ b → (W.setCell ⟨s, a, none⟩ u).cell? ⟨s, b, none⟩ = W.cell? ⟨s, b, none⟩ := fun W a b u hab => World.cell?_setCell_other _ _ _ _ (fun e => hab (by simpa using congrArg Addr.off e))
  have fr : ∀ (W : World) (a b : Nat) (u : Value), W.frozen? ⟨s, b, none⟩ = false → (W.setCell ⟨s, a, none⟩ u).frozen? ⟨s, b, none⟩ = false := fun W a b u hf => by rw [World.frozen?_setCell]; exact hf
  have e1 : ∀ a b, a < 64 → b < 64 → ∃ r' : Cw, (w.setCell ⟨s, 3 + i * 64 + j, none⟩ (cx r)).cell? ⟨s, 3 + a * 64 + b, none⟩ = some (cx r') ∧ repz ((S.put op i j Y).m a b) r' := by
    intro a b ha hb
    by_cases e : a = i ∧ b = j
    · obtain ⟨rfl, rfl⟩ := e
      obtain ⟨r0, q0, _⟩ := h.ent a b ha hb
      refine ⟨r, World.cell?_setCell_same _ _ _ q0, ?_⟩
      simpa [Sh.put] using hr
    · obtain ⟨r0, q0, q1⟩ := h.ent a b ha hb
      refine ⟨r0, ?_, ?_⟩
      · rw [ot _ _ _ _ (by omega)]; exact q0
      · have : (S.put op i j Y).m a b = S.m a b := by simp only [Sh.put]; rw [if_neg e]
        rw [this]; exact q1
  constructor
  · intro hf
    refine ⟨?_, ?_, ?_, e1, ?_, fun k => fr _ _ _ _ (h.fz k)⟩
    · rw [ot _ _ _ _ (by omega)]; exact h.c0
    · rw [ot _ _ _ _ (by omega)]; exact h.c1
    · rw [ot _ _ _ _ (by omega)]; exact h.c2
    · rw [ot _ _ _ _ (by omega)]
      have : (S.put op i j Y).ov = S.ov := by simp [Sh.put, hf]
      rw [this]; exact h.err
  · intro hf
    refine ⟨?_, ?_, ?_, fun a b ha hb => ?_, ?_, fun k => fr _ _ _ _ (fr _ _ _ _ (h.fz k))⟩
    · rw [ot _ _ _ _ (by omega), ot _ _ _ _ (by omega)]; exact h.c0
    · rw [ot _ _ _ _ (by omega), ot _ _ _ _ (by omega)]; exact h.c1
    · rw [ot _ _ _ _ (by omega), ot _ _ _ _ (by omega)]; exact h.c2
    · rw [ot _ _ _ _ (by omega)]; exact e1 a b ha hb
    · have : (S.put op i j Y).ov = true := by simp [Sh.put, hf]
      rw [this, if_pos rfl]
      refine World.cell?_setCell_same _ _ _ (u := .int .i64 (if S.ov = true then 6 else 0)) ?_
      rw [ot _ _ _ _ (by omega)]; exact h.err

set_option maxHeartbeats 4000000 in
/-- an entry changed, unless it is the ground's -/
theorem chg_any {F : FuncId} {op : Cn → Cn → Cn} (hE : Ent F) (hF : Op2 F op) {w : World} {s : Nat} {v : Value} {o nn : Nat} {S : Sh} (h : Sp w s v o nn S) {i j : Int} (hi : -1 ≤ i) (hi2 : i < 64) (hj : -1 ≤ j) (hj2 : j < 64) {y : Cw} (hy : okz y) :
    Calls Tryz.prog 235 #[.pointer (some ⟨s, 0, none⟩), .int .i64 i, .int .i64 j, .func (.func F) #[] #[], .complex .f64 y.1 y.2] w fun e w' => e = .returned (.tuple #[]) ∧ Sp w' s v o nn (S.chg op i j (anz y)) ∧ Kp s w w' := by
  have H := hidS h
  clear h
  by_cases i1 : i = -1
  · subst i1
    have hS : S.chg op (-1) j (anz y) = S := by unfold Sh.chg; rw [if_pos (.inl (by decide))]
    rw [hS]
    go_enter Tryz.func235, Tryz.ntmps235
    go_wp2_with fail
    refine bodyPost_ret (by simp [results, Tryz.results235, go_sem]; try rfl) rfl ?_
    exact ⟨rfl, H.out, Kp.refl _ _⟩
  by_cases j1 : j = -1
  · subst j1
    have hS : S.chg op i (-1) (anz y) = S := by unfold Sh.chg; rw [if_pos (.inr (by decide))]
    rw [hS]
    go_enter Tryz.func235, Tryz.ntmps235
    go_wp2_with fail
    refine bodyPost_ret (by simp [results, Tryz.results235, go_sem]; try rfl) rfl ?_
    exact ⟨rfl, H.out, Kp.refl _ _⟩
  obtain ⟨a, rfl⟩ : ∃ a : Nat, i = a := ⟨i.toNat, by omega⟩
  obtain ⟨b, rfl⟩ : ∃ b : Nat, j = b := ⟨j.toNat, by omega⟩
  have hS : S.chg op (a : Int) (b : Int) (anz y) = S.put op a b (anz y) := by unfold Sh.chg; rw [if_neg (by omega)]; rfl
  rw [hS]
  have ha : a < 64 := by omega
  have hb : b < 64 := by omega
  obtain ⟨x, hx, hr⟩ := H.out.ent a b ha hb
  have hxx : anz x = S.m a b := hr.anz
  have hxo : okz x := hr.ok
  have hc3 : w.cell? ⟨s, 3 + a * 64 + b, none⟩ = some (cx x) := hx
  have hfz := H.out.fz (3 + a * 64 + b)
  have HX := hidS hxx
  have HO := hidS hxo
  obtain ⟨f, hf⟩ : ∃ f, finC (op (S.m a b) (anz y)) = f := ⟨_, rfl⟩
  have HFI : Hid (finC (op (anz x) (anz y)) = f) := by show _ = _; rw [hxx]; exact hf
  have HFF := hidS hf
  have HP := hidS (fun (m : Nat) (r : Cw) (q : repz (op (S.m a b) (anz y)) r) => (H.out.drewN m).put ha hb (op := op) (Y := anz y) (r := r) q)
  clear hf hxx hxo hx hr hS
  have i2 : ((a : Int) == -1) = false := by simp
  have j2 : ((b : Int) == -1) = false := by simp
  have hE2 := hE
  unfold Ent at hE2
  cases f
  all_goals
    go_enter Tryz.func235, Tryz.ntmps235
    go_wp2_with (go_at_call 255; (with_reducible refine (sput_any hE hF HO.out hy hc3 hfz _ HFI.out).mono ?_); rintro e w1 ⟨rfl, r, m, hrr, rfl⟩; rw [HX.out] at hrr; (have HR := hidS hrr); clear hrr; (have hk : ((w.drewN m).setCell ⟨s, 3 + a * 64 + b, none⟩ (cx r)).cell? ⟨s, 4099, none⟩ = some (.int .i64 (if S.ov = true then 6 else 0)) := (World.cell?_setCell_other _ _ _ _ (fun e => by have := congrArg Addr.off e; simp at this; omega)).trans H.out.err); (have hz : ((w.drewN m).setCell ⟨s, 3 + a * 64 + b, none⟩ (cx r)).frozen? ⟨s, 4099, none⟩ = false := (by rw [World.frozen?_setCell]; exact H.out.fz 4099)))
    refine bodyPost_end (by simp [results, Tryz.results235, go_sem]; try rfl) rfl ?_
  · exact ⟨rfl, (HP.out m r HR.out).2 HFF.out, ((Kp.dN s w m).setCell (3 + a * 64 + b) (cx r)).setCell 4099 (.int .i64 6)⟩
  · exact ⟨rfl, (HP.out m r HR.out).1 HFF.out, (Kp.dN s w m).setCell (3 + a * 64 + b) (cx r)⟩
/-- what a change of a place of the sheet does -/
def Chg (F : FuncId) (op : Cn → Cn → Cn) : Prop := ∀ (w : World) (s : Nat) (v : Value) (o nn : Nat) (S : Sh) (i j : Int) (y : Cw), Sp w s v o nn S → -1 ≤ i → i < 64 → -1 ≤ j → j < 64 → okz y → Calls Tryz.prog F #[.pointer (some ⟨s, 0, none⟩), .int .i64 i, .int .i64 j, .complex .f64 y.1 y.2] w fun e w' => e = .returned (.tuple #[]) ∧ Sp w' s v o nn (S.chg op i j (anz y)) ∧ Kp s w w'
theorem sadd_c : Chg 209 addZ := by
  intro w s v o nn S i j y h hi hi2 hj hj2 hy
  have HC := hidS (chg_any ent2_add op2_add h hi hi2 hj hj2 hy)
  clear h
  go_enter Tryz.func209, Tryz.ntmps209
  go_wp2_with (go_at_call 235; (with_reducible refine (HC.out).mono ?_); rintro e w1 ⟨rfl, h1⟩)
  refine bodyPost_end (by simp [results, Tryz.results209, go_sem]; try rfl) rfl ?_
  exact ⟨rfl, h1⟩
theorem ssub_c : Chg 210 subZ := by
  intro w s v o nn S i j y h hi hi2 hj hj2 hy
  have HC := hidS (chg_any ent2_sub op2_sub h hi hi2 hj hj2 hy)
  clear h
  go_enter Tryz.func210, Tryz.ntmps210
  go_wp2_with (go_at_call 235; (with_reducible refine (HC.out).mono ?_); rintro e w1 ⟨rfl, h1⟩)
  refine bodyPost_end (by simp [results, Tryz.results210, go_sem]; try rfl) rfl ?_
  exact ⟨rfl, h1⟩
end Go.Proofs.YtmpkcioeodlbcaaGreatDoor
namespace Go.Proofs.YtmpkcioeodlbcaaGreatDoor
open Fl Go.Maps RowKit Joins Deep
set_option linter.unusedVariables false
/-- a sheet beside the net that it is of -/
structure Sn (w0 w : World) (s base p : Nat) (N : Ns) (b : Nb) (o : Nat) (S : Sh) : Prop where
  nt : Nt w0 base p N b
  bel : Below w0.heap.size w0 w
  lo : w0.heap.size ≤ s
  nd : N.nd.length ≤ 32
  nb : N.nd.length + N.br.length ≤ 64
  sp : Sp w s (.pointer (some ⟨p, 0, none⟩)) o N.nd.length S
theorem Sn.step {w0 w w' : World} {s base p : Nat} {N : Ns} {b : Nb} {o : Nat} {S S' : Sh} (h : Sn w0 w s base p N b o S) (h1 : Sp w' s (.pointer (some ⟨p, 0, none⟩)) o N.nd.length S') (h2 : Kp s w w') : Sn w0 w' s base p N b o S' := ⟨h.nt, h.bel.trans (h2.bel.mono h.lo), h.lo, h.nd, h.nb, h1⟩
theorem Sn.net {w0 w : World} {s base p : Nat} {N : Ns} {b : Nb} {o : Nat} {S : Sh} (h : Sn w0 w s base p N b o S) : Nt w base p N b := h.nt.below h.bel
theorem Sn.row_hi {w0 w : World} {s base p : Nat} {N : Ns} {b : Nb} {o : Nat} {S : Sh} (h : Sn w0 w s base p N b o S) (x : Elm) : rwI N x < 64 := by
  unfold rwI
  have h1 := h.nd
  have h2 := h.nb
  by_cases k : bl x.n ∈ N.br
  · have := posL_lt k; omega
  · have : posL N.br (bl x.n) = 0 := by unfold posL; rw [if_neg k]
    omega
theorem Sn.pl_hi {w0 w : World} {s base p : Nat} {N : Ns} {b : Nb} {o : Nat} {S : Sh} (h : Sn w0 w s base p N b o S) (t : ByteArray) : plI N t < 64 := by
  have h1 := h.nd
  have := @plI_hi N t
  omega
theorem splace_any {w0 w : World} {s base p : Nat} {N : Ns} {b : Nb} {o : Nat} {S : Sh} (h : Sn w0 w s base p N b o S) (t : ByteArray) (ht : t.size ≤ 100000) :
    Calls Tryz.prog 208 #[.pointer (some ⟨s, 0, none⟩), .string t] w fun e w' => e = .returned (.int .i64 (plI N t)) ∧ w' = w := by
  have c0 := h.sp.c0
  have HP := hidS (plc_made h.net t ht)
  by_cases k : bl t ∈ N.nd
  · have hk : plI N t = (posL N.nd (bl t) : Int) := by unfold plI; rw [if_pos k]
    rw [hk]
    go_enter Tryz.func208, Tryz.ntmps208
    go_wp2_with (go_at_call 45; (with_reducible refine (HP.out).mono ?_); rintro e w1 ⟨rfl, hw⟩; subst w1; rw [decide_eq_true k])
    go_ret
    exact ⟨rfl, rfl⟩
  · have hk : plI N t = -1 := by unfold plI; rw [if_neg k]
    rw [hk]
    go_enter Tryz.func208, Tryz.ntmps208
    go_wp2_with (go_at_call 45; (with_reducible refine (HP.out).mono ?_); rintro e w1 ⟨rfl, hw⟩; subst w1; rw [decide_eq_false k])
    go_ret
    exact ⟨rfl, rfl⟩
theorem Sn.lt {w0 w : World} {s base p : Nat} {N : Ns} {b : Nb} {o : Nat} {S : Sh} (h : Sn w0 w s base p N b o S) : s < w.heap.size := World.block_lt_of_cell? w _ h.sp.c0
theorem Sn.on {w0 w w' : World} {s base p : Nat} {N : Ns} {b : Nb} {o : Nat} {S : Sh} (h : Sn w0 w s base p N b o S) (hb : Below w.heap.size w w') : Sn w0 w' s base p N b o S := h.step (h.sp.below hb h.lt) (Kp.of hb h.lt)
theorem srow_any {w0 w : World} {s base p : Nat} {N : Ns} {b : Nb} {o : Nat} {S : Sh} (h : Sn w0 w s base p N b o S) (x : Elm) (hx : x.n.size ≤ 100000) :
    Calls Tryz.prog 211 #[.pointer (some ⟨s, 0, none⟩), elV x] w fun e w' => e = .returned (.int .i64 (rwI N x)) ∧ Below w.heap.size w w' := by
  have HN := hidS (h.on (bal w (.cells (elA x) 96)))
  have E0 : Hid (EC w (w.alloc (.cells (elA x) 96)) w.heap.size x) := ec_new w x
  have HB := hidS (bal w (.cells (elA x) 96))
  obtain ⟨l1, c10, c11, c12, c13, c14, c15, c16, c17⟩ := E0.out.f
  obtain ⟨wa, hwa⟩ : ∃ wa, w.alloc (.cells (elA x) 96) = wa := ⟨_, rfl⟩
  rw [hwa] at HN E0 HB l1 c10 c11 c12 c13 c14 c15 c16 c17
  have c0 := HN.out.sp.c0
  have c2 := HN.out.sp.c2
  have HP := hidS (fun W (hb : Below wa.heap.size wa W) => brn_made (HN.out.on hb).net x.n hx)
  have HB0 := hidS (Below.refl wa.heap.size wa)
  have h1 := h.nd
  have h2 := h.nb
  have h3 := posL_le N.br (bl x.n)
  unfold elA at hwa
  unfold elV rwI
  obtain ⟨q, hq⟩ : ∃ q, posL N.br (bl x.n) = q := ⟨_, rfl⟩
  obtain ⟨d, hd⟩ : ∃ d, N.nd.length = d := ⟨_, rfl⟩
  rw [hq] at h3 ⊢
  rw [hd] at h1 h2 c2 ⊢
  have HQ := hidS hq
  clear hq hd h
  go_enter Tryz.func211, Tryz.ntmps211
  go_wp2
  go_region_held_law (fun W => W.cell? ⟨s, 0, none⟩ = some (.pointer (some ⟨p, 0, none⟩)) ∧ W.cell? ⟨w.heap.size, 1, none⟩ = some (.string x.n)) (first | exact ⟨c0, c11⟩ | go_keep) (first | (go_at_call 48; (with_reducible refine (HP.out _ (by repeat first | with_reducible exact HB0.out | with_reducible refine Below.drew ?_)).mono ?_); rintro e w1 ⟨rfl, hw⟩; subst w1; rw [HQ.out]))
  all_goals rename_i hHeld
  all_goals clear hHeld
  all_goals go_wp2_with fail
  all_goals go_ret
  all_goals exact ⟨rfl, by repeat first | with_reducible exact HB.out | with_reducible refine Below.drew ?_⟩
theorem Sn.drew {w0 w : World} {s base p : Nat} {N : Ns} {b : Nb} {o : Nat} {S : Sh} (h : Sn w0 w s base p N b o S) : Sn w0 w.drew s base p N b o S := h.on ((Below.refl _ _).drew)
theorem EC.drew {w W : World} {p : Nat} {x : Elm} (h : EC w W p x) : EC w W.drew p x := h.below ((Below.refl _ _).drew)
set_option maxHeartbeats 4000000 in
theorem sbranch_any {w0 w : World} {s base p : Nat} {N : Ns} {b : Nb} {o : Nat} {S : Sh} (h : Sn w0 w s base p N b o S) (x : Elm) (hx : x.n.size ≤ 100000) (ha : x.a.size ≤ 100000) (hb : x.b.size ≤ 100000) :
    Calls Tryz.prog 176 #[.pointer (some ⟨s, 0, none⟩), elV x] w fun e w' => e = .returned (.tuple #[]) ∧ Sn w0 w' s base p N b o (bra N x S) ∧ Kp s w w' := by
  have HN := hidS (h.on (bal w (.cells (elA x) 96)))
  have E0 : Hid (EC w (w.alloc (.cells (elA x) 96)) w.heap.size x) := ec_new w x
  have HB := hidS (Kp.of (bal w (.cells (elA x) 96)) h.lt)
  obtain ⟨l1, c10, c11, c12, c13, c14, c15, c16, c17⟩ := E0.out.f
  obtain ⟨wa, hwa⟩ : ∃ wa, w.alloc (.cells (elA x) 96) = wa := ⟨_, rfl⟩
  rw [hwa] at HN E0 HB l1 c10 c11 c12 c13 c14 c15 c16 c17
  have HROW := hidS (fun (W : World) (q : Sn w0 W s base p N b o S) => srow_any q x hx)
  have HPA := hidS (fun (W : World) (q : Sn w0 W s base p N b o S) => splace_any q x.a ha)
  have HPB := hidS (fun (W : World) (q : Sn w0 W s base p N b o S) => splace_any q x.b hb)
  have HAD : Hid (∀ (W : World) (S' : Sh) (i j : Int), Sn w0 W s base p N b o S' → -1 ≤ i → i < 64 → -1 ≤ j → j < 64 → Calls Tryz.prog 209 #[.pointer (some ⟨s, 0, none⟩), .int .i64 i, .int .i64 j, .complex .f64 4607182418800017408 0] W fun e w' => e = .returned (.tuple #[]) ∧ Sn w0 w' s base p N b o (S'.chg addZ i j one1) ∧ Kp s W w') := fun W S' i j q h1 h2 h3 h4 => (sadd_c W s _ o _ S' i j (4607182418800017408, 0) q.sp h1 h2 h3 h4 ⟨by decide, by decide⟩).mono (by rintro e w' ⟨rfl, k1, k2⟩; exact ⟨rfl, q.step k1 k2, k2⟩)
  have HSU : Hid (∀ (W : World) (S' : Sh) (i j : Int), Sn w0 W s base p N b o S' → -1 ≤ i → i < 64 → -1 ≤ j → j < 64 → Calls Tryz.prog 210 #[.pointer (some ⟨s, 0, none⟩), .int .i64 i, .int .i64 j, .complex .f64 4607182418800017408 0] W fun e w' => e = .returned (.tuple #[]) ∧ Sn w0 w' s base p N b o (S'.chg subZ i j one1) ∧ Kp s W w') := fun W S' i j q h1 h2 h3 h4 => (ssub_c W s _ o _ S' i j (4607182418800017408, 0) q.sp h1 h2 h3 h4 ⟨by decide, by decide⟩).mono (by rintro e w' ⟨rfl, k1, k2⟩; exact ⟨rfl, q.step k1 k2, k2⟩)
  unfold elV at HROW
  have a1 := plI_lo N x.a
  have a2 := h.pl_hi x.a
  have b1 := plI_lo N x.b
  have b2 := h.pl_hi x.b
  have r1 := rwI_lo N x
  have r2 := h.row_hi x
  have hsl := h.lt
  unfold bra
  obtain ⟨pa, hpa⟩ : ∃ pa, plI N x.a = pa := ⟨_, rfl⟩
  obtain ⟨pb, hpb⟩ : ∃ pb, plI N x.b = pb := ⟨_, rfl⟩
  obtain ⟨rw0, hrw⟩ : ∃ rw0, rwI N x = rw0 := ⟨_, rfl⟩
  rw [hpa] at HPA a1 a2 ⊢
  rw [hpb] at HPB b1 b2 ⊢
  rw [hrw] at HROW r1 r2 ⊢
  clear hpa hpb hrw h hx ha hb
  have HL : Hid (s < wa.heap.size) := Nat.lt_trans hsl l1
  have HB0 := hidS (Below.refl wa.heap.size wa)
  clear hsl
  unfold elA at hwa
  unfold elV
  go_enter Tryz.func176, Tryz.ntmps176
  go_wp2
  go_region_held_law (fun W => W.cell? ⟨w.heap.size, 0, none⟩ = some (.int .u8 (x.k : Int)) ∧ W.cell? ⟨w.heap.size, 1, none⟩ = some (.string x.n) ∧ W.cell? ⟨w.heap.size, 2, none⟩ = some (.string x.a) ∧ W.cell? ⟨w.heap.size, 3, none⟩ = some (.string x.b) ∧ W.cell? ⟨w.heap.size, 4, none⟩ = some (.string x.c) ∧ W.cell? ⟨w.heap.size, 5, none⟩ = some (.string x.d) ∧ W.cell? ⟨w.heap.size, 6, none⟩ = some (.float .f64 x.v) ∧ W.cell? ⟨w.heap.size, 7, none⟩ = some (.int .i64 x.ph)) (first | exact ⟨c10, c11, c12, c13, c14, c15, c16, c17⟩ | exact ⟨d10, d11, d12, d13, d14, d15, d16, d17⟩ | go_keep) (first
    | (go_at_call 211; (with_reducible refine (HROW.out _ (by repeat first | with_reducible exact HN.out | with_reducible refine Sn.drew ?_)).mono ?_); rintro e w1 ⟨rfl, hb1⟩; (have KB : Below wa.heap.size wa w1 := Below.trans (by repeat first | with_reducible exact HB0.out | with_reducible refine Below.drew ?_) hb1); (have HB1 : Hid (Kp s wa w1) := Kp.of KB HL.out); (have HN1 := hidS (HN.out.on KB)); (have E1 := hidS (E0.out.below KB)); (obtain ⟨l2, d10, d11, d12, d13, d14, d15, d16, d17⟩ := E1.out.f); clear hb1 KB)
    | (go_at_call 208; (with_reducible refine (HPA.out _ (by repeat first | with_reducible exact HN1.out | with_reducible refine Sn.drew ?_)).mono ?_); rintro e w2 ⟨rfl, hw⟩; subst w2)
    | (go_at_call 208; (with_reducible refine (HPB.out _ (by repeat first | with_reducible exact HN1.out | with_reducible refine Sn.drew ?_)).mono ?_); rintro e w2 ⟨rfl, hw⟩; subst w2))
  all_goals rename_i hHeld
  all_goals clear hHeld
  all_goals clear c10 c11 c12 c13 c14 c15 c16 c17 d10 d11 d12 d13 d14 d15 d16 d17
  all_goals go_wp2_with (first
    | (go_at_call 209; (with_reducible refine (HAD.out _ _ _ _ (by repeat first | with_reducible exact HN1.out | with_reducible refine Sn.drew ?_) (by assumption) (by assumption) (by assumption) (by assumption)).mono ?_); rintro e w3 ⟨rfl, hn3, hb3⟩; (have HB1 : Hid (Kp s wa w3) := HB1.out.trans (by first | exact hb3 | exact (Kp.dN s _ 1).trans hb3)); (have HN1 := hidS hn3); clear hn3 hb3)
    | (go_at_call 210; (with_reducible refine (HSU.out _ _ _ _ (by repeat first | with_reducible exact HN1.out | with_reducible refine Sn.drew ?_) (by assumption) (by assumption) (by assumption) (by assumption)).mono ?_); rintro e w3 ⟨rfl, hn3, hb3⟩; (have HB1 : Hid (Kp s wa w3) := HB1.out.trans (by first | exact hb3 | exact (Kp.dN s _ 1).trans hb3)); (have HN1 := hidS hn3); clear hn3 hb3))
  all_goals refine bodyPost_end (by simp [results, Tryz.results176, go_sem]; try rfl) rfl ?_
  all_goals exact ⟨rfl, HN1.out, HB.out.trans HB1.out⟩
end Go.Proofs.YtmpkcioeodlbcaaGreatDoor
namespace Go.Proofs.YtmpkcioeodlbcaaGreatDoor
open Fl Go.Maps RowKit Joins Deep
set_option linter.unusedVariables false
/-- an element of short texts -/
structure Elm.small (x : Elm) : Prop where
  n : x.n.size ≤ 100000
  a : x.a.size ≤ 100000
  b : x.b.size ≤ 100000
  c : x.c.size ≤ 100000
  d : x.d.size ≤ 100000
  v : x.v < 18446744073709551616
theorem el8 {W : World} {p : Nat} {x : Elm} (h : W.heap[p]? = some (.cells (elA x) 96 (0, 0))) : W.cell? ⟨p, 0, none⟩ = some (.int .u8 (x.k : Int)) ∧ W.cell? ⟨p, 1, none⟩ = some (.string x.n) ∧ W.cell? ⟨p, 2, none⟩ = some (.string x.a) ∧ W.cell? ⟨p, 3, none⟩ = some (.string x.b) ∧ W.cell? ⟨p, 4, none⟩ = some (.string x.c) ∧ W.cell? ⟨p, 5, none⟩ = some (.string x.d) ∧ W.cell? ⟨p, 6, none⟩ = some (.float .f64 x.v) ∧ W.cell? ⟨p, 7, none⟩ = some (.int .i64 x.ph) := by
  refine ⟨?_, ?_, ?_, ?_, ?_, ?_, ?_, ?_⟩ <;> rw [cell_of_row W p _ _ _ (0, 0) h] <;> rfl
set_option maxHeartbeats 4000000 in
theorem stransfer_any {w0 w : World} {s base p : Nat} {N : Ns} {b : Nb} {o : Nat} {S : Sh} (h : Sn w0 w s base p N b o S) (x : Elm) (hx : x.small) :
    Calls Tryz.prog 177 #[.pointer (some ⟨s, 0, none⟩), elV x] w fun e w' => e = .returned (.tuple #[]) ∧ Sn w0 w' s base p N b o (tra N x S) ∧ Kp s w w' := by
  have HN := hidS (h.on (bal w (.cells (elA x) 96)))
  have E0 : Hid (EC w (w.alloc (.cells (elA x) 96)) w.heap.size x) := ec_new w x
  have HB := hidS (Kp.of (bal w (.cells (elA x) 96)) h.lt)
  obtain ⟨l1, c10, c11, c12, c13, c14, c15, c16, c17⟩ := E0.out.f
  obtain ⟨wa, hwa⟩ : ∃ wa, w.alloc (.cells (elA x) 96) = wa := ⟨_, rfl⟩
  rw [hwa] at HN E0 HB l1 c10 c11 c12 c13 c14 c15 c16 c17
  have HPa := hidS (fun (W : World) (q : Sn w0 W s base p N b o S) => splace_any q x.a hx.a)
  have HPb := hidS (fun (W : World) (q : Sn w0 W s base p N b o S) => splace_any q x.b hx.b)
  have HPc := hidS (fun (W : World) (q : Sn w0 W s base p N b o S) => splace_any q x.c hx.c)
  have HPd := hidS (fun (W : World) (q : Sn w0 W s base p N b o S) => splace_any q x.d hx.d)
  have HAD : Hid (∀ (W : World) (S' : Sh) (i j : Int), Sn w0 W s base p N b o S' → -1 ≤ i → i < 64 → -1 ≤ j → j < 64 → Calls Tryz.prog 209 #[.pointer (some ⟨s, 0, none⟩), .int .i64 i, .int .i64 j, .complex .f64 x.v 0] W fun e w' => e = .returned (.tuple #[]) ∧ Sn w0 w' s base p N b o (S'.chg addZ i j (valC x)) ∧ Kp s W w') := fun W S' i j q h1 h2 h3 h4 => (sadd_c W s _ o _ S' i j (x.v, 0) q.sp h1 h2 h3 h4 ⟨hx.v, by show (0 : Nat) < 18446744073709551616; omega⟩).mono (by rintro e w' ⟨rfl, k1, k2⟩; exact ⟨rfl, q.step k1 k2, k2⟩)
  have HSU : Hid (∀ (W : World) (S' : Sh) (i j : Int), Sn w0 W s base p N b o S' → -1 ≤ i → i < 64 → -1 ≤ j → j < 64 → Calls Tryz.prog 210 #[.pointer (some ⟨s, 0, none⟩), .int .i64 i, .int .i64 j, .complex .f64 x.v 0] W fun e w' => e = .returned (.tuple #[]) ∧ Sn w0 w' s base p N b o (S'.chg subZ i j (valC x)) ∧ Kp s W w') := fun W S' i j q h1 h2 h3 h4 => (ssub_c W s _ o _ S' i j (x.v, 0) q.sp h1 h2 h3 h4 ⟨hx.v, by show (0 : Nat) < 18446744073709551616; omega⟩).mono (by rintro e w' ⟨rfl, k1, k2⟩; exact ⟨rfl, q.step k1 k2, k2⟩)
  have a1 := plI_lo N x.a
  have a2 := h.pl_hi x.a
  have b1 := plI_lo N x.b
  have b2 := h.pl_hi x.b
  have c1 := plI_lo N x.c
  have c2 := h.pl_hi x.c
  have d1 := plI_lo N x.d
  have d2 := h.pl_hi x.d
  have hsl := h.lt
  unfold tra
  obtain ⟨pa, hpa⟩ : ∃ pa, plI N x.a = pa := ⟨_, rfl⟩
  rw [hpa] at HPa a1 a2 ⊢
  obtain ⟨pb, hpb⟩ : ∃ pb, plI N x.b = pb := ⟨_, rfl⟩
  rw [hpb] at HPb b1 b2 ⊢
  obtain ⟨pc, hpc⟩ : ∃ pc, plI N x.c = pc := ⟨_, rfl⟩
  rw [hpc] at HPc c1 c2 ⊢
  obtain ⟨pd, hpd⟩ : ∃ pd, plI N x.d = pd := ⟨_, rfl⟩
  rw [hpd] at HPd d1 d2 ⊢
  clear hpa hpb hpc hpd h hx
  have HL : Hid (s < wa.heap.size) := Nat.lt_trans hsl l1
  have HNE : Hid (w.heap.size ≠ s) := fun e => by omega
  clear hsl
  have HB0 := hidS (Below.refl wa.heap.size wa)
  unfold elA at hwa
  unfold elV
  go_enter Tryz.func177, Tryz.ntmps177
  have HN1 := HN
  have HB1 := hidS (Kp.refl s wa)
  go_wp2
  go_region_held_law (fun W => W.cell? ⟨w.heap.size, 0, none⟩ = some (.int .u8 (x.k : Int)) ∧ W.cell? ⟨w.heap.size, 1, none⟩ = some (.string x.n) ∧ W.cell? ⟨w.heap.size, 2, none⟩ = some (.string x.a) ∧ W.cell? ⟨w.heap.size, 3, none⟩ = some (.string x.b) ∧ W.cell? ⟨w.heap.size, 4, none⟩ = some (.string x.c) ∧ W.cell? ⟨w.heap.size, 5, none⟩ = some (.string x.d) ∧ W.cell? ⟨w.heap.size, 6, none⟩ = some (.float .f64 x.v) ∧ W.cell? ⟨w.heap.size, 7, none⟩ = some (.int .i64 x.ph)) (first | exact ⟨c10, c11, c12, c13, c14, c15, c16, c17⟩ | go_keep) (first
    | (go_at_call 208; (with_reducible refine (HPa.out _ (by repeat first | with_reducible exact HN1.out | with_reducible refine Sn.drew ?_)).mono ?_); rintro e w2 ⟨rfl, hw⟩; subst w2)
    | (go_at_call 208; (with_reducible refine (HPb.out _ (by repeat first | with_reducible exact HN1.out | with_reducible refine Sn.drew ?_)).mono ?_); rintro e w2 ⟨rfl, hw⟩; subst w2)
    | (go_at_call 208; (with_reducible refine (HPc.out _ (by repeat first | with_reducible exact HN1.out | with_reducible refine Sn.drew ?_)).mono ?_); rintro e w2 ⟨rfl, hw⟩; subst w2)
    | (go_at_call 208; (with_reducible refine (HPd.out _ (by repeat first | with_reducible exact HN1.out | with_reducible refine Sn.drew ?_)).mono ?_); rintro e w2 ⟨rfl, hw⟩; subst w2))
  all_goals rename_i hHeld
  all_goals obtain ⟨e0, e1, e2, e3, e4, e5, e6, e7⟩ := hHeld
  all_goals have HN1 := hidS HN1.out.drew
  all_goals have HB1 : Hid (Kp s wa wa.drew) := Kp.dN s wa 1
  all_goals go_wp2_with (first
    | (go_at_call 209; (with_reducible refine (HAD.out _ _ _ _ (by repeat first | with_reducible exact HN1.out | with_reducible refine Sn.drew ?_) (by assumption) (by assumption) (by assumption) (by assumption)).mono ?_); rintro e w3 ⟨rfl, hn3, hb3⟩; (have HB1 : Hid (Kp s wa w3) := HB1.out.trans (by first | exact hb3 | exact (Kp.dN s _ 1).trans hb3)); (have HN1 := hidS hn3); clear hn3 hb3)
    | (go_at_call 210; (with_reducible refine (HSU.out _ _ _ _ (by repeat first | with_reducible exact HN1.out | with_reducible refine Sn.drew ?_) (by assumption) (by assumption) (by assumption) (by assumption)).mono ?_); rintro e w3 ⟨rfl, hn3, hb3⟩; (have HB1 : Hid (Kp s wa w3) := HB1.out.trans (by first | exact hb3 | exact (Kp.dN s _ 1).trans hb3)); (have HN1 := hidS hn3); clear hn3 hb3))
  all_goals refine bodyPost_end (by simp [results, Tryz.results177, go_sem]; try rfl) rfl ?_
  all_goals exact ⟨rfl, HN1.out, HB.out.trans HB1.out⟩
set_option maxHeartbeats 4000000 in
theorem samplifier_any {w0 w : World} {s base p : Nat} {N : Ns} {b : Nb} {o : Nat} {S : Sh} (h : Sn w0 w s base p N b o S) (x : Elm) (hx : x.small) :
    Calls Tryz.prog 178 #[.pointer (some ⟨s, 0, none⟩), elV x] w fun e w' => e = .returned (.tuple #[]) ∧ Sn w0 w' s base p N b o (amp N x S) ∧ Kp s w w' := by
  have HN := hidS (h.on (bal w (.cells (elA x) 96)))
  have E0 : Hid (EC w (w.alloc (.cells (elA x) 96)) w.heap.size x) := ec_new w x
  have HB := hidS (Kp.of (bal w (.cells (elA x) 96)) h.lt)
  obtain ⟨l1, c10, c11, c12, c13, c14, c15, c16, c17⟩ := E0.out.f
  obtain ⟨wa, hwa⟩ : ∃ wa, w.alloc (.cells (elA x) 96) = wa := ⟨_, rfl⟩
  rw [hwa] at HN E0 HB l1 c10 c11 c12 c13 c14 c15 c16 c17
  have HBR := hidS (fun (W : World) (q : Sn w0 W s base p N b o S) => sbranch_any q x hx.n hx.a hx.b)
  unfold elV at HBR
  have HROW := hidS (fun (W : World) (q : Sn w0 W s base p N b o (bra N x S)) => srow_any q x hx.n)
  unfold elV at HROW
  have HPc := hidS (fun (W : World) (q : Sn w0 W s base p N b o (bra N x S)) => splace_any q x.c hx.c)
  have HPd := hidS (fun (W : World) (q : Sn w0 W s base p N b o (bra N x S)) => splace_any q x.d hx.d)
  have HAD : Hid (∀ (W : World) (S' : Sh) (i j : Int), Sn w0 W s base p N b o S' → -1 ≤ i → i < 64 → -1 ≤ j → j < 64 → Calls Tryz.prog 209 #[.pointer (some ⟨s, 0, none⟩), .int .i64 i, .int .i64 j, .complex .f64 x.v 0] W fun e w' => e = .returned (.tuple #[]) ∧ Sn w0 w' s base p N b o (S'.chg addZ i j (valC x)) ∧ Kp s W w') := fun W S' i j q h1 h2 h3 h4 => (sadd_c W s _ o _ S' i j (x.v, 0) q.sp h1 h2 h3 h4 ⟨hx.v, by show (0 : Nat) < 18446744073709551616; omega⟩).mono (by rintro e w' ⟨rfl, k1, k2⟩; exact ⟨rfl, q.step k1 k2, k2⟩)
  have HSU : Hid (∀ (W : World) (S' : Sh) (i j : Int), Sn w0 W s base p N b o S' → -1 ≤ i → i < 64 → -1 ≤ j → j < 64 → Calls Tryz.prog 210 #[.pointer (some ⟨s, 0, none⟩), .int .i64 i, .int .i64 j, .complex .f64 x.v 0] W fun e w' => e = .returned (.tuple #[]) ∧ Sn w0 w' s base p N b o (S'.chg subZ i j (valC x)) ∧ Kp s W w') := fun W S' i j q h1 h2 h3 h4 => (ssub_c W s _ o _ S' i j (x.v, 0) q.sp h1 h2 h3 h4 ⟨hx.v, by show (0 : Nat) < 18446744073709551616; omega⟩).mono (by rintro e w' ⟨rfl, k1, k2⟩; exact ⟨rfl, q.step k1 k2, k2⟩)
  have c1 := plI_lo N x.c
  have c2 := h.pl_hi x.c
  have d1 := plI_lo N x.d
  have d2 := h.pl_hi x.d
  have r1 := rwI_lo N x
  have r2 := h.row_hi x
  have hsl := h.lt
  unfold amp
  obtain ⟨S1, hS1⟩ : ∃ S1, bra N x S = S1 := ⟨_, rfl⟩
  rw [hS1] at HBR HROW HPc HPd ⊢
  obtain ⟨pc, hpc⟩ : ∃ pc, plI N x.c = pc := ⟨_, rfl⟩
  rw [hpc] at HPc c1 c2 ⊢
  obtain ⟨pd, hpd⟩ : ∃ pd, plI N x.d = pd := ⟨_, rfl⟩
  rw [hpd] at HPd d1 d2 ⊢
  obtain ⟨rw0, hrw⟩ : ∃ rw0, rwI N x = rw0 := ⟨_, rfl⟩
  rw [hrw] at HROW r1 r2 ⊢
  clear hpc hpd hrw hS1 h hx
  have HL : Hid (s < wa.heap.size) := Nat.lt_trans hsl l1
  have HNE : Hid (w.heap.size ≠ s) := fun e => by omega
  clear hsl
  have HB0 := hidS (Below.refl wa.heap.size wa)
  unfold elA at hwa
  unfold elV
  go_enter Tryz.func178, Tryz.ntmps178
  go_wp2_with (go_at_call 176; (with_reducible refine (HBR.out _ (by repeat first | with_reducible exact HN.out | with_reducible refine Sn.drew ?_)).mono ?_); rintro e w1 ⟨rfl, hn1, hb1⟩; (have HN1 := hidS hn1); (have HB1 : Hid (Kp s wa w1) := (by first | exact hb1 | exact (Kp.dN s _ 1).trans hb1)); (have HE1 := hidS ((HB1.out.ot _ l1 HNE.out).trans E0.out.e)); (have l1b := Nat.lt_of_lt_of_le l1 HB1.out.size); clear hn1 hb1 c10 c11 c12 c13 c14 c15 c16 c17; (obtain ⟨c10, c11, c12, c13, c14, c15, c16, c17⟩ := el8 HE1.out); (have HB01 := hidS (Below.refl w1.heap.size w1)))
  go_region_held_law (fun W => W.cell? ⟨w.heap.size, 0, none⟩ = some (.int .u8 (x.k : Int)) ∧ W.cell? ⟨w.heap.size, 1, none⟩ = some (.string x.n) ∧ W.cell? ⟨w.heap.size, 2, none⟩ = some (.string x.a) ∧ W.cell? ⟨w.heap.size, 3, none⟩ = some (.string x.b) ∧ W.cell? ⟨w.heap.size, 4, none⟩ = some (.string x.c) ∧ W.cell? ⟨w.heap.size, 5, none⟩ = some (.string x.d) ∧ W.cell? ⟨w.heap.size, 6, none⟩ = some (.float .f64 x.v) ∧ W.cell? ⟨w.heap.size, 7, none⟩ = some (.int .i64 x.ph)) (first | exact ⟨c10, c11, c12, c13, c14, c15, c16, c17⟩ | exact ⟨d10, d11, d12, d13, d14, d15, d16, d17⟩ | go_keep) (first
    | (go_at_call 211; (with_reducible refine (HROW.out _ (by repeat first | with_reducible exact HN1.out | with_reducible refine Sn.drew ?_)).mono ?_); rintro e w2 ⟨rfl, hb2⟩; (have KB : Below w1.heap.size w1 w2 := Below.trans (by repeat first | with_reducible exact HB01.out | with_reducible refine Below.drew ?_) hb2); (have HB1 : Hid (Kp s wa w2) := HB1.out.trans (Kp.of KB (Nat.lt_of_lt_of_le HL.out HB1.out.size))); (have HN1 := hidS (HN1.out.on KB)); (have HE2 := hidS ((KB.block _ l1b).trans HE1.out)); (obtain ⟨d10, d11, d12, d13, d14, d15, d16, d17⟩ := el8 HE2.out); clear hb2 KB)
    | (go_at_call 208; (with_reducible refine (HPc.out _ (by repeat first | with_reducible exact HN1.out | with_reducible refine Sn.drew ?_)).mono ?_); rintro e w2 ⟨rfl, hw⟩; subst w2)
    | (go_at_call 208; (with_reducible refine (HPd.out _ (by repeat first | with_reducible exact HN1.out | with_reducible refine Sn.drew ?_)).mono ?_); rintro e w2 ⟨rfl, hw⟩; subst w2))
  all_goals rename_i hHeld
  all_goals obtain ⟨e0, e1, e2, e3, e4, e5, e6, e7⟩ := hHeld
  all_goals go_wp2_with (first
    | (go_at_call 209; (with_reducible refine (HAD.out _ _ _ _ (by repeat first | with_reducible exact HN1.out | with_reducible refine Sn.drew ?_) (by assumption) (by assumption) (by assumption) (by assumption)).mono ?_); rintro e w3 ⟨rfl, hn3, hb3⟩; (have HB1 : Hid (Kp s wa w3) := HB1.out.trans (by first | exact hb3 | exact (Kp.dN s _ 1).trans hb3)); (have HN1 := hidS hn3); clear hn3 hb3)
    | (go_at_call 210; (with_reducible refine (HSU.out _ _ _ _ (by repeat first | with_reducible exact HN1.out | with_reducible refine Sn.drew ?_) (by assumption) (by assumption) (by assumption) (by assumption)).mono ?_); rintro e w3 ⟨rfl, hn3, hb3⟩; (have HB1 : Hid (Kp s wa w3) := HB1.out.trans (by first | exact hb3 | exact (Kp.dN s _ 1).trans hb3)); (have HN1 := hidS hn3); clear hn3 hb3))
  all_goals refine bodyPost_end (by simp [results, Tryz.results178, go_sem]; try rfl) rfl ?_
  all_goals exact ⟨rfl, HN1.out, HB.out.trans HB1.out⟩
end Go.Proofs.YtmpkcioeodlbcaaGreatDoor
namespace Go.Proofs.YtmpkcioeodlbcaaGreatDoor
open Fl Go.Maps RowKit Joins Deep
set_option linter.unusedVariables false
set_option maxHeartbeats 4000000 in
theorem sadm_ok {w0 w : World} {s base p : Nat} {N : Ns} {b : Nb} {o : Nat} {S : Sh} (h : Sn w0 w s base p N b o S) (x : Elm) (hx : x.small) (hk : x.ok) (ho : o < 18446744073709551616) {y1 y2 : Nat} (hu : ofT x o = (y1, y2, 0)) :
    Calls Tryz.prog 174 #[.pointer (some ⟨s, 0, none⟩), elV x] w fun e w' => e = .returned (.tuple #[]) ∧ Sn w0 w' s base p N b o (adm N x (ans y1, ans y2) S) ∧ Kp s w w' := by
  have HN := hidS (h.on (bal w (.cells (elA x) 96)))
  have E0 : Hid (EC w (w.alloc (.cells (elA x) 96)) w.heap.size x) := ec_new w x
  have HB := hidS (Kp.of (bal w (.cells (elA x) 96)) h.lt)
  obtain ⟨l1, c10, c11, c12, c13, c14, c15, c16, c17⟩ := E0.out.f
  obtain ⟨wa, hwa⟩ : ∃ wa, w.alloc (.cells (elA x) 96) = wa := ⟨_, rfl⟩
  rw [hwa] at HN E0 HB l1 c10 c11 c12 c13 c14 c15 c16 c17
  have HPa := hidS (fun (W : World) (q : Sn w0 W s base p N b o S) => splace_any q x.a hx.a)
  have HPb := hidS (fun (W : World) (q : Sn w0 W s base p N b o S) => splace_any q x.b hx.b)
  have HOF := hidS (fun (W : World) => aof_w x o W hk ho (y1, y2, 0) hu)
  have hyy : y1 < 18446744073709551616 ∧ y2 < 18446744073709551616 := by have := @ofT_bd x o; rw [hu] at this; exact this
  unfold elV at HOF
  have HAD : Hid (∀ (W : World) (S' : Sh) (i j : Int), Sn w0 W s base p N b o S' → -1 ≤ i → i < 64 → -1 ≤ j → j < 64 → Calls Tryz.prog 209 #[.pointer (some ⟨s, 0, none⟩), .int .i64 i, .int .i64 j, .complex .f64 y1 y2] W fun e w' => e = .returned (.tuple #[]) ∧ Sn w0 w' s base p N b o (S'.chg addZ i j (ans y1, ans y2)) ∧ Kp s W w') := fun W S' i j q h1 h2 h3 h4 => (sadd_c W s _ o _ S' i j (y1, y2) q.sp h1 h2 h3 h4 hyy).mono (by rintro e w' ⟨rfl, k1, k2⟩; exact ⟨rfl, q.step k1 k2, k2⟩)
  have HSU : Hid (∀ (W : World) (S' : Sh) (i j : Int), Sn w0 W s base p N b o S' → -1 ≤ i → i < 64 → -1 ≤ j → j < 64 → Calls Tryz.prog 210 #[.pointer (some ⟨s, 0, none⟩), .int .i64 i, .int .i64 j, .complex .f64 y1 y2] W fun e w' => e = .returned (.tuple #[]) ∧ Sn w0 w' s base p N b o (S'.chg subZ i j (ans y1, ans y2)) ∧ Kp s W w') := fun W S' i j q h1 h2 h3 h4 => (ssub_c W s _ o _ S' i j (y1, y2) q.sp h1 h2 h3 h4 hyy).mono (by rintro e w' ⟨rfl, k1, k2⟩; exact ⟨rfl, q.step k1 k2, k2⟩)
  have a1 := plI_lo N x.a
  have a2 := h.pl_hi x.a
  have b1 := plI_lo N x.b
  have b2 := h.pl_hi x.b
  have hsl := h.lt
  unfold adm
  obtain ⟨pa, hpa⟩ : ∃ pa, plI N x.a = pa := ⟨_, rfl⟩
  rw [hpa] at HPa a1 a2 ⊢
  obtain ⟨pb, hpb⟩ : ∃ pb, plI N x.b = pb := ⟨_, rfl⟩
  rw [hpb] at HPb b1 b2 ⊢
  clear hpa hpb h hx hk hu hyy ho
  have HL : Hid (s < wa.heap.size) := Nat.lt_trans hsl l1
  have HNE : Hid (w.heap.size ≠ s) := fun e => by omega
  clear hsl
  have HB0 := hidS (Below.refl wa.heap.size wa)
  unfold elA at hwa
  unfold elV
  go_enter Tryz.func174, Tryz.ntmps174
  have k0 := HN.out.sp.c1
  have HE0 := hidS E0.out.e
  go_wp2
  go_region_held_law (fun W => W.cell? ⟨s, 1, none⟩ = some (.float .f64 o) ∧ W.cell? ⟨w.heap.size, 0, none⟩ = some (.int .u8 (x.k : Int)) ∧ W.cell? ⟨w.heap.size, 1, none⟩ = some (.string x.n) ∧ W.cell? ⟨w.heap.size, 2, none⟩ = some (.string x.a) ∧ W.cell? ⟨w.heap.size, 3, none⟩ = some (.string x.b) ∧ W.cell? ⟨w.heap.size, 4, none⟩ = some (.string x.c) ∧ W.cell? ⟨w.heap.size, 5, none⟩ = some (.string x.d) ∧ W.cell? ⟨w.heap.size, 6, none⟩ = some (.float .f64 x.v) ∧ W.cell? ⟨w.heap.size, 7, none⟩ = some (.int .i64 x.ph)) (first | exact ⟨k0, c10, c11, c12, c13, c14, c15, c16, c17⟩ | exact ⟨k1, d10, d11, d12, d13, d14, d15, d16, d17⟩ | go_keep) (first
    | (go_at_call 207; (with_reducible refine (HOF.out _).mono ?_); rintro e w1 ⟨rfl, hb2⟩; (have KB : Below wa.heap.size wa w1 := Below.trans (by repeat first | with_reducible exact HB0.out | with_reducible refine Below.drew ?_) hb2); (have HB1 : Hid (Kp s wa w1) := Kp.of KB HL.out); (have HN1 := hidS (HN.out.on KB)); (have HE2 := hidS ((KB.block _ l1).trans HE0.out)); (have k1 := HN1.out.sp.c1); (obtain ⟨d10, d11, d12, d13, d14, d15, d16, d17⟩ := el8 HE2.out); clear hb2 KB))
  all_goals rename_i hHeld
  all_goals obtain ⟨k2, e0, e1, e2, e3, e4, e5, e6, e7⟩ := hHeld
  all_goals clear k0 k1 c10 c11 c12 c13 c14 c15 c16 c17
  all_goals go_wp2
  go_region_held_law (fun W => W.cell? ⟨w.heap.size, 0, none⟩ = some (.int .u8 (x.k : Int)) ∧ W.cell? ⟨w.heap.size, 1, none⟩ = some (.string x.n) ∧ W.cell? ⟨w.heap.size, 2, none⟩ = some (.string x.a) ∧ W.cell? ⟨w.heap.size, 3, none⟩ = some (.string x.b) ∧ W.cell? ⟨w.heap.size, 4, none⟩ = some (.string x.c) ∧ W.cell? ⟨w.heap.size, 5, none⟩ = some (.string x.d) ∧ W.cell? ⟨w.heap.size, 6, none⟩ = some (.float .f64 x.v) ∧ W.cell? ⟨w.heap.size, 7, none⟩ = some (.int .i64 x.ph)) (first | exact ⟨e0, e1, e2, e3, e4, e5, e6, e7⟩ | go_keep) (first
    | (go_at_call 208; (with_reducible refine (HPa.out _ (by repeat first | with_reducible exact HN1.out | with_reducible refine Sn.drew ?_)).mono ?_); rintro e w2 ⟨rfl, hw⟩; subst w2)
    | (go_at_call 208; (with_reducible refine (HPb.out _ (by repeat first | with_reducible exact HN1.out | with_reducible refine Sn.drew ?_)).mono ?_); rintro e w2 ⟨rfl, hw⟩; subst w2))
  all_goals rename_i hHeld
  all_goals clear hHeld
  all_goals have HN1 := hidS HN1.out.drew
  all_goals have HB1 : Hid (Kp s wa w1.drew) := HB1.out.trans (Kp.dN s w1 1)
  all_goals go_wp2_with (first
    | (go_at_call 209; (with_reducible refine (HAD.out _ _ _ _ (by repeat first | with_reducible exact HN1.out | with_reducible refine Sn.drew ?_) (by assumption) (by assumption) (by assumption) (by assumption)).mono ?_); rintro e w3 ⟨rfl, hn3, hb3⟩; (have HB1 : Hid (Kp s wa w3) := HB1.out.trans (by first | exact hb3 | exact (Kp.dN s _ 1).trans hb3)); (have HN1 := hidS hn3); clear hn3 hb3)
    | (go_at_call 210; (with_reducible refine (HSU.out _ _ _ _ (by repeat first | with_reducible exact HN1.out | with_reducible refine Sn.drew ?_) (by assumption) (by assumption) (by assumption) (by assumption)).mono ?_); rintro e w3 ⟨rfl, hn3, hb3⟩; (have HB1 : Hid (Kp s wa w3) := HB1.out.trans (by first | exact hb3 | exact (Kp.dN s _ 1).trans hb3)); (have HN1 := hidS hn3); clear hn3 hb3))
  all_goals refine bodyPost_end (by simp [results, Tryz.results174, go_sem]; try rfl) rfl ?_
  all_goals exact ⟨rfl, HN1.out, HB.out.trans HB1.out⟩
set_option maxHeartbeats 4000000 in
theorem sadm_no {w0 w : World} {s base p : Nat} {N : Ns} {b : Nb} {o : Nat} {S : Sh} (h : Sn w0 w s base p N b o S) (x : Elm) (hx : x.small) (hk : x.ok) (ho : o < 18446744073709551616) {y1 y2 : Nat} {c : Int} (hu : ofT x o = (y1, y2, c)) (hc : c ≠ 0) :
    Calls Tryz.prog 174 #[.pointer (some ⟨s, 0, none⟩), elV x] w fun e w' => e = .returned (.tuple #[]) ∧ w'.cell? ⟨s, 4099, none⟩ = some (.int .i64 c) ∧ Kp s w w' := by
  have HN := hidS (h.on (bal w (.cells (elA x) 96)))
  have E0 : Hid (EC w (w.alloc (.cells (elA x) 96)) w.heap.size x) := ec_new w x
  have HB := hidS (Kp.of (bal w (.cells (elA x) 96)) h.lt)
  obtain ⟨l1, c10, c11, c12, c13, c14, c15, c16, c17⟩ := E0.out.f
  obtain ⟨wa, hwa⟩ : ∃ wa, w.alloc (.cells (elA x) 96) = wa := ⟨_, rfl⟩
  rw [hwa] at HN E0 HB l1 c10 c11 c12 c13 c14 c15 c16 c17
  have HOF := hidS (fun (W : World) => aof_w x o W hk ho (y1, y2, c) hu)
  unfold elV at HOF
  have hsl := h.lt
  clear h hx hk hu ho
  have HL : Hid (s < wa.heap.size) := Nat.lt_trans hsl l1
  have HNE : Hid (w.heap.size ≠ s) := fun e => by omega
  clear hsl
  have HB0 := hidS (Below.refl wa.heap.size wa)
  unfold elA at hwa
  unfold elV
  go_enter Tryz.func174, Tryz.ntmps174
  have k0 := HN.out.sp.c1
  have HE0 := hidS E0.out.e
  go_wp2
  go_region_held_law (fun W => W.cell? ⟨s, 1, none⟩ = some (.float .f64 o) ∧ W.cell? ⟨w.heap.size, 0, none⟩ = some (.int .u8 (x.k : Int)) ∧ W.cell? ⟨w.heap.size, 1, none⟩ = some (.string x.n) ∧ W.cell? ⟨w.heap.size, 2, none⟩ = some (.string x.a) ∧ W.cell? ⟨w.heap.size, 3, none⟩ = some (.string x.b) ∧ W.cell? ⟨w.heap.size, 4, none⟩ = some (.string x.c) ∧ W.cell? ⟨w.heap.size, 5, none⟩ = some (.string x.d) ∧ W.cell? ⟨w.heap.size, 6, none⟩ = some (.float .f64 x.v) ∧ W.cell? ⟨w.heap.size, 7, none⟩ = some (.int .i64 x.ph)) (first | exact ⟨k0, c10, c11, c12, c13, c14, c15, c16, c17⟩ | exact ⟨k1, d10, d11, d12, d13, d14, d15, d16, d17⟩ | go_keep) (first
    | (go_at_call 207; (with_reducible refine (HOF.out _).mono ?_); rintro e w1 ⟨rfl, hb2⟩; (have KB : Below wa.heap.size wa w1 := Below.trans (by repeat first | with_reducible exact HB0.out | with_reducible refine Below.drew ?_) hb2); (have HB1 : Hid (Kp s wa w1) := Kp.of KB HL.out); (have HN1 := hidS (HN.out.on KB)); (have HE2 := hidS ((KB.block _ l1).trans HE0.out)); (have k1 := HN1.out.sp.c1); (obtain ⟨d10, d11, d12, d13, d14, d15, d16, d17⟩ := el8 HE2.out); clear hb2 KB))
  all_goals rename_i hHeld
  all_goals obtain ⟨k2, e0, e1, e2, e3, e4, e5, e6, e7⟩ := hHeld
  all_goals clear k0 k1 c10 c11 c12 c13 c14 c15 c16 c17
  all_goals (have hz := HN1.out.sp.fz 4099; have hk := HN1.out.sp.err)
  all_goals go_wp2_with fail
  all_goals refine bodyPost_ret (by simp [results, Tryz.results174, go_sem]; try rfl) rfl ?_
  all_goals exact ⟨rfl, World.cell?_setCell_same _ _ _ hk, HB.out.trans (HB1.out.setCell 4099 _)⟩
end Go.Proofs.YtmpkcioeodlbcaaGreatDoor
namespace Go.Proofs.YtmpkcioeodlbcaaGreatDoor
open Fl Go.Maps RowKit Joins Deep
set_option linter.unusedVariables false
theorem snothing_any (w : World) (s : Nat) (x : Elm) : Calls Tryz.prog 175 #[.pointer (some ⟨s, 0, none⟩), elV x] w fun e w' => e = .returned (.tuple #[]) ∧ Below w.heap.size w w' := by
  unfold elV
  go_enter Tryz.func175, Tryz.ntmps175
  go_wp2
  refine bodyPost_end (by simp [results, Tryz.results175, go_sem]; try rfl) rfl ?_
  exact ⟨rfl, bal w _⟩
theorem srefused_any {w : World} {base p : Nat} {N : Ns} {b : Nb} (h : Nt w base p N b) (hn : bl ⟨#[]⟩ ∉ N.nm) {o : Nat} (ho : o < 18446744073709551616) : Calls Tryz.prog 134 #[.pointer (some ⟨p, 0, none⟩), .float .f64 o] w fun e w' => e = .returned (.int .i64 (frI o)) ∧ w' = w := by
  have HW := hidS (wto_made h hn)
  clear h hn
  cases hf : finB o
  · have hr : frI o = 5 := by unfold frI; rw [if_pos hf]
    rw [hr]
    have HF : Hid ((finB o && finB 0) = false) := by show _ = _; rw [hf]; rfl
    clear hr hf
    go_enter Tryz.func134, Tryz.ntmps134
    go_wp2_with (first
      | (go_at_call 92; (with_reducible refine (HW.out).mono ?_); rintro e w1 ⟨rfl, hw⟩; subst w1)
      | (go_at_call 59; refine (fin_any o 0 _ ho (by decide)).mono ?_; rintro e w' ⟨rfl, rfl⟩; rw [HF.out]))
    all_goals go_ret
    all_goals first | exact ⟨rfl, rfl⟩ | simp_all
  · have hn := fin_nan_Adb hf
    have HF : Hid ((finB o && finB 0) = true) := by show _ = _; rw [hf]; decide
    cases hp : posV o
    · have hr : frI o = 2 := by unfold frI; rw [hf, hp]; rfl
      rw [hr]
      have h1 := (leq_iff hn).1 hp
      clear hr hf hp hn
      go_enter Tryz.func134, Tryz.ntmps134
      go_wp2_with (first
        | (go_at_call 92; (with_reducible refine (HW.out).mono ?_); rintro e w1 ⟨rfl, hw⟩; subst w1)
        | (go_at_call 59; refine (fin_any o 0 _ ho (by decide)).mono ?_; rintro e w' ⟨rfl, rfl⟩; rw [HF.out]))
      all_goals go_ret
      all_goals first | exact ⟨rfl, rfl⟩ | simp_all
    · have hr : frI o = 0 := by unfold frI; rw [hf, hp]; rfl
      rw [hr]
      have h1 : ¬ (FloatKind.f64.format.order o 0 = some .lt ∨ FloatKind.f64.format.order o 0 = some .eq) := fun q => by rw [(leq_iff hn).2 q] at hp; cases hp
      clear hr hf hp hn
      go_enter Tryz.func134, Tryz.ntmps134
      go_wp2_with (first
        | (go_at_call 92; (with_reducible refine (HW.out).mono ?_); rintro e w1 ⟨rfl, hw⟩; subst w1)
        | (go_at_call 59; refine (fin_any o 0 _ ho (by decide)).mono ?_; rintro e w' ⟨rfl, rfl⟩; rw [HF.out]))
      all_goals go_ret
      all_goals first | exact ⟨rfl, rfl⟩ | simp_all
end Go.Proofs.YtmpkcioeodlbcaaGreatDoor
