/-
  The program's sheet in memory, and how it is changed.
-/
import Derived.Test.YtmhplaanpbpndaaStb
import Derived.Test.YtmhplaanpbpndaaStp
namespace Go.Proofs.Ytmhplaanpbpndaa
open Fl RowKit
set_option linter.unusedVariables false

/-- the program's sheet at block s: its net, its omega, the rows ahead of the branches', its entries -/
structure Sp (w : World) (s : Nat) (v : Value) (o nn : Nat) (S : Sh) : Prop where
  c0 : w.cell? ⟨s, 0, none⟩ = some v
  c1 : w.cell? ⟨s, 1, none⟩ = some (.float .f64 o)
  c2 : w.cell? ⟨s, 2, none⟩ = some (.int .i64 nn)
  ent : ∀ i j, i < 64 → j < 64 → ∃ r : Cw, w.cell? ⟨s, 3 + i * 64 + j, none⟩ = some (cx r) ∧ repz (S.m i j) r
  err : w.cell? ⟨s, 4099, none⟩ = some (.int .i64 (if S.ov = true then 6 else 0))
  fz : ∀ k, w.frozen? ⟨s, k, none⟩ = false
theorem Sp.below {w w' : World} {s : Nat} {v : Value} {o nn : Nat} {S : Sh} {n : Nat} (h : Sp w s v o nn S) (hb : Below n w w') (hs : s < n) : Sp w' s v o nn S := by
  have k : ∀ (j : Nat) (u : Value), w.cell? ⟨s, j, none⟩ = some u → w'.cell? ⟨s, j, none⟩ = some u := fun j u hc => (hb.cell (p := ⟨s, j, none⟩) hs).trans hc
  refine ⟨k _ _ h.c0, k _ _ h.c1, k _ _ h.c2, fun i j hi hj => ?_, k _ _ h.err, fun j => ?_⟩
  · obtain ⟨r, h1, h2⟩ := h.ent i j hi hj
    exact ⟨r, k _ _ h1, h2⟩
  · have := hb.block s hs
    have e := h.fz j
    unfold World.frozen? at *
    simp only [this] at *
    exact e
theorem Sp.drewN {w : World} {s : Nat} {v : Value} {o nn : Nat} {S : Sh} (h : Sp w s v o nn S) (m : Nat) : Sp (w.drewN m) s v o nn S := ⟨h.c0, h.c1, h.c2, h.ent, h.err, h.fz⟩
/-- an entry changed, in memory -/
theorem Sp.put {w : World} {s : Nat} {v : Value} {o nn : Nat} {S : Sh} (h : Sp w s v o nn S) {op : Cn → Cn → Cn} {i j : Nat} (hi : i < 64) (hj : j < 64) {Y : Cn} {r : Cw} (hr : repz (op (S.m i j) Y) r) :
    (finC (op (S.m i j) Y) = true → Sp (w.setCell ⟨s, 3 + i * 64 + j, none⟩ (cx r)) s v o nn (S.put op i j Y)) ∧
    (finC (op (S.m i j) Y) = false → Sp ((w.setCell ⟨s, 3 + i * 64 + j, none⟩ (cx r)).setCell ⟨s, 4099, none⟩ (.int .i64 6)) s v o nn (S.put op i j Y)) := by
  have ot : ∀ (W : World) (a b : Nat) (u : Value), a ≠ b → (W.setCell ⟨s, a, none⟩ u).cell? ⟨s, b, none⟩ = W.cell? ⟨s, b, none⟩ := fun W a b u hab => World.cell?_setCell_other _ _ _ _ (fun e => hab (by simpa using congrArg Addr.off e))
  have fr : ∀ (W : World) (a b : Nat) (u : Value), W.frozen? ⟨s, b, none⟩ = false → (W.setCell ⟨s, a, none⟩ u).frozen? ⟨s, b, none⟩ = false := fun W a b u hf => by rw [World.frozen?_setCell]; exact hf
  have e1 : ∀ a b, a < 64 → b < 64 → ∃ r' : Cw, (w.setCell ⟨s, 3 + i * 64 + j, none⟩ (cx r)).cell? ⟨s, 3 + a * 64 + b, none⟩ = some (cx r') ∧ repz ((S.put op i j Y).m a b) r' := by
    intro a b ha hb
    by_cases e : a = i ∧ b = j
    · obtain ⟨rfl, rfl⟩ := e
      obtain ⟨r0, q0, _⟩ := h.ent a b ha hb
      refine ⟨r, World.cell?_setCell_same _ _ _ q0, ?_⟩
      simpa [Sh.put] using hr
    · obtain ⟨r0, q0, q1⟩ := h.ent a b ha hb
      refine ⟨r0, ?_, ?_⟩
      · rw [ot _ _ _ _ (by omega)]; exact q0
      · have : (S.put op i j Y).m a b = S.m a b := by simp only [Sh.put]; rw [if_neg e]
        rw [this]; exact q1
  constructor
  · intro hf
    refine ⟨?_, ?_, ?_, e1, ?_, fun k => fr _ _ _ _ (h.fz k)⟩
    · rw [ot _ _ _ _ (by omega)]; exact h.c0
    · rw [ot _ _ _ _ (by omega)]; exact h.c1
    · rw [ot _ _ _ _ (by omega)]; exact h.c2
    · rw [ot _ _ _ _ (by omega)]
      have : (S.put op i j Y).ov = S.ov := by simp [Sh.put, hf]
      rw [this]; exact h.err
  · intro hf
    refine ⟨?_, ?_, ?_, fun a b ha hb => ?_, ?_, fun k => fr _ _ _ _ (fr _ _ _ _ (h.fz k))⟩
    · rw [ot _ _ _ _ (by omega), ot _ _ _ _ (by omega)]; exact h.c0
    · rw [ot _ _ _ _ (by omega), ot _ _ _ _ (by omega)]; exact h.c1
    · rw [ot _ _ _ _ (by omega), ot _ _ _ _ (by omega)]; exact h.c2
    · rw [ot _ _ _ _ (by omega)]; exact e1 a b ha hb
    · have : (S.put op i j Y).ov = true := by simp [Sh.put, hf]
      rw [this, if_pos rfl]
      refine World.cell?_setCell_same _ _ _ (u := .int .i64 (if S.ov = true then 6 else 0)) ?_
      rw [ot _ _ _ _ (by omega)]; exact h.err

set_option maxHeartbeats 4000000 in
/-- an entry changed, unless it is the ground's -/
theorem chg_any {F : FuncId} {op : Cn → Cn → Cn} (hE : Ent F) (hF : Op2 F op) {w : World} {s : Nat} {v : Value} {o nn : Nat} {S : Sh} (h : Sp w s v o nn S) {i j : Int} (hi : -1 ≤ i) (hi2 : i < 64) (hj : -1 ≤ j) (hj2 : j < 64) {y : Cw} (hy : okz y) :
    Calls Try.prog 93 #[.pointer (some ⟨s, 0, none⟩), .int .i64 i, .int .i64 j, .func (.func F) #[] #[], .complex .f64 y.1 y.2] w fun e w' => e = .returned (.tuple #[]) ∧ Sp w' s v o nn (S.chg op i j (anz y)) ∧ Kp s w w' := by
  have H := hidS h
  clear h
  by_cases i1 : i = -1
  · subst i1
    have hS : S.chg op (-1) j (anz y) = S := by unfold Sh.chg; rw [if_pos (.inl (by decide))]
    rw [hS]
    go_enter Try.func93, Try.ntmps93
    go_wp2_with fail
    refine bodyPost_ret (by simp [results, Try.results93, go_sem]; try rfl) rfl ?_
    exact ⟨rfl, H.out, Kp.refl _ _⟩
  by_cases j1 : j = -1
  · subst j1
    have hS : S.chg op i (-1) (anz y) = S := by unfold Sh.chg; rw [if_pos (.inr (by decide))]
    rw [hS]
    go_enter Try.func93, Try.ntmps93
    go_wp2_with fail
    refine bodyPost_ret (by simp [results, Try.results93, go_sem]; try rfl) rfl ?_
    exact ⟨rfl, H.out, Kp.refl _ _⟩
  obtain ⟨a, rfl⟩ : ∃ a : Nat, i = a := ⟨i.toNat, by omega⟩
  obtain ⟨b, rfl⟩ : ∃ b : Nat, j = b := ⟨j.toNat, by omega⟩
  have hS : S.chg op (a : Int) (b : Int) (anz y) = S.put op a b (anz y) := by unfold Sh.chg; rw [if_neg (by omega)]; rfl
  rw [hS]
  have ha : a < 64 := by omega
  have hb : b < 64 := by omega
  obtain ⟨x, hx, hr⟩ := H.out.ent a b ha hb
  have hxx : anz x = S.m a b := hr.anz
  have hxo : okz x := hr.ok
  have hc3 : w.cell? ⟨s, 3 + a * 64 + b, none⟩ = some (cx x) := hx
  have hfz := H.out.fz (3 + a * 64 + b)
  have HX := hidS hxx
  have HO := hidS hxo
  obtain ⟨f, hf⟩ : ∃ f, finC (op (S.m a b) (anz y)) = f := ⟨_, rfl⟩
  have HFI : Hid (finC (op (anz x) (anz y)) = f) := by show _ = _; rw [hxx]; exact hf
  have HFF := hidS hf
  have HP := hidS (fun (m : Nat) (r : Cw) (q : repz (op (S.m a b) (anz y)) r) => (H.out.drewN m).put ha hb (op := op) (Y := anz y) (r := r) q)
  clear hf hxx hxo hx hr hS
  have i2 : ((a : Int) == -1) = false := by simp
  have j2 : ((b : Int) == -1) = false := by simp
  have hE2 := hE
  unfold Ent at hE2
  cases f
  all_goals
    go_enter Try.func93, Try.ntmps93
    go_wp2_with (go_at_call 100; (with_reducible refine (sput_any hE hF HO.out hy hc3 hfz _ HFI.out).mono ?_); rintro e w1 ⟨rfl, r, m, hrr, rfl⟩; rw [HX.out] at hrr; (have HR := hidS hrr); clear hrr; (have hk : ((w.drewN m).setCell ⟨s, 3 + a * 64 + b, none⟩ (cx r)).cell? ⟨s, 4099, none⟩ = some (.int .i64 (if S.ov = true then 6 else 0)) := (World.cell?_setCell_other _ _ _ _ (fun e => by have := congrArg Addr.off e; simp at this; omega)).trans H.out.err); (have hz : ((w.drewN m).setCell ⟨s, 3 + a * 64 + b, none⟩ (cx r)).frozen? ⟨s, 4099, none⟩ = false := (by rw [World.frozen?_setCell]; exact H.out.fz 4099)))
    refine bodyPost_end (by simp [results, Try.results93, go_sem]; try rfl) rfl ?_
  · exact ⟨rfl, (HP.out m r HR.out).2 HFF.out, ((Kp.dN s w m).setCell (3 + a * 64 + b) (cx r)).setCell 4099 (.int .i64 6)⟩
  · exact ⟨rfl, (HP.out m r HR.out).1 HFF.out, (Kp.dN s w m).setCell (3 + a * 64 + b) (cx r)⟩
/-- what a change of a place of the sheet does -/
def Chg (F : FuncId) (op : Cn → Cn → Cn) : Prop := ∀ (w : World) (s : Nat) (v : Value) (o nn : Nat) (S : Sh) (i j : Int) (y : Cw), Sp w s v o nn S → -1 ≤ i → i < 64 → -1 ≤ j → j < 64 → okz y → Calls Try.prog F #[.pointer (some ⟨s, 0, none⟩), .int .i64 i, .int .i64 j, .complex .f64 y.1 y.2] w fun e w' => e = .returned (.tuple #[]) ∧ Sp w' s v o nn (S.chg op i j (anz y)) ∧ Kp s w w'
theorem sadd_c : Chg 76 addZ := by
  intro w s v o nn S i j y h hi hi2 hj hj2 hy
  have HC := hidS (chg_any ent2_add op2_add h hi hi2 hj hj2 hy)
  clear h
  go_enter Try.func76, Try.ntmps76
  go_wp2_with (go_at_call 93; (with_reducible refine (HC.out).mono ?_); rintro e w1 ⟨rfl, h1⟩)
  refine bodyPost_end (by simp [results, Try.results76, go_sem]; try rfl) rfl ?_
  exact ⟨rfl, h1⟩
theorem ssub_c : Chg 77 subZ := by
  intro w s v o nn S i j y h hi hi2 hj hj2 hy
  have HC := hidS (chg_any ent2_sub op2_sub h hi hi2 hj hj2 hy)
  clear h
  go_enter Try.func77, Try.ntmps77
  go_wp2_with (go_at_call 93; (with_reducible refine (HC.out).mono ?_); rintro e w1 ⟨rfl, h1⟩)
  refine bodyPost_end (by simp [results, Try.results77, go_sem]; try rfl) rfl ?_
  exact ⟨rfl, h1⟩
end Go.Proofs.Ytmhplaanpbpndaa
