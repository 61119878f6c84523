/-
  The right side of opposite sources: the same fault, the opposite numbers.
-/
import Derived.Test.YtpjpamdocfdibaaSop
namespace Go.Proofs.Ytpjpamdocfdibaa
open Fl RowKit
set_option linter.unusedVariables false

theorem eM_tu (ph : Bool) (x : Elm) : eM (tuE ph x) = eM x := by unfold eM; rw [tuE_k]
theorem eO_tu (ph : Bool) (x : Elm) (j : Nat) : eO (tuE ph x) j = eO x j := by unfold eO; rw [tuE_k]
theorem eI_tu (ph : Bool) (N : Ns) (x : Elm) (j : Nat) : eI (wiE (tuE ph) N) (tuE ph x) j = eI N x j := by
  unfold eI rwI plI
  rw [tuE_k, tuE_a, tuE_b, tuE_n]
  rfl
theorem rJ_ob (ph : Bool) (N : Ns) (x : Elm) {Y Y' : Cn} (k : Ob2 Y Y') {R R' : Nat → Cn} (h : OzR R R') : ∀ j, OzR (rJ N x Y R j) (rJ (wiE (tuE ph) N) (tuE ph x) Y' R' j) := by
  intro j
  induction j with
  | zero => exact h
  | succ j ih =>
    show OzR (rput (eO x j) (eI N x j) Y (rJ N x Y R j)) (rput (eO (tuE ph x) j) (eI (wiE (tuE ph) N) (tuE ph x) j) Y' (rJ (wiE (tuE ph) N) (tuE ph x) Y' R' j))
    rw [eO_tu, eI_tu]
    exact ozR_put (opOz_eO x j) k ih
theorem rG_ob (ph : Bool) (N : Ns) (x : Elm) {Y Y' : Cn} (k : Ob2 Y Y') {R R' : Nat → Cn} (h : OzR R R') (j : Nat) : rG (wiE (tuE ph) N) (tuE ph x) Y' R' j = rG N x Y R j := by
  unfold rG rfin
  rw [eO_tu, eI_tu, finC_ob (opOz_eO x j _ _ _ _ (rJ_ob ph N x k h j _) k)]
theorem rok_ob (ph : Bool) (N : Ns) (x : Elm) {Y Y' : Cn} (k : Ob2 Y Y') {R R' : Nat → Cn} (h : OzR R R') : rok (wiE (tuE ph) N) (tuE ph x) Y' R' = rok N x Y R := by
  unfold rok
  rw [eM_tu]
  have : (∀ j, j < eM x → rG (wiE (tuE ph) N) (tuE ph x) Y' R' j = true) ↔ (∀ j, j < eM x → rG N x Y R j = true) := by
    constructor
    · intro q j hj
      rw [← rG_ob ph N x k h j]; exact q j hj
    · intro q j hj
      rw [rG_ob ph N x k h j]; exact q j hj
  exact decide_eq_decide.2 this
theorem rgL_ob (ph : Bool) (N : Ns) : ∀ (l : List Elm) (R R' : Nat → Cn) (i : Nat), (∀ x ∈ l, x.v < 18446744073709551616 ∧ chkI x = 0) → OzR R R' → (rgL (wiE (tuE ph) N) (l.map (tuE ph)) R' i).1 = (rgL N l R i).1 ∧ OzR (rgL N l R i).2 (rgL (wiE (tuE ph) N) (l.map (tuE ph)) R' i).2 := by
  intro l
  induction l with
  | nil => intro R R' i _ h; exact ⟨rfl, h⟩
  | cons x l ih =>
    intro R R' i hl h
    obtain ⟨hv, hc⟩ := hl x List.mem_cons_self
    have k := ph_ob ph hv hc
    rw [List.map_cons]
    unfold rgL
    rw [rok_ob ph N x k h]
    by_cases e : rok N x (phC x) R = true
    · rw [if_pos e, if_pos e, eM_tu]
      exact ih _ _ _ (fun y hy => hl y (List.mem_cons_of_mem _ hy)) (rJ_ob ph N x k h _)
    · rw [if_neg e, if_neg e]
      exact ⟨rfl, h⟩
/-- a net that is made, the other way round -/
theorem Md.tu (ph : Bool) {l : List Elm} (h : (ofA l).1 = (0, 0)) (hok : ∀ x ∈ l, x.ok) (hpb : ∀ x ∈ l, x.phb) : ofA (l.map (tuE ph)) = ((0, 0), wiE (tuE ph) (ofA l).2) ∧ Md (wiE (tuE ph) (ofA l).2) ∧ rgF (wiE (tuE ph) (ofA l).2) = rgF (ofA l).2 ∧ OzR (rgR (ofA l).2) (rgR (wiE (tuE ph) (ofA l).2)) := by
  have e : ofA l = ((0, 0), (ofA l).2) := by rw [← h]
  have hm := Md.of h hok hpb
  have hes := (ofA_facts e).2.1
  have e2 := ofA_map ph (fun x hx => (hok x hx).v) e
  have hm2 : Md (ofA (l.map (tuE ph))).2 := Md.of (by rw [e2]) (fun y hy => by
    obtain ⟨x, hx, rfl⟩ := List.mem_map.1 hy
    exact tuE_ok ph (hok x hx)) (fun y hy => by
    obtain ⟨x, hx, rfl⟩ := List.mem_map.1 hy
    exact tuE_pb ph (hpb x hx))
  rw [e2] at hm2
  have hb := rgL_ob ph (ofA l).2 (ofA l).2.es noC noC 0 (fun x hx => ⟨(hm.ok x hx).v, hm.ck x hx⟩) ozR_0
  exact ⟨e2, hm2, hb.1, hb.2⟩
theorem rgK_tu (ph : Bool) {N : Ns} (h : rgF (wiE (tuE ph) N) = rgF N) : rgK (wiE (tuE ph) N) = rgK N := by
  unfold rgK
  rw [h]; rfl
/-- opposite words -/
theorem ob_words {X Y : Cn} (h : Ob2 X Y) {x y : Cw} (hx : repz X x) (hy : repz Y y) (hf : finC X = true) : FloatKind.f64.format.order y.1 (Op.negFloat .f64 x.1) = some .eq ∧ FloatKind.f64.format.order y.2 (Op.negFloat .f64 x.2) = some .eq := by
  have h1 : nan y.1 = false := by
    have e := finC_ob h
    rw [hf] at e
    unfold finC at e
    rw [Bool.and_eq_true] at e
    have := e.1
    rw [← hy.1.2] at this
    cases hn : nan y.1
    · rfl
    · rw [ans_nan hn] at this; cases this
  have h2 : nan y.2 = false := by
    have e := finC_ob h
    rw [hf] at e
    unfold finC at e
    rw [Bool.and_eq_true] at e
    have := e.2
    rw [← hy.2.2] at this
    cases hn : nan y.2
    · rfl
    · rw [ans_nan hn] at this; cases this
  rw [negF hx.1.1, negF hx.2.1]
  exact ⟨h.o.1.order hy.1 (rep_ng hx.1) h1, h.o.2.order hy.2 (rep_ng hx.2) h2⟩
end Go.Proofs.Ytpjpamdocfdibaa
