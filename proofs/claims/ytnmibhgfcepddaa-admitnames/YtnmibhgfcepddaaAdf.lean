/-
  Admittances: the document's answers, on.
-/
import Derived.Test.YtnmibhgfcepddaaAde
import Derived.Deep.RegionWith
namespace Go.Proofs.Ytnmibhgfcepddaa
open Fl RowKit
set_option linter.unusedVariables false

def rtoT (r : Bool) (x : Nat) : Tr3 := if finB x = true then (if r then (0, x, 0) else (x, 0, 0)) else (0, 0, 6)
set_option maxRecDepth 100000 in
theorem rtold0_any (r : Bool) (x : Nat) (w : World) :
    Calls Try.prog 53 #[.bool r, .float .f64 x, .slice none 0 0] w fun e w' => e = .returned (tV (rtoT r x)) ∧ ∃ n, w' = w.drewN n := by
  unfold tV rtoT
  cases hf : finB x <;> cases r
  all_goals
    have HF : Hid _ := hf
    clear hf
    go_enter Try.func53, Try.ntmps53
    go_wp2
    go_loopw [8] (fun iv w' => iv = .int .i64 0 ∧ w' = w) (fun iv _ => 0)
    case atStart => exact ⟨rfl, rfl⟩
    case round =>
      obtain ⟨hi, hw⟩ := hrel
      subst hi hw
      go_wp2_with (first | (go_at_call 42; refine (rfinR_any x _).mono ?_; rintro e w' ⟨n, rfl, rfl⟩; rw [HF.out]))
      go_ret2
      exact ⟨rfl, n, rfl⟩
def rtoT1 (r : Bool) (x p : Nat) : Tr3 := if finB p = true then rtoT r x else (0, 0, 6)
theorem drN_add (w : World) (a b : Nat) : ∃ n, (w.drewN a).drewN b = w.drewN n := ⟨_, World.drewN_drewN _ _ _⟩
set_option maxRecDepth 100000 in
theorem rtold1_any (r : Bool) (x p g : Nat) (w : World) (hc : ∀ n, (w.drewN n).cell? ⟨g, 0, none⟩ = some (.float .f64 p)) :
    Calls Try.prog 53 #[.bool r, .float .f64 x, .slice (some ⟨g, 0, none⟩) 1 1] w fun e w' => e = .returned (tV (rtoT1 r x p)) ∧ ∃ n, w' = w.drewN n := by
  unfold tV rtoT1 rtoT
  cases hp : finB p
  · have HP : Hid _ := hp
    clear hp
    go_enter Try.func53, Try.ntmps53
    go_wp2
    go_loopw [8] (fun iv w' => iv = .int .i64 0 ∧ w' = w.drewN 0) (fun iv _ => 0)
    case atStart => exact ⟨rfl, (World.drewN_zero _).symm⟩
    case round =>
      obtain ⟨hi, hw⟩ := hrel
      subst hi hw
      go_wp2_with (first | (go_at_call 42; refine (rfinR_any p _).mono ?_; rintro e w' ⟨n, rfl, rfl⟩; rw [HP.out]))
      go_ret2
      exact ⟨rfl, _, rfl⟩
  · cases hf : finB x <;> cases r
    all_goals
      have HP : Hid _ := hp
      have HF : Hid _ := hf
      clear hf hp
      go_enter Try.func53, Try.ntmps53
      go_wp2
      go_loopw [8] (fun iv w' => (iv = .int .i64 0 ∧ w' = w.drewN 0) ∨ (iv = .int .i64 1 ∧ ∃ n, w' = w.drewN n)) (fun iv _ => (1 - intOf iv).toNat)
      case atStart => exact .inl ⟨rfl, (World.drewN_zero _).symm⟩
      case round =>
        rcases hrel with ⟨hi, hw⟩ | ⟨hi, m, hw⟩
        · subst hi hw
          go_wp2_with (first | (go_at_call 42; refine (rfinR_any p _).mono ?_; rintro e w' ⟨n, rfl, rfl⟩; rw [HP.out]))
          go_roundw
          case rel => exact .inr ⟨by go_num, _, rfl⟩
          case measure => simp [intOf]
        · subst hi hw
          go_wp2_with (first | (go_at_call 42; refine (rfinR_any x _).mono ?_; rintro e w' ⟨n, rfl, rfl⟩; rw [HF.out]))
          go_ret2
          exact ⟨rfl, _, rfl⟩
/-- what both answers -/
def boT (x : Elm) (o : Nat) (inv : Bool) : Tr3 := if x.k = 1 ∨ x.k = 8 then (if inv then toA (dW x.v) 0 else (x.v, 0, 0)) else if (inv == (x.k == 3)) = true then prA o x.v else ovA o x.v
theorem fin0 : finB 0 = true := by decide
theorem rto_0 (v : Nat) : rtoT false v = toA v 0 := by unfold rtoT toA; rw [fin0, Bool.and_true]; rfl
theorem rto_v {v : Nat} (h : fin v) : rtoT false v = (v, 0, 0) := by unfold rtoT; rw [finB_iff.2 h]; rfl
theorem rto_p (o v : Nat) : rtoT1 true (mW o v) (mW o v) = prA o v := by
  unfold rtoT1 rtoT prA toA; rw [fin0, Bool.true_and]
  cases finB (mW o v) <;> rfl
theorem rto_o (o v : Nat) : rtoT1 true (ngW (dW (mW o v))) (mW o v) = ovA o v := by
  unfold rtoT1 rtoT ovA toA; rw [fin0, Bool.true_and]
  cases finB (mW o v) <;> rfl
theorem told0_w (r : Bool) (x : Nat) (w : World) (u : Tr3) (hu : rtoT r x = u) :
    Calls Try.prog 53 #[.bool r, .float .f64 x, .slice none 0 0] w fun e w' => e = .returned (.tuple #[.complex .f64 u.1 u.2.1, .int .i64 u.2.2]) ∧ ∃ n, w' = w.drewN n := by subst hu; exact rtold0_any r x w
theorem told1_w (r : Bool) (x p g : Nat) (w : World) (hc : ∀ n, (w.drewN n).cell? ⟨g, 0, none⟩ = some (.float .f64 p)) (u : Tr3) (hu : rtoT1 r x p = u) :
    Calls Try.prog 53 #[.bool r, .float .f64 x, .slice (some ⟨g, 0, none⟩) 1 1] w fun e w' => e = .returned (.tuple #[.complex .f64 u.1 u.2.1, .int .i64 u.2.2]) ∧ ∃ n, w' = w.drewN n := by subst hu; exact rtold1_any r x p g w hc
theorem cell_new1 (W : World) (v : Value) (t : TypeId) (m : Nat) : ∀ n, (((W.alloc (.cells #[v] t)).drewN m).drewN n).cell? ⟨W.heap.size, 0, none⟩ = some v := by
  intro n
  have h := heap_alloc_new W (.cells #[v] t)
  have h2 : (W.alloc (.cells #[v] t)).cell? ⟨W.heap.size, 0, none⟩ = some v := by rw [cell_of_row _ _ _ _ _ (0, 0) h]; rfl
  exact h2
theorem cell_new2 (w : World) (o1 : Obj) (v : Value) (t : TypeId) (a : Nat) : ∀ n, ((((w.alloc o1).drewN a).alloc (.cells #[v] t)).drewN n).cell? ⟨w.heap.size + 1, 0, none⟩ = some v := by
  have h := cell_new1 ((w.alloc o1).drewN a) v t 0
  intro n
  have h2 := h n
  have h3 : ((w.alloc o1).drewN a).heap.size = w.heap.size + 1 := al_size w o1
  rw [h3] at h2
  exact h2
set_option maxRecDepth 100000 in
set_option maxHeartbeats 2000000 in
theorem rboth_any (x : Elm) (o : Nat) (inv : Bool) (w : World) (ho : fin o) (hv : fin x.v) :
    Calls Try.prog 36 #[elV x, .float .f64 o, .bool inv] w fun e w' => e = .returned (tV (boT x o inv)) ∧ Below w.heap.size w w' := by
  have E0 : Hid (EC w (w.alloc (.cells (elA x) 28)) w.heap.size x) := ec_new w x
  obtain ⟨l1, c10, c11, c12, c13, c14, c15, c16, c17⟩ := E0.out.f
  have hm := mul_some ho hv
  have m1 := mulV_of hm
  have m2 := fN_some hm
  have hd := dW_some (fin_not_nan hv)
  have d1 := divV_of hd
  have d2 := fN_some hd
  have hq := dW_some (mW_nan ho hv)
  have q1 := divV_of hq
  have q2 := fN_some hq
  have q3 := neg_ngW (dW_bd (mW_nan ho hv)).1
  have HV : Hid (fin x.v) := hv
  clear hm hd hq ho hv
  unfold tV
  by_cases hk : x.k = 1 ∨ x.k = 8
  · have hb : ((x.k : Int) == 1) = true ∨ (((x.k : Int) == 1) = false ∧ ((x.k : Int) == 8) = true) := by
      rcases hk with hk | hk
      · left; rw [hk]; rfl
      · right; rw [hk]; exact ⟨rfl, rfl⟩
    cases inv
    · have hr : boT x o false = (x.v, 0, 0) := by unfold boT; rw [if_pos hk]; rfl
      rw [hr]
      clear hk hr
      unfold elV
      rcases hb with hb | ⟨hb, hb2⟩
      all_goals
        go_enter Try.func36, Try.ntmps36
        go_wp2_with (first
          | (go_at_call 53; (with_reducible refine (told0_w false x.v _ _ (rto_v HV.out)).mono ?_); rintro e w' ⟨rfl, n, rfl⟩))
        go_ret2
        exact ⟨rfl, (E0.out.dN (n := n)).bel⟩
    · have hr : boT x o true = toA (dW x.v) 0 := by unfold boT; rw [if_pos hk]; rfl
      rw [hr]
      clear hk hr
      unfold elV
      rcases hb with hb | ⟨hb, hb2⟩
      all_goals
        go_enter Try.func36, Try.ntmps36
        go_wp2_with (first
          | (go_at_call 53; (with_reducible refine (told0_w false (dW x.v) _ _ (rto_0 _)).mono ?_); rintro e w' ⟨rfl, n, rfl⟩))
        go_ret2
        exact ⟨rfl, (E0.out.dN (n := n)).bel⟩
  · have hb1 : ((x.k : Int) == 1) = false := by rw [beq_eq_false_iff_ne]; omega
    have hb8 : ((x.k : Int) == 8) = false := by rw [beq_eq_false_iff_ne]; omega
    have hb3 : ((x.k : Int) == 3) = (x.k == 3) := by rw [Bool.eq_iff_iff]; simp; omega
    cases hq : (inv == (x.k == 3))
    · have hr : boT x o inv = ovA o x.v := by unfold boT; rw [if_neg hk, hq]; rfl
      rw [hr]
      clear hk hr
      unfold elV
      go_enter Try.func36, Try.ntmps36
      go_wp2_with (first
        | (go_at_call 53; (with_reducible refine (told1_w true (ngW (dW (mW o x.v))) (mW o x.v) _ _ (cell_new2 _ _ _ _ _) _ (rto_o _ _)).mono ?_); rintro e w' ⟨rfl, n, rfl⟩))
      go_ret2
      exact ⟨rfl, below_dN ((E0.out.dN (n := 0)).al _).bel n⟩
    · have hr : boT x o inv = prA o x.v := by unfold boT; rw [if_neg hk, hq]; rfl
      rw [hr]
      clear hk hr
      unfold elV
      go_enter Try.func36, Try.ntmps36
      go_wp2_with (first
        | (go_at_call 53; (with_reducible refine (told1_w true (mW o x.v) (mW o x.v) _ _ (cell_new2 _ _ _ _ _) _ (rto_p _ _)).mono ?_); rintro e w' ⟨rfl, n, rfl⟩))
      go_ret2
      exact ⟨rfl, below_dN ((E0.out.dN (n := 0)).al _).bel n⟩
end Go.Proofs.Ytnmibhgfcepddaa
