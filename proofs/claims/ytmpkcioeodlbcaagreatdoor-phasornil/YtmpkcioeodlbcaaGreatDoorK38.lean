/-
  Kept of Stw.
-/
import Derived.Test.YtmpkcioeodlbcaaGreatDoorK35
import Derived.Test.YtmpkcioeodlbcaaGreatDoorK37
import Derived.Test.YtmpkcioeodlbcaaGreatDoorK29
namespace Go.Proofs.YtmpkcioeodlbcaaGreatDoor
open Fl Go.Maps RowKit Joins Deep
set_option linter.unusedVariables false
set_option maxRecDepth 20000
def isCz : Value → Bool
  | .complex .f64 a b => a == 0 && b == 0
  | _ => false
def isIz : Value → Bool
  | .int .i64 a => a == 0
  | _ => false
/-- n noughts, and a whole nought behind them -/
def chkZ : Nat → List Value → Bool
  | 0, v :: _ => isIz v
  | n + 1, v :: l => match isCz v with | true => chkZ n l | false => false
  | _, [] => false
theorem zc99 : chkZ 4096 (Tryz.zeroCells203.toList.drop 3) = true := by kernel_rfl
theorem isCz_eq {v : Value} (h : isCz v = true) : v = .complex .f64 0 0 := by
  unfold isCz at h
  split at h
  · rw [Bool.and_eq_true] at h
    rw [beq_iff_eq.1 h.1, beq_iff_eq.1 h.2]
  · cases h
theorem isIz_eq {v : Value} (h : isIz v = true) : v = .int .i64 0 := by
  unfold isIz at h
  split at h
  · rw [beq_iff_eq.1 h]
  · cases h
theorem chkZ_at : ∀ (n : Nat) (l : List Value), chkZ n l = true → (∀ k, k < n → l[k]? = some (.complex .f64 0 0)) ∧ l[n]? = some (.int .i64 0) := by
  intro n
  induction n with
  | zero =>
    intro l h
    cases l with
    | nil => cases h
    | cons v l => exact ⟨fun k hk => absurd hk (Nat.not_lt_zero k), by rw [isIz_eq h]; rfl⟩
  | succ n ih =>
    intro l h
    cases l with
    | nil => cases h
    | cons v l =>
      unfold chkZ at h
      split at h
      · rename_i hv
        obtain ⟨h1, h2⟩ := ih l h
        refine ⟨fun k hk => ?_, by simpa using h2⟩
        cases k with
        | zero => rw [isCz_eq hv]; rfl
        | succ k => simpa using h1 k (by omega)
      · cases h
/-- the cells of a new sheet -/
def IsSh (p o nn : Nat) (cs : Array Value) : Prop := cs = ((Tryz.zeroCells203.setIfInBounds 0 (.pointer (some ⟨p, 0, none⟩))).setIfInBounds 1 (.float .f64 o)).setIfInBounds 2 (.int .i64 (nn : Int))
theorem shA_at {p o nn k : Nat} {cs : Array Value} (h : IsSh p o nn cs) (hk : 3 ≤ k) : cs[k]? = (Tryz.zeroCells203.toList.drop 3)[k - 3]? := by
  unfold IsSh at h
  rw [h, Array.getElem?_setIfInBounds_ne (by omega), Array.getElem?_setIfInBounds_ne (by omega), Array.getElem?_setIfInBounds_ne (by omega), List.getElem?_drop, show 3 + (k - 3) = k by omega, Array.getElem?_toList]
theorem sz99 : Tryz.zeroCells203.size = 4100 := by kernel_rfl
theorem shA_lo {p o nn : Nat} {cs : Array Value} (h : IsSh p o nn cs) : cs[0]? = some (.pointer (some ⟨p, 0, none⟩)) ∧ cs[1]? = some (.float .f64 o) ∧ cs[2]? = some (.int .i64 (nn : Int)) := by
  unfold IsSh at h
  rw [h]
  refine ⟨?_, ?_, ?_⟩
  · rw [Array.getElem?_setIfInBounds_ne (by omega), Array.getElem?_setIfInBounds_ne (by omega), Array.getElem?_setIfInBounds_self_of_lt (by rw [sz99]; omega)]
  · rw [Array.getElem?_setIfInBounds_ne (by omega), Array.getElem?_setIfInBounds_self_of_lt (by rw [Array.size_setIfInBounds, sz99]; omega)]
  · rw [Array.getElem?_setIfInBounds_self_of_lt (by rw [Array.size_setIfInBounds, Array.size_setIfInBounds, sz99]; omega)]
theorem sp_new {W : World} {s p o nn : Nat} {cs : Array Value} (hs : IsSh p o nn cs) (h : W.heap[s]? = some (.cells cs 203 (0, 0))) : Sp W s (.pointer (some ⟨p, 0, none⟩)) o nn Sh.zero := by
  obtain ⟨k0, k1, k2⟩ := shA_lo hs
  obtain ⟨z1, z2⟩ := chkZ_at 4096 _ zc99
  have hc := fun (j : Nat) => cell_of_row W s j _ _ (0, 0) h
  refine ⟨by rw [hc]; exact k0, by rw [hc]; exact k1, by rw [hc]; exact k2, fun i j hi hj => ⟨(0, 0), ?_, ⟨rep_0, rep_0⟩⟩, ?_, fun k => frozen_of_row W s k _ _ h⟩
  · rw [hc, shA_at hs (by omega), z1 _ (by omega)]; rfl
  · rw [hc, shA_at hs (by omega)]
    exact z2
/-- what each kind stamps -/
def stF_Stw (k : Nat) : FuncId := if k = 4 then 175 else if k = 5 then 176 else if k = 6 then 177 else if k = 7 then 178 else 174
@[go_sem] theorem run_store_nilF {P : Program} (w : World) (a : Addr) (m : Mode) : (store a .nilFunc m).run P w = stored P w a .nilFunc m := run_store P w a _ m rfl
theorem bykind (w : World) : Calls Tryz.prog 135 #[] w fun e w' => e = .returned (.agg #[.nilFunc, .func (.func 174) #[] #[], .func (.func 174) #[] #[], .func (.func 174) #[] #[], .func (.func 175) #[] #[], .func (.func 176) #[] #[], .func (.func 177) #[] #[], .func (.func 178) #[] #[], .func (.func 174) #[] #[]]) ∧ Below w.heap.size w w' := by
  go_enter Tryz.func135, Tryz.ntmps135
  go_wp2_with fail
  (try simp only [Exit.inBlock, Exit.then])
  refine bodyPost_ret (by simp [results, Tryz.results135, go_sem]; try rfl) rfl ?_
  exact ⟨rfl, bal w _⟩
end Go.Proofs.YtmpkcioeodlbcaaGreatDoor
