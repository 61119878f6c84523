/-
  The opposite's last pure part: all numbers told are finite; what a port's numbers are.
-/
import Derived.Test.YtpjpamdocfdibaaSoq
namespace Go.Proofs.Ytpjpamdocfdibaa
open Fl RowKit
set_option linter.unusedVariables false

theorem rgL_fin {N : Ns} (hm : Md N) : ∀ (l : List Elm) (R : Nat → Cn) (i : Nat), (∀ x ∈ l, x ∈ N.es) → (∀ j, j < N.nd.length + N.br.length → finC (R j) = true) → (rgL N l R i).1 = (0, 0) → ∀ j, j < N.nd.length + N.br.length → finC ((rgL N l R i).2 j) = true := by
  intro l
  induction l with
  | nil => intro R i _ h _; exact h
  | cons x l ih =>
    intro R i hl h h0
    unfold rgL at h0 ⊢
    by_cases e : rok N x (phC x) R = true
    · rw [if_pos e] at h0 ⊢
      exact ih _ _ (fun y hy => hl y (List.mem_cons_of_mem _ hy)) ((rok_fin hm (hl x List.mem_cons_self) h).1 e) h0
    · rw [if_neg e] at h0
      have h6 : (6 : Int) = 0 := congrArg Prod.fst h0
      exact absurd h6 (by decide)
theorem rgR_fin {N : Ns} (hm : Md N) {j : Nat} (hj : j < rgK N) : finC (rgR N j) = true := by
  unfold rgK at hj
  split at hj
  · rename_i h
    exact rgL_fin hm N.es noC 0 (fun x hx => hx) (fun j _ => by unfold noC; kernel_rfl) h j hj
  · omega
/-- what a port's numbers are, by the nodes' names -/
def ptV (y : List UInt8) (x : Elm) : Cn := if bl x.b = y then (some 13830554455654793216, some 0) else if bl x.a = y then (some 4607182418800017408, some 0) else (some 0, some 0)
theorem drR_node {N : Ns} (h : Md N) {x : Elm} (hx : x ∈ N.es) {j : Nat} {y : List UInt8} (hy : N.nd[j]? = some y) : drR N x j = ptV y x := by
  unfold drR ptV
  have ha := plI_at h hy x.a
  have hb := plI_at h hy x.b
  by_cases qb : bl x.b = y
  · have hab : ¬ ((j : Int) = plI N x.a) := fun e => h.ab hx (e.symm.trans (hb.2 qb))
    rw [if_pos qb, rput_same (hb.2 qb), rput_other hab]
    exact (by decide +kernel : subZ (some 0, some 0) o1 = (some 13830554455654793216, some 0))
  · rw [if_neg qb, rput_other (fun e => qb (hb.1 e))]
    by_cases qa : bl x.a = y
    · rw [if_pos qa, rput_same (ha.2 qa)]
      exact (by decide +kernel : addZ (some 0, some 0) o1 = (some 4607182418800017408, some 0))
    · rw [if_neg qa, rput_other (fun e => qa (ha.1 e))]; rfl
theorem drR_branch {N : Ns} (h : Md N) (x : Elm) {j : Nat} (hj : N.nd.length ≤ j) : drR N x j = (some 0, some 0) := by
  unfold drR
  have ha := @plI_hi N x.a
  have hb := @plI_hi N x.b
  rw [rput_other (by omega), rput_other (by omega)]; rfl
end Go.Proofs.Ytpjpamdocfdibaa
