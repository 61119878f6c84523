/-
  Parts of lists, lists that are written in place: for solve's forward and backward.
-/
import Derived.Test.YtklbgibhbnijaaaSla
import Derived.Test.YtklbgibhbnijaaaLwi
import Derived.Deep.RegionWith
import Derived.Deep.RegionHeldLaw
import Derived.Deep.DeepCutAuto
namespace Go.Proofs.Ytklbgibhbnijaaa
open Fl RowKit

theorem sub_rc {w : World} {A : Option Addr} {N : Nat} {E : Nat → Cw} (h : Rc w A (ro N E)) {B off : Nat} (hA : A = some ⟨B, off, none⟩) (hB : B < w.heap.size) (k n : Nat) (hk : k + n ≤ N) : Rc w (some ⟨B, off + k, none⟩) (ro n (fun j => E (k + j))) := by
  intro j hj
  rw [ro_len] at hj
  obtain ⟨B', off', h1, h2, h3⟩ := h (k + j) (by rw [ro_len]; omega)
  rw [hA] at h1
  cases h1
  refine ⟨B, off + k, rfl, hB, ?_⟩
  rw [ro_at _ hj, Nat.add_assoc]
  rw [ro_at _ (by omega)] at h3
  exact h3
theorem ro_rep {n m : Nat} {E : Nat → Cw} {f : Nat → Cn} (h : ∀ j, j < n → repz (f j) (E j)) (hm : m ≤ n) : repl f m (ro m E) := fun j hj => by rw [ro_at _ hj]; exact h j (by omega)
/-- the matrix' answers by row and column -/
def mz (n : Nat) (E : Nat → Cw) (i j : Nat) : Cn := anz (E (i * n + j))
theorem repz_up {n i : Nat} {f : Nat → Cn} {y : Nat → Cw} {v : Cn} {r : Cw} (h : ∀ j, j < n → repz (f j) (y j)) (hr : repz v r) : ∀ j, j < n → repz (upC f i v j) (upz y i r j) := fun j hj => by
  by_cases e : j = i
  · subst e; rw [upC_self, upz_self]; exact hr
  · rw [upC_ne _ _ e, upz_ne _ _ e]; exact h j hj
theorem ro_okl {n : Nat} {f : Nat → Cn} {y : Nat → Cw} (h : ∀ j, j < n → repz (f j) (y j)) : okl (ro n y) := ro_ok (fun j hj => (h j hj).ok)
theorem rc_set {w : World} {A : Option Addr} {xs : List Cw} {g : Nat} (h : Rc w A xs) (hA : ∀ B off, A = some ⟨B, off, none⟩ → B ≠ g) (k : Nat) (v : Value) : Rc (w.setCell ⟨g, k, none⟩ v) A xs := fun j hj => by
  obtain ⟨B, off, h1, h2, h3⟩ := h j hj
  refine ⟨B, off, h1, by simpa using h2, ?_⟩
  rw [other_cell _ (by intro e; exact hA B off h1 (congrArg Addr.block e).symm)]
  exact h3

end Go.Proofs.Ytklbgibhbnijaaa
