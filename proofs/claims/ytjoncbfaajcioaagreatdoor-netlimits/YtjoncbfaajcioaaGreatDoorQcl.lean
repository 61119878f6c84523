/-
  The closures of spanOf of the package quantity.
-/
import Derived.Test.YtjoncbfaajcioaaGreatDoorQaq
import Derived.Test.YtjoncbfaajcioaaGreatDoorBqc
namespace Go.Proofs.YtjoncbfaajcioaaGreatDoor
open RowKit

theorem clo1_any {v : Value} {base z L n q : Nat} {w : World} (hc : w.cell? ⟨q, 0, none⟩ = some (.int .i64 ((n : Nat) : Int))) (hv : Wh w base v z L) (hz : 0 < z) (hL : L ≤ 50000) (hn : n ≤ 1000000) (hbase : base ≤ w.heap.size) :
    Calls Tryz.prog 136 #[v, .pointer (some ⟨q, 0, none⟩)] w fun e w' => ∃ v', e = .returned v' ∧ Wh w' base v' (z * 2 ^ n) (L + n / 64 + 1) ∧ Only (Ob v) w w' ∧ (∀ k, Ob v' k → w.heap.size ≤ k) := by
  go_enter Tryz.func136, Tryz.ntmps136
  go_wp2_with (go_at_call 104; (with_reducible refine (qtwos_any v base z L n _ hv hz hL hn hbase).mono ?_); rintro e1 w1 ⟨v1, rfl, k1, k2, k3⟩)
  go_ret
  exact ⟨_, rfl, k1, k2, k3⟩
theorem clo2_any {v : Value} {base z L n q : Nat} {w : World} (hc : w.cell? ⟨q, 0, none⟩ = some (.int .i64 (-((n : Nat) : Int)))) (hv : Wh w base v z L) (hL : L + n ≤ 100000) (hbase : base ≤ w.heap.size) :
    Calls Tryz.prog 137 #[v, .pointer (some ⟨q, 0, none⟩)] w fun e w' => ∃ v', e = .returned v' ∧ Wh w' base v' (z * 10 ^ n) (L + n) ∧ Only (Ob v) w w' ∧ (∀ k, Ob v' k → Ob v k ∨ w.heap.size ≤ k) := by
  go_enter Tryz.func137, Tryz.ntmps137
  go_wp2_with (go_at_call 85; (with_reducible refine (qtensI n hv (by omega) hL hbase).mono ?_); rintro e1 w1 ⟨v1, rfl, k1, k2, k3⟩)
  go_ret
  exact ⟨_, rfl, k1, k2, k3⟩

end Go.Proofs.YtjoncbfaajcioaaGreatDoor
