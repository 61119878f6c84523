/-
  Several texts in one: Nmc Nmd.
-/
import Derived.Test.YtmpkcioeodlbcaaGreatDoorK07
import Derived.Handy
import Derived.Laws.Cover3
namespace Go.Proofs.YtmpkcioeodlbcaaGreatDoor
open Go.Maps Go.RowKit
set_option maxRecDepth 100000
@[go_sem] theorem run_store_fltN {P : Program} (w : World) (a : Addr) (m : Mode) (k : FloatKind) (b : Nat) : (store a (.float k b) m).run P w = stored P w a (.float k b) m := run_store P w a _ m rfl
/-- no net: nil, or a struct without a map -/
def NoNet (P : Value) (w : World) : Prop := P = .pointer none ∨ ∃ p, P = .pointer (some ⟨p, 0, none⟩) ∧ w.cell? ⟨p, 2, none⟩ = some (.map none)
theorem NoNet.below {P : Value} {w w' : World} (h : NoNet P w) (hb : Below w.heap.size w w') : NoNet P w' := by
  rcases h with h | ⟨p, h1, h2⟩
  · exact .inl h
  · exact .inr ⟨p, h1, (hb.cell (World.block_lt_of_cell? w _ h2)).trans h2⟩
theorem NoNet.al {P : Value} {w : World} (h : NoNet P w) (o : Obj) : NoNet P (w.alloc o) := h.below ((Below.refl _ w).alloc (Nat.le_refl _) o)
theorem neq_mapN (m : Option Nat) (W : World) : (binOp .neq 62 (.map m) (.map none)).run Tryz.prog W = .ok (.bool (!m.isNone)) W := run_neq_map_nil W 62 9 3 m Tryz.underlying62
theorem made_none {P : Value} {w : World} (h : NoNet P w) : Calls Tryz.prog 66 #[P] w fun e w' => e = .returned (.bool false) ∧ w' = w := by
  have hmn := neq_mapN none
  rcases h with rfl | ⟨p, rfl, hc⟩
  · go_enter Tryz.func66, Tryz.ntmps66
    go_wp2_with fail
    go_ret
    exact ⟨rfl, rfl⟩
  · go_enter Tryz.func66, Tryz.ntmps66
    go_wp2_with fail
    go_ret
    exact ⟨rfl, rfl⟩
theorem made_yes {w : World} {p B : Nat} (hc : w.cell? ⟨p, 2, none⟩ = some (.map (some B))) : Calls Tryz.prog 66 #[.pointer (some ⟨p, 0, none⟩)] w fun e w' => e = .returned (.bool true) ∧ w' = w := by
  have hmn := neq_mapN (some B)
  go_enter Tryz.func66, Tryz.ntmps66
  go_wp2_with fail
  go_ret
  exact ⟨rfl, rfl⟩
theorem nwithout_none {P : Value} {w : World} (h : NoNet P w) (s : ByteArray) : Calls Tryz.prog 92 #[P, .string s] w fun e w' => e = .returned (.tuple #[.pointer none, .int .i64 1]) ∧ w' = w := by
  go_enter Tryz.func92, Tryz.ntmps92
  go_wp2_with (go_at_call 66; (with_reducible refine (made_none h).mono ?_); rintro e1 w1 ⟨rfl, rfl⟩)
  go_ret2
  exact ⟨rfl, rfl⟩
end Go.Proofs.YtmpkcioeodlbcaaGreatDoor
namespace Go.Proofs.YtmpkcioeodlbcaaGreatDoor
open Go.Maps Go.RowKit
set_option maxRecDepth 100000
theorem newRow_any (w : World) : Calls Tryz.prog 80 #[] w fun e w' => ∃ B, e = .returned (.agg #[.slice none 0 0, .map (some B)]) ∧ Mp w' B [] ∧ Below w.heap.size w w' ∧ w.heap.size ≤ B ∧ B < w'.heap.size := by
  have hmm := @run_makeMap Tryz.prog
  go_enter Tryz.func80, Tryz.ntmps80
  go_wp2_with fail
  (try simp only [Exit.inBlock, Exit.then])
  refine bodyPost_ret (by simp [results, Tryz.results80, go_sem]; try rfl) rfl ?_
  have h := World.ownsMap_made (H := Unit) (w.alloc (.cells #[.slice none 0 0, .map (some (w.heap.size + 1))] 64)) Tryz.prog 9 (plainElem Tryz.prog 3)
  rw [show (w.alloc (.cells #[.slice none 0 0, .map (some (w.heap.size + 1))] 64)).heap.size = w.heap.size + 1 by simp] at h
  exact ⟨w.heap.size + 1, rfl, ⟨_, h, MdOk.empty⟩, ((Below.refl _ w).alloc (Nat.le_refl _) _).alloc (by simp) _, by omega, by simp⟩

end Go.Proofs.YtmpkcioeodlbcaaGreatDoor
