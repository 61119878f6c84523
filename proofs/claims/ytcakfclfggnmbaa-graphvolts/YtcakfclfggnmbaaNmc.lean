/-
  What a net that is nil, or that nobody made, answers.
-/
import Derived.Test.YtcakfclfggnmbaaNmb
import Derived.Handy
import Derived.Laws.Cover3
namespace Go.Proofs.Ytcakfclfggnmbaa
open Go.Maps Go.RowKit
set_option maxRecDepth 100000

@[go_sem] theorem run_store_fltN {P : Program} (w : World) (a : Addr) (m : Mode) (k : FloatKind) (b : Nat) : (store a (.float k b) m).run P w = stored P w a (.float k b) m := run_store P w a _ m rfl
/-- no net: nil, or a struct without a map -/
def NoNet (P : Value) (w : World) : Prop := P = .pointer none ∨ ∃ p, P = .pointer (some ⟨p, 0, none⟩) ∧ w.cell? ⟨p, 2, none⟩ = some (.map none)
theorem NoNet.below {P : Value} {w w' : World} (h : NoNet P w) (hb : Below w.heap.size w w') : NoNet P w' := by
  rcases h with h | ⟨p, h1, h2⟩
  · exact .inl h
  · exact .inr ⟨p, h1, (hb.cell (World.block_lt_of_cell? w _ h2)).trans h2⟩
theorem NoNet.al {P : Value} {w : World} (h : NoNet P w) (o : Obj) : NoNet P (w.alloc o) := h.below ((Below.refl _ w).alloc (Nat.le_refl _) o)
theorem neq_mapN (m : Option Nat) (W : World) : (binOp .neq 83 (.map m) (.map none)).run Try.prog W = .ok (.bool (!m.isNone)) W := run_neq_map_nil W 83 9 3 m Try.underlying83
theorem made_none {P : Value} {w : World} (h : NoNet P w) : Calls Try.prog 53 #[P] w fun e w' => e = .returned (.bool false) ∧ w' = w := by
  have hmn := neq_mapN none
  rcases h with rfl | ⟨p, rfl, hc⟩
  · go_enter Try.func53, Try.ntmps53
    go_wp2_with fail
    go_ret
    exact ⟨rfl, rfl⟩
  · go_enter Try.func53, Try.ntmps53
    go_wp2_with fail
    go_ret
    exact ⟨rfl, rfl⟩
theorem made_yes {w : World} {p B : Nat} (hc : w.cell? ⟨p, 2, none⟩ = some (.map (some B))) : Calls Try.prog 53 #[.pointer (some ⟨p, 0, none⟩)] w fun e w' => e = .returned (.bool true) ∧ w' = w := by
  have hmn := neq_mapN (some B)
  go_enter Try.func53, Try.ntmps53
  go_wp2_with fail
  go_ret
  exact ⟨rfl, rfl⟩
theorem nwithout_none {P : Value} {w : World} (h : NoNet P w) (s : ByteArray) : Calls Try.prog 59 #[P, .string s] w fun e w' => e = .returned (.tuple #[.pointer none, .int .i64 1]) ∧ w' = w := by
  go_enter Try.func59, Try.ntmps59
  go_wp2_with (go_at_call 53; (with_reducible refine (made_none h).mono ?_); rintro e1 w1 ⟨rfl, rfl⟩)
  go_ret2
  exact ⟨rfl, rfl⟩
theorem norder_none {P : Value} {w : World} (h : NoNet P w) : Calls Try.prog 51 #[P] w fun e w' => e = .returned (.int .i64 0) ∧ w' = w := by
  go_enter Try.func51, Try.ntmps51
  go_wp2_with (go_at_call 53; (with_reducible refine (made_none h).mono ?_); rintro e1 w1 ⟨rfl, rfl⟩)
  go_ret
  exact ⟨rfl, rfl⟩
theorem nelements_none {P : Value} {w : World} (h : NoNet P w) : Calls Try.prog 26 #[P] w fun e w' => e = .returned (.slice none 0 0) ∧ w' = w := by
  go_enter Try.func26, Try.ntmps26
  go_wp2_with (go_at_call 53; (with_reducible refine (made_none h).mono ?_); rintro e1 w1 ⟨rfl, rfl⟩)
  go_ret
  exact ⟨rfl, rfl⟩
theorem nnodes_none {P : Value} {w : World} (h : NoNet P w) : Calls Try.prog 24 #[P] w fun e w' => e = .returned (.slice none 0 0) ∧ w' = w := by
  go_enter Try.func24, Try.ntmps24
  go_wp2_with (go_at_call 53; (with_reducible refine (made_none h).mono ?_); rintro e1 w1 ⟨rfl, rfl⟩)
  go_ret
  exact ⟨rfl, rfl⟩
theorem nfind_none {P : Value} {w : World} (h : NoNet P w) (s : ByteArray) : Calls Try.prog 29 #[P, .string s] w fun e w' => e = .returned (.tuple #[.agg #[.int .u8 0, .string ⟨#[]⟩, .string ⟨#[]⟩, .string ⟨#[]⟩, .string ⟨#[]⟩, .string ⟨#[]⟩, .float .f64 0, .int .i64 0], .bool false]) ∧ Below w.heap.size w w' := by
  go_enter Try.func29, Try.ntmps29
  go_wp2_with (go_at_call 53; (with_reducible refine (made_none (h.al _)).mono ?_); rintro e1 w1 ⟨rfl, rfl⟩)
  (try simp only [Exit.inBlock, Exit.then])
  refine bodyPost_ret (by simp [results, Try.results29, go_sem]; try rfl) rfl ?_
  exact ⟨rfl, (Below.refl _ w).alloc (Nat.le_refl _) _⟩
end Go.Proofs.Ytcakfclfggnmbaa
