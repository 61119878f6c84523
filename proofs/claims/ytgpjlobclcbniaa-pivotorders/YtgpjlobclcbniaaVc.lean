/-
  What the calls of gridworkref06 that answer lists hand back.
-/
import Derived.Test.YtgpjlobclcbniaaVb
import Derived.Deep.RegionHeldLaw
import Derived.Deep.AppendLies
import Derived.BigQuiet
namespace Go.Proofs.Ytgpjlobclcbniaa
open Fl RowKit

theorem new_cell (w : World) (n : Nat) (v : Value) (t : TypeId) : ((w.drewN n).alloc (.cells #[v] t)).cell? ⟨w.heap.size, 0, none⟩ = some v := by
  rw [cell_of_row _ w.heap.size 0 _ t (0, 0) (heap_alloc_new (w.drewN n) _)]; rfl
theorem push_own {w : World} {base n : Nat} {v : Value} {zs : List Cw} {r : Cw} (h : w.ownsRow base 55 1 v n (zs.map cx ++ [.complex .f64 r.1 r.2])) : w.ownsRow base 55 1 v n ((zs ++ [r]).map cx) := by
  rw [List.map_append]; exact h
theorem repl_push {f : Nat → Cn} {zs : List Cw} {k : Nat} (hk : zs.length = k) (h : repl f k zs) {r : Cw} (hr : repz (f k) r) : repl f (k + 1) (zs ++ [r]) := by
  subst hk; exact h.push hr

end Go.Proofs.Ytgpjlobclcbniaa
