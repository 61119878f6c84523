/-
  What gridworklaw02's lives and gridworkkit's Number hand back.
-/
import Derived.Test.YtcakfclfggnmbaaPg
import Derived.RegionTactic
import Derived.BigRegion
namespace Go.Proofs.Ytcakfclfggnmbaa
open Fl RowKit

theorem rep_is {o : Option Nat} {x c : Nat} (h : rep o x) (e : o = some c) : x = c := by
  obtain ⟨_, h⟩ := h
  rw [e] at h
  exact (ans_some h).2
theorem drewN_drewN (w : World) (a b : Nat) : (w.drewN a).drewN b = w.drewN (a + b) := by simp
theorem below_drewN {n : Nat} {w w' : World} (h : Below n w w') (k : Nat) : Below n w (w'.drewN k) := by
  obtain ⟨h1, h2, h3, h4, h5⟩ := h
  exact ⟨h1, h2, h3, h4, h5⟩
theorem bt {a b c : World} (h : Below a.heap.size a b) (k : Below b.heap.size b c) : Below a.heap.size a c := h.trans (k.mono h.size)
theorem below_self (w : World) : Below w.heap.size w w := Below.refl _ _
theorem oeq (x : Nat) (h : nan x = false) : FloatKind.f64.format.order x x = some .eq := order_num h

end Go.Proofs.Ytcakfclfggnmbaa
