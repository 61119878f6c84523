/-
  The side beside its net: a node's place, a branch's row, a new side; what stands where another stood.
-/
import Derived.Test.YtmhplaanpbpndaaSrc
import Derived.Test.YtmhplaanpbpndaaPnt
import Derived.Test.YtmhplaanpbpndaaDnb
import Derived.Test.YtmhplaanpbpndaaSrm
import Derived.Deep.RegionHeldLaw
namespace Go.Proofs.Ytmhplaanpbpndaa
open Fl Go.Maps RowKit Joins Deep
set_option linter.unusedVariables false

/-- a side beside the net that it is of; base: from there on lies what is new -/
structure Sw (w0 w : World) (nb p : Nat) (N : Ns) (b : Nb) (base s : Nat) (v : Value) (R : Nat → Cn) : Prop where
  nt : Nt w0 nb p N b
  bel : Below w0.heap.size w0 w
  lo : w0.heap.size ≤ base
  nd : N.nd.length ≤ 32
  nb : N.nd.length + N.br.length ≤ 64
  sd : Sd w base s p v (N.nd.length + N.br.length) N.nd.length R
theorem Sw.step {w0 w w' : World} {nb p : Nat} {N : Ns} {b : Nb} {base s : Nat} {v : Value} {R R' : Nat → Cn} (h : Sw w0 w nb p N b base s v R) (h1 : Sd w' base s p v (N.nd.length + N.br.length) N.nd.length R') (h2 : Kv base v w w') : Sw w0 w' nb p N b base s v R' := ⟨h.nt, h.bel.trans (h2.bel.mono h.lo), h.lo, h.nd, h.nb, h1⟩
theorem Sw.net {w0 w : World} {nb p : Nat} {N : Ns} {b : Nb} {base s : Nat} {v : Value} {R : Nat → Cn} (h : Sw w0 w nb p N b base s v R) : Nt w nb p N b := h.nt.below h.bel
theorem Sw.on {w0 w w' : World} {nb p : Nat} {N : Ns} {b : Nb} {base s : Nat} {v : Value} {R : Nat → Cn} (h : Sw w0 w nb p N b base s v R) (hb : Below w.heap.size w w') : Sw w0 w' nb p N b base s v R := h.step (h.sd.on hb) (Kv.of hb h.sd.lo)
theorem Sw.dN {w0 w : World} {nb p : Nat} {N : Ns} {b : Nb} {base s : Nat} {v : Value} {R : Nat → Cn} (h : Sw w0 w nb p N b base s v R) (m : Nat) : Sw w0 (w.drewN m) nb p N b base s v R := h.on (below_dN (Below.refl _ _) m)
theorem Sw.drew {w0 w : World} {nb p : Nat} {N : Ns} {b : Nb} {base s : Nat} {v : Value} {R : Nat → Cn} (h : Sw w0 w nb p N b base s v R) : Sw w0 w.drew nb p N b base s v R := h.dN 1
def noC : Nat → Cn := fun _ => (some 0, some 0)
theorem nr_made {w : World} {n base : Nat} (hn : n ≤ 100000) (hb : base ≤ w.heap.size) : Nr (w.alloc (.cells (madeCells #[.complex .f64 0 0] n) 75)) base (.slice (some ⟨w.heap.size, 0, none⟩) n n) n noC := by
  refine ⟨List.replicate n (0, 0), ⟨List.length_replicate, ?_⟩, fun j hj => ?_⟩
  · have := made_zeroC n
    rw [Nat.mul_one] at this
    rw [← this]
    exact World.ownsRow_lit w _ n hb (by unfold maxLen; omega) (by simp [madeCells])
  · rw [show zat (List.replicate n ((0, 0) : Cw)) j = (0, 0) by simp [zat, List.getD_eq_getElem?_getD, hj]]
    exact ⟨rep_0, rep_0⟩
end Go.Proofs.Ytmhplaanpbpndaa
