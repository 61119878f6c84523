/-
  What the functions say that package matrix hands to made and all.
-/
import Derived.Test.YtgpjlobclcbniaaMb
import Derived.Deep.RegionHeldLaw
namespace Go.Proofs.Ytgpjlobclcbniaa
open Fl RowKit

/-- a matrix that may be, and is read -/
structure Mx (w : World) (R C : Nat) (A : Option Addr) (c : Nat) (F : Nat → Cn) (xs : List Cw) : Prop where
  len : xs.length = R * C
  hR : R ≤ 64
  hC : C ≤ 64
  rep : repl F (R * C) xs
  sl : Sl w A c xs
theorem Mx.below {w w' : World} {R C c : Nat} {A : Option Addr} {F : Nat → Cn} {xs : List Cw} (h : Mx w R C A c F xs) (hb : Below w.heap.size w w') : Mx w' R C A c F xs := ⟨h.len, h.hR, h.hC, h.rep, h.sl.below hb⟩
theorem Mx.drewN {w : World} {R C c : Nat} {A : Option Addr} {F : Nat → Cn} {xs : List Cw} (h : Mx w R C A c F xs) (n : Nat) : Mx (w.drewN n) R C A c F xs := ⟨h.len, h.hR, h.hC, h.rep, h.sl.drewN n⟩
theorem Mx.okl {w : World} {R C c : Nat} {A : Option Addr} {F : Nat → Cn} {xs : List Cw} (h : Mx w R C A c F xs) : okl xs := by
  have h1 := h.len
  have h2 := h.rep
  rw [← h1] at h2
  exact h2.okl
theorem Mx.lst {w : World} {R C c : Nat} {A : Option Addr} {F : Nat → Cn} {xs : List Cw} (h : Mx w R C A c F xs) : Lst w A (R * C) F xs := ⟨h.len, h.rep, h.sl.rd⟩
theorem Mx.at {w : World} {R C c i j : Nat} {A : Option Addr} {F : Nat → Cn} {xs : List Cw} (h : Mx w R C A c F xs) (hi : i < R) (hj : j < C) : repz (F (i * C + j)) (zat xs (i * C + j)) := h.rep _ (place_lt hi hj)
theorem bal (w : World) (o : Obj) : Below w.heap.size w (w.alloc o) := (Below.refl _ _).alloc (Nat.le_refl _) o
section one
variable {w : World} {R C c B : Nat} {A : Option Addr} {F : Nat → Cn} {xs : List Cw} (h : Mx w R C A c F xs) (hV : V3 B (.int .i64 R) (.int .i64 C) (.slice A (R * C) c) w)
include h hV
/-- rows i and j changed -/
def swp2 (i j r : Nat) : Nat := if r = i then j else if r = j then i else r
end one
def idE (i j : Nat) : Cn := if i = j then (some 4607182418800017408, some 0) else (some 0, some 0)
/-- are two numbers the same, equal? -/
def sameW (x y : Cw) : Bool := smB x.1 y.1 && smB x.2 y.2
def equalW (x y : Cw) : Bool := eqB x.1 y.1 && eqB x.2 y.2
theorem b_of {n : Nat} {w w' w'' : World} (h : Below n w w') (k : Below w'.heap.size w' w'') (hn : n ≤ w'.heap.size) : Below n w w'' := h.trans (k.mono hn)

theorem undrew {w w' : World} (h : Below w.drew.heap.size w.drew w') : Below w.heap.size w w' := ((below_self w).drew).trans h
section one2
variable {w : World} {R C c B : Nat} {A : Option Addr} {F : Nat → Cn} {xs : List Cw} (h : Mx w R C A c F xs) (hV : V3 B (.int .i64 R) (.int .i64 C) (.slice A (R * C) c) w)
include h hV
end one2
section two
variable {w : World} {R C c B R' C' c' B' : Nat} {A A' : Option Addr} {F G : Nat → Cn} {xs ys : List Cw} (h : Mx w R C A c F xs) (hV : V3 B (.int .i64 R) (.int .i64 C) (.slice A (R * C) c) w) (h' : Mx w R' C' A' c' G ys) (hV' : V3 B' (.int .i64 R') (.int .i64 C') (.slice A' (R' * C') c') w)
include h hV h' hV'
end two

end Go.Proofs.Ytgpjlobclcbniaa
