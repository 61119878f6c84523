/-
  Kept of Noa.
-/
import Derived.Test.YtmpkcioeodlbcaaGreatDoorK07
import Derived.Test.YtmpkcioeodlbcaaGreatDoorK23
namespace Go.Proofs.YtmpkcioeodlbcaaGreatDoor
/-- a text's bytes -/
abbrev bl (s : ByteArray) : List UInt8 := s.data.toList
theorem bl_len (s : ByteArray) : (bl s).length = s.size := rfl
/-- a name behind the others, unless it is among them -/
def addU (xs : List (List UInt8)) (s : List UInt8) : List (List UInt8) := if s ∈ xs then xs else xs ++ [s]
theorem addU_len (xs : List (List UInt8)) (s : List UInt8) : (addU xs s).length ≤ xs.length + 1 := by unfold addU; split <;> simp
/-- a node that is laid: neither empty nor the ground -/
def isN (s : ByteArray) : Bool := !(bl s == []) && !(bl s == [48])
def ndO (xs : List (List UInt8)) (s : ByteArray) : List (List UInt8) := if isN s = true then addU xs (bl s) else xs
theorem ndO_len (xs : List (List UInt8)) (s : ByteArray) : (ndO xs s).length ≤ xs.length + 1 := by unfold ndO; split; exact addU_len _ _; omega
def ndE (xs : List (List UInt8)) (x : Elm) : List (List UInt8) := ndO (ndO (ndO (ndO xs x.a) x.b) x.c) x.d
def isB (x : Elm) : Bool := x.k == 5 || x.k == 7
def brE (xs : List (List UInt8)) (x : Elm) : List (List UInt8) := if isB x = true then addU xs (bl x.n) else xs
/-- a net: its elements, their names, its nodes, its branches -/
structure Ns where
  es : List Elm
  nm : List (List UInt8)
  nd : List (List UInt8)
  br : List (List UInt8)
def Ns.nil : Ns := ⟨[], [], [], []⟩
def Ns.lay (N : Ns) (x : Elm) : Ns := ⟨N.es ++ [x], addU N.nm (bl x.n), ndE N.nd x, brE N.br x⟩
theorem ndE_len (xs : List (List UInt8)) (x : Elm) : (ndE xs x).length ≤ xs.length + 4 := by
  unfold ndE
  have h1 := ndO_len xs x.a
  have h2 := ndO_len (ndO xs x.a) x.b
  have h3 := ndO_len (ndO (ndO xs x.a) x.b) x.c
  have h4 := ndO_len (ndO (ndO (ndO xs x.a) x.b) x.c) x.d
  omega
theorem brE_len (xs : List (List UInt8)) (x : Elm) : (brE xs x).length ≤ xs.length + 1 := by unfold brE; split; exact addU_len _ _; omega
/-- how long its lists may be behind i elements -/
structure Ns.fits (N : Ns) (i : Nat) : Prop where
  es : N.es.length = i
  nm : N.nm.length ≤ i
  nd : N.nd.length ≤ 4 * i
  br : N.br.length ≤ i
theorem Ns.fits.nil : Ns.nil.fits 0 := ⟨rfl, Nat.le_refl _, Nat.le_refl _, Nat.le_refl _⟩
theorem Ns.fits.lay {N : Ns} {i : Nat} (h : N.fits i) (x : Elm) : (N.lay x).fits (i + 1) := by
  have h1 := addU_len N.nm (bl x.n)
  have h2 := ndE_len N.nd x
  have h3 := brE_len N.br x
  exact ⟨by simp [Ns.lay, h.es], by have := h.nm; show (addU N.nm (bl x.n)).length ≤ _; omega, by have := h.nd; show (ndE N.nd x).length ≤ _; omega, by have := h.br; show (brE N.br x).length ≤ _; omega⟩
/-- what Of finds from the i-th element on, and the net as far as it is laid -/
def ofR (N : Ns) (i : Nat) : List Elm → (Int × Int) × Ns
  | [] => if 32 < N.nd.length ∨ 64 < N.nd.length + N.br.length then ((3, -1), N) else ((0, 0), N)
  | x :: t => if chkI x ≠ 0 then ((chkI x, i), N) else if bl x.n ∈ N.nm then ((9, i), N) else ofR (N.lay x) (i + 1) t
/-- what Of answers -/
def ofA (l : List Elm) : (Int × Int) × Ns := if 256 < l.length then ((3, -1), Ns.nil) else ofR Ns.nil 0 l

end Go.Proofs.YtmpkcioeodlbcaaGreatDoor
