/-
  The matrix of a net as a function of rows and columns: what each element stamps; nothing of any program's text.
-/
import Derived.Test.YtmhplaanpbpndaaStb
import Derived.Test.YtmhplaanpbpndaaBse
import Derived.Test.YtmhplaanpbpndaaPnt
namespace Go.Proofs.Ytmhplaanpbpndaa
open Fl RowKit
set_option linter.unusedVariables false

/-- a matrix while it is stamped: its entries, and whether one that was put there was not finite -/
structure Sh where
  m : Nat → Nat → Cn
  ov : Bool
def Sh.zero : Sh := ⟨fun _ _ => (some 0, some 0), false⟩
/-- an entry changed -/
def Sh.put (S : Sh) (op : Cn → Cn → Cn) (i j : Nat) (Y : Cn) : Sh := ⟨fun a b => if a = i ∧ b = j then op (S.m i j) Y else S.m a b, S.ov || !finC (op (S.m i j) Y)⟩
/-- an entry changed, unless it is the ground's -/
def Sh.chg (S : Sh) (op : Cn → Cn → Cn) (i j : Int) (Y : Cn) : Sh := if i < 0 ∨ j < 0 then S else S.put op i.toNat j.toNat Y
def one1 : Cn := (some 4607182418800017408, some 0)
def valC (x : Elm) : Cn := (ans x.v, some 0)
def bra (N : Ns) (x : Elm) (S : Sh) : Sh :=
  (((S.chg addZ (plI N x.a) (rwI N x) one1).chg addZ (rwI N x) (plI N x.a) one1).chg subZ (plI N x.b) (rwI N x) one1).chg subZ (rwI N x) (plI N x.b) one1
def adm (N : Ns) (x : Elm) (Y : Cn) (S : Sh) : Sh :=
  (((S.chg addZ (plI N x.a) (plI N x.a) Y).chg addZ (plI N x.b) (plI N x.b) Y).chg subZ (plI N x.a) (plI N x.b) Y).chg subZ (plI N x.b) (plI N x.a) Y
def tra (N : Ns) (x : Elm) (S : Sh) : Sh :=
  (((S.chg addZ (plI N x.a) (plI N x.c) (valC x)).chg subZ (plI N x.a) (plI N x.d) (valC x)).chg subZ (plI N x.b) (plI N x.c) (valC x)).chg addZ (plI N x.b) (plI N x.d) (valC x)
def amp (N : Ns) (x : Elm) (S : Sh) : Sh :=
  ((bra N x S).chg subZ (rwI N x) (plI N x.c) (valC x)).chg addZ (rwI N x) (plI N x.d) (valC x)
/-- what an element stamps -/
def stE (N : Ns) (o : Nat) (x : Elm) (S : Sh) : Sh :=
  if x.k = 4 then S else if x.k = 5 then bra N x S else if x.k = 6 then tra N x S else if x.k = 7 then amp N x S
  else adm N x (ans (ofT x o).1, ans (ofT x o).2.1) S
/-- what its admittance is refused for -/
def stR (o : Nat) (x : Elm) : Int := if x.k = 4 ∨ x.k = 5 ∨ x.k = 6 ∨ x.k = 7 then 0 else (ofT x o).2.2
/-- what the elements from the i-th on stamp: the fault, the matrix -/
def stL (N : Ns) (o : Nat) (S : Sh) (i : Nat) : List Elm → (Int × Int) × Sh
  | [] => ((0, 0), S)
  | x :: t => if stR o x ≠ 0 then ((stR o x, i), S) else if (stE N o x S).ov = true then ((6, i), stE N o x S) else stL N o (stE N o x S) (i + 1) t
/-- what Matrix answers of a net that is made -/
def stA (N : Ns) (o : Nat) : (Int × Int) × Sh := if frI o ≠ 0 then ((frI o, -1), Sh.zero) else stL N o Sh.zero 0 N.es
theorem stL_bad {N : Ns} {o i : Nat} {S : Sh} {x : Elm} {t : List Elm} (h : stR o x ≠ 0) : stL N o S i (x :: t) = ((stR o x, (i : Int)), S) := by rw [stL, if_pos h]
theorem stL_over {N : Ns} {o i : Nat} {S : Sh} {x : Elm} {t : List Elm} (h : stR o x = 0) (h2 : (stE N o x S).ov = true) : stL N o S i (x :: t) = ((6, (i : Int)), stE N o x S) := by rw [stL, if_neg (by simp [h]), if_pos h2]
theorem stL_go {N : Ns} {o i : Nat} {S : Sh} {x : Elm} {t : List Elm} (h : stR o x = 0) (h2 : (stE N o x S).ov = false) : stL N o S i (x :: t) = stL N o (stE N o x S) (i + 1) t := by rw [stL, if_neg (by simp [h]), if_neg (by simp [h2])]
end Go.Proofs.Ytmhplaanpbpndaa
