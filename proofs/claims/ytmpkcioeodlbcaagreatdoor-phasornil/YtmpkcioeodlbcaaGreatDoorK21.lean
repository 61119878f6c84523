/-
  Several texts in one: Npf Noa Nob.
-/
import Derived.Test.YtmpkcioeodlbcaaGreatDoorK20
import Derived.Test.YtmpkcioeodlbcaaGreatDoorK04
import Derived.Test.YtmpkcioeodlbcaaGreatDoorK19
namespace Go.Proofs.YtmpkcioeodlbcaaGreatDoor
open Go.Maps Go.RowKit Joins Deep
set_option linter.unusedVariables false
set_option maxRecDepth 100000
def wdA (ws : List ByteArray) (i : Nat) : ByteArray := ws.getD i ⟨#[]⟩
/-- what is wrong with a line's words -/
def rdE (ws : List ByteArray) : Int :=
  if ofK (byt (wdA ws 0) 0) = 0 then 8
  else if lnK (ofK (byt (wdA ws 0) 0)) = 1 then (if ws.length = 4 then paE (wdA ws 3) else 4)
  else if lnK (ofK (byt (wdA ws 0) 0)) = 2 then (if ws.length = 4 ∨ ws.length = 5 then srE ws.length (wdA ws 3) (wdA ws 4) else 4)
  else (if ws.length = 6 then paE (wdA ws 5) else 4)
/-- the element that they say -/
def rdX (ws : List ByteArray) : Elm :=
  if lnK (ofK (byt (wdA ws 0) 0)) = 1 then ⟨ofK (byt (wdA ws 0) 0), wdA ws 0, wdA ws 1, wdA ws 2, ⟨#[]⟩, ⟨#[]⟩, paW (wdA ws 3), 0⟩
  else if lnK (ofK (byt (wdA ws 0) 0)) = 2 then ⟨ofK (byt (wdA ws 0) 0), wdA ws 0, wdA ws 1, wdA ws 2, ⟨#[]⟩, ⟨#[]⟩, paW (wdA ws 3), srP ws.length (wdA ws 3) (wdA ws 4)⟩
  else ⟨ofK (byt (wdA ws 0) 0), wdA ws 0, wdA ws 1, wdA ws 2, wdA ws 3, wdA ws 4, paW (wdA ws 5), 0⟩
theorem ofK_le8 (c : Nat) : ofK c ≤ 8 := by unfold ofK; (repeat' split) <;> omega
theorem lnK_of {k : Nat} (h : k ≤ 8) (h0 : k ≠ 0) : lnK k = 1 ∨ lnK k = 2 ∨ lnK k = 3 := by
  unfold lnK; (repeat' split) <;> omega
def zElm : Elm := ⟨0, ⟨#[]⟩, ⟨#[]⟩, ⟨#[]⟩, ⟨#[]⟩, ⟨#[]⟩, 0, 0⟩
theorem wdA_get {ws : List ByteArray} {i : Nat} (h : i < ws.length) : ws[i]? = some (wdA ws i) := by
  unfold wdA; rw [List.getD_eq_getElem?_getD, List.getElem?_eq_getElem h]; rfl
theorem four_of {ws : List ByteArray} (h : 4 ≤ ws.length) : ∃ r, ws = wdA ws 0 :: wdA ws 1 :: wdA ws 2 :: wdA ws 3 :: r := by
  match ws, h with
  | a :: b :: c :: d :: r, _ => exact ⟨r, rfl⟩
theorem six_of {ws : List ByteArray} (h : 6 ≤ ws.length) : ∃ r, ws = wdA ws 0 :: wdA ws 1 :: wdA ws 2 :: wdA ws 3 :: wdA ws 4 :: wdA ws 5 :: r := by
  match ws, h with
  | a :: b :: c :: d :: e :: f :: r, _ => exact ⟨r, rfl⟩
theorem read_any (w : World) (B bk m cp : Nat) (ws : List ByteArray) (hl : ws.length = m) (hm : 0 < m) (hL : Lns w B) (hw : Wow w) (hWd : Wd w bk ws) (hs0 : 0 < (wdA ws 0).size) (hsz : ∀ i, (wdA ws i).size ≤ 65536) :
    Calls Tryz.prog 106 #[.map (some B), .slice (some ⟨bk, 0, none⟩) m cp] w fun e w' => ∃ y : Elm, e = .returned (.tuple #[elV y, .int .i64 (rdE ws)]) ∧ (rdE ws = 0 → y = rdX ws) ∧ Below w.heap.size w w' := by
  obtain ⟨k, hk⟩ : ∃ k, ofK (byt (wdA ws 0) 0) = k := ⟨_, rfl⟩
  have h0 := hWd 0 _ (wdA_get (by omega))
  have hE : rdE ws = if k = 0 then 8 else if lnK k = 1 then (if m = 4 then paE (wdA ws 3) else 4) else if lnK k = 2 then (if m = 4 ∨ m = 5 then srE m (wdA ws 3) (wdA ws 4) else 4) else (if m = 6 then paE (wdA ws 5) else 4) := by unfold rdE; rw [hk, hl]
  have hX : rdX ws = if lnK k = 1 then ⟨k, wdA ws 0, wdA ws 1, wdA ws 2, ⟨#[]⟩, ⟨#[]⟩, paW (wdA ws 3), 0⟩ else if lnK k = 2 then ⟨k, wdA ws 0, wdA ws 1, wdA ws 2, ⟨#[]⟩, ⟨#[]⟩, paW (wdA ws 3), srP m (wdA ws 3) (wdA ws 4)⟩ else ⟨k, wdA ws 0, wdA ws 1, wdA ws 2, wdA ws 3, wdA ws 4, paW (wdA ws 5), 0⟩ := by unfold rdX; rw [hk, hl]
  have hk8 : k ≤ 8 := by rw [← hk]; exact ofK_le8 _
  by_cases hk0 : k = 0
  · rw [if_pos hk0] at hE
    rw [hE]
    refine (read_0 w B bk m cp _ hs0 h0 hm (hk.trans hk0)).mono ?_
    rintro e w' ⟨rfl, hb⟩
    exact ⟨zElm, rfl, (fun h => by cases h), hb⟩
  · rw [if_neg hk0] at hE
    rcases lnK_of hk8 hk0 with hi | hi | hi
    · rw [if_pos hi] at hE hX
      by_cases h4 : m = 4
      · rw [if_pos h4] at hE
        rw [hE, hX]
        obtain ⟨r, hr⟩ := four_of (ws := ws) (by omega)
        refine (read_1 w B bk m cp _ k 0 (paE (wdA ws 3)) _ _ _ _ _ _ _ hL hs0 h0 (by omega) (by omega) hk hk8 hk0 hi (fun W hB => readTwo_w W bk m cp ws _ _ _ _ r hr (by omega) (hWd.below hB))).mono ?_
        rintro e w' ⟨rfl, hb⟩
        exact ⟨_, rfl, fun _ => rfl, hb⟩
      · rw [if_neg h4] at hE
        rw [hE]
        rcases (by omega : m < 4 ∨ 4 < m) with q | q
        · refine (read_1lo w B bk m cp _ k hL hs0 h0 hm q hk hk8 hk0 hi).mono ?_
          rintro e w' ⟨rfl, hb⟩
          exact ⟨zElm, rfl, (fun h => by cases h), hb⟩
        · refine (read_1hi w B bk m cp _ k hL hs0 h0 hm q hk hk8 hk0 hi).mono ?_
          rintro e w' ⟨rfl, hb⟩
          exact ⟨zElm, rfl, (fun h => by cases h), hb⟩
    · rw [if_neg (by omega), if_pos hi] at hE hX
      by_cases h4 : m = 4 ∨ m = 5
      · rw [if_pos h4] at hE
        rw [hE, hX]
        obtain ⟨r, hr⟩ := four_of (ws := ws) (by omega)
        refine (read_2 w B bk m cp _ k 0 (srE m (wdA ws 3) (wdA ws 4)) _ _ _ _ _ _ _ hL hs0 h0 (by omega) (by omega) hk hk8 hk0 hi (fun W hB => readSource_w W bk m cp ws _ _ _ _ (wdA ws 4) r hr (fun h5 => wdA_get (by omega)) h4 (hWd.below hB) (hw.kept hB) (hsz 4))).mono ?_
        rintro e w' ⟨rfl, hb⟩
        exact ⟨_, rfl, fun _ => rfl, hb⟩
      · rw [if_neg h4] at hE
        rw [hE]
        rcases (by omega : m < 4 ∨ 5 < m) with q | q
        · refine (read_2lo w B bk m cp _ k hL hs0 h0 hm q hk hk8 hk0 hi).mono ?_
          rintro e w' ⟨rfl, hb⟩
          exact ⟨zElm, rfl, (fun h => by cases h), hb⟩
        · refine (read_2hi w B bk m cp _ k hL hs0 h0 hm q hk hk8 hk0 hi).mono ?_
          rintro e w' ⟨rfl, hb⟩
          exact ⟨zElm, rfl, (fun h => by cases h), hb⟩
    · rw [if_neg (by omega), if_neg (by omega)] at hE hX
      by_cases h4 : m = 6
      · rw [if_pos h4] at hE
        rw [hE, hX]
        obtain ⟨r, hr⟩ := six_of (ws := ws) (by omega)
        refine (read_3 w B bk m cp _ k 0 (paE (wdA ws 5)) _ _ _ _ _ _ _ hL hs0 h0 (by omega) (by omega) hk hk8 hk0 hi (fun W hB => readFour_w W bk m cp ws _ _ _ _ _ _ r hr (by omega) (hWd.below hB))).mono ?_
        rintro e w' ⟨rfl, hb⟩
        exact ⟨_, rfl, fun _ => rfl, hb⟩
      · rw [if_neg h4] at hE
        rw [hE]
        rcases (by omega : m < 6 ∨ 6 < m) with q | q
        · refine (read_3lo w B bk m cp _ k hL hs0 h0 hm q hk hk8 hk0 hi).mono ?_
          rintro e w' ⟨rfl, hb⟩
          exact ⟨zElm, rfl, (fun h => by cases h), hb⟩
        · refine (read_3hi w B bk m cp _ k hL hs0 h0 hm q hk hk8 hk0 hi).mono ?_
          rintro e w' ⟨rfl, hb⟩
          exact ⟨zElm, rfl, (fun h => by cases h), hb⟩
end Go.Proofs.YtmpkcioeodlbcaaGreatDoor
namespace Go.Proofs.YtmpkcioeodlbcaaGreatDoor
/-- a text's bytes -/
abbrev bl (s : ByteArray) : List UInt8 := s.data.toList
theorem bl_len (s : ByteArray) : (bl s).length = s.size := rfl
/-- a name behind the others, unless it is among them -/
def addU (xs : List (List UInt8)) (s : List UInt8) : List (List UInt8) := if s ∈ xs then xs else xs ++ [s]
theorem addU_len (xs : List (List UInt8)) (s : List UInt8) : (addU xs s).length ≤ xs.length + 1 := by unfold addU; split <;> simp
/-- a node that is laid: neither empty nor the ground -/
def isN (s : ByteArray) : Bool := !(bl s == []) && !(bl s == [48])
def ndO (xs : List (List UInt8)) (s : ByteArray) : List (List UInt8) := if isN s = true then addU xs (bl s) else xs
theorem ndO_len (xs : List (List UInt8)) (s : ByteArray) : (ndO xs s).length ≤ xs.length + 1 := by unfold ndO; split; exact addU_len _ _; omega
def ndE (xs : List (List UInt8)) (x : Elm) : List (List UInt8) := ndO (ndO (ndO (ndO xs x.a) x.b) x.c) x.d
def isB (x : Elm) : Bool := x.k == 5 || x.k == 7
def brE (xs : List (List UInt8)) (x : Elm) : List (List UInt8) := if isB x = true then addU xs (bl x.n) else xs
/-- a net: its elements, their names, its nodes, its branches -/
structure Ns where
  es : List Elm
  nm : List (List UInt8)
  nd : List (List UInt8)
  br : List (List UInt8)
def Ns.nil : Ns := ⟨[], [], [], []⟩
def Ns.lay (N : Ns) (x : Elm) : Ns := ⟨N.es ++ [x], addU N.nm (bl x.n), ndE N.nd x, brE N.br x⟩
theorem ndE_len (xs : List (List UInt8)) (x : Elm) : (ndE xs x).length ≤ xs.length + 4 := by
  unfold ndE
  have h1 := ndO_len xs x.a
  have h2 := ndO_len (ndO xs x.a) x.b
  have h3 := ndO_len (ndO (ndO xs x.a) x.b) x.c
  have h4 := ndO_len (ndO (ndO (ndO xs x.a) x.b) x.c) x.d
  omega
theorem brE_len (xs : List (List UInt8)) (x : Elm) : (brE xs x).length ≤ xs.length + 1 := by unfold brE; split; exact addU_len _ _; omega
/-- how long its lists may be behind i elements -/
structure Ns.fits (N : Ns) (i : Nat) : Prop where
  es : N.es.length = i
  nm : N.nm.length ≤ i
  nd : N.nd.length ≤ 4 * i
  br : N.br.length ≤ i
theorem Ns.fits.nil : Ns.nil.fits 0 := ⟨rfl, Nat.le_refl _, Nat.le_refl _, Nat.le_refl _⟩
theorem Ns.fits.lay {N : Ns} {i : Nat} (h : N.fits i) (x : Elm) : (N.lay x).fits (i + 1) := by
  have h1 := addU_len N.nm (bl x.n)
  have h2 := ndE_len N.nd x
  have h3 := brE_len N.br x
  exact ⟨by simp [Ns.lay, h.es], by have := h.nm; show (addU N.nm (bl x.n)).length ≤ _; omega, by have := h.nd; show (ndE N.nd x).length ≤ _; omega, by have := h.br; show (brE N.br x).length ≤ _; omega⟩
/-- what Of finds from the i-th element on, and the net as far as it is laid -/
def ofR (N : Ns) (i : Nat) : List Elm → (Int × Int) × Ns
  | [] => if 32 < N.nd.length ∨ 64 < N.nd.length + N.br.length then ((3, -1), N) else ((0, 0), N)
  | x :: t => if chkI x ≠ 0 then ((chkI x, i), N) else if bl x.n ∈ N.nm then ((9, i), N) else ofR (N.lay x) (i + 1) t
/-- what Of answers -/
def ofA (l : List Elm) : (Int × Int) × Ns := if 256 < l.length then ((3, -1), Ns.nil) else ofR Ns.nil 0 l

end Go.Proofs.YtmpkcioeodlbcaaGreatDoor
namespace Go.Proofs.YtmpkcioeodlbcaaGreatDoor
open Go.Maps Go.RowKit
set_option linter.unusedVariables false
/-- an element's eight cells, a list's -/
def elC (x : Elm) : List Value := [.int .u8 (x.k : Int), .string x.n, .string x.a, .string x.b, .string x.c, .string x.d, .float .f64 x.v, .int .i64 x.ph]
def elCs (l : List Elm) : List Value := l.flatMap elC
theorem elCs_len (l : List Elm) : (elCs l).length = l.length * 8 := by
  induction l with
  | nil => rfl
  | cons x t ih => unfold elCs at *; rw [List.flatMap_cons, List.length_append, ih]; simp [elC]; omega
theorem elCs_snoc (l : List Elm) (x : Elm) : elCs (l ++ [x]) = elCs l ++ elC x := by unfold elCs; simp
theorem elCs_get {l : List Elm} {j : Nat} {x : Elm} (h : l[j]? = some x) {c : Nat} (hc : c < 8) : (elCs l)[j * 8 + c]? = (elC x)[c]? := by
  induction l generalizing j with
  | nil => cases h
  | cons y t ih =>
    have hu : elCs (y :: t) = elC y ++ elCs t := by unfold elCs; rw [List.flatMap_cons]
    have hy : (elC y).length = 8 := rfl
    rw [hu]
    cases j with
    | zero => cases h; rw [List.getElem?_append_left (by rw [hy]; omega)]; simp
    | succ j =>
      rw [List.getElem?_append_right (by rw [hy]; omega), hy, show (j + 1) * 8 + c - 8 = j * 8 + c by omega]
      exact ih (by simpa using h)
theorem row_block {w w' : World} {base : Nat} {e : TypeId} {sz : Nat} {v : Value} {n : Nat} {xs : List Value} (h : w.ownsRow base e sz v n xs) (hk : ∀ g, v.ownBlock = some g → w'.heap[g]? = w.heap[g]?) : w'.ownsRow base e sz v n xs := by
  obtain ⟨h0, h1 | ⟨g, cap, cur, rfl, h2, h3, h4⟩⟩ := h
  · exact ⟨h0, .inl h1⟩
  · exact ⟨h0, .inr ⟨g, cap, cur, rfl, h2, by rw [hk g rfl]; exact h3, h4⟩⟩
theorem row_ge {w : World} {base : Nat} {e : TypeId} {sz : Nat} {v : Value} {n : Nat} {xs : List Value} (h : w.ownsRow base e sz v n xs) {g : Nat} (hg : v.ownBlock = some g) : base ≤ g ∧ g < w.heap.size := by
  obtain ⟨h0, ⟨rfl, _⟩ | ⟨g2, cap, cur, rfl, h2, h3, h4⟩⟩ := h
  · cases hg
  · cases hg; exact ⟨h2, (Array.getElem?_eq_some_iff.1 h3).1⟩
theorem row_type {w : World} {base b2 : Nat} {e e2 : TypeId} {sz s2 : Nat} {v v2 : Value} {n n2 : Nat} {xs ys : List Value} (h : w.ownsRow base e sz v n xs) (h2 : w.ownsRow b2 e2 s2 v2 n2 ys) (hne : e ≠ e2) {g : Nat} (hg : v.ownBlock = some g) : v2.ownBlock ≠ some g := by
  intro hg2
  obtain ⟨_, ⟨rfl, _⟩ | ⟨_, _, _, rfl, _, q3, _⟩⟩ := h
  · cases hg
  · cases hg
    obtain ⟨_, ⟨rfl, _⟩ | ⟨_, _, _, rfl, _, r3, _⟩⟩ := h2
    · cases hg2
    · cases hg2
      rw [q3] at r3
      injection r3 with r3; injection r3 with _ r3
      exact hne r3
theorem Mp.blk {w w' : World} {B : Nat} {xs : List (List UInt8)} (h : Mp w B xs) (hk : w'.heap[B]? = w.heap[B]?) : Mp w' B xs := by
  obtain ⟨D, ⟨es, clock, h1, h2⟩, h3⟩ := h
  exact ⟨D, ⟨es, clock, by rw [hk]; exact h1, h2⟩, h3⟩
theorem Mp.lt {w : World} {B : Nat} {xs : List (List UInt8)} (h : Mp w B xs) : B < w.heap.size := by
  obtain ⟨D, ⟨es, clock, h1, h2⟩, h3⟩ := h
  exact (Array.getElem?_eq_some_iff.1 h1).1
theorem Mp.ne {w : World} {B : Nat} {xs : List (List UInt8)} (h : Mp w B xs) {p f : Nat} {u : Value} (hc : w.cell? ⟨p, f, none⟩ = some u) : p ≠ B := by
  obtain ⟨D, hown, _⟩ := h
  exact map_ne hown hc
theorem Mp.row {w : World} {B : Nat} {xs : List (List UInt8)} (h : Mp w B xs) {base : Nat} {e : TypeId} {sz : Nat} {v : Value} {n : Nat} {ys : List Value} (hr : w.ownsRow base e sz v n ys) : v.ownBlock ≠ some B := by
  intro hv
  obtain ⟨D, ⟨es, clock, hb, _⟩, _⟩ := h
  obtain ⟨_, ⟨rfl, _⟩ | ⟨g, cap, cur, rfl, _, h4, _⟩⟩ := hr
  · cases hv
  · simp [Value.ownBlock] at hv
    subst hv
    rw [hb] at h4; cases h4
/-- two rows that are no one's -/
def Sep (u v : Value) : Prop := ∀ g, u.ownBlock = some g → v.ownBlock ≠ some g
theorem Sep.symm {u v : Value} (h : Sep u v) : Sep v u := fun g h1 h2 => h g h2 h1
/-- add leaves another row of names as it was -/
theorem Rn.keep {w w' : World} {base p f f' : Nat} {v v' : Value} {B B' : Nat} {xs : List (List UInt8)} (h : Rn w base p f v B xs) (hp : p < base) (ha : Ad w w' p f' B' v') (h1 : f ≠ f') (h2 : f + 1 ≠ f') (hB : B ≠ B') (hs : Sep v v') (hv' : v'.ownBlock ≠ some B) (hv : v.ownBlock ≠ some B') : Rn w' base p f v B xs where
  c0 := (ha.cl f h1).trans h.c0
  c1 := (ha.cl (f + 1) h2).trans h.c1
  fz := (ha.fz f).trans h.fz
  row := row_block h.row fun g hg => ha.fr g (row_ge h.row hg).2 (fun e => by have := (row_ge h.row hg).1; omega) (fun e => hv (by rw [hg, e])) (hs g hg)
  mp := h.mp.blk (ha.fr B h.mp.lt (fun e => h.mp.ne h.c0 e.symm) hB hv')
/-- add, whether the name is there or not -/
theorem nadd_any (w : World) (base p f B : Nat) (v : Value) (xs : List (List UInt8)) (l : List UInt8) (hl : l.length ≤ 100000) (hx : xs.length ≤ 100000) (h : Rn w base p f v B xs) (hp : p < base) (hb : base ≤ w.heap.size) :
    Calls Tryz.prog 112 #[.pointer (some ⟨p, f, none⟩), sv l] w fun e w' => e = .returned (.tuple #[]) ∧ ∃ v', Rn w' base p f v' B (addU xs l) ∧ Ad w w' p f B v ∧ ∀ g, v'.ownBlock = some g → v.ownBlock = some g ∨ w.heap.size ≤ g := by
  unfold addU
  by_cases hm : l ∈ xs
  · rw [if_pos hm]
    refine (add_old w base p f B v xs l hl h hm).mono ?_
    rintro e w' ⟨rfl, rfl⟩
    exact ⟨rfl, v, h, ⟨rfl, rfl, rfl, Nat.le_refl _, fun _ _ _ _ _ => rfl, fun _ _ => rfl, fun _ => rfl⟩, fun g hg => .inl hg⟩
  · rw [if_neg hm]
    exact add_new w base p f B v xs l hl hx h hm (fun g hg e => by have := (row_ge h.row hg).1; omega) hb

/-- the blocks of a net -/
structure Nb where
  v0 : Value
  v1 : Value
  v3 : Value
  v5 : Value
  B2 : Nat
  B4 : Nat
  B6 : Nat
/-- a net in memory, at p -/
structure Nt (w : World) (base p : Nat) (N : Ns) (b : Nb) : Prop where
  c0 : w.cell? ⟨p, 0, none⟩ = some b.v0
  f0 : w.frozen? ⟨p, 0, none⟩ = false
  es : w.ownsRow base 96 8 b.v0 N.es.length (elCs N.es)
  nm : Rn w base p 1 b.v1 b.B2 N.nm
  nd : Rn w base p 3 b.v3 b.B4 N.nd
  br : Rn w base p 5 b.v5 b.B6 N.br
  lo : p < base
  hi : base ≤ w.heap.size
  m1 : b.B2 ≠ b.B4
  m2 : b.B2 ≠ b.B6
  m3 : b.B4 ≠ b.B6
  s1 : Sep b.v1 b.v3
  s2 : Sep b.v1 b.v5
  s3 : Sep b.v3 b.v5
theorem Nt.below {w w' : World} {base p : Nat} {N : Ns} {b : Nb} (h : Nt w base p N b) (hb : Below w.heap.size w w') : Nt w' base p N b := by
  have hp : p < w.heap.size := World.block_lt_of_cell? w _ h.c0
  have hR : ∀ {f v B xs}, Rn w base p f v B xs → Rn w' base p f v B xs := fun q => ⟨(hb.cell hp).trans q.c0, (hb.cell hp).trans q.c1, (World.frozen?_of_block (hb.block p hp)).trans q.fz, row_block q.row fun g hg => hb.block g (row_ge q.row hg).2, q.mp.blk (hb.block _ q.mp.lt)⟩
  exact ⟨(hb.cell hp).trans h.c0, (World.frozen?_of_block (hb.block p hp)).trans h.f0, row_block h.es fun g hg => hb.block g (row_ge h.es hg).2, hR h.nm, hR h.nd, hR h.br, h.lo, Nat.le_trans h.hi hb.size, h.m1, h.m2, h.m3, h.s1, h.s2, h.s3⟩
theorem ne_es : (96 : TypeId) ≠ 9 := by decide
theorem Nt.es_keep {w w' : World} {base p f' : Nat} {N : Ns} {b : Nb} {v' : Value} {B' : Nat} {xs : List (List UInt8)} (h : Nt w base p N b) (hr : Rn w base p f' v' B' xs) (ha : Ad w w' p f' B' v') : w'.ownsRow base 96 8 b.v0 N.es.length (elCs N.es) :=
  row_block h.es fun g hg => ha.fr g (row_ge h.es hg).2 (fun e => by have := (row_ge h.es hg).1; have := h.lo; omega) (fun e => hr.mp.row h.es (by rw [hg, e])) (row_type h.es hr.row ne_es hg)
theorem sep_new {u v v' : Value} {n : Nat} (h : Sep u v) (hv : ∀ g, v'.ownBlock = some g → v.ownBlock = some g ∨ n ≤ g) (hu : ∀ g, u.ownBlock = some g → g < n) : Sep u v' := by
  intro g h1 h2
  rcases hv g h2 with q | q
  · exact h g h1 q
  · have := hu g h1; omega
theorem Nt.addNm {w w' : World} {base p : Nat} {N : Ns} {b : Nb} {v' : Value} {xs : List (List UInt8)} (h : Nt w base p N b) (hr : Rn w' base p 1 v' b.B2 xs) (ha : Ad w w' p 1 b.B2 b.v1) (hv : ∀ g, v'.ownBlock = some g → b.v1.ownBlock = some g ∨ w.heap.size ≤ g) : Nt w' base p { N with nm := xs } { b with v1 := v' } where
  c0 := (ha.cl 0 (by decide)).trans h.c0
  f0 := (ha.fz 0).trans h.f0
  es := h.es_keep h.nm ha
  nm := hr
  nd := h.nd.keep h.lo ha (by decide) (by decide) (Ne.symm h.m1) h.s1.symm (h.nd.mp.row h.nm.row) (h.nm.mp.row h.nd.row)
  br := h.br.keep h.lo ha (by decide) (by decide) (Ne.symm h.m2) h.s2.symm (h.br.mp.row h.nm.row) (h.nm.mp.row h.br.row)
  lo := h.lo
  hi := Nat.le_trans h.hi ha.sz
  m1 := h.m1
  m2 := h.m2
  m3 := h.m3
  s1 := (sep_new h.s1.symm hv fun g hg => (row_ge h.nd.row hg).2).symm
  s2 := (sep_new h.s2.symm hv fun g hg => (row_ge h.br.row hg).2).symm
  s3 := h.s3
theorem Nt.addNd {w w' : World} {base p : Nat} {N : Ns} {b : Nb} {v' : Value} {xs : List (List UInt8)} (h : Nt w base p N b) (hr : Rn w' base p 3 v' b.B4 xs) (ha : Ad w w' p 3 b.B4 b.v3) (hv : ∀ g, v'.ownBlock = some g → b.v3.ownBlock = some g ∨ w.heap.size ≤ g) : Nt w' base p { N with nd := xs } { b with v3 := v' } where
  c0 := (ha.cl 0 (by decide)).trans h.c0
  f0 := (ha.fz 0).trans h.f0
  es := h.es_keep h.nd ha
  nm := h.nm.keep h.lo ha (by decide) (by decide) h.m1 h.s1 (h.nm.mp.row h.nd.row) (h.nd.mp.row h.nm.row)
  nd := hr
  br := h.br.keep h.lo ha (by decide) (by decide) (Ne.symm h.m3) h.s3.symm (h.br.mp.row h.nd.row) (h.nd.mp.row h.br.row)
  lo := h.lo
  hi := Nat.le_trans h.hi ha.sz
  m1 := h.m1
  m2 := h.m2
  m3 := h.m3
  s1 := sep_new h.s1 hv fun g hg => (row_ge h.nm.row hg).2
  s2 := h.s2
  s3 := (sep_new h.s3.symm hv fun g hg => (row_ge h.br.row hg).2).symm
theorem Nt.addBr {w w' : World} {base p : Nat} {N : Ns} {b : Nb} {v' : Value} {xs : List (List UInt8)} (h : Nt w base p N b) (hr : Rn w' base p 5 v' b.B6 xs) (ha : Ad w w' p 5 b.B6 b.v5) (hv : ∀ g, v'.ownBlock = some g → b.v5.ownBlock = some g ∨ w.heap.size ≤ g) : Nt w' base p { N with br := xs } { b with v5 := v' } where
  c0 := (ha.cl 0 (by decide)).trans h.c0
  f0 := (ha.fz 0).trans h.f0
  es := h.es_keep h.br ha
  nm := h.nm.keep h.lo ha (by decide) (by decide) h.m2 h.s2 (h.nm.mp.row h.br.row) (h.br.mp.row h.nm.row)
  nd := h.nd.keep h.lo ha (by decide) (by decide) h.m3 h.s3 (h.nd.mp.row h.br.row) (h.br.mp.row h.nd.row)
  br := hr
  lo := h.lo
  hi := Nat.le_trans h.hi ha.sz
  m1 := h.m1
  m2 := h.m2
  m3 := h.m3
  s1 := h.s1
  s2 := sep_new h.s2 hv fun g hg => (row_ge h.nm.row hg).2
  s3 := sep_new h.s3 hv fun g hg => (row_ge h.nd.row hg).2
/-- the list of elements anew: a row that has grown, its value stored -/
theorem Nt.addEs {w w1 : World} {base p : Nat} {N : Ns} {b : Nb} {v' : Value} {l : List Elm} (h : Nt w base p N b) (hg : w.grownBy w1 b.v0.ownBlock) (hr : w1.ownsRow base 96 8 v' l.length (elCs l)) (hv : ∀ g, v'.ownBlock = some g → b.v0.ownBlock = some g ∨ w.heap.size ≤ g) : Nt (w1.setCell ⟨p, 0, none⟩ v') base p { N with es := l } { b with v0 := v' } := by
  have hp : p < w.heap.size := World.block_lt_of_cell? w _ h.c0
  have hp0 : b.v0.ownBlock ≠ some p := fun e => by have := (row_ge h.es e).1; have := h.lo; omega
  have hk : ∀ k, k < w.heap.size → k ≠ p → b.v0.ownBlock ≠ some k → (w1.setCell ⟨p, 0, none⟩ v').heap[k]? = w.heap[k]? := fun k h1 h2 h3 => (heap_setCell_other w1 ⟨p, 0, none⟩ k v' (by simpa using h2)).trans (hg.block k h1 (fun e => h3 e.symm))
  have hpb : w1.heap[p]? = w.heap[p]? := hg.block p hp (fun e => hp0 e.symm)
  have hc : ∀ j, j ≠ 0 → (w1.setCell ⟨p, 0, none⟩ v').cell? ⟨p, j, none⟩ = w.cell? ⟨p, j, none⟩ := fun j hj => by
    rw [World.cell?_setCell_other _ _ _ _ (by intro e; cases e; exact hj rfl)]; exact World.cell?_of_block hpb
  have hz : ∀ j, (w1.setCell ⟨p, 0, none⟩ v').frozen? ⟨p, j, none⟩ = w.frozen? ⟨p, j, none⟩ := fun j => by
    rw [show (w1.setCell ⟨p, 0, none⟩ v').frozen? ⟨p, j, none⟩ = w1.frozen? ⟨p, j, none⟩ by simp]; exact World.frozen?_of_block hpb
  have hR : ∀ {f v B xs}, f ≠ 0 → Rn w base p f v B xs → Rn (w1.setCell ⟨p, 0, none⟩ v') base p f v B xs := fun hf q => ⟨(hc _ hf).trans q.c0, (hc _ (by omega)).trans q.c1, (hz _).trans q.fz, row_block q.row fun g hg2 => hk g (row_ge q.row hg2).2 (fun e => by have := (row_ge q.row hg2).1; have := h.lo; omega) (row_type q.row h.es (Ne.symm ne_es) hg2), q.mp.blk (hk _ q.mp.lt (fun e => q.mp.ne q.c0 e.symm) (q.mp.row h.es))⟩
  have hv1 : v'.ownBlock ≠ some p := fun e => by have := (row_ge hr e).1; have := h.lo; omega
  have hsz : w1.heap.size = (w1.setCell ⟨p, 0, none⟩ v').heap.size := by simp [World.setCell]
  exact ⟨World.cell?_setCell_same w1 _ _ ((World.cell?_of_block hpb).trans h.c0), (hz 0).trans h.f0, row_block hr fun g hg2 => heap_setCell_other w1 ⟨p, 0, none⟩ g v' (fun e => hv1 (by rw [hg2]; simpa using e)), hR (by decide) h.nm, hR (by decide) h.nd, hR (by decide) h.br, h.lo, by rw [← hsz]; exact Nat.le_trans h.hi hg.size, h.m1, h.m2, h.m3, h.s1, h.s2, h.s3⟩

end Go.Proofs.YtmpkcioeodlbcaaGreatDoor
