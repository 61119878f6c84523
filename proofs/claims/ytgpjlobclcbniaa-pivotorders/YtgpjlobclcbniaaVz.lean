/-
  Numbers as pairs of answers, lists of them: sums, products, conjugates, sizes; rows of complex numbers in memory; nothing of any program's text but the types' numbers.
-/
import Derived.Test.YtgpjlobclcbniaaPe
import Derived.Test.YtgpjlobclcbniaaPl
import Derived.Laws.AppendOwnNone
namespace Go.Proofs.Ytgpjlobclcbniaa
open Fl RowKit

@[go_sem] theorem run_store_complex {P : Program} (w : World) (a : Addr) (m : Mode) (k : FloatKind) (x y : Nat) : (store a (.complex k x y) m).run P w = stored P w a (.complex k x y) m := run_store P w a _ m rfl
abbrev Cn := Option Nat × Option Nat
abbrev Cw := Nat × Nat
def cx (z : Cw) : Value := .complex .f64 z.1 z.2
def anz (z : Cw) : Cn := (ans z.1, ans z.2)
def okz (z : Cw) : Prop := z.1 < 18446744073709551616 ∧ z.2 < 18446744073709551616
def repz (Z : Cn) (z : Cw) : Prop := rep Z.1 z.1 ∧ rep Z.2 z.2
theorem repz_anz {z : Cw} (h : okz z) : repz (anz z) z := ⟨rep_ans h.1, rep_ans h.2⟩
theorem repz.anz {Z : Cn} {z : Cw} (h : repz Z z) : anz z = Z := by
  cases Z
  exact Prod.ext h.1.2 h.2.2
theorem repz.ok {Z : Cn} {z : Cw} (h : repz Z z) : okz z := ⟨h.1.1, h.2.1⟩
def addZ (X Y : Cn) : Cn := (addA X.1 Y.1, addA X.2 Y.2)
def subZ (X Y : Cn) : Cn := (subA X.1 Y.1, subA X.2 Y.2)
def mulZ (X Y : Cn) : Cn := (mulRe X.1 X.2 Y.1 Y.2, mulIm X.1 X.2 Y.1 Y.2)
def conZ (X : Cn) : Cn := (X.1, negA X.2)
def sizZ (X : Cn) : Option Nat := addA (sizA X.1) (sizA X.2)
def zat (xs : List Cw) (k : Nat) : Cw := xs.getD k (0, 0)
def okl (xs : List Cw) : Prop := ∀ k, okz (zat xs k)
/-- what a list of answers sums to, by a function of each place -/
def sumZ (f : Nat → Cn) : Nat → Cn
  | 0 => (some 0, some 0)
  | k + 1 => addZ (sumZ f k) (f k)
def dotF (f : Cn → Cn → Cn) (xs ys : List Cw) (k : Nat) : Cn := f (anz (zat xs k)) (anz (zat ys k))
def nrm (xs : List Cw) : Nat → Option Nat
  | 0 => some 0
  | k + 1 => addA (nrm xs k) (sizZ (anz (zat xs k)))
def nmx (xs : List Cw) : Nat → Nat
  | 0 => 0
  | k + 1 => if ordA (sizZ (anz (zat xs k))) (some (nmx xs k)) == some .gt then (sizZ (anz (zat xs k))).getD 0 else nmx xs k
theorem sizZ_bd (X : Cn) : bdA (sizZ X) := bd_addA _ _
theorem nmx_ok (xs : List Cw) (k : Nat) : nmx xs k < 18446744073709551616 ∧ nan (nmx xs k) = false := by
  induction k with
  | zero => exact ⟨Nat.zero_lt_succ _, show nan 0 = false from by decide⟩
  | succ k ih =>
    unfold nmx
    split
    · cases h : sizZ (anz (zat xs k)) with
      | none => exact ⟨by decide, by decide⟩
      | some r => exact sizZ_bd _ r h
    · exact ih
/-- the code of what is wrong with two lists -/
def errV (a b : Nat) : Int := if 65536 < a ∨ 65536 < b then 3 else if a ≠ b then 4 else 0
theorem zat_lt {xs : List Cw} {k : Nat} (h : k < xs.length) : xs[k]? = some (zat xs k) := by simp [zat, List.getD_eq_getElem?_getD, h]
theorem zat_ge {xs : List Cw} {k : Nat} (h : xs.length ≤ k) : zat xs k = (0, 0) := by simp [zat, List.getD_eq_getElem?_getD, h]
/-- a list that is written place by place: those below k, then what was there -/
def repl (f : Nat → Cn) (k : Nat) (zs : List Cw) : Prop := ∀ j, j < k → repz (f j) (zat zs j)
theorem repl.okl {f : Nat → Cn} {zs : List Cw} (h : repl f zs.length zs) : okl zs := by
  intro k
  rcases Nat.lt_or_ge k zs.length with hk | hk
  · exact (h k hk).ok
  · rw [zat_ge hk]; exact ⟨by decide, by decide⟩
theorem repl.anz {f : Nat → Cn} {zs : List Cw} {n k : Nat} (h : repl f n zs) (hk : k < n) : anz (zat zs k) = f k := (h k hk).anz
theorem repl.set {f : Nat → Cn} {zs : List Cw} {k : Nat} (h : repl f k zs) (hk : k < zs.length) {r : Cw} (hr : repz (f k) r) : repl f (k + 1) (zs.set k r) := by
  intro j hj
  by_cases e : j = k
  · subst e
    have : zat (zs.set j r) j = r := by unfold zat; rw [List.getD_eq_getElem?_getD, List.getElem?_set_self hk]; rfl
    rw [this]; exact hr
  · have : zat (zs.set k r) j = zat zs j := by simp [zat, List.getD_eq_getElem?_getD, Ne.symm e]
    rw [this]; exact h j (by omega)
theorem repl.push {f : Nat → Cn} {zs : List Cw} (h : repl f zs.length zs) {r : Cw} (hr : repz (f zs.length) r) : repl f (zs.length + 1) (zs ++ [r]) := by
  intro j hj
  by_cases e : j = zs.length
  · subst e
    have : zat (zs ++ [r]) zs.length = r := by unfold zat; rw [List.getD_eq_getElem?_getD, List.getElem?_append_right (Nat.le_refl _)]; simp
    rw [this]; exact hr
  · have : zat (zs ++ [r]) j = zat zs j := by unfold zat; rw [List.getD_eq_getElem?_getD, List.getD_eq_getElem?_getD, List.getElem?_append_left (by omega)]
    rw [this]; exact h j (by omega)

/-- what a list of complex numbers in memory reads as -/
def Rc (w : World) (ao : Option Addr) (xs : List Cw) : Prop :=
  ∀ k, k < xs.length → ∃ b off, ao = some ⟨b, off, none⟩ ∧ b < w.heap.size ∧ w.cell? ⟨b, off + k, none⟩ = some (cx (zat xs k))
theorem Rc.below {w w' : World} {ao : Option Addr} {xs : List Cw} (h : Rc w ao xs) (hb : Below w.heap.size w w') : Rc w' ao xs := by
  intro k hk
  obtain ⟨b, off, h1, h2, h3⟩ := h k hk
  exact ⟨b, off, h1, Nat.lt_of_lt_of_le h2 hb.size, (hb.cell (by exact h2)).trans h3⟩
theorem Rc.drewN {w : World} {ao : Option Addr} {xs : List Cw} (h : Rc w ao xs) (n : Nat) : Rc (w.drewN n) ao xs := h
theorem Rc.nil (w : World) (ao : Option Addr) : Rc w ao [] := fun _ hk => absurd hk (Nat.not_lt_zero _)
theorem ownsRow_drewN {w : World} {base e size n : Nat} {v : Value} {xs : List Value} (h : w.ownsRow base e size v n xs) (m : Nat) : (w.drewN m).ownsRow base e size v n xs := h
theorem Try.infoC : (Try.prog.info? 55).map (fun i => (i.zero, i.size, i.bytes)) = some (some (.complex .f64 0 0), 1, 16) := by kernel_rfl
theorem made_zeroC (n : Nat) : (madeCells (Value.complex .f64 0 0).cells (n * 1)).toList = (List.replicate n ((0, 0) : Cw)).map cx := by
  apply List.ext_getElem?
  intro i
  simp only [madeCells, Array.toList_map, List.getElem?_map, Array.toList_range, Nat.mul_one, List.getElem?_replicate]
  by_cases h : i < n
  · simp [h, Value.cells, Nat.mod_one, cx]
  · simp [h]
theorem own_rc {w : World} {base n : Nat} {v : Value} {xs : List Cw} (hn : n = xs.length) (h : w.ownsRow base 55 1 v n (xs.map cx)) :
    ∃ ao cap, v = .slice ao xs.length cap ∧ xs.length ≤ cap ∧ (xs.length = 0 ∧ ao = none ∧ cap = 0 ∨ ∃ g, ao = some ⟨g, 0, none⟩ ∧ base ≤ g) ∧ Rc w ao xs := by
  subst hn
  rcases h.2 with ⟨hv, h0⟩ | ⟨g, cap, cur, hv, hb, hg, hnc, _, _, htake⟩
  · refine ⟨none, 0, by rw [hv, h0], by omega, .inl ⟨h0, rfl, rfl⟩, fun k hk => by omega⟩
  · refine ⟨some ⟨g, 0, none⟩, cap, hv, hnc, .inr ⟨g, rfl, hb⟩, fun k hk => ⟨g, 0, rfl, (Array.getElem?_eq_some_iff.1 hg).1, ?_⟩⟩
    subst hv
    rw [Nat.zero_add, h.cellAt k (by omega), List.getElem?_map, zat_lt hk]; rfl
theorem own_ge {w : World} {base e size n k : Nat} {v : Value} {xs : List Value} (h : w.ownsRow base e size v n xs) (hk : v.ownBlock = some k) : base ≤ k := by
  rcases h.2 with ⟨hv, _⟩ | ⟨g, cap, cur, hv, hb, _⟩
  · subst hv; simp [Value.ownBlock] at hk
  · subst hv; simp [Value.ownBlock] at hk; omega
theorem own_at {w w' : World} {base e size n : Nat} {v : Value} {xs : List Value} (h : w.ownsRow base e size v n xs) (hk : ∀ g, v.ownBlock = some g → w'.heap[g]? = w.heap[g]?) : w'.ownsRow base e size v n xs := by
  refine ⟨h.1, ?_⟩
  rcases h.2 with h1 | ⟨g, cap, cur, hv, hb, hg, rest⟩
  · exact .inl h1
  · exact .inr ⟨g, cap, cur, hv, hb, by rw [hk g (by subst hv; rfl)]; exact hg, rest⟩
theorem own_base {w : World} {base base' e size n : Nat} {v : Value} {xs : List Value} (h : w.ownsRow base e size v n xs) (hb : base' ≤ base) : w.ownsRow base' e size v n xs := by
  refine ⟨h.1, ?_⟩
  rcases h.2 with h1 | ⟨g, cap, cur, hv, hg, rest⟩
  · exact .inl h1
  · exact .inr ⟨g, cap, cur, hv, Nat.le_trans hb hg, rest⟩
theorem own_below {w w' : World} {base e size n : Nat} {v : Value} {xs : List Value} (h : w.ownsRow base e size v n xs) (hb : Below w.heap.size w w') : w'.ownsRow base e size v n xs :=
  own_at h (fun g hg => hb.block g (h.lt g hg).2)
theorem own_shape {w : World} {base e n : Nat} {v : Value} {xs : List Value} (h : w.ownsRow base e 1 v n xs) (hn : 0 < n) : ∃ g c, v = .slice (some ⟨g, 0, none⟩) n c ∧ base ≤ g ∧ n ≤ c ∧ c ≤ maxLen := by
  rcases h.2 with ⟨_, h1⟩ | ⟨g, cap, cur, hv, hg, _, h2, h3, _⟩
  · omega
  · exact ⟨g, cap, hv, hg, h2, h3⟩
/-- a list of complex numbers that is new: it lies from block base on, and holds what f says -/
structure New (base : Nat) (f : Nat → Cn) (n : Nat) (zs : List Cw) (v : Value) (w : World) : Prop where
  len : zs.length = n
  rep : repl f n zs
  own : w.ownsRow base 55 1 v n (zs.map cx)
theorem New.below {base n : Nat} {f : Nat → Cn} {zs : List Cw} {v : Value} {w w' : World} (h : New base f n zs v w) (hb : Below w.heap.size w w') : New base f n zs v w' := ⟨h.len, h.rep, own_below h.own hb⟩
theorem New.okl {base n : Nat} {f : Nat → Cn} {zs : List Cw} {v : Value} {w : World} (h : New base f n zs v w) : okl zs := by
  obtain ⟨rfl, h2, _⟩ := h
  exact h2.okl

end Go.Proofs.Ytgpjlobclcbniaa
