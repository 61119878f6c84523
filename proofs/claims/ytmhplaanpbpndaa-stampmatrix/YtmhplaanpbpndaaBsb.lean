/-
  Several texts in one: Vz Va Vb Vc Vd Ve Vf Vg Vh Vk Vw Vm Vn Vl WVMirror Vp Vq Vr WVMirrorE Vt.
-/
import Derived.Test.YtmhplaanpbpndaaBsa
import Derived.Laws.AppendOwnNone
import Derived.Deep.RegionHeldLaw
import Derived.Deep.AppendLies
import Derived.BigQuiet
import Derived.Laws.AppendOwn
import Derived.Laws.OwnMore
import Derived.Maps.AppendAt
import Derived.Maps.Range
import Derived.Deep.RegionWith
namespace Go.Proofs.Ytmhplaanpbpndaa
open Fl RowKit

@[go_sem] theorem run_store_complex {P : Program} (w : World) (a : Addr) (m : Mode) (k : FloatKind) (x y : Nat) : (store a (.complex k x y) m).run P w = stored P w a (.complex k x y) m := run_store P w a _ m rfl
abbrev Cn := Option Nat × Option Nat
abbrev Cw := Nat × Nat
def cx (z : Cw) : Value := .complex .f64 z.1 z.2
def anz (z : Cw) : Cn := (ans z.1, ans z.2)
def okz (z : Cw) : Prop := z.1 < 18446744073709551616 ∧ z.2 < 18446744073709551616
def repz (Z : Cn) (z : Cw) : Prop := rep Z.1 z.1 ∧ rep Z.2 z.2
theorem repz_anz {z : Cw} (h : okz z) : repz (anz z) z := ⟨rep_ans h.1, rep_ans h.2⟩
theorem repz.anz {Z : Cn} {z : Cw} (h : repz Z z) : anz z = Z := by
  cases Z
  exact Prod.ext h.1.2 h.2.2
theorem repz.ok {Z : Cn} {z : Cw} (h : repz Z z) : okz z := ⟨h.1.1, h.2.1⟩
def addZ (X Y : Cn) : Cn := (addA X.1 Y.1, addA X.2 Y.2)
def subZ (X Y : Cn) : Cn := (subA X.1 Y.1, subA X.2 Y.2)
def mulZ (X Y : Cn) : Cn := (mulRe X.1 X.2 Y.1 Y.2, mulIm X.1 X.2 Y.1 Y.2)
def conZ (X : Cn) : Cn := (X.1, negA X.2)
def sizZ (X : Cn) : Option Nat := addA (sizA X.1) (sizA X.2)
def zat (xs : List Cw) (k : Nat) : Cw := xs.getD k (0, 0)
def okl (xs : List Cw) : Prop := ∀ k, okz (zat xs k)
/-- what a list of answers sums to, by a function of each place -/
def sumZ (f : Nat → Cn) : Nat → Cn
  | 0 => (some 0, some 0)
  | k + 1 => addZ (sumZ f k) (f k)
def dotF (f : Cn → Cn → Cn) (xs ys : List Cw) (k : Nat) : Cn := f (anz (zat xs k)) (anz (zat ys k))
def nrm (xs : List Cw) : Nat → Option Nat
  | 0 => some 0
  | k + 1 => addA (nrm xs k) (sizZ (anz (zat xs k)))
def nmx (xs : List Cw) : Nat → Nat
  | 0 => 0
  | k + 1 => if ordA (sizZ (anz (zat xs k))) (some (nmx xs k)) == some .gt then (sizZ (anz (zat xs k))).getD 0 else nmx xs k
theorem sizZ_bd (X : Cn) : bdA (sizZ X) := bd_addA _ _
theorem nmx_ok (xs : List Cw) (k : Nat) : nmx xs k < 18446744073709551616 ∧ nan (nmx xs k) = false := by
  induction k with
  | zero => exact ⟨Nat.zero_lt_succ _, show nan 0 = false from by decide⟩
  | succ k ih =>
    unfold nmx
    split
    · cases h : sizZ (anz (zat xs k)) with
      | none => exact ⟨by decide, by decide⟩
      | some r => exact sizZ_bd _ r h
    · exact ih
/-- the code of what is wrong with two lists -/
def errV (a b : Nat) : Int := if 65536 < a ∨ 65536 < b then 3 else if a ≠ b then 4 else 0
theorem zat_lt {xs : List Cw} {k : Nat} (h : k < xs.length) : xs[k]? = some (zat xs k) := by simp [zat, List.getD_eq_getElem?_getD, h]
theorem zat_ge {xs : List Cw} {k : Nat} (h : xs.length ≤ k) : zat xs k = (0, 0) := by simp [zat, List.getD_eq_getElem?_getD, h]
/-- a list that is written place by place: those below k, then what was there -/
def repl (f : Nat → Cn) (k : Nat) (zs : List Cw) : Prop := ∀ j, j < k → repz (f j) (zat zs j)
theorem repl.okl {f : Nat → Cn} {zs : List Cw} (h : repl f zs.length zs) : okl zs := by
  intro k
  rcases Nat.lt_or_ge k zs.length with hk | hk
  · exact (h k hk).ok
  · rw [zat_ge hk]; exact ⟨by decide, by decide⟩
theorem repl.anz {f : Nat → Cn} {zs : List Cw} {n k : Nat} (h : repl f n zs) (hk : k < n) : anz (zat zs k) = f k := (h k hk).anz
theorem repl.set {f : Nat → Cn} {zs : List Cw} {k : Nat} (h : repl f k zs) (hk : k < zs.length) {r : Cw} (hr : repz (f k) r) : repl f (k + 1) (zs.set k r) := by
  intro j hj
  by_cases e : j = k
  · subst e
    have : zat (zs.set j r) j = r := by unfold zat; rw [List.getD_eq_getElem?_getD, List.getElem?_set_self hk]; rfl
    rw [this]; exact hr
  · have : zat (zs.set k r) j = zat zs j := by simp [zat, List.getD_eq_getElem?_getD, Ne.symm e]
    rw [this]; exact h j (by omega)
theorem repl.push {f : Nat → Cn} {zs : List Cw} (h : repl f zs.length zs) {r : Cw} (hr : repz (f zs.length) r) : repl f (zs.length + 1) (zs ++ [r]) := by
  intro j hj
  by_cases e : j = zs.length
  · subst e
    have : zat (zs ++ [r]) zs.length = r := by unfold zat; rw [List.getD_eq_getElem?_getD, List.getElem?_append_right (Nat.le_refl _)]; simp
    rw [this]; exact hr
  · have : zat (zs ++ [r]) j = zat zs j := by unfold zat; rw [List.getD_eq_getElem?_getD, List.getD_eq_getElem?_getD, List.getElem?_append_left (by omega)]
    rw [this]; exact h j (by omega)

/-- what a list of complex numbers in memory reads as -/
def Rc (w : World) (ao : Option Addr) (xs : List Cw) : Prop :=
  ∀ k, k < xs.length → ∃ b off, ao = some ⟨b, off, none⟩ ∧ b < w.heap.size ∧ w.cell? ⟨b, off + k, none⟩ = some (cx (zat xs k))
theorem Rc.below {w w' : World} {ao : Option Addr} {xs : List Cw} (h : Rc w ao xs) (hb : Below w.heap.size w w') : Rc w' ao xs := by
  intro k hk
  obtain ⟨b, off, h1, h2, h3⟩ := h k hk
  exact ⟨b, off, h1, Nat.lt_of_lt_of_le h2 hb.size, (hb.cell (by exact h2)).trans h3⟩
theorem Rc.drewN {w : World} {ao : Option Addr} {xs : List Cw} (h : Rc w ao xs) (n : Nat) : Rc (w.drewN n) ao xs := h
theorem Rc.nil (w : World) (ao : Option Addr) : Rc w ao [] := fun _ hk => absurd hk (Nat.not_lt_zero _)
theorem ownsRow_drewN {w : World} {base e size n : Nat} {v : Value} {xs : List Value} (h : w.ownsRow base e size v n xs) (m : Nat) : (w.drewN m).ownsRow base e size v n xs := h
theorem Try.infoC : (Try.prog.info? 75).map (fun i => (i.zero, i.size, i.bytes)) = some (some (.complex .f64 0 0), 1, 16) := by kernel_rfl
theorem made_zeroC (n : Nat) : (madeCells (Value.complex .f64 0 0).cells (n * 1)).toList = (List.replicate n ((0, 0) : Cw)).map cx := by
  apply List.ext_getElem?
  intro i
  simp only [madeCells, Array.toList_map, List.getElem?_map, Array.toList_range, Nat.mul_one, List.getElem?_replicate]
  by_cases h : i < n
  · simp [h, Value.cells, Nat.mod_one, cx]
  · simp [h]
theorem own_rc {w : World} {base n : Nat} {v : Value} {xs : List Cw} (hn : n = xs.length) (h : w.ownsRow base 75 1 v n (xs.map cx)) :
    ∃ ao cap, v = .slice ao xs.length cap ∧ xs.length ≤ cap ∧ (xs.length = 0 ∧ ao = none ∧ cap = 0 ∨ ∃ g, ao = some ⟨g, 0, none⟩ ∧ base ≤ g) ∧ Rc w ao xs := by
  subst hn
  rcases h.2 with ⟨hv, h0⟩ | ⟨g, cap, cur, hv, hb, hg, hnc, _, _, htake⟩
  · refine ⟨none, 0, by rw [hv, h0], by omega, .inl ⟨h0, rfl, rfl⟩, fun k hk => by omega⟩
  · refine ⟨some ⟨g, 0, none⟩, cap, hv, hnc, .inr ⟨g, rfl, hb⟩, fun k hk => ⟨g, 0, rfl, (Array.getElem?_eq_some_iff.1 hg).1, ?_⟩⟩
    subst hv
    rw [Nat.zero_add, h.cellAt k (by omega), List.getElem?_map, zat_lt hk]; rfl
theorem own_ge {w : World} {base e size n k : Nat} {v : Value} {xs : List Value} (h : w.ownsRow base e size v n xs) (hk : v.ownBlock = some k) : base ≤ k := by
  rcases h.2 with ⟨hv, _⟩ | ⟨g, cap, cur, hv, hb, _⟩
  · subst hv; simp [Value.ownBlock] at hk
  · subst hv; simp [Value.ownBlock] at hk; omega
theorem own_at {w w' : World} {base e size n : Nat} {v : Value} {xs : List Value} (h : w.ownsRow base e size v n xs) (hk : ∀ g, v.ownBlock = some g → w'.heap[g]? = w.heap[g]?) : w'.ownsRow base e size v n xs := by
  refine ⟨h.1, ?_⟩
  rcases h.2 with h1 | ⟨g, cap, cur, hv, hb, hg, rest⟩
  · exact .inl h1
  · exact .inr ⟨g, cap, cur, hv, hb, by rw [hk g (by subst hv; rfl)]; exact hg, rest⟩
theorem own_base {w : World} {base base' e size n : Nat} {v : Value} {xs : List Value} (h : w.ownsRow base e size v n xs) (hb : base' ≤ base) : w.ownsRow base' e size v n xs := by
  refine ⟨h.1, ?_⟩
  rcases h.2 with h1 | ⟨g, cap, cur, hv, hg, rest⟩
  · exact .inl h1
  · exact .inr ⟨g, cap, cur, hv, Nat.le_trans hb hg, rest⟩
theorem own_below {w w' : World} {base e size n : Nat} {v : Value} {xs : List Value} (h : w.ownsRow base e size v n xs) (hb : Below w.heap.size w w') : w'.ownsRow base e size v n xs :=
  own_at h (fun g hg => hb.block g (h.lt g hg).2)
theorem own_shape {w : World} {base e n : Nat} {v : Value} {xs : List Value} (h : w.ownsRow base e 1 v n xs) (hn : 0 < n) : ∃ g c, v = .slice (some ⟨g, 0, none⟩) n c ∧ base ≤ g ∧ n ≤ c ∧ c ≤ maxLen := by
  rcases h.2 with ⟨_, h1⟩ | ⟨g, cap, cur, hv, hg, _, h2, h3, _⟩
  · omega
  · exact ⟨g, cap, hv, hg, h2, h3⟩
/-- a list of complex numbers that is new: it lies from block base on, and holds what f says -/
structure New (base : Nat) (f : Nat → Cn) (n : Nat) (zs : List Cw) (v : Value) (w : World) : Prop where
  len : zs.length = n
  rep : repl f n zs
  own : w.ownsRow base 75 1 v n (zs.map cx)
theorem New.below {base n : Nat} {f : Nat → Cn} {zs : List Cw} {v : Value} {w w' : World} (h : New base f n zs v w) (hb : Below w.heap.size w w') : New base f n zs v w' := ⟨h.len, h.rep, own_below h.own hb⟩
theorem New.okl {base n : Nat} {f : Nat → Cn} {zs : List Cw} {v : Value} {w : World} (h : New base f n zs v w) : okl zs := by
  obtain ⟨rfl, h2, _⟩ := h
  exact h2.okl

end Go.Proofs.Ytmhplaanpbpndaa

namespace Go.Proofs.Ytmhplaanpbpndaa
open Fl RowKit

/-- a function with a body is entered -/
def Ent (F : FuncId) : Prop := ∀ (args : Array Value) (w : World), (callFunc F args).run Try.prog w = .ok (.enter F args) w
/-- what a function value of one number says, in all worlds from w on -/
def Says1 (w : World) (F : FuncId) (caps : Array Value) (f : Cn → Cn) : Prop :=
  ∀ (p : Cw) (W : World), Below w.heap.size w W → okz p → Calls Try.prog F (#[cx p] ++ caps) W fun e W' => ∃ (r : Cw) (m : Nat), e = .returned (cx r) ∧ repz (f (anz p)) r ∧ W' = W.drewN m
def Says2 (w : World) (F : FuncId) (caps : Array Value) (f : Cn → Cn → Cn) : Prop :=
  ∀ (p q : Cw) (W : World), Below w.heap.size w W → okz p → okz q → Calls Try.prog F (#[cx p, cx q] ++ caps) W fun e W' => ∃ (r : Cw) (m : Nat), e = .returned (cx r) ∧ repz (f (anz p) (anz q)) r ∧ W' = W.drewN m

end Go.Proofs.Ytmhplaanpbpndaa

namespace Go.Proofs.Ytmhplaanpbpndaa
open Fl RowKit

theorem errV_0 {n : Nat} (h : n ≤ 65536) : errV n n = 0 := by unfold errV; rw [if_neg (by omega), if_neg (by omega)]
theorem errV_ok {a b : Nat} (h : errV a b = 0) : a = b ∧ a ≤ 65536 := by
  unfold errV at h
  by_cases h1 : 65536 < a ∨ 65536 < b
  · rw [if_pos h1] at h; omega
  · rw [if_neg h1] at h
    by_cases h2 : a = b
    · exact ⟨h2, by omega⟩
    · rw [if_pos h2] at h; omega
end Go.Proofs.Ytmhplaanpbpndaa

namespace Go.Proofs.Ytmhplaanpbpndaa
open Fl RowKit

theorem new_cell (w : World) (n : Nat) (v : Value) (t : TypeId) : ((w.drewN n).alloc (.cells #[v] t)).cell? ⟨w.heap.size, 0, none⟩ = some v := by
  rw [cell_of_row _ w.heap.size 0 _ t (0, 0) (heap_alloc_new (w.drewN n) _)]; rfl
theorem push_own {w : World} {base n : Nat} {v : Value} {zs : List Cw} {r : Cw} (h : w.ownsRow base 75 1 v n (zs.map cx ++ [.complex .f64 r.1 r.2])) : w.ownsRow base 75 1 v n ((zs ++ [r]).map cx) := by
  rw [List.map_append]; exact h
theorem repl_push {f : Nat → Cn} {zs : List Cw} {k : Nat} (hk : zs.length = k) (h : repl f k zs) {r : Cw} (hr : repz (f k) r) : repl f (k + 1) (zs ++ [r]) := by
  subst hk; exact h.push hr

end Go.Proofs.Ytmhplaanpbpndaa

namespace Go.Proofs.Ytmhplaanpbpndaa
open Fl RowKit

end Go.Proofs.Ytmhplaanpbpndaa

namespace Go.Proofs.Ytmhplaanpbpndaa
open Fl RowKit

def innZ (X Y : Cn) : Cn := mulZ (conZ X) Y
end Go.Proofs.Ytmhplaanpbpndaa

namespace Go.Proofs.Ytmhplaanpbpndaa
open Fl RowKit

end Go.Proofs.Ytmhplaanpbpndaa

namespace Go.Proofs.Ytmhplaanpbpndaa
open Fl RowKit

theorem rep_twin {O : Option Nat} {r r2 s : Nat} (h : rep O r) (h2 : rep O r2) (hg : (FloatKind.f64.format.order r s == some .gt) = true) : r = r2 := by
  obtain ⟨h3, h4⟩ := same_of h h2
  refine h4 ?_
  cases hn : nan r
  · rfl
  · rw [f64_double, order_eq, hn] at hg; cases hg
theorem nmx_step (xs : List Cw) (k : Nat) (hs : rep (some (nmx xs k)) (nmx xs k)) (r : Nat) (hr : rep (sizZ (anz (zat xs k))) r) : nmx xs (k + 1) = if FloatKind.f64.format.order r (nmx xs k) == some .gt then r else nmx xs k := by
  rw [ordA_of hr hs]
  show (if ordA (sizZ (anz (zat xs k))) (some (nmx xs k)) == some .gt then (sizZ (anz (zat xs k))).getD 0 else nmx xs k) = _
  cases h : (ordA (sizZ (anz (zat xs k))) (some (nmx xs k)) == some .gt)
  · rfl
  · simp only [if_true]
    cases h2 : sizZ (anz (zat xs k)) with
    | none => rw [h2] at h; cases h
    | some c => rw [rep_is hr h2]; rfl
end Go.Proofs.Ytmhplaanpbpndaa

namespace Go.Proofs.Ytmhplaanpbpndaa
open Fl RowKit

theorem size_al (w : World) (o : Obj) : (w.alloc o).heap.size = w.heap.size + 1 := by simp
theorem ent_add : Ent 94 := fun _ _ => by go_simp
theorem ent_sub : Ent 95 := fun _ _ => by go_simp
theorem says_add (w : World) : Says2 w 94 #[] addZ := fun _ _ W _ hp hq => (add_any W (rep_ans hp.1) (rep_ans hp.2) (rep_ans hq.1) (rep_ans hq.2)).mono (by rintro e w' ⟨re, im, n, rfl, h1, h2, rfl⟩; exact ⟨(re, im), n, rfl, ⟨h1, h2⟩, rfl⟩)
theorem says_sub (w : World) : Says2 w 95 #[] subZ := fun _ _ W _ hp hq => (sub_any W (rep_ans hp.1) (rep_ans hp.2) (rep_ans hq.1) (rep_ans hq.2)).mono (by rintro e w' ⟨re, im, n, rfl, h1, h2, rfl⟩; exact ⟨(re, im), n, rfl, ⟨h1, h2⟩, rfl⟩)
section two
variable (ao bo : Option Addr) (ca cb : Nat) (xs ys : List Cw) (w : World) (hl : ys.length = xs.length) (hm : xs.length ≤ 65536) (hc : Rc w ao xs) (hd : Rc w bo ys) (hx : okl xs) (hy : okl ys)
include hl hm hc hd hx hy
end two
section err
variable (ao bo : Option Addr) (na nb ca cb : Nat) (w : World) (ha : na ≤ 1000000000000000) (hb : nb ≤ 1000000000000000) (he : ¬ errV na nb = 0)
include ha hb he
end err
section one
variable (ao : Option Addr) (cap : Nat) (xs : List Cw) (w : World) (hsz : xs.length * 16 ≤ 140737488355328) (hc : Rc w ao xs) (hx : okl xs)
include hsz hc hx
end one

end Go.Proofs.Ytmhplaanpbpndaa

namespace Go.Proofs.Ytmhplaanpbpndaa
open Fl RowKit

theorem ksameR_any (a b : Nat) (w : World) : Calls Try.prog 64 #[.float .f64 a, .float .f64 b] w fun e w' => e = .returned (.bool (smB a b)) ∧ w' = w := by
  by_cases hab : a = b
  · subst hab
    rw [smB_self]
    go_enter Try.func64, Try.ntmps64
    go_wp2
    go_ret
    exact ⟨rfl, rfl⟩
  · have hne : ¬ ((a : Int) = (b : Int)) := by omega
    have hnb : (a == b) = false := beq_false_of_ne hab
    cases ha : nan a <;> cases hb : nan b
    all_goals
      first | (have h1 := order_num ha) | (have h1 := order_nan ha)
      first | (have h2 := order_num hb) | (have h2 := order_nan hb)
      go_enter Try.func64, Try.ntmps64
      go_wp2
      go_ret
      refine ⟨retb ?_, rfl⟩
      simp [smB, ha, hb, hnb]
      try exact hne
theorem ksame_any (a b c d : Nat) (w : World) : Calls Try.prog 36 #[.complex .f64 a b, .complex .f64 c d] w fun e w' => e = .returned (.bool (smB a c && smB b d)) ∧ w' = w := by
  cases h1 : smB a c <;> cases h2 : smB b d
  all_goals
    go_enter Try.func36, Try.ntmps36
    go_wp2_with (first | (go_at_call 64; refine (ksameR_any _ _ _).mono ?_; rintro e w' ⟨rfl, rfl⟩))
    go_ret
    exact ⟨rfl, rfl⟩
def finZ (z : Cw) : Bool := finB z.1 && finB z.2
/-- are the first k numbers finite? -/
def finL (xs : List Cw) : Nat → Bool
  | 0 => true
  | k + 1 => finL xs k && finZ (zat xs k)
theorem finL_at {xs : List Cw} {n : Nat} (h : finL xs n = true) : ∀ j, j < n → finZ (zat xs j) = true := by
  induction n with
  | zero => intro j hj; omega
  | succ n ih =>
    unfold finL at h
    rw [Bool.and_eq_true] at h
    intro j hj
    by_cases e : j = n
    · subst e; exact h.2
    · exact ih h.1 j (by omega)
theorem finL_lt {xs : List Cw} {k : Nat} (hf : finZ (zat xs k) = false) : ∀ n, k < n → finL xs n = false := by
  intro n
  induction n with
  | zero => intro _; omega
  | succ n ih =>
    intro hk
    unfold finL
    by_cases e : k = n
    · subst e; rw [hf, Bool.and_false]
    · rw [ih (by omega), Bool.false_and]
set_option maxHeartbeats 1000000 in
theorem ksameL_yes (ao bo : Option Addr) (ca cb : Nat) (xs ys : List Cw) (w : World) (hsz : xs.length * 16 ≤ 140737488355328) (hl : ys.length = xs.length) (hc : Rc w ao xs) (hd : Rc w bo ys)
    (hs : ∀ k, k < xs.length → smB (zat xs k).1 (zat ys k).1 = true ∧ smB (zat xs k).2 (zat ys k).2 = true) :
    Calls Try.prog 33 #[.slice ao xs.length ca, .slice bo xs.length cb] w fun e w' => ∃ n, e = .returned (.bool true) ∧ w' = w.drewN n := by
  go_enter Try.func33, Try.ntmps33
  go_wp2
  go_loopw [5] (fun i wr => ∃ (k n : Nat), k ≤ xs.length ∧ i = .int .i64 k ∧ wr = w.drewN n) (fun i _ => xs.length - (intOf i).toNat)
  case atStart => exact ⟨0, 0, Nat.zero_le _, rfl, rfl⟩
  case round =>
    obtain ⟨k, n, hk, rfl, hw⟩ := hrel
    have HW : Hid (wr = w.drewN n) := hw
    by_cases hlt : k < xs.length
    · obtain ⟨b, off, rfl, hb, hcx⟩ := hc.drewN n k hlt
      obtain ⟨b2, off2, rfl, hb2, hcy⟩ := hd.drewN n k (by omega)
      rw [← hw] at hb hcx hb2 hcy
      obtain ⟨k1, k2⟩ := hs k hlt
      obtain ⟨x, hxe⟩ : ∃ x, x = zat xs k := ⟨_, rfl⟩
      obtain ⟨y, hye⟩ : ∃ y, y = zat ys k := ⟨_, rfl⟩
      rw [← hxe] at hcx k1 k2
      rw [← hye] at hcy k1 k2
      unfold cx at hcx hcy
      have hsm := fun W => ksame_any x.1 x.2 y.1 y.2 W
      rw [k1, k2] at hsm
      clear hxe hye hc hd hs hw k1 k2
      go_wp2
      go_big_quiet (first | (go_at_call 36; (with_reducible exact Calls.quiet_of_same (hsm _))))
      go_wp2
      go_roundw
      case rel => exact ⟨k + 1, n + nq, by omega, by go_num, by rw [HW.out, World.drewN_drewN]⟩
      case measure => simp [intOf]; omega
    · clear hc hd hs hw
      go_wp2
      go_ret
      exact ⟨_, rfl, HW.out⟩

end Go.Proofs.Ytmhplaanpbpndaa

namespace Go.Proofs.Ytmhplaanpbpndaa
open Fl RowKit

theorem rc1 {w : World} {B : Nat} {a : Cw} (h0 : w.cell? ⟨B, 0, none⟩ = some (.complex .f64 a.1 a.2)) (hB : B < w.heap.size) : Rc w (some ⟨B, 0, none⟩) [a] := by
  intro k hk
  refine ⟨B, 0, rfl, hB, ?_⟩
  match k, hk with
  | 0, _ => exact h0
theorem rc2 {w : World} {B : Nat} {a b : Cw} (h0 : w.cell? ⟨B, 0, none⟩ = some (.complex .f64 a.1 a.2)) (h1 : w.cell? ⟨B, 1, none⟩ = some (.complex .f64 b.1 b.2)) (hB : B < w.heap.size) : Rc w (some ⟨B, 0, none⟩) [a, b] := by
  intro k hk
  refine ⟨B, 0, rfl, hB, ?_⟩
  match k, hk with
  | 0, _ => exact h0
  | 1, _ => exact h1
theorem rc3 {w : World} {B : Nat} {a b c : Cw} (h0 : w.cell? ⟨B, 0, none⟩ = some (.complex .f64 a.1 a.2)) (h1 : w.cell? ⟨B, 1, none⟩ = some (.complex .f64 b.1 b.2)) (h2 : w.cell? ⟨B, 2, none⟩ = some (.complex .f64 c.1 c.2)) (hB : B < w.heap.size) : Rc w (some ⟨B, 0, none⟩) [a, b, c] := by
  intro k hk
  refine ⟨B, 0, rfl, hB, ?_⟩
  match k, hk with
  | 0, _ => exact h0
  | 1, _ => exact h1
  | 2, _ => exact h2
theorem al_at (W : World) (cs : Array Value) (t : TypeId) (B k : Nat) (hB : W.heap.size = B) : (W.alloc (.cells cs t)).cell? ⟨B, k, none⟩ = cs[k]? := by
  subst hB
  rw [cell_of_row _ W.heap.size k _ t (0, 0) (heap_alloc_new W _)]
theorem al_rc1 (W : World) (a : Cw) (t : TypeId) (B : Nat) (hB : W.heap.size = B) : Rc (W.alloc (.cells #[.complex .f64 a.1 a.2] t)) (some ⟨B, 0, none⟩) [a] :=
  rc1 (al_at W _ t B 0 hB) (by rw [size_al]; omega)
theorem al_rc2 (W : World) (a b : Cw) (t : TypeId) (B : Nat) (hB : W.heap.size = B) : Rc (W.alloc (.cells #[.complex .f64 a.1 a.2, .complex .f64 b.1 b.2] t)) (some ⟨B, 0, none⟩) [a, b] :=
  rc2 (al_at W _ t B 0 hB) (al_at W _ t B 1 hB) (by rw [size_al]; omega)
theorem al_rc3 (W : World) (a b c : Cw) (t : TypeId) (B : Nat) (hB : W.heap.size = B) : Rc (W.alloc (.cells #[.complex .f64 a.1 a.2, .complex .f64 b.1 b.2, .complex .f64 c.1 c.2] t)) (some ⟨B, 0, none⟩) [a, b, c] :=
  rc3 (al_at W _ t B 0 hB) (al_at W _ t B 1 hB) (al_at W _ t B 2 hB) (by rw [size_al]; omega)
theorem okl_nil : okl [] := fun k => by rw [zat_ge (Nat.zero_le _)]; exact ⟨by decide, by decide⟩
theorem ba {w a : World} (h : Below w.heap.size w a) (o : Obj) : Below w.heap.size w (a.alloc o) := h.alloc h.size o
theorem okl_cons {a : Cw} {l : List Cw} (h : okz a) (hl : okl l) : okl (a :: l) := by
  intro k
  match k with
  | 0 => exact h
  | k + 1 => exact hl k
theorem new_rc {base n : Nat} {f : Nat → Cn} {zs : List Cw} {g c : Nat} {w : World} (h : New base f n zs (.slice (some ⟨g, 0, none⟩) n c) w) : Rc w (some ⟨g, 0, none⟩) zs := by
  obtain ⟨ao, cap, hv, _, _, hr⟩ := own_rc h.len.symm h.own
  cases hv
  exact hr
theorem eq_word {o : Option Nat} {x c : Nat} (h : rep o x) (e : o = some c) (hn : nan c = false) : eqB x c = true := by
  rw [rep_is h e]
  unfold eqB
  rw [order_num hn]; rfl
def a1 : Cw := (4607182418800017408, 4607182418800017408)
def a2 : Cw := (4611686018427387904, 0)
def b1 : Cw := (4607182418800017408, 13830554455654793216)
def b2 : Cw := (0, 4613937818241073152)
def c1 : Cw := (4607182418800017408, 0)
def c2 : Cw := (0, 4607182418800017408)
def d1 : Cw := (4617315517961601024, 4617315517961601024)
def r1 : Cw := (4617315517961601024, 4618441417868443648)
def r2 : Cw := (4616189618054758400, 4617315517961601024)
theorem two_cases {P : Nat → Prop} (h0 : P 0) (h1 : P 1) : ∀ k, k < 2 → P k := fun k hk => by
  match k, hk with
  | 0, _ => exact h0
  | 1, _ => exact h1
theorem axpy_eq {zs : List Cw} (h : repl (dotF (fun X Y => addZ Y (mulZ (anz c2) X)) [c1, c2] [d1, d1]) 2 zs) : ∀ k, k < 2 → eqB (zat zs k).1 (zat [r1, r2] k).1 = true ∧ eqB (zat zs k).2 (zat [r1, r2] k).2 = true := by
  have h0 := h 0 (by omega)
  have h1 := h 1 (by omega)
  refine two_cases ⟨?_, ?_⟩ ⟨?_, ?_⟩
  · exact eq_word h0.1 (by kernel_rfl) (by kernel_rfl)
  · exact eq_word h0.2 (by kernel_rfl) (by kernel_rfl)
  · exact eq_word h1.1 (by kernel_rfl) (by kernel_rfl)
  · exact eq_word h1.2 (by kernel_rfl) (by kernel_rfl)
theorem dot_eq {s : Cw} (h : repz (sumZ (dotF mulZ [a1, a2] [b1, b2]) 2) s) : s = (4611686018427387904, 4618441417868443648) := Prod.ext (rep_is h.1 (by kernel_rfl)) (rep_is h.2 (by kernel_rfl))
theorem inner_eq {s : Cw} (h : repz (sumZ (dotF innZ [a1, a2] [b1, b2]) 2) s) : s = (0, 4616189618054758400) := Prod.ext (rep_is h.1 (by kernel_rfl)) (rep_is h.2 (by kernel_rfl))
theorem ok_a : okl [a1, a2] := okl_cons (by unfold okz a1; decide) (okl_cons (by unfold okz a2; decide) okl_nil)
theorem ok_b : okl [b1, b2] := okl_cons (by unfold okz b1; decide) (okl_cons (by unfold okz b2; decide) okl_nil)
theorem ok_c : okl [c1, c2] := okl_cons (by unfold okz c1; decide) (okl_cons (by unfold okz c2; decide) okl_nil)
theorem ok_d : okl [d1, d1] := okl_cons (by unfold okz d1; decide) (okl_cons (by unfold okz d1; decide) okl_nil)

theorem len_r : [r1, r2].length = 2 := rfl
end Go.Proofs.Ytmhplaanpbpndaa

namespace Go.Proofs.Ytmhplaanpbpndaa
open Fl RowKit

theorem sumZ_congr {f g : Nat → Cn} {n : Nat} (h : ∀ j, j < n → f j = g j) : sumZ f n = sumZ g n := by
  induction n with
  | zero => rfl
  | succ n ih =>
    show addZ (sumZ f n) (f n) = addZ (sumZ g n) (g n)
    rw [ih (fun j hj => h j (by omega)), h n (by omega)]
theorem bd_ans {x : Nat} (h : x < 18446744073709551616) : bdA (ans x) := (rep_ans h).bd
theorem inn_re (X Y : Cn) (h1 : bdA X.2) (h2 : bdA Y.2) : (innZ X Y).1 = (innZ Y X).1 := by
  show subA (mulA X.1 Y.1) (mulA (negA X.2) Y.2) = subA (mulA Y.1 X.1) (mulA (negA Y.2) X.2)
  rw [mulA_ng h1, mulA_ng h2, mulA_comm X.1, mulA_comm X.2]
theorem inn_im (X Y : Cn) (h1 : bdA X.2) (h2 : bdA Y.2) : eqz (innZ Y X).2 (negA (innZ X Y).2) := by
  show eqz (addA (mulA Y.1 X.2) (mulA (negA Y.2) X.1)) (negA (addA (mulA X.1 Y.2) (mulA (negA X.2) Y.1)))
  rw [mulA_ng h1, mulA_ng h2, mulA_comm Y.1 X.2, mulA_comm Y.2 X.1, addA_comm (mulA X.2 Y.1)]
  have k := addA_ng (A := mulA X.1 Y.2) (B := negA (mulA X.2 Y.1)) (bd_mulA _ _) (bd_negA (bd_mulA _ _))
  rw [negA_negA (bd_mulA _ _)] at k
  exact k
theorem sum_bd (f : Nat → Cn) (n : Nat) : bdA (sumZ f n).1 ∧ bdA (sumZ f n).2 := by
  cases n with
  | zero => exact ⟨bd_0, bd_0⟩
  | succ n => exact ⟨bd_addA _ _, bd_addA _ _⟩
theorem bd_innZ (X Y : Cn) : bdA (innZ X Y).2 := bd_addA _ _
theorem inner_back {xs ys : List Cw} (hx : okl xs) (hy : okl ys) (n : Nat) :
    (sumZ (dotF innZ ys xs) n).1 = (sumZ (dotF innZ xs ys) n).1 ∧ eqz (sumZ (dotF innZ ys xs) n).2 (negA (sumZ (dotF innZ xs ys) n).2) := by
  induction n with
  | zero => exact ⟨rfl, zero_eqz⟩
  | succ n ih =>
    have b1 := bd_ans (hx n).2
    have b2 := bd_ans (hy n).2
    constructor
    · show addA (sumZ (dotF innZ ys xs) n).1 (dotF innZ ys xs n).1 = addA (sumZ (dotF innZ xs ys) n).1 (dotF innZ xs ys n).1
      rw [ih.1]
      unfold dotF
      rw [inn_re (anz (zat ys n)) (anz (zat xs n)) b2 b1]
    · show eqz (addA (sumZ (dotF innZ ys xs) n).2 (dotF innZ ys xs n).2) (negA (addA (sumZ (dotF innZ xs ys) n).2 (dotF innZ xs ys n).2))
      have e1 : eqz (dotF innZ ys xs n).2 (negA (dotF innZ xs ys n).2) := inn_im _ _ b1 b2
      exact (ih.2.add' _).trans ((e1.add _).trans (addA_ng (sum_bd _ n).2 (bd_innZ _ _)))
theorem negF {b : Nat} (h : b < 18446744073709551616) : Op.negFloat .f64 b = ngW b := by
  unfold ngW
  split
  · exact neg_of_pos ‹_›
  · exact neg_of_neg (by omega) h
theorem fin_of {x : Nat} (h : finB x = true) : fin x := of_decide_eq_true (p := mg x < 9218868437227405312) h
theorem conj_back {xs ys : List Cw} {n : Nat} {s t : Cw} (hx : okl xs) (hy : okl ys) (hs : repz (sumZ (dotF innZ xs ys) n) s) (ht : repz (sumZ (dotF innZ ys xs) n) t) (hf : finB s.1 = true ∧ finB s.2 = true) :
    FloatKind.f64.format.order s.1 t.1 = some .eq ∧ FloatKind.f64.format.order (Op.negFloat .f64 s.2) t.2 = some .eq := by
  obtain ⟨e1, e2⟩ := inner_back hx hy n
  have n1 : nan s.1 = false := fin_not_nan (fin_of hf.1)
  have n2 : nan s.2 = false := fin_not_nan (fin_of hf.2)
  constructor
  · refine (eqz.refl _).order hs.1 (by rw [← e1]; exact ht.1) n1
  · rw [negF hs.2.1]
    refine eqz.order (A := negA (sumZ (dotF innZ xs ys) n).2) (B := (sumZ (dotF innZ ys xs) n).2) ?_ (rep_ng hs.2) ht.2 (by rw [nan_ngW hs.2.1]; exact n2)
    rcases e2 with h | ⟨x, y, h1, h2, h3, h4⟩
    · exact Or.inl h.symm
    · exact Or.inr ⟨y, x, h2, h1, h4, h3⟩
theorem dot_conj {xs ys zs : List Cw} {n : Nat} (h : repl (fun j => conZ (anz (zat xs j))) n zs) : sumZ (dotF mulZ zs ys) n = sumZ (dotF innZ xs ys) n := by
  refine sumZ_congr fun j hj => ?_
  unfold dotF innZ
  rw [h.anz hj]
theorem siz_conj {xs zs : List Cw} {n j : Nat} (hx : okl xs) (h : repl (fun j => conZ (anz (zat xs j))) n zs) (hj : j < n) : sizZ (anz (zat zs j)) = sizZ (anz (zat xs j)) := by
  rw [h.anz hj]
  show addA (sizA (ans (zat xs j).1)) (sizA (negA (ans (zat xs j).2))) = _
  rw [sizA_ng (bd_ans (hx j).2)]; rfl
theorem nrm_conj {xs zs : List Cw} {n : Nat} (hx : okl xs) (h : repl (fun j => conZ (anz (zat xs j))) n zs) : ∀ k, k ≤ n → nrm zs k = nrm xs k := by
  intro k
  induction k with
  | zero => intro _; rfl
  | succ k ih =>
    intro hk
    show addA (nrm zs k) (sizZ (anz (zat zs k))) = addA (nrm xs k) (sizZ (anz (zat xs k)))
    rw [ih (by omega), siz_conj hx h (by omega)]
theorem nmx_conj {xs zs : List Cw} {n : Nat} (hx : okl xs) (h : repl (fun j => conZ (anz (zat xs j))) n zs) : ∀ k, k ≤ n → nmx zs k = nmx xs k := by
  intro k
  induction k with
  | zero => intro _; rfl
  | succ k ih =>
    intro hk
    unfold nmx
    rw [ih (by omega), siz_conj hx h (by omega)]
/-- a sum of words that are not below nought is at least each of them -/
theorem add_ge {x y r : Nat} (hx : x ≤ 9218868437227405312) (hy : y ≤ 9218868437227405312) (h : addO x y = some r) : x ≤ r ∧ y ≤ r ∧ r ≤ 9218868437227405312 := by
  by_cases h1 : x < 9218868437227405312
  · by_cases h2 : y < 9218868437227405312
    · rw [add_pos h1 h2] at h
      cases h
      have k1 := nr_mono (-1074) (show sz x ≤ sz x + sz y by omega)
      have k2 := nr_mono (-1074) (show sz y ≤ sz x + sz y by omega)
      rw [nr_sz hx] at k1
      rw [nr_sz hy] at k2
      exact ⟨k1, k2, nr_lim _ _⟩
    · have e : y = 9218868437227405312 := by omega
      subst e
      have hr : addO x 9218868437227405312 = some 9218868437227405312 := by
        unfold addO Ieee.Format.add
        rw [read_fin x (by unfold Fl.fin mg; omega), show Ieee.double.read 9218868437227405312 = .infinity false from by kernel_rfl]
        rfl
      rw [hr] at h; cases h
      omega
  · have e : x = 9218868437227405312 := by omega
    subst e
    by_cases h2 : y < 9218868437227405312
    · have hr : addO 9218868437227405312 y = some 9218868437227405312 := by
        unfold addO Ieee.Format.add
        rw [read_fin y (by unfold Fl.fin mg; omega), show Ieee.double.read 9218868437227405312 = .infinity false from by kernel_rfl]
        rfl
      rw [hr] at h; cases h
      omega
    · have e : y = 9218868437227405312 := by omega
      subst e
      have hr : addO 9218868437227405312 9218868437227405312 = some 9218868437227405312 := by kernel_rfl
      rw [hr] at h; cases h
      omega
theorem siz_le {X : Option Nat} {x : Nat} (hX : bdA X) (h : sizA X = some x) : x ≤ 9218868437227405312 := by
  cases X with
  | none => cases h
  | some y =>
    cases h
    have := (hX y rfl).2
    unfold nan at this
    have := of_decide_eq_false this
    omega
theorem size_le {z : Cw} {s : Nat} (hz : okz z) (h : sizZ (anz z) = some s) : s ≤ 9218868437227405312 := by
  unfold sizZ addA at h
  cases h1 : sizA (anz z).1 with
  | none => rw [h1] at h; cases h
  | some a =>
    cases h2 : sizA (anz z).2 with
    | none => rw [h1, h2] at h; cases h
    | some b =>
      rw [h1, h2] at h
      exact (add_ge (siz_le (bd_ans hz.1) h1) (siz_le (bd_ans hz.2) h2) h).2.2
theorem most_le {xs : List Cw} (hx : okl xs) (n : Nat) : ∀ s, nrm xs n = some s → nmx xs n ≤ s ∧ s ≤ 9218868437227405312 := by
  induction n with
  | zero => intro s h; cases h; exact ⟨Nat.le_refl _, by decide⟩
  | succ n ih =>
    intro s h
    have h' : addA (nrm xs n) (sizZ (anz (zat xs n))) = some s := h
    cases h1 : nrm xs n with
    | none => rw [h1] at h'; cases h'
    | some a =>
      cases h2 : sizZ (anz (zat xs n)) with
      | none => rw [h1, h2] at h'; cases h'
      | some b =>
        rw [h1, h2] at h'
        obtain ⟨i1, i2⟩ := ih a h1
        obtain ⟨g1, g2, g3⟩ := add_ge i2 (size_le (hx n) h2) h'
        refine ⟨?_, g3⟩
        show (if ordA (sizZ (anz (zat xs n))) (some (nmx xs n)) == some .gt then (sizZ (anz (zat xs n))).getD 0 else nmx xs n) ≤ s
        rw [h2]
        split
        · exact g2
        · omega
theorem most_ord {xs : List Cw} (hx : okl xs) {n s : Nat} (hs : rep (nrm xs n) s) (hn : nan s = false) : (FloatKind.f64.format.order (nmx xs n) s == some .gt) = false := by
  have h1 : nrm xs n = some s := by rw [← hs.2, ans_num hn]
  obtain ⟨h2, h3⟩ := most_le hx n s h1
  have p1 : plc (nmx xs n) = nmx xs n := by have := plc_mg (nmx xs n); rwa [show mg (nmx xs n) = nmx xs n from Nat.mod_eq_of_lt (by omega)] at this
  have p2 : plc s = s := by have := plc_mg s; rwa [show mg s = s from Nat.mod_eq_of_lt (by omega)] at this
  rw [f64_double, order_eq, (nmx_ok xs n).2, hn, p1, p2]
  have : ¬ compare (nmx xs n : Int) (s : Int) = .gt := by rw [Int.compare_eq_gt]; omega
  simp only [Bool.or_self, Bool.false_eq_true, if_false]
  cases h : compare (nmx xs n : Int) (s : Int)
  · rfl
  · rfl
  · exact absurd h this

end Go.Proofs.Ytmhplaanpbpndaa

namespace Go.Proofs.Ytmhplaanpbpndaa
open Fl RowKit

/-- what a list of pairs of words in memory reads as -/
def Rz (w : World) (ao : Option Addr) (xs : List Cw) : Prop :=
  ∀ k, k < xs.length → ∃ b off, ao = some ⟨b, off, none⟩ ∧ b < w.heap.size ∧ w.cell? ⟨b, off + k * 2, none⟩ = some (.int .u64 (((zat xs k).1 : Nat) : Int)) ∧ w.cell? ⟨b, off + k * 2 + 1, none⟩ = some (.int .u64 (((zat xs k).2 : Nat) : Int))
theorem Rz.below {w w' : World} {ao : Option Addr} {xs : List Cw} (h : Rz w ao xs) (hb : Below w.heap.size w w') : Rz w' ao xs := by
  intro k hk
  obtain ⟨b, off, h1, h2, h3, h4⟩ := h k hk
  exact ⟨b, off, h1, Nat.lt_of_lt_of_le h2 hb.size, (hb.cell (by exact h2)).trans h3, (hb.cell (by exact h2)).trans h4⟩
theorem own_drew {w : World} {base e size n : Nat} {v : Value} {xs : List Value} (h : w.ownsRow base e size v n xs) : w.drew.ownsRow base e size v n xs := h
theorem take_snocZ (l : List Cw) (k : Nat) (h : k < l.length) : l.take (k + 1) = l.take k ++ [zat l k] := by
  rw [List.take_succ_eq_append_getElem h]; simp [zat, List.getD_eq_getElem?_getD, h]
end Go.Proofs.Ytmhplaanpbpndaa

namespace Go.Proofs.Ytmhplaanpbpndaa
open Fl RowKit

def finA (o : Option Nat) : Bool := match o with | none => false | some x => finB x
theorem finA_of {o : Option Nat} {x : Nat} (h : rep o x) : finB x = finA o := by
  cases o with
  | none =>
    have := ans_none h.2
    unfold finA finB
    unfold nan at this
    have := of_decide_eq_true this
    exact decide_eq_false (by omega)
  | some c => rw [rep_is h rfl]; rfl
def finC (X : Cn) : Bool := finA X.1 && finA X.2
theorem finC_of {X : Cn} {z : Cw} (h : repz X z) : (finB z.1 && finB z.2) = finC X := by unfold finC; rw [finA_of h.1, finA_of h.2]
def finF (f : Nat → Cn) : Nat → Bool
  | 0 => true
  | k + 1 => finF f k && finC (f k)
theorem finF_of {f : Nat → Cn} {zs : List Cw} {n : Nat} (h : repl f n zs) : ∀ k, k ≤ n → finL zs k = finF f k := by
  intro k
  induction k with
  | zero => intro _; rfl
  | succ k ih =>
    intro hk
    show (finL zs k && finZ (zat zs k)) = (finF f k && finC (f k))
    rw [ih (by omega), show finZ (zat zs k) = finC (f k) from finC_of (h k (by omega))]
/-- a list that is handed back: what it holds, where it is read -/
structure Lst (w : World) (A : Option Addr) (n : Nat) (f : Nat → Cn) (zs : List Cw) : Prop where
  len : zs.length = n
  rep : repl f n zs
  rc : Rc w A zs
theorem Lst.okl {w : World} {A : Option Addr} {n : Nat} {f : Nat → Cn} {zs : List Cw} (h : Lst w A n f zs) : okl zs := by
  obtain ⟨rfl, h2, _⟩ := h
  exact h2.okl
theorem Lst.below {w w' : World} {A : Option Addr} {n : Nat} {f : Nat → Cn} {zs : List Cw} (h : Lst w A n f zs) (hb : Below w.heap.size w w') : Lst w' A n f zs := ⟨h.len, h.rep, h.rc.below hb⟩
theorem Lst.drewN {w : World} {A : Option Addr} {n : Nat} {f : Nat → Cn} {zs : List Cw} (h : Lst w A n f zs) (m : Nat) : Lst (w.drewN m) A n f zs := ⟨h.len, h.rep, h.rc.drewN m⟩
/-- a list of words that is read -/
theorem lst_self {w : World} {A : Option Addr} {n : Nat} {xs : List Cw} (hn : xs.length = n) (hx : okl xs) (hc : Rc w A xs) : Lst w A n (fun j => anz (zat xs j)) xs := ⟨hn, fun j _ => repz_anz (hx j), hc⟩
theorem new_lst {base n : Nat} {f : Nat → Cn} {zs : List Cw} {g c : Nat} {w : World} (h : New base f n zs (.slice (some ⟨g, 0, none⟩) n c) w) : Lst w (some ⟨g, 0, none⟩) n f zs := ⟨h.len, h.rep, new_rc h⟩
theorem repl_congr {f g : Nat → Cn} {n : Nat} {zs : List Cw} (h : repl f n zs) (e : ∀ j, j < n → f j = g j) : repl g n zs := fun j hj => by rw [← e j hj]; exact h j hj
def zipF (f : Cn → Cn → Cn) (F G : Nat → Cn) (j : Nat) : Cn := f (F j) (G j)
theorem dotF_zip {f : Cn → Cn → Cn} {F G : Nat → Cn} {xs ys : List Cw} {n : Nat} (h : repl F n xs) (k : repl G n ys) : ∀ j, j < n → dotF f xs ys j = zipF f F G j := fun j hj => by unfold dotF zipF; rw [h.anz hj, k.anz hj]

section two
variable {n ca cb : Nat} {ao bo : Option Addr} {F G : Nat → Cn} {xs ys : List Cw} {w : World} (h : Lst w ao n F xs) (k : Lst w bo n G ys) (hm : n ≤ 65536)
include h k hm
end two
section one
variable {n ca : Nat} {ao : Option Addr} {F : Nat → Cn} {xs : List Cw} {w : World} (h : Lst w ao n F xs) (hsz : n * 16 ≤ 140737488355328)
include h hsz
end one
theorem finF_at {f : Nat → Cn} {n : Nat} (h : finF f n = true) : ∀ j, j < n → finC (f j) = true := by
  induction n with
  | zero => intro j hj; omega
  | succ n ih =>
    unfold finF at h
    rw [Bool.and_eq_true] at h
    intro j hj
    by_cases e : j = n
    · subst e; exact h.2
    · exact ih h.1 j (by omega)
theorem eq_same {o : Option Nat} {x y : Nat} (hx : rep o x) (hy : rep o y) (hf : finA o = true) : eqB x y = true := by
  have hn : nan x = false := fin_not_nan (fin_of (by rw [finA_of hx]; exact hf))
  have := (eqz.refl o).order hx hy hn
  unfold eqB; rw [this]; rfl
theorem eq_sames {n : Nat} {f g : Nat → Cn} {xs ys : List Cw} (h : repl f n xs) (k : repl g n ys) (e : ∀ j, j < n → f j = g j) (hf : finF f n = true) : ∀ j, j < n → eqB (zat xs j).1 (zat ys j).1 = true ∧ eqB (zat xs j).2 (zat ys j).2 = true := by
  intro j hj
  have h1 := h j hj
  have h2 := k j hj
  have hc := finF_at hf j hj
  unfold finC at hc
  rw [Bool.and_eq_true] at hc
  rw [← e j hj] at h2
  exact ⟨eq_same h1.1 h2.1 hc.1, eq_same h1.2 h2.2 hc.2⟩
theorem addZ_comm (X Y : Cn) : addZ X Y = addZ Y X := by unfold addZ; rw [addA_comm X.1, addA_comm X.2]
theorem sub_self_zero {o : Option Nat} {x : Nat} (hf : finA o = true) (h : rep (subA o o) x) : eqB x 0 = true := by
  cases o with
  | none => cases hf
  | some c =>
    have hc : fin c := fin_of hf
    obtain ⟨r, hr, fr, vr⟩ := sub_fin hc hc (by rw [show val c - val c = 0 by omega]; exact rn_lt (by simp))
    have e : subA (some c) (some c) = some r := hr
    rw [rep_is h e]
    have := sub_self_fin hc
    have h2 : ∀ W, subV W c c = r := fun W => by unfold subV fV; rw [hr]
    have w : World := { heap := #[], tape := fun _ _ => 0, drawn := 0, os := default, output := default }
    have k := this w
    rw [h2 w] at k
    unfold eqB; rw [k]; rfl
theorem errV_comm (a b : Nat) : errV a b = errV b a := by
  unfold errV
  by_cases h : 65536 < a ∨ 65536 < b
  · rw [if_pos h, if_pos (Or.comm.1 h)]
  · rw [if_neg h, if_neg (fun k => h (Or.comm.1 k))]
    by_cases e : a = b
    · subst e; rfl
    · rw [if_pos e, if_pos (Ne.symm e)]
end Go.Proofs.Ytmhplaanpbpndaa

namespace Go.Proofs.Ytmhplaanpbpndaa
open Fl RowKit

structure Stg (n : Nat) : Prop where
  t : True
theorem und {w w' : World} {m : Nat} (h : Below (w.drewN m).heap.size (w.drewN m) w') : Below w.heap.size w w' := ⟨h.os, h.tape, h.output, h.size, h.block⟩
theorem smBB {o : Cn} {s t a b : Nat} (h : repz o (s, t)) (k : repz o (a, b)) : (smB s a && smB t b) = true := by
  rw [smB_of h.1 k.1, smB_of h.2 k.2]; rfl
theorem one_mul {xs zs : List Cw} {n : Nat} (hx : okl xs) (hf : finF (fun j => anz (zat xs j)) n = true) (h : repl (fun j => mulZ (anz (4607182418800017408, 0)) (anz (zat xs j))) n zs) : ∀ j, j < n → eqB (zat zs j).1 (zat xs j).1 = true ∧ eqB (zat zs j).2 (zat xs j).2 = true := by
  intro j hj
  have hc := finF_at hf j hj
  unfold finC at hc
  rw [Bool.and_eq_true] at hc
  have f1 : fin (zat xs j).1 := fin_of (by rw [finA_of (rep_ans (hx j).1)]; exact hc.1)
  have f2 : fin (zat xs j).2 := fin_of (by rw [finA_of (rep_ans (hx j).2)]; exact hc.2)
  have k := h j hj
  have e1 : (mulZ (anz (4607182418800017408, 0)) (anz (zat xs j))).1 = mulRe (ans (zat xs j).1) (ans (zat xs j).2) (some 4607182418800017408) (some 0) := by
    show subA (mulA (some 4607182418800017408) (ans (zat xs j).1)) (mulA (some 0) (ans (zat xs j).2)) = subA (mulA (ans (zat xs j).1) (some 4607182418800017408)) (mulA (ans (zat xs j).2) (some 0))
    rw [mulA_comm (some 4607182418800017408), mulA_comm (some 0)]
  have e2 : (mulZ (anz (4607182418800017408, 0)) (anz (zat xs j))).2 = mulIm (ans (zat xs j).1) (ans (zat xs j).2) (some 4607182418800017408) (some 0) := by
    show addA (mulA (some 4607182418800017408) (ans (zat xs j).2)) (mulA (some 0) (ans (zat xs j).1)) = addA (mulA (ans (zat xs j).1) (some 0)) (mulA (ans (zat xs j).2) (some 4607182418800017408))
    rw [mulA_comm (some 4607182418800017408), mulA_comm (some 0), addA_comm]
  exact times_one f1 f2 (hx j).1 (hx j).2 (by rw [← e1]; exact k.1) (by rw [← e2]; exact k.2)
theorem sub_zero_all {xs zs ms : List Cw} {n : Nat} (hf : finF (fun j => anz (zat xs j)) n = true) (h : repl (zipF subZ (fun j => anz (zat xs j)) (fun j => anz (zat xs j))) n zs) (hm : ms = List.replicate n (0, 0)) : ∀ j, j < n → eqB (zat zs j).1 (zat ms j).1 = true ∧ eqB (zat zs j).2 (zat ms j).2 = true := by
  intro j hj
  have hc := finF_at hf j hj
  unfold finC at hc
  rw [Bool.and_eq_true] at hc
  have k := h j hj
  have e : zat ms j = (0, 0) := by subst hm; simp [zat, List.getD_eq_getElem?_getD, hj]
  rw [e]
  exact ⟨sub_self_zero hc.1 k.1, sub_self_zero hc.2 k.2⟩
theorem run_mkC (n : Nat) (hn : n ≤ 65536) (w : World) : (Instr.makeSlice 37 (.int .i64 (n : Int)) (.int .i64 (n : Int))).run Try.prog w = .ok (.slice (some ⟨w.heap.size, 0, none⟩) n n) (w.alloc (.cells (madeCells #[.complex .f64 0 0] n) 75)) := by
  obtain ⟨i0, hi, hz0, hz1, hz2⟩ := info_parts Try.infoC
  have h := run_make (P := Try.prog) w 37 75 i0 (.complex .f64 0 0) Try.underlying37 hi hz0 .i64 .i64 n n (by omega) (Int.le_refl _) (by rw [hz2]; omega) (by omega)
  simp only [Int.toNat_natCast, hz1, Nat.mul_one] at h
  exact h
theorem lst_al (w : World) (n : Nat) (t : TypeId) : Lst (w.alloc (.cells (madeCells #[.complex .f64 0 0] n) t)) (some ⟨w.heap.size, 0, none⟩) n (fun _ => (some 0, some 0)) (List.replicate n (0, 0)) := by
  refine ⟨by simp, fun j hj => ?_, fun k hk => ⟨w.heap.size, 0, rfl, by rw [size_al]; omega, ?_⟩⟩
  · rw [show zat (List.replicate n ((0, 0) : Cw)) j = (0, 0) by simp [zat, List.getD_eq_getElem?_getD, hj]]
    exact ⟨rep_0, rep_0⟩
  · have hk' : k < n := by simpa using hk
    rw [Nat.zero_add, al_at w _ t _ k rfl, show zat (List.replicate n ((0, 0) : Cw)) k = (0, 0) by simp [zat, List.getD_eq_getElem?_getD, hk']]
    have := made_zeroC n
    rw [Nat.mul_one] at this
    have h2 := congrArg (fun l => l[k]?) this
    simp only [Array.getElem?_toList] at h2
    show (madeCells (Value.complex .f64 0 0).cells n)[k]? = _
    rw [h2]; simp [hk', cx]
theorem sum_in (xs ys : List Cw) (n : Nat) : sumZ (zipF innZ (fun j => anz (zat xs j)) (fun j => anz (zat ys j))) n = sumZ (dotF innZ xs ys) n := sumZ_congr (fun _ _ => rfl)

end Go.Proofs.Ytmhplaanpbpndaa

namespace Go.Proofs.Ytmhplaanpbpndaa
open Fl RowKit

/-- a mark -/
def mkO (k i : Int) : Option Nat := subO (floatOfInt .f64 (-1000 * k - i)) 4620130267728707584
def mk1 (k i : Int) : Nat := (mkO k i).getD 0
def mk (k i : Int) : Cw := (mk1 k i, floatOfInt .f64 k)
theorem int_not_nan (n : Int) : nan (floatOfInt .f64 n) = false := nearest_not_nan _ _ _
theorem sub_some {x y : Nat} (hx : nan x = false) (hy : fin y) : ∃ r, subO x y = some r := by
  unfold subO Ieee.Format.sub
  rw [read_fin y hy]
  rcases kinds x with h | h | h
  · rw [read_fin x h]; exact ⟨_, rfl⟩
  · rw [read_inf x h]; exact ⟨_, rfl⟩
  · rw [h] at hx; cases hx
theorem mk_some (k i : Int) : mkO k i = some (mk1 k i) := by
  obtain ⟨r, h⟩ := sub_some (int_not_nan (-1000 * k - i)) (y := 4620130267728707584) (by unfold Fl.fin; decide)
  have : mkO k i = some r := h
  unfold mk1; rw [this]; rfl
theorem subV_of {x y s : Nat} (h : subO x y = some s) (W : World) : subV W x y = s := by unfold subV fV; rw [h]
theorem mark_any (k i : Int) (w : World) (hk : 0 ≤ k) (hk2 : k ≤ 20) (hi : 0 ≤ i) (hi2 : i ≤ 1000000000000000) :
    Calls Try.prog 35 #[.int .i64 k, .int .i64 i] w fun e w' => e = .returned (.complex .f64 (mk1 k i) (floatOfInt .f64 k)) ∧ w' = w := by
  have hv : ∀ W, subV W (floatOfInt .f64 (-1000 * k - i)) 4620130267728707584 = mk1 k i := fun W => subV_of (mk_some k i) W
  have hn : subO (floatOfInt .f64 (-1000 * k - i)) 4620130267728707584 = some (mk1 k i) := mk_some k i
  have hz : fN (subO (floatOfInt .f64 (-1000 * k - i)) 4620130267728707584) = 0 := by rw [hn]; rfl
  clear hn
  go_enter Try.func35, Try.ntmps35
  go_wp2
  go_ret
  exact ⟨rfl, rfl⟩

/-- a list that is read: its address is none only if it is empty -/
structure Sl (w : World) (ao : Option Addr) (cap : Nat) (xs : List Cw) : Prop where
  rd : Rc w ao xs
  shape : ao = none ∧ xs.length = 0 ∨ ∃ g off, ao = some ⟨g, off, none⟩
  cap : xs.length ≤ cap
theorem Sl.below {w w' : World} {ao : Option Addr} {cap : Nat} {xs : List Cw} (h : Sl w ao cap xs) (hb : Below w.heap.size w w') : Sl w' ao cap xs := ⟨h.rd.below hb, h.shape, h.cap⟩
theorem Sl.drewN {w : World} {ao : Option Addr} {cap : Nat} {xs : List Cw} (h : Sl w ao cap xs) (n : Nat) : Sl (w.drewN n) ao cap xs := ⟨h.rd.drewN n, h.shape, h.cap⟩
theorem own_sl {w : World} {base : Nat} {v : Value} {xs : List Cw} (h : w.ownsRow base 75 1 v xs.length (xs.map cx)) :
    ∃ ao cap, v = .slice ao xs.length cap ∧ Sl w ao cap xs := by
  obtain ⟨ao, cap, h1, h2, h3, h4⟩ := own_rc rfl h
  refine ⟨ao, cap, h1, h4, ?_, h2⟩
  rcases h3 with ⟨a, b, _⟩ | ⟨g, a, _⟩
  · exact .inl ⟨b, a⟩
  · exact .inr ⟨g, 0, a⟩
theorem ksameL_len (ao bo : Option Addr) (ca cb n : Nat) (es fs : List Cw) (w : World) (hsz : n * 16 ≤ 140737488355328) (h1 : es.length = n) (h2 : fs.length = n) (hc : Rc w ao es) (hd : Rc w bo fs)
    (hs : ∀ k, k < n → smB (zat es k).1 (zat fs k).1 = true ∧ smB (zat es k).2 (zat fs k).2 = true) :
    Calls Try.prog 33 #[.slice ao n ca, .slice bo n cb] w fun e w' => ∃ m, e = .returned (.bool true) ∧ w' = w.drewN m := by
  subst h1
  exact ksameL_yes ao bo ca cb es fs w hsz h2 hc hd hs
/-- the first m marks of list k -/
def marks (k : Int) (m : Nat) : List Cw := (List.range m).map (fun (i : Nat) => mk k (i : Int))
theorem marks_len (k : Int) (m : Nat) : (marks k m).length = m := by simp [marks]
theorem marks_succ (k : Int) (m : Nat) : marks k (m + 1) = marks k m ++ [mk k (m : Int)] := by simp [marks, List.range_succ]
theorem marks_getD (k : Int) (m j : Nat) (h : j < m) : zat (marks k m) j = mk k (j : Int) := by simp [marks, zat, List.getD_eq_getElem?_getD, h]
/-- a full list of marks, and what is left of a list, in one row -/
theorem over_step {xs : List Cw} {k : Nat} (hk : k < xs.length) : ((marks 9 k ++ xs.drop k).map cx).set k (cx (mk 9 (k : Int))) = (marks 9 (k + 1) ++ xs.drop (k + 1)).map cx := by
  have e : (marks 9 k ++ xs.drop k).set k (mk 9 (k : Int)) = marks 9 (k + 1) ++ xs.drop (k + 1) := by
    rw [List.set_append_right _ _ (by rw [marks_len]; exact Nat.le_refl _), marks_len, Nat.sub_self, List.drop_eq_getElem_cons hk, marks_succ, List.append_assoc]; rfl
  rw [← e, List.map_set]
/-- the row g alone is written -/
structure OnlyRow (g : Nat) (w w' : World) : Prop where
  os : w'.os = w.os
  tape : w'.tape = w.tape
  output : w'.output = w.output
  size : w'.heap.size = w.heap.size
  block : ∀ b, b ≠ g → w'.heap[b]? = w.heap[b]?
theorem OnlyRow.refl (g : Nat) (w : World) : OnlyRow g w w := ⟨rfl, rfl, rfl, rfl, fun _ _ => rfl⟩
theorem OnlyRow.setCell {g k : Nat} {w w' : World} (h : OnlyRow g w w') (u : Value) : OnlyRow g w (w'.setCell ⟨g, k, none⟩ u) := by
  refine ⟨h.os, h.tape, h.output, by simpa using h.size, fun b hb => ?_⟩
  rw [Below.heap_setCell _ _ _ _ (by exact hb)]
  exact h.block b hb
end Go.Proofs.Ytmhplaanpbpndaa

namespace Go.Proofs.Ytmhplaanpbpndaa
open Fl RowKit

theorem add_at (g j : Nat) : (⟨g, 0, none⟩ : Addr).add j = ⟨g, j, none⟩ := by unfold Addr.add; split <;> simp_all
/-- what a row held is read where it stood -/
def Keeps (v : Value) (xs : List Value) (w : World) : Prop := ∀ g j u, v.ownBlock = some g → xs[j]? = some u → w.cell? ⟨g, j, none⟩ = some u
/-- append, and what stood there stays readable where it stood -/
theorem run_append_keeps {P : Program} (w : World) (base : Nat) (t ty e : TypeId) (i : TypeInfo) (z : Value) (bytes : Nat) (ht : P.underlying t = some (.slice e)) (hi : P.info? e = some i) (hz : i.zero = some z)
    (hsize : i.size = 1) (hby : i.bytes = bytes) (hzs : z.cells.size = 1)
    (v : Value) (n : Nat) (xs : List Value) (hown : w.ownsRow base e 1 v n xs)
    (a : Addr) (m c : Nat) (news : List Value) (hl : news.length = m * 1) (hnews : ∀ j u, news[j]? = some u → w.cell? (a.add j) = some u) (h1 : ∀ u ∈ news, u.oneCell' = true)
    (h63 : n + m ≤ maxLen) (hbytes : (n + m) * bytes ≤ 140737488355328) (hbase : base ≤ w.heap.size) :
    ∃ v' w', (Builtin.append_ #[t, t] ty #[v, .slice (some a) m c]).run P w = .ok v' w' ∧ w'.ownsRow base e 1 v' (n + m) (xs ++ news) ∧ w.grownBy w' v.ownBlock ∧
      (v'.ownBlock = v.ownBlock ∨ v'.ownBlock = some w.heap.size) ∧ Keeps v xs w' := by
  obtain ⟨v', w', hr, h2, h3, _, h5⟩ := run_append_own_at (P := P) w base t ty e i z 1 bytes ht hi hz hsize hby hzs (by decide) v n xs hown a m c news hl hnews h1 h63 hbytes hbase
  refine ⟨v', w', hr, h2, h3, h5, ?_⟩
  intro g j u hg hj
  have hsmall : n + m ≤ 9223372036854775807 := by simp only [maxLen] at h63; omega
  rcases hown.2 with ⟨hv, _⟩ | ⟨g', cap, cur, hv, hbg, hg', hnc, hcm, hcs, htake⟩
  · subst hv; simp [Value.ownBlock] at hg
  · subst hv
    have e : g' = g := by simpa [Value.ownBlock] using hg
    subst e
    have holds : ∀ j u, xs[j]? = some u → w.cell? ((⟨g', 0, none⟩ : Addr).add j) = some u := hown.cells (g := g') rfl
    by_cases hroom : n + m ≤ cap
    · have hfit : n * i.size + news.length ≤ cur.size := by rw [hl, hcs, hsize, ← Nat.add_mul]; exact Nat.mul_le_mul_right _ hroom
      have hr2 := run_append_room (P := P) w t ty _ i ht hi g' n cap cur hg' a m c news (by rw [hsize]; exact hl) hnews h1 hroom hfit
      rw [hr] at hr2
      cases hr2
      have := h2.cells (g := g') rfl j u (by rw [List.getElem?_append_left ((List.getElem?_eq_some_iff.1 hj).1)]; exact hj)
      rw [add_at] at this; exact this
    · have hr2 := run_append_grow (P := P) w t ty _ i z ht hi hz ⟨g', 0, none⟩ n cap xs (by rw [hsize]; exact hown.1) holds a m c news (by rw [hsize]; exact hl) hnews (by omega) (by omega) (by rw [hby]; exact growslice_fits (by omega) hbytes)
      rw [hr] at hr2
      cases hr2
      have hlt : g' < w.heap.size := (Array.getElem?_eq_some_iff.1 hg').1
      rw [World.cell?_of_block (heap_alloc_old w.drew _ hlt)]
      have := holds j u hj
      rw [add_at] at this; exact this
theorem wpList_append_keeps {P : Program} {w : World} {ops : Array Oper} {rest : List Oper} {o : Oper} {a : Act} {Q : Exit → Act → World → Prop} (hgd : o.guard = none) (s x : Operand) (t : TypeId)
    (ho : o.op = .call { callee := .builtin .append, args := #[s, x], argTypes := #[t, t] })
    (base : Nat) (e : TypeId) (i : TypeInfo) (z : Value) (bytes : Nat) (ht : P.underlying t = some (.slice e)) (hi : P.info? e = some i) (hz : i.zero = some z)
    (hsize : i.size = 1) (hby : i.bytes = bytes) (hzs : z.cells.size = 1)
    (v : Value) (n : Nat) (xs : List Value) (hs : a.eval s = v) (hown : w.ownsRow base e 1 v n xs)
    (ad : Addr) (m c : Nat) (news : List Value) (hx : a.eval x = .slice (some ad) m c) (hl : news.length = m * 1) (hnews : ∀ j u, news[j]? = some u → w.cell? (ad.add j) = some u) (h1 : ∀ u ∈ news, u.oneCell' = true)
    (h63 : n + m ≤ maxLen) (hbytes : (n + m) * bytes ≤ 140737488355328) (hbase : base ≤ w.heap.size)
    (h : ∀ v' w', w'.ownsRow base e 1 v' (n + m) (xs ++ news) → w.grownBy w' v.ownBlock → (v'.ownBlock = v.ownBlock ∨ v'.ownBlock = some w.heap.size) → Keeps v xs w' → wpList P ops Q rest (a.put o.dst v') w') : wpList P ops Q (o :: rest) a w := by
  refine wpList_plain hgd fun K hK => ?_
  obtain ⟨v', w', hr, h2, h3, h4, h5⟩ := run_append_keeps (P := P) w base t o.type e i z bytes ht hi hz hsize hby hzs v n xs hown ad m c news hl hnews h1 h63 hbytes hbase
  unfold Oper.wp execOp
  simp only [ho, resolve, invoke, builtin, Sem.run_bind, Sem.run_pure, Result.andThen_ok, List.map_toArray, List.map_cons, List.map_nil, hs, hx, hr]
  exact hK _ _ (h v' w' h2 h3 h4 h5)

/-- m rows, and a row of them -/
structure Many (base LB m : Nat) (n : Nat → Nat) (V : Nat → Value) (L : Nat → List Cw) (w : World) : Prop where
  cell : ∀ j, j < m → w.cell? ⟨LB, j, none⟩ = some (V j)
  own : ∀ j, j < m → w.ownsRow base 75 1 (V j) (n j) ((L j).map cx)
  len : ∀ j, j < m → (L j).length = n j
  apart : ∀ j k, j < m → k < m → j ≠ k → ∀ g, (V j).ownBlock = some g → (V k).ownBlock ≠ some g
  off : ∀ j, j < m → (V j).ownBlock ≠ some LB
  lt : LB < w.heap.size
theorem Many.at {base LB m : Nat} {n : Nat → Nat} {V : Nat → Value} {L : Nat → List Cw} {w w' : World} (h : Many base LB m n V L w) (hs : w.heap.size ≤ w'.heap.size) (hl : w'.heap[LB]? = w.heap[LB]?) (hg : ∀ j, j < m → ∀ g, (V j).ownBlock = some g → w'.heap[g]? = w.heap[g]?) : Many base LB m n V L w' := by
  refine ⟨?_, ?_, h.len, h.apart, h.off, Nat.lt_of_lt_of_le h.lt hs⟩
  · intro j hj
    rw [World.cell?_of_block (w := w) hl]
    exact h.cell j hj
  · intro j hj
    exact own_at (h.own j hj) (hg j hj)
theorem Many.drewN {base LB m : Nat} {n : Nat → Nat} {V : Nat → Value} {L : Nat → List Cw} {w : World} (h : Many base LB m n V L w) (q : Nat) : Many base LB m n V L (w.drewN q) := h.at (Nat.le_refl _) rfl (fun _ _ _ _ => rfl)
theorem Many.store {base LB m : Nat} {n : Nat → Nat} {V : Nat → Value} {L : Nat → List Cw} {w : World} (h : Many base LB m n V L w) {k i g C : Nat} (hk : k < m) (hV : V k = .slice (some ⟨g, 0, none⟩) (n k) C) (u : Cw) :
    Many base LB m n V (fun j => if j = k then (L k).set i u else L j) (w.setCell ⟨g, i, none⟩ (cx u)) := by
  have hb : (V k).ownBlock = some g := by rw [hV]; rfl
  have hoth : ∀ b, b ≠ g → (w.setCell ⟨g, i, none⟩ (cx u)).heap[b]? = w.heap[b]? := fun b hb => Below.heap_setCell _ _ _ _ hb
  refine ⟨?_, ?_, ?_, h.apart, h.off, by simpa using h.lt⟩
  · intro j hj
    rw [World.cell?_of_block (w := w) (hoth LB (fun e => h.off k hk (by rw [hb, e])))]
    exact h.cell j hj
  · intro j hj
    by_cases e : j = k
    · subst e
      simp only [if_true]
      have ho := h.own j hj
      rw [hV] at ho ⊢
      rw [List.map_set]
      exact (ho.stored i (cx u)).1
    · simp only [e, if_false]
      refine own_at (h.own j hj) ?_
      intro g' hg'
      refine hoth _ (fun e2 => ?_)
      subst e2
      exact h.apart j k hj hk e _ hg' hb
  · intro j hj
    by_cases e : j = k
    · simp only [e, if_true]; rw [List.length_set]; exact h.len k hk
    · simp only [e, if_false]; exact h.len j hj
/-- what stands in the rows while they are written: rows below k are full of marks, row k up to i -/
def wr1 (E : Nat → List Cw) (k i : Nat) (n : Nat → Nat) (j : Nat) : List Cw := if j < k then marks ((j : Int) + 10) (n j) else if j = k then marks ((k : Int) + 10) i ++ (E k).drop i else E j
theorem wr1_start (E : Nat → List Cw) (n : Nat → Nat) : wr1 E 0 0 n = E := by
  funext j
  unfold wr1
  by_cases hj : j = 0
  · subst hj; simp [marks]
  · simp [hj]
theorem wr1_next (E : Nat → List Cw) (k : Nat) (n : Nat → Nat) (h : (E k).length = n k) : wr1 E k (n k) n = wr1 E (k + 1) 0 n := by
  funext j
  unfold wr1
  by_cases h1 : j < k
  · rw [if_pos h1, if_pos (by omega)]
  · rw [if_neg h1]
    by_cases h2 : j = k
    · subst h2; rw [if_pos rfl, if_pos (by omega), ← h, List.drop_length, List.append_nil]
    · rw [if_neg h2, if_neg (by omega)]
      by_cases h3 : j = k + 1
      · subst h3; simp [marks]
      · rw [if_neg h3]
theorem wr1_set (E : Nat → List Cw) (k i : Nat) (n : Nat → Nat) (h : i < (E k).length) : (fun j => if j = k then (wr1 E k i n k).set i (mk ((k : Int) + 10) (i : Int)) else wr1 E k i n j) = wr1 E k (i + 1) n := by
  funext j
  by_cases h1 : j = k
  · subst h1
    simp only [if_true]
    unfold wr1
    rw [if_neg (by omega), if_pos rfl, if_neg (by omega), if_pos rfl]
    rw [List.set_append_right _ _ (by rw [marks_len]; exact Nat.le_refl _), marks_len, Nat.sub_self, List.drop_eq_getElem_cons h, marks_succ, List.append_assoc]; rfl
  · simp only [h1, if_false]
    unfold wr1
    by_cases h2 : j < k
    · rw [if_pos h2, if_pos h2]
    · rw [if_neg h2, if_neg h2, if_neg h1, if_neg h1]

theorem own_form {w : World} {base e n : Nat} {v : Value} {xs : List Value} (h : w.ownsRow base e 1 v n xs) : ∃ A C, v = .slice A n C := by
  rcases h.2 with ⟨hv, h0⟩ | ⟨g, cap, cur, hv, _⟩
  · exact ⟨none, 0, by rw [hv, h0]⟩
  · exact ⟨_, _, hv⟩
theorem marks_get (k : Int) {m j : Nat} (h : j < m) : ((marks k m).map cx)[j]? = some (cx (mk k (j : Int))) := by
  rw [List.getElem?_map]; simp [marks, h]
theorem marks_next (k : Nat) (a b : Nat) : (marks ((k : Int) + 10) (a + b)).map cx ++ [cx (mk ((k : Int) + 10) ((a : Int) + (b : Int)))] = (marks ((k : Int) + 10) (a + (b + 1))).map cx := by
  rw [← Nat.add_assoc, marks_succ, List.map_append, Int.natCast_add]; rfl
theorem ne_or {X Y : Option Nat} (h : ∀ g, X = some g → Y ≠ some g) : X = none ∨ X ≠ Y := by
  cases X with
  | none => exact .inl rfl
  | some g => exact .inr (fun e => h g rfl e.symm)
/-- where the rows lie -/
structure Vs (W0 LB m : Nat) (V : Nat → Value) : Prop where
  lt : ∀ j, j < m → ∀ g, (V j).ownBlock = some g → g < W0
  apart : ∀ j k, j < m → k < m → j ≠ k → ∀ g, (V j).ownBlock = some g → (V k).ownBlock ≠ some g
  off : ∀ j, j < m → (V j).ownBlock ≠ some LB
  lb : LB < W0
/-- the first k rows gone on with by six marks; those from r on as they were written -/
structure Gone (base W0 LB m k r : Nat) (n : Nat → Nat) (V H : Nat → Value) (w : World) : Prop where
  row : ∀ j, j < k → w.ownsRow base 75 1 (H j) (n j + 6) ((marks ((j : Int) + 10) (n j + 6)).map cx)
  old : ∀ j, j < k → ∀ g, (V j).ownBlock = some g → ∀ i, i < n j → w.cell? ⟨g, i, none⟩ = some (cx (mk ((j : Int) + 10) (i : Int)))
  rest : ∀ j, r ≤ j → j < m → w.ownsRow base 75 1 (V j) (n j) ((marks ((j : Int) + 10) (n j)).map cx)
  cell : ∀ j, j < m → w.cell? ⟨LB, j, none⟩ = some (V j)
  size : W0 ≤ w.heap.size
  loc : ∀ j, j < k → (H j).ownBlock = (V j).ownBlock ∨ ∃ h, (H j).ownBlock = some h ∧ W0 ≤ h
  hap : ∀ i j, i < k → j < k → i ≠ j → ∀ g, (H i).ownBlock = some g → (H j).ownBlock ≠ some g
theorem Gone.less {base W0 LB m k r : Nat} {n : Nat → Nat} {V H : Nat → Value} {w : World} (h : Gone base W0 LB m k r n V H w) : Gone base W0 LB m k (r + 1) n V H w := ⟨h.row, h.old, fun j hj => h.rest j (by omega), h.cell, h.size, h.loc, h.hap⟩
theorem Gone.kept {base W0 LB m k r : Nat} {n : Nat → Nat} {V H : Nat → Value} {w w' : World} {row : Option Nat} (h : Gone base W0 LB m k r n V H w) (hS : Vs W0 LB m V) (hkm : k ≤ m) (hg : w.grownBy w' row)
    (hrow : ∀ g, row = some g → LB ≠ g ∧ (∀ j, j < m → (j < k ∨ r ≤ j) → (V j).ownBlock ≠ some g) ∧ (∀ j, j < k → (H j).ownBlock ≠ some g)) : Gone base W0 LB m k r n V H w' := by
  have hz := h.size
  refine ⟨?_, ?_, ?_, ?_, Nat.le_trans hz hg.size, h.loc, h.hap⟩
  · intro j hj
    exact (h.row j hj).kept hg (ne_or (fun g e e2 => (hrow g e2).2.2 j hj e))
  · intro j hj g hV i hi
    rw [hg.cell_far _ (by show g < _; have := hS.lt j (by omega) g hV; omega) (fun e => (hrow g e.symm).2.1 j (by omega) (.inl hj) hV)]
    exact h.old j hj g hV i hi
  · intro j hj hjm
    exact (h.rest j hj hjm).kept hg (ne_or (fun g e e2 => (hrow g e2).2.1 j hjm (.inr hj) e))
  · intro j hj
    rw [hg.cell_far _ (by show LB < _; have := hS.lb; omega) (fun e => (hrow LB e.symm).1 rfl)]
    exact h.cell j hj
def upd (f : Nat → Value) (k : Nat) (v : Value) (j : Nat) : Value := if j = k then v else f j
theorem upd_self (f : Nat → Value) (k : Nat) (v : Value) : upd f k v k = v := by unfold upd; rw [if_pos rfl]
theorem upd_ne (f : Nat → Value) {k j : Nat} (v : Value) (h : j ≠ k) : upd f k v j = f j := by unfold upd; rw [if_neg h]
theorem gone_push {base W0 LB m k : Nat} {n : Nat → Nat} {V H : Nat → Value} {w : World} {g0 : Value} (h : Gone base W0 LB m k (k + 1) n V H w)
    (hown : w.ownsRow base 75 1 g0 (n k + 6) ((marks ((k : Int) + 10) (n k + 6)).map cx))
    (hold : ∀ g, (V k).ownBlock = some g → ∀ i, i < n k → w.cell? ⟨g, i, none⟩ = some (cx (mk ((k : Int) + 10) (i : Int))))
    (hloc : g0.ownBlock = (V k).ownBlock ∨ ∃ h, g0.ownBlock = some h ∧ W0 ≤ h) (hap : ∀ j, j < k → ∀ g, (H j).ownBlock = some g → g0.ownBlock ≠ some g) : Gone base W0 LB m (k + 1) (k + 1) n V (upd H k g0) w := by
  refine ⟨?_, ?_, h.rest, h.cell, h.size, ?_, ?_⟩
  · intro j hj
    by_cases e : j = k
    · subst e; rw [upd_self]; exact hown
    · rw [upd_ne _ _ e]; exact h.row j (by omega)
  · intro j hj
    by_cases e : j = k
    · subst e; exact hold
    · exact h.old j (by omega)
  · intro j hj
    by_cases e : j = k
    · subst e; rw [upd_self]; exact hloc
    · rw [upd_ne _ _ e]; exact h.loc j (by omega)
  · intro i j hi hj hij g hg
    by_cases e : i = k
    · subst e
      rw [upd_self] at hg
      rw [upd_ne _ _ (Ne.symm hij)]
      intro e2
      exact hap j (by omega) g e2 hg
    · rw [upd_ne _ _ e] at hg
      by_cases e2 : j = k
      · subst e2; rw [upd_self]; exact hap i (by omega) g hg
      · rw [upd_ne _ _ e2]; exact h.hap i j (by omega) (by omega) hij g hg
theorem range_upd (H : Nat → Value) (k : Nat) (v : Value) : (List.range (k + 1)).map (upd H k v) = (List.range k).map H ++ [v] := by
  rw [List.range_succ, List.map_append]
  congr 1
  · refine List.map_congr_left ?_
    intro j hj
    have : j ≠ k := by have := List.mem_range.1 hj; omega
    exact upd_ne _ _ this
  · simp [upd_self]

end Go.Proofs.Ytmhplaanpbpndaa

namespace Go.Proofs.Ytmhplaanpbpndaa
open Fl RowKit

theorem Try.infoRC : (Try.prog.info? 37).map (fun i => (i.zero, i.size, i.bytes)) = some (some (.slice none 0 0), 1, 24) := by kernel_rfl
theorem wrap10 {k : Nat} (hk : k ≤ 10) : IntKind.i64.wrap ((k : Int) + 10) = (k : Int) + 10 := by rw [IntKind.wrap_i64]; omega
theorem mark_w (k : Nat) (i : Int) (w : World) (hk : k ≤ 10) (hi : 0 ≤ i) (hi2 : i ≤ 1000000000000000) :
    Calls Try.prog 35 #[.int .i64 (IntKind.i64.wrap ((k : Int) + 10)), .int .i64 i] w fun e w' => e = .returned (.complex .f64 (mk1 ((k : Int) + 10) i) (floatOfInt .f64 ((k : Int) + 10))) ∧ w' = w := by
  rw [wrap10 hk]; exact mark_any _ _ _ (by omega) (by omega) hi hi2
theorem vs_of {base LB m : Nat} {n : Nat → Nat} {V : Nat → Value} {L : Nat → List Cw} {w : World} (h : Many base LB m n V L w) : Vs w.heap.size LB m V := ⟨fun j hj g hg => ((h.own j hj).lt g hg).2, h.apart, h.off, h.lt⟩
theorem gone0 {base LB m : Nat} {n : Nat → Nat} {V H : Nat → Value} {L : Nat → List Cw} {w : World} (h : Many base LB m n V L w) (hL : ∀ j, j < m → L j = marks ((j : Int) + 10) (n j)) : Gone base w.heap.size LB m 0 0 n V H w :=
  ⟨fun _ h => absurd h (Nat.not_lt_zero _), fun _ h => absurd h (Nat.not_lt_zero _), fun j _ hj => by rw [← hL j hj]; exact h.own j hj, h.cell, Nat.le_refl _, fun _ h => absurd h (Nat.not_lt_zero _), fun _ _ h => absurd h (Nat.not_lt_zero _)⟩
/-- what the inner loop keeps while row k is gone on with -/
structure Going (base k i : Nat) (n : Nat → Nat) (V : Nat → Value) (w2 : World) (g0 : Value) (w : World) : Prop where
  grown : w2.grownBy w (V k).ownBlock
  own : w.ownsRow base 75 1 g0 (n k + i) ((marks ((k : Int) + 10) (n k + i)).map cx)
  loc : g0.ownBlock = (V k).ownBlock ∨ ∃ h, g0.ownBlock = some h ∧ w2.heap.size ≤ h
  old : ∀ g, (V k).ownBlock = some g → g < w2.heap.size ∧ ∀ j, j < n k → w.cell? ⟨g, j, none⟩ = some (cx (mk ((k : Int) + 10) (j : Int)))
theorem going_next {base k i : Nat} {n : Nat → Nat} {V : Nat → Value} {w2 w w' : World} {g0 v' : Value} {o : Obj} (h : Going base k i n V w2 g0 w) (ho : w'.ownsRow base 75 1 v' (n k + i + 1) ((marks ((k : Int) + 10) (n k + i)).map cx ++ [cx (mk ((k : Int) + 10) ((n k : Int) + (i : Int)))]))
    (hg : (w.alloc o).grownBy w' g0.ownBlock) (hat : v'.ownBlock = g0.ownBlock ∨ v'.ownBlock = some (w.heap.size + 1)) (hk : Keeps g0 ((marks ((k : Int) + 10) (n k + i)).map cx) w') : Going base k (i + 1) n V w2 v' w' := by
  have hs := h.grown.size
  refine ⟨?_, ?_, ?_, ?_⟩
  · refine (h.grown.andThen (World.grownBy_alloc w o none) (fun j e => by cases e)).andThen hg ?_
    intro j hj
    rcases h.loc with e | ⟨q, e, hq⟩
    · right; rw [← e]; exact hj
    · left
      rw [e] at hj
      cases hj
      exact hq
  · rw [marks_next] at ho; exact ho
  · rcases hat with e | e
    · rcases h.loc with e2 | ⟨q, e2, hq⟩
      · left; rw [e, e2]
      · right; exact ⟨q, by rw [e, e2], hq⟩
    · right; exact ⟨_, e, by omega⟩
  · intro g hV
    obtain ⟨hlt, hc⟩ := h.old g hV
    refine ⟨hlt, fun j hj => ?_⟩
    rcases h.loc with e | ⟨q, e, hq⟩
    · exact hk g j _ (by rw [e]; exact hV) (marks_get _ (by omega))
    · rw [hg.cell_far _ (by show g < _; rw [size_al]; omega) (by intro e2; rw [e] at e2; have e3 : g = q := Option.some.inj e2; omega)]
      rw [World.cell?_of_block (heap_alloc_old w o (show g < w.heap.size by omega))]
      exact hc j hj

theorem gone_step {base W0 LB m k : Nat} {n : Nat → Nat} {V H : Nat → Value} {w2 w : World} {g0 gv : Value} (hS : Vs W0 LB m V) (hk : k < m) (hG : Gone base W0 LB m k k n V H w2) (hgs : w2.ownsRow W0 37 1 gv k ((List.range k).map H))
    (hgap : ∀ j, j < k → ∀ g, (H j).ownBlock = some g → gv.ownBlock ≠ some g) (hI : Going base k 6 n V w2 g0 w) :
    Gone base W0 LB m (k + 1) (k + 1) n V (upd H k g0) w ∧ w.ownsRow W0 37 1 gv k ((List.range k).map H) ∧ (∀ j, j < k + 1 → ∀ g, (upd H k g0 j).ownBlock = some g → gv.ownBlock ≠ some g) := by
  have hz := hG.size
  have hHV : ∀ j, j < k → ∀ g, (V k).ownBlock = some g → (H j).ownBlock ≠ some g := by
    intro j hj g hV e
    rcases hG.loc j hj with e2 | ⟨h, e2, hh⟩
    · rw [e2] at e
      exact hS.apart j k (by omega) hk (by omega) g e hV
    · rw [e2] at e
      have := hS.lt k hk g hV
      cases e
      omega
  have G1 := hG.less.kept hS (by omega) hI.grown (fun g e => ⟨fun e2 => by subst e2; exact hS.off k hk e, fun j hj hjk e2 => hS.apart j k hj hk (by omega) g e2 e, fun j hj => hHV j hj g e⟩)
  have hgv : ∀ g, gv.ownBlock = some g → W0 ≤ g ∧ g < w2.heap.size := fun g e => hgs.lt g e
  refine ⟨gone_push G1 hI.own (fun g hg => (hI.old g hg).2) ?_ ?_, hgs.kept hI.grown (ne_or (fun g e e2 => ?_)), ?_⟩
  · rcases hI.loc with e | ⟨h, e, hh⟩
    · exact .inl e
    · exact .inr ⟨h, e, by omega⟩
  · intro j hj g hg e
    have hl := ((hG.row j hj).lt g hg).2
    rcases hI.loc with e2 | ⟨h, e2, hh⟩
    · rw [e2] at e; exact hHV j hj g e hg
    · rw [e2] at e; cases e; omega
  · have := hS.lt k hk g e2
    have := (hgv g e).1
    omega
  · intro j hj g hg e
    by_cases ej : j = k
    · subst ej
      rw [upd_self] at hg
      obtain ⟨h1, h2⟩ := hgv g e
      rcases hI.loc with e2 | ⟨h, e2, hh⟩
      · rw [e2] at hg
        have := hS.lt j hk g hg
        omega
      · rw [e2] at hg; cases hg; omega
    · rw [upd_ne _ _ ej] at hg
      exact hgap j (by omega) g hg e
theorem gone_gs {base W0 LB m k : Nat} {n : Nat → Nat} {V H : Nat → Value} {w w' : World} {gv gv' : Value} {o : Obj} (hS : Vs W0 LB m V) (hk : k ≤ m) (hG : Gone base W0 LB m k k n V H w) (hge : ∀ g, gv.ownBlock = some g → W0 ≤ g)
    (hgap : ∀ j, j < k → ∀ g, (H j).ownBlock = some g → gv.ownBlock ≠ some g) (hg : (w.alloc o).grownBy w' gv.ownBlock) (hat : gv'.ownBlock = gv.ownBlock ∨ gv'.ownBlock = some (w.heap.size + 1)) :
    Gone base W0 LB m k k n V H w' ∧ (∀ j, j < k → ∀ g, (H j).ownBlock = some g → gv'.ownBlock ≠ some g) := by
  have G1 := hG.kept hS hk (World.grownBy_alloc w o none) (fun g e => by cases e)
  refine ⟨G1.kept hS hk hg (fun g e => ⟨fun e2 => ?_, fun j hj _ e2 => ?_, fun j hj e2 => hgap j hj g e2 e⟩), ?_⟩
  · have := hS.lb
    have := hge g e
    omega
  · have := hS.lt j hj g e2
    have := hge g e
    omega
  · intro j hj g hH e
    rcases hat with e2 | e2
    · rw [e2] at e; exact hgap j hj g hH e
    · rw [e2] at e
      have := ((hG.row j hj).lt g hH).2
      cases e
      omega

set_option maxRecDepth 10000 in
set_option maxHeartbeats 40000000 in
theorem kapart_any (base LB m B : Nat) (n : Nat → Nat) (V : Nat → Value) (E : Nat → List Cw) (w : World) (hm0 : 0 < m) (hm : m ≤ 8) (hT : Many base LB m n V E w) (hsz : ∀ j, j < m → n j * 16 + 96 ≤ 140737488355328) (hB : ∀ j, j < m → ∀ g, (V j).ownBlock = some g → B ≤ g) (hBw : B ≤ w.heap.size) (hbs : base ≤ w.heap.size) :
    Calls Try.prog 14 #[.slice (some ⟨LB, 0, none⟩) m m] w fun e w' => e = .returned (.bool true) ∧ Below B w w' := by
  have hVf : ∀ j, j < m → (∃ g C, V j = .slice (some ⟨g, 0, none⟩) (n j) C) ∨ (∃ A C, V j = .slice A 0 C ∧ n j = 0) := fun j hj => by
    rcases (hT.own j hj).2 with ⟨hv, h0⟩ | ⟨g, cap, cur, hv, _⟩
    · exact .inr ⟨_, _, hv, h0⟩
    · exact .inl ⟨_, _, hv⟩
  go_enter Try.func14, Try.ntmps14
  go_wp2
  go_loopw [3] (fun kv wr => ∃ k : Nat, k ≤ m ∧ kv = .int .i64 k ∧ Many base LB m n V (wr1 E k 0 n) wr ∧ Below B w wr) (fun kv _ => m - (intOf kv).toNat)
  case atStart => exact ⟨0, Nat.zero_le _, rfl, by rw [wr1_start]; exact hT, Below.refl _ _⟩
  case round =>
    obtain ⟨k, hk, rfl, hM, hbel⟩ := hrel
    by_cases hlt : k < m
    · have hsk := hsz k hlt
      have hck := hM.cell k hlt
      have hbd := hM.lt
      obtain ⟨A, C, hVk⟩ := own_form (hM.own k hlt)
      rw [hVk] at hck
      go_wp2
      go_loopw [4] (fun iv wr => ∃ i : Nat, i ≤ n k ∧ iv = .int .i64 i ∧ Many base LB m n V (wr1 E k i n) wr ∧ Below B w wr) (fun iv _ => n k - (intOf iv).toNat)
      case atStart => exact ⟨0, Nat.zero_le _, rfl, hM, hbel⟩
      case round =>
        obtain ⟨i, hi, rfl, hMi, hbeli⟩ := hrel
        have hci := hMi.cell k hlt
        have hlti := hMi.lt
        by_cases hin : i < n k
        · have hlen : (E k).length = n k := hT.len k hlt
          obtain ⟨g, C', hVg, _⟩ := own_shape (hMi.own k hlt) (by omega)
          have hbk : (V k).ownBlock = some g := by rw [hVg]; rfl
          have hok := hMi.own k hlt
          have hst := hMi.store (i := i) hlt hVg (mk ((k : Int) + 10) (i : Int))
          rw [wr1_set E k i n (by omega)] at hst
          have hBk := hB k hlt g hbk
          rw [hVg] at hok hci
          have hcell := hok.cellAt i (by omega)
          have hfz := hok.frozenAt i
          have hget : ((wr1 E k i n k).map cx)[i]? = some (cx (zat (wr1 E k i n k) i)) := by
            have hl := hMi.len k hlt
            rw [List.getElem?_map, zat_lt (by omega)]; rfl
          rw [hget] at hcell
          obtain ⟨y, hy⟩ : ∃ y, y = zat (wr1 E k i n k) i := ⟨_, rfl⟩
          rw [← hy] at hcell
          have HB : Hid (Below B w wr) := hbeli
          have HS : Hid (Many base LB m n V (wr1 E k (i + 1) n) (wr.setCell ⟨g, i, none⟩ (cx (mk ((k : Int) + 10) (i : Int))))) := hst
          have HVk : Hid (V k = .slice A (n k) C) := hVk
          clear hy hget hbeli hst hMi hM hT hbel hck hbd hsz hB hlen hok hVg hbk hVk hVf
          have hmk := fun W => mark_w k (i : Int) W (by omega) (by omega) (by omega)
          go_wp2
          go_region_with (go_at_call 35; (with_reducible refine (hmk _).mono ?_); rintro e w' ⟨rfl, rfl⟩)
          all_goals
            go_wp2
            go_roundw
            case rel => exact ⟨i + 1, by omega, by go_num, HS.out.drewN 1, (HB.out.setCell (p := ⟨g, i, none⟩) hBk _).drew⟩
            case measure => simp [intOf]; omega
        · have e : i = n k := by omega
          subst e
          rw [hVk] at hci
          rw [wr1_next E k n (hT.len k hlt)] at hMi
          have HM : Hid (Many base LB m n V (wr1 E (k + 1) 0 n) wr) := hMi
          have HB : Hid (Below B w wr) := hbeli
          have HVk : Hid (V k = .slice A (n k) C) := hVk
          clear hMi hbeli hM hbel hT hsz hB hVk hVf
          go_wp2
          go_roundw
          case rel => exact ⟨k + 1, by omega, by go_num, HM.out, HB.out⟩
          case measure => simp [intOf]; omega
    · have e : m = k := by omega
      subst e
      clear hT hk hlt
      have hSz := hbel.size
      have hS0 := vs_of hM
      have hG0 := gone0 (H := fun _ => Value.slice none 0 0) hM (fun j hj => by unfold wr1; rw [if_pos hj])
      have hBwr : B ≤ wr.heap.size := Nat.le_trans hBw hbel.size
      obtain ⟨W0, hW0⟩ : ∃ W0, W0 = wr.heap.size := ⟨_, rfl⟩
      rw [← hW0] at hS0 hG0 hBwr
      have hbW : base ≤ W0 := by omega
      clear hM
      go_wp2
      go_loopw [5, 6] (fun gv kv wr => ∃ (k : Nat) (H : Nat → Value) (gv0 : Value), k ≤ m ∧ kv = .int .i64 k ∧ gv0 = gv ∧ Gone base W0 LB m k k n V H wr ∧ wr.ownsRow W0 37 1 gv0 k ((List.range k).map H) ∧ (∀ j, j < k → ∀ g, (H j).ownBlock = some g → gv0.ownBlock ≠ some g) ∧ Below B w wr) (fun _ kv _ => m - (intOf kv).toNat)
      case atStart => exact ⟨0, fun _ => Value.slice none 0 0, _, Nat.zero_le _, rfl, rfl, hG0, World.ownsRow_nil _ _ _ _, fun j hj => absurd hj (Nat.not_lt_zero _), hbel⟩
      case round =>
        obtain ⟨k, H, gv0, hk, rfl, rfl, hG, hgs, hgap, hb1⟩ := hrel
        clear hG0 hbel hW0 hSz
        have hWr := hG.size
        by_cases hlt : k < m
        · have hsk := hsz k hlt
          have hck := hG.cell k hlt
          have hown0 := hG.rest k (Nat.le_refl _) hlt
          obtain ⟨A, C, hVk⟩ := own_form hown0
          have hlr : LB < wr.heap.size := by have := hS0.lb; omega
          rw [hVk] at hck
          have HVk : Hid (V k = .slice A (n k) C) := hVk
          have hI0 : Going base k 0 n V wr (V k) wr := ⟨⟨rfl, rfl, rfl, Nat.le_refl _, fun _ _ _ => rfl⟩, hown0, .inl rfl, fun g hg => ⟨(hown0.lt g hg).2, fun j hj => by
            have := hown0.cells (g := g) (by rw [hVk] at hg ⊢; cases A with
              | none => simp [Value.ownBlock] at hg
              | some a => rcases hown0.2 with ⟨hv, _⟩ | ⟨g', cap, cur, hv, _⟩
                          · rw [hVk] at hv; cases hv
                          · rw [hVk] at hv; cases hv; simp [Value.ownBlock] at hg; subst hg; rfl) j _ (marks_get _ hj)
            rw [add_at] at this; exact this⟩⟩
          clear hVk hown0
          go_wp2
          obtain ⟨w2, hw2⟩ : ∃ w2, w2 = wr := ⟨_, rfl⟩
          rw [← hw2] at hG hgs hb1 hI0 hlr hck hWr
          have HLR : Hid (LB < w2.heap.size ∧ w2.cell? ⟨LB, k, none⟩ = some (.slice A (n k) C)) := ⟨hlr, hck⟩
          have HG : Hid (Gone base W0 LB m k k n V H w2) := hG
          have HGS : Hid (w2.ownsRow W0 37 1 gv0 k ((List.range k).map H)) := hgs
          have HGA : Hid (∀ j, j < k → ∀ g, (H j).ownBlock = some g → gv0.ownBlock ≠ some g) := hgap
          have HB1 : Hid (Below B w w2) := hb1
          clear hG hgs hgap hb1
          go_loopw [7, 8] (fun g iv wr => ∃ (i : Nat) (g0 : Value), i ≤ 6 ∧ iv = .int .i64 i ∧ g0 = g ∧ Going base k i n V w2 g0 wr) (fun _ iv _ => 6 - (intOf iv).toNat)
          case atStart => exact ⟨0, _, by omega, rfl, HVk.out, by rw [← hw2]; exact hI0⟩
          case round =>
            obtain ⟨i, g0, hi, rfl, rfl, hI⟩ := hrel
            clear hw2 hI0 hck hlr
            have hs2 := hI.grown.size
            have hlbk : (V k).ownBlock ≠ some LB := hS0.off k hlt
            have hckr : wr.cell? ⟨LB, k, none⟩ = some (.slice A (n k) C) := by rw [hI.grown.cell_far _ HLR.out.1 (fun e => hlbk e.symm)]; exact HLR.out.2
            have hlrr : LB < wr.heap.size := Nat.lt_of_lt_of_le HLR.out.1 hs2
            by_cases hin : i < 6
            · obtain ⟨i0, hi0, hz0, hz1, hz2⟩ := info_parts Try.infoC
              have hown := hI.own
              have HI : Hid (Going base k i n V w2 g0 wr) := hI
              have HSZ : Hid (∀ j, j < m → n j * 16 + 96 ≤ 140737488355328) := hsz
              have HBB : Hid (∀ j, j < m → ∀ g, (V j).ownBlock = some g → B ≤ g) := hB
              have HS0 : Hid (Vs W0 LB m V) := hS0
              clear hI hlbk hsz hB hS0 hVf
              go_wp2_with (first
                | (go_at_call 35; refine (mark_any _ _ _ (by omega) (by omega) (by omega) (by omega)).mono ?_; rintro e w' ⟨rfl, rfl⟩)
                | (at_builtin; refine wpList_append_keeps rfl _ _ 37 rfl base 75 i0 (.complex .f64 0 0) 16 Try.underlying37 hi0 hz0 hz1 hz2 rfl _ _ _ rfl (hown.alloc _) ⟨_, 0, none⟩ 1 1 [cx (mk ((k : Int) + 10) ((n k : Int) + (i : Int)))] rfl rfl ?c1 ?c2 ?c3 ?c4 ?c5 ?_))
              case c1 =>
                intro j u hj
                match j, hj with
                | 0, hj =>
                  simp at hj; subst hj
                  simp [Addr.add, cx, mk]
              case c2 => intro u hu; simp at hu; subst hu; rfl
              case c3 => unfold maxLen; omega
              case c4 => omega
              case c5 => simp; omega
              · intro v' w3 hown' hgrow hat hkeep
                have R := going_next HI.out hown' hgrow hat hkeep
                clear hown' hgrow hown hat hkeep
                go_wp2
                go_roundw
                case rel => exact ⟨i + 1, v', by omega, by go_num, rfl, R⟩
                case measure => simp [intOf]; omega
            · have e6 : i = 6 := by omega
              subst e6
              obtain ⟨G1, hgs1, hgap1⟩ := gone_step hS0 hlt HG.out HGS.out HGA.out hI
              have hb2 : Below B w wr := HB1.out.grown hI.grown (by omega) (fun j hj => hB k hlt j hj)
              obtain ⟨h, c, hg0, hge⟩ := own_shape hI.own (by omega)
              subst hg0
              have hgv : ∀ g, gv0.ownBlock = some g → W0 ≤ g := fun g e => own_ge hgs1 e
              have hstep := fun (v' : Value) (o : Obj) (w3 : World) (hg : (wr.alloc o).grownBy w3 gv0.ownBlock) (hat : v'.ownBlock = gv0.ownBlock ∨ v'.ownBlock = some (wr.heap.size + 1)) => gone_gs hS0 (by omega) G1 hgv hgap1 hg hat
              have HST : Hid (∀ (v' : Value) (o : Obj) (w3 : World), (wr.alloc o).grownBy w3 gv0.ownBlock → (v'.ownBlock = gv0.ownBlock ∨ v'.ownBlock = some (wr.heap.size + 1)) → Gone base W0 LB m (k + 1) (k + 1) n V (upd H k (.slice (some ⟨h, 0, none⟩) (n k + 6) c)) w3 ∧ (∀ j, j < k + 1 → ∀ g, (upd H k (.slice (some ⟨h, 0, none⟩) (n k + 6) c) j).ownBlock = some g → v'.ownBlock ≠ some g)) := hstep
              have HGV : Hid (∀ g, gv0.ownBlock = some g → W0 ≤ g) := hgv
              have HB2 : Hid (Below B w wr) := hb2
              have HSZ : Hid (∀ j, j < m → n j * 16 + 96 ≤ 140737488355328) := hsz
              have HBB : Hid (∀ j, j < m → ∀ g, (V j).ownBlock = some g → B ≤ g) := hB
              have HS0 : Hid (Vs W0 LB m V) := hS0
              obtain ⟨i1, hi1, hy0, hy1, hy2⟩ := info_parts Try.infoRC
              clear hI hlbk hsz hB hS0 hstep hgv hb2 G1 hgap1 hVf
              go_wp2_with (first
                | (at_builtin; refine wpList_append_own_at _ rfl _ _ 49 rfl W0 37 i1 (.slice none 0 0) 1 24 Try.underlying49 hi1 hy0 hy1 hy2 rfl (by decide) _ _ _ rfl (hgs1.alloc _) ⟨_, 0, none⟩ 1 1 [.slice (some ⟨h, 0, none⟩) (n k + 6) c] rfl rfl ?c1 ?c2 ?c3 ?c4 ?c5 ?_))
              case c1 =>
                intro j u hj
                match j, hj with
                | 0, hj =>
                  simp at hj; subst hj
                  simp [Addr.add]
              case c2 => intro u hu; simp at hu; subst hu; rfl
              case c3 => unfold maxLen; omega
              case c4 => omega
              case c5 => simp; omega
              · intro v' w3 hown' hgrow _ hat
                obtain ⟨R1, R3⟩ := HST.out v' _ w3 hgrow (by simpa using hat)
                have R2 : Below B w w3 := (HB2.out.alloc (by omega) _).grown hgrow (by simp; omega) (fun j hj => by have := HGV.out j hj; omega)
                have R4 : w3.ownsRow W0 37 1 v' (k + 1) ((List.range (k + 1)).map (upd H k (.slice (some ⟨h, 0, none⟩) (n k + 6) c))) := by rw [range_upd]; exact hown'
                clear hown' hgrow hgs1 hat
                go_wp2
                go_roundw
                case rel => exact ⟨k + 1, _, v', by omega, by go_num, rfl, R1, R4, R3, R2⟩
                case measure => simp [intOf]; omega
        · have e : m = k := by omega
          subst e
          obtain ⟨gb, gc, hgv, hgb⟩ := own_shape hgs hm0
          subst hgv
          have hS' : ∀ j, j < m → ∃ h c, H j = .slice (some ⟨h, 0, none⟩) (n j + 6) c := fun j hj => by
            obtain ⟨h, c, e, _⟩ := own_shape (hG.row j hj) (by omega)
            exact ⟨h, c, e⟩
          have pick : ∃ (P Q : Nat → Nat), ∀ j, j < m → H j = .slice (some ⟨P j, 0, none⟩) (n j + 6) (Q j) :=
            ⟨fun j => if hj : j < m then Classical.choose (hS' j hj) else 0, fun j => if hj : j < m then Classical.choose (Classical.choose_spec (hS' j hj)) else 0, fun j hj => by
              simp only [hj, dif_pos]; exact Classical.choose_spec (Classical.choose_spec (hS' j hj))⟩
          obtain ⟨P, Q, hPQ⟩ := pick
          have F1 : Hid (∀ j, j < m → wr.cell? ⟨gb, j, none⟩ = some (.slice (some ⟨P j, 0, none⟩) (n j + 6) (Q j))) := fun j hj => by
            have := hgs.cellAt j (by simp; omega)
            rw [this]; simp [hj, hPQ j hj]
          have F2 : Hid (∀ j i, j < m → i < n j + 6 → wr.cell? ⟨P j, i, none⟩ = some (cx (mk ((j : Int) + 10) (i : Int)))) := fun j i hj hi => by
            have := hG.row j hj
            rw [hPQ j hj] at this
            rw [this.cellAt i (by omega)]
            exact marks_get _ hi
          have F3 : Hid (∀ j, j < m → wr.cell? ⟨LB, j, none⟩ = some (V j)) := hG.cell
          have F4 : Hid (∀ j, j < m → ∀ g, (V j).ownBlock = some g → ∀ i, i < n j → wr.cell? ⟨g, i, none⟩ = some (cx (mk ((j : Int) + 10) (i : Int)))) := hG.old
          have HB : Hid (Below B w wr) := hb1
          have hlbw : LB < wr.heap.size := by have := hS0.lb; omega
          have HV : Hid (∀ j, j < m → (∃ g C, V j = .slice (some ⟨g, 0, none⟩) (n j) C) ∨ (∃ A C, V j = .slice A 0 C ∧ n j = 0)) := hVf
          clear hG hgs hgap hb1 hB hBwr hBw hS' hPQ hS0 hVf
          go_wp2
          obtain ⟨w5, hw5⟩ : ∃ w5, w5 = wr := ⟨_, rfl⟩
          rw [← hw5] at F1 F2 F3 F4 HB hlbw
          go_loopw [9] (fun kv wr => ∃ (k q : Nat), k ≤ m ∧ kv = .int .i64 k ∧ wr = w5.drewN q) (fun kv _ => m - (intOf kv).toNat)
          case atStart => exact ⟨0, 0, Nat.zero_le _, rfl, by rw [hw5]; rfl⟩
          case round =>
            obtain ⟨k, q, hk, rfl, hq⟩ := hrel
            clear hw5
            by_cases hlt : k < m
            · obtain ⟨A, C, hVk⟩ : ∃ A C, V k = .slice A (n k) C := by
                rcases HV.out k hlt with ⟨g, C, e⟩ | ⟨A, C, e, h0⟩
                · exact ⟨_, _, e⟩
                · exact ⟨A, C, by rw [h0]; exact e⟩
              have HVk : Hid (V k = .slice A (n k) C) := hVk
              clear hVk
              go_wp2
              go_loopw [10] (fun iv wr => ∃ (i q : Nat), i ≤ n k + 6 ∧ iv = .int .i64 i ∧ wr = w5.drewN q) (fun iv _ => n k + 6 - (intOf iv).toNat)
              case atStart => exact ⟨0, q, Nat.zero_le _, rfl, by rw [← hq]⟩
              case round =>
                clear hq
                obtain ⟨i, q, hi, rfl, hq⟩ := hrel
                have c1 : wr.cell? ⟨gb, k, none⟩ = some (.slice (some ⟨P k, 0, none⟩) (n k + 6) (Q k)) := by rw [hq]; exact F1.out k hlt
                have hsk := hsz k hlt
                have HQ : Hid (wr = w5.drewN q) := hq
                by_cases hin : i < n k + 6
                · have c2 : wr.cell? ⟨P k, i, none⟩ = some (cx (mk ((k : Int) + 10) (i : Int))) := by rw [hq]; exact F2.out k i hlt hin
                  have hmk := fun W => mark_any ((k : Int) + 10) (i : Int) W (by omega) (by omega) (by omega) (by omega)
                  have hsm := fun W => ksame_any (mk1 ((k : Int) + 10) (i : Int)) (floatOfInt .f64 ((k : Int) + 10)) (mk1 ((k : Int) + 10) (i : Int)) (floatOfInt .f64 ((k : Int) + 10)) W
                  rw [smB_self, smB_self] at hsm
                  have hin2 : (i : Int) < (n k : Int) + 6 := by omega
                  unfold cx mk at c2
                  by_cases hik : i < n k
                  · obtain ⟨g, C', hVg⟩ : ∃ g C', V k = .slice (some ⟨g, 0, none⟩) (n k) C' := by
                      rcases HV.out k hlt with ⟨g, C, e⟩ | ⟨A, C, e, h0⟩
                      · exact ⟨_, _, e⟩
                      · omega
                    have c3 : wr.cell? ⟨LB, k, none⟩ = some (.slice (some ⟨g, 0, none⟩) (n k) C') := by rw [hq, ← hVg]; exact F3.out k hlt
                    have c4 : wr.cell? ⟨g, i, none⟩ = some (cx (mk ((k : Int) + 10) (i : Int))) := by rw [hq]; exact F4.out k hlt g (by rw [hVg]; rfl) i hik
                    unfold cx mk at c4
                    have hikI : (i : Int) < (n k : Int) := by omega
                    clear hq hsz F1 F2 F3 F4 HB hik HV HVk hVg
                    go_wp2
                    go_big_quiet (first | (go_at_call 36; (with_reducible exact Calls.quiet_of_same (hsm _))) | (go_at_call 35; (with_reducible exact Calls.quiet_of_same (hmk _))))
                    go_wp2
                    go_roundw
                    case rel => exact ⟨i + 1, q + nq, by omega, by go_num, by rw [HQ.out, World.drewN_drewN]⟩
                    case measure => simp [intOf]; omega
                  · have c3 : wr.cell? ⟨LB, k, none⟩ = some (.slice A (n k) C) := by rw [hq, ← HVk.out]; exact F3.out k hlt
                    have hik4 : decide (i < n k) = false := decide_eq_false hik
                    clear hq hsz F1 F2 F3 F4 HB hik HV HVk
                    go_wp2
                    go_big_quiet (first | (go_at_call 36; (with_reducible exact Calls.quiet_of_same (hsm _))) | (go_at_call 35; (with_reducible exact Calls.quiet_of_same (hmk _))))
                    go_wp2
                    go_roundw
                    case rel => exact ⟨i + 1, q + nq, by omega, by go_num, by rw [HQ.out, World.drewN_drewN]⟩
                    case measure => simp [intOf]; omega
                · have e : i = n k + 6 := by omega
                  subst e
                  clear hq hsz F1 F2 F3 F4 HB HV HVk
                  go_wp2
                  go_roundw
                  case rel => exact ⟨k + 1, q, by omega, by go_num, HQ.out⟩
                  case measure => simp [intOf]; omega
            · have HQ : Hid (wr = w5.drewN q) := hq
              clear hq hsz F1 F2 F3 F4 HV
              go_wp2
              go_ret
              exact ⟨rfl, by rw [HQ.out]; exact below_drewN HB.out q⟩
end Go.Proofs.Ytmhplaanpbpndaa

namespace Go.Proofs.Ytmhplaanpbpndaa
open Fl RowKit

theorem same_none (w : World) : Calls Try.prog 36 #[.complex .f64 0 0, .complex .f64 0 0] w fun e w' => e = .returned (.bool true) ∧ w' = w := by
  have := ksame_any 0 0 0 0 w
  rw [smB_self] at this
  exact this
section errs
variable {na nb : Nat} {E : Int} (ao bo : Option Addr) (ca cb : Nat) (w : World) (ha : na ≤ 1000000000000000) (hb : nb ≤ 1000000000000000) (he : ¬ E = 0) (hE : E = errV na nb)
include ha hb he hE
end errs

end Go.Proofs.Ytmhplaanpbpndaa

namespace Go.Proofs.Ytmhplaanpbpndaa
open Fl RowKit

/-- a list of words that is read -/
structure Src (w : World) (A : Option Addr) (C n : Nat) (xs : List Cw) : Prop where
  len : xs.length = n
  ok : okl xs
  sl : Sl w A C xs
theorem Src.below {w w' : World} {A : Option Addr} {C n : Nat} {xs : List Cw} (h : Src w A C n xs) (hb : Below w.heap.size w w') : Src w' A C n xs := ⟨h.len, h.ok, h.sl.below hb⟩
theorem Src.drewN {w : World} {A : Option Addr} {C n : Nat} {xs : List Cw} (h : Src w A C n xs) (m : Nat) : Src (w.drewN m) A C n xs := ⟨h.len, h.ok, h.sl.drewN m⟩
theorem Src.lst {w : World} {A : Option Addr} {C n : Nat} {xs : List Cw} (h : Src w A C n xs) : Lst w A n (fun j => anz (zat xs j)) xs := lst_self h.len h.ok h.sl.rd
/-- a row that is owned -/
structure Rw (w : World) (b : Nat) (v : Value) (n : Nat) (zs : List Cw) : Prop where
  len : zs.length = n
  own : w.ownsRow b 75 1 v n (zs.map cx)
theorem Rw.below {w w' : World} {b n : Nat} {v : Value} {zs : List Cw} (h : Rw w b v n zs) (hb : Below w.heap.size w w') : Rw w' b v n zs := ⟨h.len, own_below h.own hb⟩
theorem Rw.drewN {w : World} {b n : Nat} {v : Value} {zs : List Cw} (h : Rw w b v n zs) (m : Nat) : Rw (w.drewN m) b v n zs := ⟨h.len, h.own⟩
theorem Rw.only {w w' : World} {b n g : Nat} {v : Value} {zs : List Cw} (h : Rw w b v n zs) (ho : OnlyRow g w w') (hne : v.ownBlock ≠ some g) : Rw w' b v n zs := ⟨h.len, own_at h.own (fun q hq => ho.block q (fun e => hne (by rw [hq, e])))⟩
theorem Rw.lt {w : World} {b n g c : Nat} {zs : List Cw} (h : Rw w b (.slice (some ⟨g, 0, none⟩) n c) n zs) : b ≤ g ∧ g < w.heap.size := h.own.lt g rfl
theorem Rw.rc {w : World} {b n g c : Nat} {zs : List Cw} (h : Rw w b (.slice (some ⟨g, 0, none⟩) n c) n zs) : Rc w (some ⟨g, 0, none⟩) zs := by
  obtain ⟨A, C, hv, _, _, hr⟩ := own_rc h.len.symm h.own
  cases hv
  exact hr
theorem rw_pre {w : World} {b N n g c : Nat} {xs ys : List Cw} (h : Rw w b (.slice (some ⟨g, 0, none⟩) N c) N (xs ++ ys)) (hn : xs.length = n) (hx : okl xs) : Lst w (some ⟨g, 0, none⟩) n (fun j => anz (zat xs j)) xs := by
  refine lst_self hn hx ?_
  intro k hk
  obtain ⟨b', off, h1, h2, h3⟩ := h.rc k (by rw [List.length_append]; omega)
  refine ⟨b', off, h1, h2, ?_⟩
  rw [h3]
  simp [zat, List.getD_eq_getElem?_getD, List.getElem?_append_left hk]
theorem new_rw {base n : Nat} {f : Nat → Cn} {zs : List Cw} {v : Value} {w : World} (h : New base f n zs v w) : Rw w base v n zs := ⟨h.len, h.own⟩
theorem new_any {base n : Nat} {f g : Nat → Cn} {zs : List Cw} {v : Value} {w : World} (h : New base f n zs v w) (e : ∀ j, j < n → f j = g j) : ∃ A C, v = .slice A n C ∧ Lst w A n g zs := by
  obtain ⟨A, C, rfl, _, _, hr⟩ := own_rc h.len.symm h.own
  exact ⟨A, C, by rw [h.len], h.len, repl_congr h.rep e, hr⟩
theorem rw_lst {w : World} {b n C : Nat} {A : Option Addr} {f : Nat → Cn} {zs : List Cw} (h : Rw w b (.slice A n C) n zs) (k : repl f n zs) : Lst w A n f zs := by
  obtain ⟨A', C', hv, _, _, hr⟩ := own_rc h.len.symm h.own
  rw [h.len] at hv
  cases hv
  exact ⟨h.len, k, hr⟩
theorem Src.only {w0 w w' : World} {A : Option Addr} {C n g : Nat} {xs : List Cw} (h0 : Src w0 A C n xs) (h : Src w A C n xs) (ho : OnlyRow g w w') (hg : w0.heap.size ≤ g) : Src w' A C n xs := by
  refine ⟨h.len, h.ok, ⟨fun k hk => ?_, h.sl.shape, h.sl.cap⟩⟩
  obtain ⟨b, off, h1, h2, h3⟩ := h0.sl.rd k hk
  obtain ⟨b', off', e1, e2, e3⟩ := h.sl.rd k hk
  rw [h1] at e1
  cases e1
  exact ⟨b, off, h1, by rw [ho.size]; exact e2, by rw [World.cell?_of_block (w := w) (ho.block b (by omega))]; exact e3⟩
theorem tsame {n ca cb : Nat} {ao bo : Option Addr} {F : Nat → Cn} {xs ys : List Cw} {w : World} (h : Lst w ao n F xs) (k : Lst w bo n F ys) (hsz : n * 16 ≤ 140737488355328) :
    Calls Try.prog 33 #[.slice ao n ca, .slice bo n cb] w fun e w' => ∃ m, e = .returned (.bool true) ∧ w' = w.drewN m :=
  ksameL_len ao bo ca cb n xs ys w hsz h.len k.len h.rc k.rc (fun j hj => ⟨smB_of (h.rep j hj).1 (k.rep j hj).1, smB_of (h.rep j hj).2 (k.rep j hj).2⟩)
theorem tsame_none (w : World) : Calls Try.prog 33 #[.slice none 0 0, .slice none 0 0] w fun e w' => ∃ m, e = .returned (.bool true) ∧ w' = w.drewN m :=
  ksameL_len none none 0 0 0 [] [] w (by simp) rfl rfl (Rc.nil _ _) (Rc.nil _ _) (fun j hj => by omega)
section two
variable {n ca cb : Nat} {ao bo : Option Addr} {F G : Nat → Cn} {xs ys : List Cw} {w : World} (h : Lst w ao n F xs) (k : Lst w bo n G ys) (hm : n ≤ 65536)
include h k hm
end two
section one
variable {n ca : Nat} {ao : Option Addr} {F : Nat → Cn} {xs : List Cw} {w : World} (h : Lst w ao n F xs) (hsz : n * 16 ≤ 140737488355328)
include h hsz
end one
section errs
variable {na nb : Nat} {E : Int} (ao bo : Option Addr) (ca cb : Nat) (w : World) (ha : na ≤ 1000000000000000) (hb : nb ≤ 1000000000000000) (he : ¬ E = 0) (hE : E = errV na nb)
include ha hb he hE
end errs
/-- rows that are handed to ApartNumbers -/
theorem many_of {w : World} {base m : Nat} {n : Nat → Nat} {V : Nat → Value} {L : Nat → List Cw} (cs : Array Value) (t : TypeId) (hcs : ∀ j, j < m → cs[j]? = some (V j)) (hR : ∀ j, j < m → Rw w base (V j) (n j) (L j)) (hap : ∀ j k, j < k → k < m → ∀ g, (V j).ownBlock = some g → (V k).ownBlock ≠ some g) :
    Many base w.heap.size m n V L (w.alloc (.cells cs t)) := by
  refine ⟨fun j hj => by rw [al_at w cs t _ j rfl]; exact hcs j hj, fun j hj => (hR j hj).own.alloc _, fun j hj => (hR j hj).len, ?_, ?_, by rw [size_al]; omega⟩
  · intro j k hj hk hne g hg e
    rcases Nat.lt_or_gt_of_ne hne with h | h
    · exact hap j k h hk g hg e
    · exact hap k j h hj g e hg
  · intro j hj e
    have := ((hR j hj).own.lt _ e).2
    omega
theorem rw_nil (w : World) (b : Nat) : Rw w b (.slice none 0 0) 0 [] := ⟨rfl, World.ownsRow_nil _ _ _ _⟩
theorem rw_base {w : World} {b b' n : Nat} {v : Value} {zs : List Cw} (h : Rw w b v n zs) (hb : b' ≤ b) : Rw w b' v n zs := ⟨h.len, own_base h.own hb⟩
theorem below_only {B g : Nat} {w w6 w7 : World} (h : Below B w w6) (ho : OnlyRow g w6 w7) (hg : B ≤ g) : Below B w w7 :=
  ⟨ho.os.trans h.os, ho.tape.trans h.tape, ho.output.trans h.output, by rw [ho.size]; exact h.size, fun b hb => (ho.block b (by omega)).trans (h.block b hb)⟩
theorem Lst.only {w w' : World} {g q n : Nat} {f : Nat → Cn} {zs : List Cw} (h : Lst w (some ⟨q, 0, none⟩) n f zs) (ho : OnlyRow g w w') (hne : q ≠ g) : Lst w' (some ⟨q, 0, none⟩) n f zs := by
  refine ⟨h.len, h.rep, fun k hk => ?_⟩
  obtain ⟨b, off, h1, h2, h3⟩ := h.rc k hk
  cases h1
  exact ⟨q, 0, rfl, by rw [ho.size]; exact h2, by rw [World.cell?_of_block (w := w) (ho.block q hne)]; exact h3⟩

end Go.Proofs.Ytmhplaanpbpndaa
