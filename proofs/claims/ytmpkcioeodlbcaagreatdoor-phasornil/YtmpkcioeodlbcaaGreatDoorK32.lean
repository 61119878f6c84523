/-
  Several texts in one: Vz Va Vh Vk Vw Vm Vl WVMirror Vp Tk WRoots Xa Xb.
-/
import Derived.Test.YtmpkcioeodlbcaaGreatDoorK20
import Derived.Laws.AppendOwnNone
import Derived.Deep.RegionHeldLaw
import Derived.Deep.AppendLies
import Derived.BigQuiet
import Derived.Deep.RegionWith
namespace Go.Proofs.YtmpkcioeodlbcaaGreatDoor
open Fl RowKit
@[go_sem] theorem run_store_complex {P : Program} (w : World) (a : Addr) (m : Mode) (k : FloatKind) (x y : Nat) : (store a (.complex k x y) m).run P w = stored P w a (.complex k x y) m := run_store P w a _ m rfl
abbrev Cn := Option Nat × Option Nat
abbrev Cw := Nat × Nat
def cx (z : Cw) : Value := .complex .f64 z.1 z.2
def anz (z : Cw) : Cn := (ans z.1, ans z.2)
def okz (z : Cw) : Prop := z.1 < 18446744073709551616 ∧ z.2 < 18446744073709551616
def repz (Z : Cn) (z : Cw) : Prop := rep Z.1 z.1 ∧ rep Z.2 z.2
theorem repz_anz {z : Cw} (h : okz z) : repz (anz z) z := ⟨rep_ans h.1, rep_ans h.2⟩
theorem repz.anz {Z : Cn} {z : Cw} (h : repz Z z) : anz z = Z := by
  cases Z
  exact Prod.ext h.1.2 h.2.2
theorem repz.ok {Z : Cn} {z : Cw} (h : repz Z z) : okz z := ⟨h.1.1, h.2.1⟩
def addZ (X Y : Cn) : Cn := (addA X.1 Y.1, addA X.2 Y.2)
def subZ (X Y : Cn) : Cn := (subA X.1 Y.1, subA X.2 Y.2)
def mulZ (X Y : Cn) : Cn := (mulRe X.1 X.2 Y.1 Y.2, mulIm X.1 X.2 Y.1 Y.2)
def sizZ (X : Cn) : Option Nat := addA (sizA X.1) (sizA X.2)
def zat (xs : List Cw) (k : Nat) : Cw := xs.getD k (0, 0)
def okl (xs : List Cw) : Prop := ∀ k, okz (zat xs k)
/-- the code of what is wrong with two lists -/
def errV (a b : Nat) : Int := if 65536 < a ∨ 65536 < b then 3 else if a ≠ b then 4 else 0
theorem zat_lt {xs : List Cw} {k : Nat} (h : k < xs.length) : xs[k]? = some (zat xs k) := by simp [zat, List.getD_eq_getElem?_getD, h]
theorem zat_ge {xs : List Cw} {k : Nat} (h : xs.length ≤ k) : zat xs k = (0, 0) := by simp [zat, List.getD_eq_getElem?_getD, h]
/-- a list that is written place by place: those below k, then what was there -/
def repl (f : Nat → Cn) (k : Nat) (zs : List Cw) : Prop := ∀ j, j < k → repz (f j) (zat zs j)
theorem repl.okl {f : Nat → Cn} {zs : List Cw} (h : repl f zs.length zs) : okl zs := by
  intro k
  rcases Nat.lt_or_ge k zs.length with hk | hk
  · exact (h k hk).ok
  · rw [zat_ge hk]; exact ⟨by decide, by decide⟩
theorem repl.anz {f : Nat → Cn} {zs : List Cw} {n k : Nat} (h : repl f n zs) (hk : k < n) : anz (zat zs k) = f k := (h k hk).anz
theorem repl.set {f : Nat → Cn} {zs : List Cw} {k : Nat} (h : repl f k zs) (hk : k < zs.length) {r : Cw} (hr : repz (f k) r) : repl f (k + 1) (zs.set k r) := by
  intro j hj
  by_cases e : j = k
  · subst e
    have : zat (zs.set j r) j = r := by unfold zat; rw [List.getD_eq_getElem?_getD, List.getElem?_set_self hk]; rfl
    rw [this]; exact hr
  · have : zat (zs.set k r) j = zat zs j := by simp [zat, List.getD_eq_getElem?_getD, Ne.symm e]
    rw [this]; exact h j (by omega)
theorem repl.push {f : Nat → Cn} {zs : List Cw} (h : repl f zs.length zs) {r : Cw} (hr : repz (f zs.length) r) : repl f (zs.length + 1) (zs ++ [r]) := by
  intro j hj
  by_cases e : j = zs.length
  · subst e
    have : zat (zs ++ [r]) zs.length = r := by unfold zat; rw [List.getD_eq_getElem?_getD, List.getElem?_append_right (Nat.le_refl _)]; simp
    rw [this]; exact hr
  · have : zat (zs ++ [r]) j = zat zs j := by unfold zat; rw [List.getD_eq_getElem?_getD, List.getD_eq_getElem?_getD, List.getElem?_append_left (by omega)]
    rw [this]; exact h j (by omega)

/-- what a list of complex numbers in memory reads as -/
def Rc (w : World) (ao : Option Addr) (xs : List Cw) : Prop :=
  ∀ k, k < xs.length → ∃ b off, ao = some ⟨b, off, none⟩ ∧ b < w.heap.size ∧ w.cell? ⟨b, off + k, none⟩ = some (cx (zat xs k))
theorem Rc.below {w w' : World} {ao : Option Addr} {xs : List Cw} (h : Rc w ao xs) (hb : Below w.heap.size w w') : Rc w' ao xs := by
  intro k hk
  obtain ⟨b, off, h1, h2, h3⟩ := h k hk
  exact ⟨b, off, h1, Nat.lt_of_lt_of_le h2 hb.size, (hb.cell (by exact h2)).trans h3⟩
theorem Rc.drewN {w : World} {ao : Option Addr} {xs : List Cw} (h : Rc w ao xs) (n : Nat) : Rc (w.drewN n) ao xs := h
theorem Rc.nil (w : World) (ao : Option Addr) : Rc w ao [] := fun _ hk => absurd hk (Nat.not_lt_zero _)
theorem Tryz.infoC : (Tryz.prog.info? 39).map (fun i => (i.zero, i.size, i.bytes)) = some (some (.complex .f64 0 0), 1, 16) := by kernel_rfl
theorem made_zeroC (n : Nat) : (madeCells (Value.complex .f64 0 0).cells (n * 1)).toList = (List.replicate n ((0, 0) : Cw)).map cx := by
  apply List.ext_getElem?
  intro i
  simp only [madeCells, Array.toList_map, List.getElem?_map, Array.toList_range, Nat.mul_one, List.getElem?_replicate]
  by_cases h : i < n
  · simp [h, Value.cells, Nat.mod_one, cx]
  · simp [h]
theorem own_rc {w : World} {base n : Nat} {v : Value} {xs : List Cw} (hn : n = xs.length) (h : w.ownsRow base 39 1 v n (xs.map cx)) :
    ∃ ao cap, v = .slice ao xs.length cap ∧ xs.length ≤ cap ∧ (xs.length = 0 ∧ ao = none ∧ cap = 0 ∨ ∃ g, ao = some ⟨g, 0, none⟩ ∧ base ≤ g) ∧ Rc w ao xs := by
  subst hn
  rcases h.2 with ⟨hv, h0⟩ | ⟨g, cap, cur, hv, hb, hg, hnc, _, _, htake⟩
  · refine ⟨none, 0, by rw [hv, h0], by omega, .inl ⟨h0, rfl, rfl⟩, fun k hk => by omega⟩
  · refine ⟨some ⟨g, 0, none⟩, cap, hv, hnc, .inr ⟨g, rfl, hb⟩, fun k hk => ⟨g, 0, rfl, (Array.getElem?_eq_some_iff.1 hg).1, ?_⟩⟩
    subst hv
    rw [Nat.zero_add, h.cellAt k (by omega), List.getElem?_map, zat_lt hk]; rfl
theorem own_at {w w' : World} {base e size n : Nat} {v : Value} {xs : List Value} (h : w.ownsRow base e size v n xs) (hk : ∀ g, v.ownBlock = some g → w'.heap[g]? = w.heap[g]?) : w'.ownsRow base e size v n xs := by
  refine ⟨h.1, ?_⟩
  rcases h.2 with h1 | ⟨g, cap, cur, hv, hb, hg, rest⟩
  · exact .inl h1
  · exact .inr ⟨g, cap, cur, hv, hb, by rw [hk g (by subst hv; rfl)]; exact hg, rest⟩
theorem own_base {w : World} {base base' e size n : Nat} {v : Value} {xs : List Value} (h : w.ownsRow base e size v n xs) (hb : base' ≤ base) : w.ownsRow base' e size v n xs := by
  refine ⟨h.1, ?_⟩
  rcases h.2 with h1 | ⟨g, cap, cur, hv, hg, rest⟩
  · exact .inl h1
  · exact .inr ⟨g, cap, cur, hv, Nat.le_trans hb hg, rest⟩
theorem own_below {w w' : World} {base e size n : Nat} {v : Value} {xs : List Value} (h : w.ownsRow base e size v n xs) (hb : Below w.heap.size w w') : w'.ownsRow base e size v n xs :=
  own_at h (fun g hg => hb.block g (h.lt g hg).2)
theorem own_shape {w : World} {base e n : Nat} {v : Value} {xs : List Value} (h : w.ownsRow base e 1 v n xs) (hn : 0 < n) : ∃ g c, v = .slice (some ⟨g, 0, none⟩) n c ∧ base ≤ g ∧ n ≤ c ∧ c ≤ maxLen := by
  rcases h.2 with ⟨_, h1⟩ | ⟨g, cap, cur, hv, hg, _, h2, h3, _⟩
  · omega
  · exact ⟨g, cap, hv, hg, h2, h3⟩
end Go.Proofs.YtmpkcioeodlbcaaGreatDoor
namespace Go.Proofs.YtmpkcioeodlbcaaGreatDoor
open Fl RowKit
/-- a function with a body is entered -/
def Ent (F : FuncId) : Prop := ∀ (args : Array Value) (w : World), (callFunc F args).run Tryz.prog w = .ok (.enter F args) w
end Go.Proofs.YtmpkcioeodlbcaaGreatDoor
namespace Go.Proofs.YtmpkcioeodlbcaaGreatDoor
open Fl RowKit
theorem size_al (w : World) (o : Obj) : (w.alloc o).heap.size = w.heap.size + 1 := by simp
section two
variable (ao bo : Option Addr) (ca cb : Nat) (xs ys : List Cw) (w : World) (hl : ys.length = xs.length) (hm : xs.length ≤ 65536) (hc : Rc w ao xs) (hd : Rc w bo ys) (hx : okl xs) (hy : okl ys)
include hl hm hc hd hx hy
end two
section err
variable (ao bo : Option Addr) (na nb ca cb : Nat) (w : World) (ha : na ≤ 1000000000000000) (hb : nb ≤ 1000000000000000) (he : ¬ errV na nb = 0)
include ha hb he
end err
section one
variable (ao : Option Addr) (cap : Nat) (xs : List Cw) (w : World) (hsz : xs.length * 16 ≤ 140737488355328) (hc : Rc w ao xs) (hx : okl xs)
include hsz hc hx
end one
end Go.Proofs.YtmpkcioeodlbcaaGreatDoor
namespace Go.Proofs.YtmpkcioeodlbcaaGreatDoor
open Fl RowKit
theorem ksameR_any (a b : Nat) (w : World) : Calls Tryz.prog 54 #[.float .f64 a, .float .f64 b] w fun e w' => e = .returned (.bool (smB a b)) ∧ w' = w := by
  by_cases hab : a = b
  · subst hab
    rw [smB_self]
    go_enter Tryz.func54, Tryz.ntmps54
    go_wp2
    go_ret
    exact ⟨rfl, rfl⟩
  · have hne : ¬ ((a : Int) = (b : Int)) := by omega
    have hnb : (a == b) = false := beq_false_of_ne hab
    cases ha : nan a <;> cases hb : nan b
    all_goals
      first | (have h1 := order_num ha) | (have h1 := order_nan ha)
      first | (have h2 := order_num hb) | (have h2 := order_nan hb)
      go_enter Tryz.func54, Tryz.ntmps54
      go_wp2
      go_ret
      refine ⟨retb ?_, rfl⟩
      simp [smB, ha, hb, hnb]
      try exact hne
theorem ksame_any (a b c d : Nat) (w : World) : Calls Tryz.prog 17 #[.complex .f64 a b, .complex .f64 c d] w fun e w' => e = .returned (.bool (smB a c && smB b d)) ∧ w' = w := by
  cases h1 : smB a c <;> cases h2 : smB b d
  all_goals
    go_enter Tryz.func17, Tryz.ntmps17
    go_wp2_with (first | (go_at_call 54; refine (ksameR_any _ _ _).mono ?_; rintro e w' ⟨rfl, rfl⟩))
    go_ret
    exact ⟨rfl, rfl⟩
def finZ (z : Cw) : Bool := finB z.1 && finB z.2
/-- are the first k numbers finite? -/
def finL (xs : List Cw) : Nat → Bool
  | 0 => true
  | k + 1 => finL xs k && finZ (zat xs k)
theorem finL_at {xs : List Cw} {n : Nat} (h : finL xs n = true) : ∀ j, j < n → finZ (zat xs j) = true := by
  induction n with
  | zero => intro j hj; omega
  | succ n ih =>
    unfold finL at h
    rw [Bool.and_eq_true] at h
    intro j hj
    by_cases e : j = n
    · subst e; exact h.2
    · exact ih h.1 j (by omega)
theorem finL_lt {xs : List Cw} {k : Nat} (hf : finZ (zat xs k) = false) : ∀ n, k < n → finL xs n = false := by
  intro n
  induction n with
  | zero => intro _; omega
  | succ n ih =>
    intro hk
    unfold finL
    by_cases e : k = n
    · subst e; rw [hf, Bool.and_false]
    · rw [ih (by omega), Bool.false_and]
set_option maxHeartbeats 1000000 in
theorem kequal_yes (ao bo : Option Addr) (ca cb : Nat) (xs ys : List Cw) (w : World) (hsz : xs.length * 16 ≤ 140737488355328) (hl : ys.length = xs.length) (hc : Rc w ao xs) (hd : Rc w bo ys)
    (hs : ∀ k, k < xs.length → eqB (zat xs k).1 (zat ys k).1 = true ∧ eqB (zat xs k).2 (zat ys k).2 = true) :
    Calls Tryz.prog 36 #[.slice ao xs.length ca, .slice bo xs.length cb] w fun e w' => ∃ n, e = .returned (.bool true) ∧ w' = w.drewN n := by
  go_enter Tryz.func36, Tryz.ntmps36
  go_wp2
  go_loopw [5] (fun i wr => ∃ (k n : Nat), k ≤ xs.length ∧ i = .int .i64 k ∧ wr = w.drewN n) (fun i _ => xs.length - (intOf i).toNat)
  case atStart => exact ⟨0, 0, Nat.zero_le _, rfl, rfl⟩
  case round =>
    obtain ⟨k, n, hk, rfl, hw⟩ := hrel
    have HW : Hid (wr = w.drewN n) := hw
    by_cases hlt : k < xs.length
    · obtain ⟨b, off, rfl, hb, hcx⟩ := hc.drewN n k hlt
      obtain ⟨b2, off2, rfl, hb2, hcy⟩ := hd.drewN n k (by omega)
      rw [← hw] at hb hcx hb2 hcy
      obtain ⟨k1, k2⟩ := hs k hlt
      obtain ⟨x, hxe⟩ : ∃ x, x = zat xs k := ⟨_, rfl⟩
      obtain ⟨y, hye⟩ : ∃ y, y = zat ys k := ⟨_, rfl⟩
      rw [← hxe] at hcx k1 k2
      rw [← hye] at hcy k1 k2
      unfold eqB at k1 k2
      unfold cx at hcx hcy
      clear hxe hye hc hd hs hw
      go_wp2
      go_quiet (fail)
      go_wp2
      go_roundw
      case rel => exact ⟨k + 1, n + nq, by omega, by go_num, by rw [HW.out, World.drewN_drewN]⟩
      case measure => simp [intOf]; omega
    · clear hc hd hs hw
      go_wp2
      go_ret
      exact ⟨_, rfl, HW.out⟩
set_option maxHeartbeats 1000000 in
theorem ksameL_yes (ao bo : Option Addr) (ca cb : Nat) (xs ys : List Cw) (w : World) (hsz : xs.length * 16 ≤ 140737488355328) (hl : ys.length = xs.length) (hc : Rc w ao xs) (hd : Rc w bo ys)
    (hs : ∀ k, k < xs.length → smB (zat xs k).1 (zat ys k).1 = true ∧ smB (zat xs k).2 (zat ys k).2 = true) :
    Calls Tryz.prog 78 #[.slice ao xs.length ca, .slice bo xs.length cb] w fun e w' => ∃ n, e = .returned (.bool true) ∧ w' = w.drewN n := by
  go_enter Tryz.func78, Tryz.ntmps78
  go_wp2
  go_loopw [5] (fun i wr => ∃ (k n : Nat), k ≤ xs.length ∧ i = .int .i64 k ∧ wr = w.drewN n) (fun i _ => xs.length - (intOf i).toNat)
  case atStart => exact ⟨0, 0, Nat.zero_le _, rfl, rfl⟩
  case round =>
    obtain ⟨k, n, hk, rfl, hw⟩ := hrel
    have HW : Hid (wr = w.drewN n) := hw
    by_cases hlt : k < xs.length
    · obtain ⟨b, off, rfl, hb, hcx⟩ := hc.drewN n k hlt
      obtain ⟨b2, off2, rfl, hb2, hcy⟩ := hd.drewN n k (by omega)
      rw [← hw] at hb hcx hb2 hcy
      obtain ⟨k1, k2⟩ := hs k hlt
      obtain ⟨x, hxe⟩ : ∃ x, x = zat xs k := ⟨_, rfl⟩
      obtain ⟨y, hye⟩ : ∃ y, y = zat ys k := ⟨_, rfl⟩
      rw [← hxe] at hcx k1 k2
      rw [← hye] at hcy k1 k2
      unfold cx at hcx hcy
      have hsm := fun W => ksame_any x.1 x.2 y.1 y.2 W
      rw [k1, k2] at hsm
      clear hxe hye hc hd hs hw k1 k2
      go_wp2
      go_big_quiet (first | (go_at_call 17; (with_reducible exact Calls.quiet_of_same (hsm _))))
      go_wp2
      go_roundw
      case rel => exact ⟨k + 1, n + nq, by omega, by go_num, by rw [HW.out, World.drewN_drewN]⟩
      case measure => simp [intOf]; omega
    · clear hc hd hs hw
      go_wp2
      go_ret
      exact ⟨_, rfl, HW.out⟩

end Go.Proofs.YtmpkcioeodlbcaaGreatDoor
namespace Go.Proofs.YtmpkcioeodlbcaaGreatDoor
open Fl RowKit
theorem ba {w a : World} (h : Below w.heap.size w a) (o : Obj) : Below w.heap.size w (a.alloc o) := h.alloc h.size o
theorem kequal_len (n : Nat) (ao bo : Option Addr) (ca cb : Nat) (xs ys : List Cw) (w : World) (hsz : n * 16 ≤ 140737488355328) (hk : xs.length = n) (hl : ys.length = n) (hc : Rc w ao xs) (hd : Rc w bo ys)
    (hs : ∀ k, k < n → eqB (zat xs k).1 (zat ys k).1 = true ∧ eqB (zat xs k).2 (zat ys k).2 = true) :
    Calls Tryz.prog 36 #[.slice ao n ca, .slice bo n cb] w fun e w' => ∃ n, e = .returned (.bool true) ∧ w' = w.drewN n := by
  subst hk
  exact kequal_yes ao bo ca cb xs ys w hsz hl hc hd hs
def a1 : Cw := (4607182418800017408, 4607182418800017408)
def a2 : Cw := (4611686018427387904, 0)
def b1 : Cw := (4607182418800017408, 13830554455654793216)
def b2 : Cw := (0, 4613937818241073152)
def c1 : Cw := (4607182418800017408, 0)
def c2 : Cw := (0, 4607182418800017408)
def d1 : Cw := (4617315517961601024, 4617315517961601024)
def r1 : Cw := (4617315517961601024, 4618441417868443648)
def r2 : Cw := (4616189618054758400, 4617315517961601024)
end Go.Proofs.YtmpkcioeodlbcaaGreatDoor
namespace Go.Proofs.YtmpkcioeodlbcaaGreatDoor
open Fl RowKit
theorem fin_of {x : Nat} (h : finB x = true) : fin x := of_decide_eq_true (p := mg x < 9218868437227405312) h
end Go.Proofs.YtmpkcioeodlbcaaGreatDoor
namespace Go.Proofs.YtmpkcioeodlbcaaGreatDoor
open Fl RowKit
def finA (o : Option Nat) : Bool := match o with | none => false | some x => finB x
theorem finA_of {o : Option Nat} {x : Nat} (h : rep o x) : finB x = finA o := by
  cases o with
  | none =>
    have := ans_none h.2
    unfold finA finB
    unfold nan at this
    have := of_decide_eq_true this
    exact decide_eq_false (by omega)
  | some c => rw [rep_is h rfl]; rfl
def finC (X : Cn) : Bool := finA X.1 && finA X.2
theorem finC_of {X : Cn} {z : Cw} (h : repz X z) : (finB z.1 && finB z.2) = finC X := by unfold finC; rw [finA_of h.1, finA_of h.2]
def finF (f : Nat → Cn) : Nat → Bool
  | 0 => true
  | k + 1 => finF f k && finC (f k)
/-- a list that is handed back: what it holds, where it is read -/
structure Lst (w : World) (A : Option Addr) (n : Nat) (f : Nat → Cn) (zs : List Cw) : Prop where
  len : zs.length = n
  rep : repl f n zs
  rc : Rc w A zs
theorem Lst.okl {w : World} {A : Option Addr} {n : Nat} {f : Nat → Cn} {zs : List Cw} (h : Lst w A n f zs) : okl zs := by
  obtain ⟨rfl, h2, _⟩ := h
  exact h2.okl
theorem Lst.below {w w' : World} {A : Option Addr} {n : Nat} {f : Nat → Cn} {zs : List Cw} (h : Lst w A n f zs) (hb : Below w.heap.size w w') : Lst w' A n f zs := ⟨h.len, h.rep, h.rc.below hb⟩
theorem Lst.drewN {w : World} {A : Option Addr} {n : Nat} {f : Nat → Cn} {zs : List Cw} (h : Lst w A n f zs) (m : Nat) : Lst (w.drewN m) A n f zs := ⟨h.len, h.rep, h.rc.drewN m⟩
section two
variable {n ca cb : Nat} {ao bo : Option Addr} {F G : Nat → Cn} {xs ys : List Cw} {w : World} (h : Lst w ao n F xs) (k : Lst w bo n G ys) (hm : n ≤ 65536)
include h k hm
end two
section one
variable {n ca : Nat} {ao : Option Addr} {F : Nat → Cn} {xs : List Cw} {w : World} (h : Lst w ao n F xs) (hsz : n * 16 ≤ 140737488355328)
include h hsz
end one
theorem finF_at {f : Nat → Cn} {n : Nat} (h : finF f n = true) : ∀ j, j < n → finC (f j) = true := by
  induction n with
  | zero => intro j hj; omega
  | succ n ih =>
    unfold finF at h
    rw [Bool.and_eq_true] at h
    intro j hj
    by_cases e : j = n
    · subst e; exact h.2
    · exact ih h.1 j (by omega)
end Go.Proofs.YtmpkcioeodlbcaaGreatDoor
namespace Go.Proofs.YtmpkcioeodlbcaaGreatDoor
open Fl RowKit
theorem one_mul {xs zs : List Cw} {n : Nat} (hx : okl xs) (hf : finF (fun j => anz (zat xs j)) n = true) (h : repl (fun j => mulZ (anz (4607182418800017408, 0)) (anz (zat xs j))) n zs) : ∀ j, j < n → eqB (zat zs j).1 (zat xs j).1 = true ∧ eqB (zat zs j).2 (zat xs j).2 = true := by
  intro j hj
  have hc := finF_at hf j hj
  unfold finC at hc
  rw [Bool.and_eq_true] at hc
  have f1 : fin (zat xs j).1 := fin_of (by rw [finA_of (rep_ans (hx j).1)]; exact hc.1)
  have f2 : fin (zat xs j).2 := fin_of (by rw [finA_of (rep_ans (hx j).2)]; exact hc.2)
  have k := h j hj
  have e1 : (mulZ (anz (4607182418800017408, 0)) (anz (zat xs j))).1 = mulRe (ans (zat xs j).1) (ans (zat xs j).2) (some 4607182418800017408) (some 0) := by
    show subA (mulA (some 4607182418800017408) (ans (zat xs j).1)) (mulA (some 0) (ans (zat xs j).2)) = subA (mulA (ans (zat xs j).1) (some 4607182418800017408)) (mulA (ans (zat xs j).2) (some 0))
    rw [mulA_comm (some 4607182418800017408), mulA_comm (some 0)]
  have e2 : (mulZ (anz (4607182418800017408, 0)) (anz (zat xs j))).2 = mulIm (ans (zat xs j).1) (ans (zat xs j).2) (some 4607182418800017408) (some 0) := by
    show addA (mulA (some 4607182418800017408) (ans (zat xs j).2)) (mulA (some 0) (ans (zat xs j).1)) = addA (mulA (ans (zat xs j).1) (some 0)) (mulA (ans (zat xs j).2) (some 4607182418800017408))
    rw [mulA_comm (some 4607182418800017408), mulA_comm (some 0), addA_comm]
  exact times_one f1 f2 (hx j).1 (hx j).2 (by rw [← e1]; exact k.1) (by rw [← e2]; exact k.2)
theorem run_mkC (n : Nat) (hn : n ≤ 65536) (w : World) : (Instr.makeSlice 32 (.int .i64 (n : Int)) (.int .i64 (n : Int))).run Tryz.prog w = .ok (.slice (some ⟨w.heap.size, 0, none⟩) n n) (w.alloc (.cells (madeCells #[.complex .f64 0 0] n) 39)) := by
  obtain ⟨i0, hi, hz0, hz1, hz2⟩ := info_parts Tryz.infoC
  have h := run_make (P := Tryz.prog) w 32 39 i0 (.complex .f64 0 0) Tryz.underlying32 hi hz0 .i64 .i64 n n (by omega) (Int.le_refl _) (by rw [hz2]; omega) (by omega)
  simp only [Int.toNat_natCast, hz1, Nat.mul_one] at h
  exact h
end Go.Proofs.YtmpkcioeodlbcaaGreatDoor
namespace Go.Proofs.YtmpkcioeodlbcaaGreatDoor
open Fl RowKit
/-- a mark -/
def mkO (k i : Int) : Option Nat := subO (floatOfInt .f64 (-1000 * k - i)) 4620130267728707584
def mk1 (k i : Int) : Nat := (mkO k i).getD 0
def mk (k i : Int) : Cw := (mk1 k i, floatOfInt .f64 k)
/-- a list that is read: its address is none only if it is empty -/
structure Sl (w : World) (ao : Option Addr) (cap : Nat) (xs : List Cw) : Prop where
  rd : Rc w ao xs
  shape : ao = none ∧ xs.length = 0 ∨ ∃ g off, ao = some ⟨g, off, none⟩
  cap : xs.length ≤ cap
theorem Sl.below {w w' : World} {ao : Option Addr} {cap : Nat} {xs : List Cw} (h : Sl w ao cap xs) (hb : Below w.heap.size w w') : Sl w' ao cap xs := ⟨h.rd.below hb, h.shape, h.cap⟩
theorem Sl.drewN {w : World} {ao : Option Addr} {cap : Nat} {xs : List Cw} (h : Sl w ao cap xs) (n : Nat) : Sl (w.drewN n) ao cap xs := ⟨h.rd.drewN n, h.shape, h.cap⟩
theorem ksameL_len (ao bo : Option Addr) (ca cb n : Nat) (es fs : List Cw) (w : World) (hsz : n * 16 ≤ 140737488355328) (h1 : es.length = n) (h2 : fs.length = n) (hc : Rc w ao es) (hd : Rc w bo fs)
    (hs : ∀ k, k < n → smB (zat es k).1 (zat fs k).1 = true ∧ smB (zat es k).2 (zat fs k).2 = true) :
    Calls Tryz.prog 78 #[.slice ao n ca, .slice bo n cb] w fun e w' => ∃ m, e = .returned (.bool true) ∧ w' = w.drewN m := by
  subst h1
  exact ksameL_yes ao bo ca cb es fs w hsz h2 hc hd hs
/-- the row g alone is written -/
structure OnlyRow (g : Nat) (w w' : World) : Prop where
  os : w'.os = w.os
  tape : w'.tape = w.tape
  output : w'.output = w.output
  size : w'.heap.size = w.heap.size
  block : ∀ b, b ≠ g → w'.heap[b]? = w.heap[b]?
theorem OnlyRow.refl (g : Nat) (w : World) : OnlyRow g w w := ⟨rfl, rfl, rfl, rfl, fun _ _ => rfl⟩
theorem OnlyRow.setCell {g k : Nat} {w w' : World} (h : OnlyRow g w w') (u : Value) : OnlyRow g w (w'.setCell ⟨g, k, none⟩ u) := by
  refine ⟨h.os, h.tape, h.output, by simpa using h.size, fun b hb => ?_⟩
  rw [Below.heap_setCell _ _ _ _ (by exact hb)]
  exact h.block b hb
end Go.Proofs.YtmpkcioeodlbcaaGreatDoor
namespace Go.Proofs.YtmpkcioeodlbcaaGreatDoor
open Fl RowKit
end Go.Proofs.YtmpkcioeodlbcaaGreatDoor
namespace Go.Proofs.YtmpkcioeodlbcaaGreatDoor
open Fl RowKit
theorem cK_lt (k : Int) : cK k < 9223372036854775808 := by unfold cK; repeat' split
                                                           all_goals decide
theorem cw_lt (k : Int) : cw k < 18446744073709551616 := by
  have h := cK_lt
  unfold cw
  have h1 := h k; have h2 := h (24 - k)
  have h3 := ngW_lt (x := cK (12 - k)) (by have := h (12 - k); omega)
  have h4 := ngW_lt (x := cK (k - 12)) (by have := h (k - 12); omega)
  split
  · omega
  · split
    · exact h3
    · split
      · exact h4
      · omega
theorem rep_rtR (k : Int) : rep (ans (rtR k)) (rtR k) := rep_ans (cw_lt _)
theorem rep_rtI (k : Int) : rep (ans (rtI k)) (rtI k) := rep_ans (cw_lt _)

section one
variable {X : Option Nat} {x : Nat} (k : Int) (w : World) (hx : rep X x) (h0 : -9223372036854775808 ≤ k) (h1 : k < 9223372036854775808)
include hx h0 h1
theorem phasor_any : Calls Tryz.prog 160 #[.float .f64 x, .int .i64 k] w fun e w' => ∃ re im, e = .returned (.complex .f64 re im) ∧ rep (mulA X (ans (rtR k))) re ∧ rep (mulA X (ans (rtI k))) im ∧ Below w.heap.size w w' := by
  go_enter Tryz.func160, Tryz.ntmps160
  go_wp2_with (first
    | (go_at_call 200; refine (root_any k _ h0 h1).mono ?_; rintro e w' ⟨rfl, rfl⟩)
    | (go_at_call 199; refine (scale_any _ (rep_rtR k) (rep_rtI k) hx).mono ?_; rintro e w' ⟨re, im, n, rfl, h1, h2, rfl⟩))
  go_ret
  exact ⟨_, _, rfl, by assumption, by assumption, below_drewN (below_self _) _⟩
end one
section two
variable {A B : Option Nat} {a b : Nat} (k : Int) (w : World) (ha : rep A a) (hb : rep B b) (h0 : -9223372036854775808 ≤ k) (h1 : k < 9223372036854775808)
include ha hb h0 h1
end two
end Go.Proofs.YtmpkcioeodlbcaaGreatDoor
namespace Go.Proofs.YtmpkcioeodlbcaaGreatDoor
open Fl RowKit
/-- the weight of a finite number, as a word -/
def wt (z : Cw) : Nat := nr (sz (mg z.1) + sz (mg z.2)) (-1074)
theorem wt_le (z : Cw) : wt z ≤ 9218868437227405312 := nr_lim _ _
theorem fin_nan {x : Nat} (h : finB x = true) : nan x = false := by
  have := fin_of h
  unfold Fl.fin at this
  unfold nan
  exact decide_eq_false (by omega)
theorem wt_siz {z : Cw} (hf : finZ z = true) : sizZ (anz z) = some (wt z) := by
  unfold finZ at hf
  rw [Bool.and_eq_true] at hf
  have a := fin_of hf.1
  have b := fin_of hf.2
  unfold sizZ anz
  rw [ans_num (fin_nan hf.1), ans_num (fin_nan hf.2)]
  exact add_pos a b
theorem ord_le {a b : Nat} (ha : a ≤ 9218868437227405312) (hb : b ≤ 9218868437227405312) : FloatKind.f64.format.order a b = some (compare (a : Int) (b : Int)) := by
  have p1 : plc a = a := by have := plc_mg a; rwa [show mg a = a from Nat.mod_eq_of_lt (by omega)] at this
  have p2 : plc b = b := by have := plc_mg b; rwa [show mg b = b from Nat.mod_eq_of_lt (by omega)] at this
  have n1 : nan a = false := by unfold nan mg; exact decide_eq_false (by omega)
  have n2 : nan b = false := by unfold nan mg; exact decide_eq_false (by omega)
  rw [f64_double, order_eq, n1, n2, p1, p2]
  rfl
theorem ord_gt {a b : Nat} (ha : a ≤ 9218868437227405312) (hb : b ≤ 9218868437227405312) (h : b < a) : FloatKind.f64.format.order a b = some .gt := by
  rw [ord_le ha hb, Int.compare_eq_gt.2 (by omega)]
theorem ord_ngt {a b : Nat} (ha : a ≤ 9218868437227405312) (hb : b ≤ 9218868437227405312) (h : ¬ b < a) : (FloatKind.f64.format.order a b == some .gt) = false := by
  rw [ord_le ha hb]
  have : ¬ compare (a : Int) (b : Int) = .gt := by rw [Int.compare_eq_gt]; omega
  cases h : compare (a : Int) (b : Int)
  · rfl
  · rfl
  · exact absurd h this
/-- the first place of the greatest, and that -/
def fstG (f : Nat → Nat) : Nat → Nat × Nat
  | 0 => (0, 0)
  | k + 1 => if (fstG f k).2 < f k then (k, f k) else fstG f k
theorem fstG_le (f : Nat → Nat) (n : Nat) : ∀ j, j < n → f j ≤ (fstG f n).2 := by
  induction n with
  | zero => intro j hj; omega
  | succ n ih =>
    intro j hj
    unfold fstG
    by_cases e : j = n
    · subst e; split
      · exact Nat.le_refl _
      · omega
    · have := ih j (by omega)
      split
      · show f j ≤ f n; omega
      · exact this
theorem fstG_at (f : Nat → Nat) (n : Nat) : (fstG f n).2 = 0 ∧ (fstG f n).1 = 0 ∨ 0 < (fstG f n).2 ∧ (fstG f n).1 < n ∧ f (fstG f n).1 = (fstG f n).2 ∧ ∀ j, j < (fstG f n).1 → f j < (fstG f n).2 := by
  induction n with
  | zero => exact .inl ⟨rfl, rfl⟩
  | succ n ih =>
    unfold fstG
    split
    · refine .inr ⟨by show 0 < f n; omega, by show n < n + 1; omega, rfl, ?_⟩
      intro j hj
      have := fstG_le f n j hj
      show f j < f n
      omega
    · rcases ih with h | ⟨h1, h2, h3, h4⟩
      · exact .inl h
      · exact .inr ⟨h1, by omega, h3, h4⟩
theorem fstG_congr {f g : Nat → Nat} {n : Nat} (h : ∀ j, j < n → f j = g j) : fstG f n = fstG g n := by
  induction n with
  | zero => rfl
  | succ n ih =>
    unfold fstG
    rw [ih (fun j hj => h j (by omega)), h n (by omega)]
theorem fstG_lim {f : Nat → Nat} {M : Nat} (h : ∀ j, f j ≤ M) (n : Nat) : (fstG f n).2 ≤ M := by
  induction n with
  | zero => exact Nat.zero_le _
  | succ n ih =>
    unfold fstG
    split
    · exact h n
    · exact ih
def wts (xs : List Cw) (j : Nat) : Nat := wt (zat xs j)
/-- the heaviest of a list: its place, its weight -/
def hv (xs : List Cw) : Nat × Nat := fstG (wts xs) xs.length
theorem hv_lim (xs : List Cw) : (hv xs).2 ≤ 9218868437227405312 := fstG_lim (fun _ => wt_le _) _
theorem fin_walk {W : World} {x : Cw} (h : okz x) : Calls Tryz.prog 59 #[.complex .f64 x.1 x.2] W fun e w' => e = .returned (.bool (finZ x)) ∧ w' = W := (fin_any _ _ W h.1 h.2)

theorem pwithin_any (i n : Int) (w : World) : Calls Tryz.prog 212 #[.int .i64 i, .int .i64 n] w fun e w' => e = .returned (.bool (decide (0 ≤ i ∧ i < n))) ∧ w' = w := by
  by_cases h1 : 0 ≤ i
  · by_cases h2 : i < n
    · rw [decide_eq_true (show 0 ≤ i ∧ i < n from ⟨h1, h2⟩)]
      go_enter Tryz.func212, Tryz.ntmps212
      go_wp2
      go_ret
      exact ⟨rfl, rfl⟩
    · rw [decide_eq_false (show ¬ (0 ≤ i ∧ i < n) from fun h => h2 h.2)]
      go_enter Tryz.func212, Tryz.ntmps212
      go_wp2
      go_ret
      exact ⟨rfl, rfl⟩
  · rw [decide_eq_false (show ¬ (0 ≤ i ∧ i < n) from fun h => h1 h.1)]
    go_enter Tryz.func212, Tryz.ntmps212
    go_wp2
    go_ret
    exact ⟨rfl, rfl⟩
set_option maxHeartbeats 1000000 in
theorem pfin_any (ao : Option Addr) (cap : Nat) (xs : List Cw) (w : World) (hsz : xs.length * 16 ≤ 140737488355328) (hc : Rc w ao xs) (hx : okl xs) :
    Calls Tryz.prog 213 #[.slice ao xs.length cap] w fun e w' => e = .returned (.bool (finL xs xs.length)) ∧ w' = w := by
  go_enter Tryz.func213, Tryz.ntmps213
  go_wp2
  go_loopw [7] (fun i wr => ∃ (k : Nat), k ≤ xs.length ∧ i = .int .i64 k ∧ finL xs k = true ∧ wr = w) (fun i _ => xs.length - (intOf i).toNat)
  case atStart => exact ⟨0, Nat.zero_le _, rfl, rfl, rfl⟩
  case round =>
    obtain ⟨k, hk, rfl, hf, hw⟩ := hrel
    by_cases hlt : k < xs.length
    · obtain ⟨b, off, rfl, hb, hcx⟩ := hc k hlt
      rw [← hw] at hb hcx
      have HW : Hid (wr = w) := hw
      have F1 := @finL_lt xs k
      have F2 : finL xs (k + 1) = (finL xs k && finZ (zat xs k)) := rfl
      rw [hf, Bool.true_and] at F2
      have ho := hx k
      obtain ⟨x, hxe⟩ : ∃ x, x = zat xs k := ⟨_, rfl⟩
      rw [← hxe] at hcx F1 F2 ho
      unfold cx at hcx
      have G1 : Hid (finZ x = false → finL xs xs.length = false) := fun h => F1 h _ hlt
      have G2 : Hid (finL xs (k + 1) = finZ x) := F2
      clear hxe hc hf hw F1 F2 hx
      cases f1 : finZ x
      · go_wp2_with (go_at_call 59; (with_reducible refine (fin_walk ho).mono ?_); rintro e w' ⟨rfl, rfl⟩; rw [f1])
        go_ret
        exact ⟨by rw [G1.out f1]; rfl, HW.out⟩
      · go_wp2_with (go_at_call 59; (with_reducible refine (fin_walk ho).mono ?_); rintro e w' ⟨rfl, rfl⟩; rw [f1])
        exact ⟨⟨k + 1, by omega, by go_num, by rw [G2.out]; exact f1, HW.out⟩, by simp [intOf]; omega⟩
    · have e : k = xs.length := by omega
      subst e
      have HW : Hid (wr = w) := hw
      have HF : Hid (finL xs xs.length = true) := hf
      clear hx hc hf hw
      go_wp2
      go_ret
      exact ⟨by rw [HF.out]; rfl, HW.out⟩
theorem size1_wt {W : World} {x : Cw} (h : okz x) (hf : finZ x = true) : Calls Tryz.prog 130 #[.complex .f64 x.1 x.2] W fun e w' => ∃ n, e = .returned (.float .f64 (wt x)) ∧ w' = W.drewN n :=
  (size1_any W (repz_anz h).1 (repz_anz h).2).mono (by
    rintro e w' ⟨r, n, rfl, hr, rfl⟩
    exact ⟨n, by rw [rep_is hr (wt_siz hf)], rfl⟩)
set_option maxHeartbeats 1000000 in
theorem pheav_any (ao : Option Addr) (cap : Nat) (xs : List Cw) (w : World) (hsz : xs.length * 16 ≤ 140737488355328) (hc : Rc w ao xs) (hx : okl xs) (hfin : finL xs xs.length = true) :
    Calls Tryz.prog 214 #[.slice ao xs.length cap] w fun e w' => ∃ m, e = .returned (.tuple #[.int .i64 ((hv xs).1 : Nat), .float .f64 (hv xs).2]) ∧ w' = w.drewN m := by
  go_enter Tryz.func214, Tryz.ntmps214
  go_wp2
  go_loopw [4, 5, 11] (fun p g i wr => ∃ (k m a b : Nat), k ≤ xs.length ∧ i = .int .i64 k ∧ p = .int .i64 a ∧ g = .float .f64 b ∧ (a, b) = fstG (wts xs) k ∧ wr = w.drewN m) (fun _ _ i _ => xs.length - (intOf i).toNat)
  case atStart => exact ⟨0, 0, 0, 0, Nat.zero_le _, rfl, rfl, rfl, rfl, rfl⟩
  case round =>
    obtain ⟨k, n, a, b, hk, rfl, rfl, rfl, hs, hw⟩ := hrel
    by_cases hlt : k < xs.length
    · obtain ⟨q, off, rfl, hb, hcx⟩ := hc.drewN n k hlt
      rw [← hw] at hb hcx
      have HW : Hid (wr = w.drewN n) := hw
      have ho := hx k
      have hf := finL_at hfin k hlt
      have hbl : b ≤ 9218868437227405312 := by
        have := fstG_lim (fun j => wt_le (zat xs j)) k
        rw [show fstG (fun j => wt (zat xs j)) k = (a, b) from hs.symm] at this
        exact this
      have HS : Hid (fstG (wts xs) (k + 1) = if b < wt (zat xs k) then (k, wt (zat xs k)) else (a, b)) := by
        show (if (fstG (wts xs) k).2 < wts xs k then (k, wts xs k) else fstG (wts xs) k) = _
        rw [← hs]; rfl
      obtain ⟨x, hxe⟩ : ∃ x, x = zat xs k := ⟨_, rfl⟩
      rw [← hxe] at hcx ho hf HS
      unfold cx at hcx
      have hwl := wt_le x
      clear hxe hc hs hw hx hfin
      by_cases hgt : b < wt x
      · have hord := ord_gt hwl hbl hgt
        go_wp2_with (go_at_call 130; (with_reducible refine (size1_wt ho hf).mono ?_); rintro e w' ⟨m, rfl, rfl⟩)
        refine ⟨⟨k + 1, _, k, wt x, by omega, by go_num, rfl, rfl, by rw [HS.out, if_pos hgt], by rw [HW.out]; simp only [World.drewN_drewN]; rfl⟩, by simp [intOf]; omega⟩
      · have hord := ord_ngt hwl hbl hgt
        go_wp2_with (go_at_call 130; (with_reducible refine (size1_wt ho hf).mono ?_); rintro e w' ⟨m, rfl, rfl⟩)
        refine ⟨⟨k + 1, _, a, b, by omega, by go_num, rfl, rfl, by rw [HS.out, if_neg hgt], by rw [HW.out]; simp only [World.drewN_drewN]; rfl⟩, by simp [intOf]; omega⟩
    · have e : k = xs.length := by omega
      subst e
      have HW : Hid (wr = w.drewN n) := hw
      have HS : Hid ((a, b) = hv xs) := hs
      clear hx hc hfin hw hs
      go_wp2
      go_ret2
      exact ⟨n, by rw [← HS.out]; rfl, HW.out⟩

end Go.Proofs.YtmpkcioeodlbcaaGreatDoor
namespace Go.Proofs.YtmpkcioeodlbcaaGreatDoor
open Fl RowKit
def chE (xs : List Cw) (fr : Int) : Int :=
  if 64 < xs.length then 3 else if ¬ (0 ≤ fr ∧ fr < (xs.length : Int)) then 2 else if finL (xs.drop fr.toNat) (xs.length - fr.toNat) = false then 5 else if (hv (xs.drop fr.toNat)).2 = 0 then 7 else 0
def chI (xs : List Cw) (fr : Int) : Int := if chE xs fr = 0 then fr + ((hv (xs.drop fr.toNat)).1 : Nat) else 0
theorem chE_3 {xs : List Cw} {fr : Int} (h : 64 < xs.length) : chE xs fr = 3 := if_pos h
theorem chE_2 {xs : List Cw} {fr : Int} (h : ¬ 64 < xs.length) (h2 : ¬ (0 ≤ fr ∧ fr < (xs.length : Int))) : chE xs fr = 2 := by unfold chE; rw [if_neg h, if_pos h2]
theorem chE_5 {xs : List Cw} {f : Nat} (h : ¬ 64 < xs.length) (h2 : f < xs.length) (h3 : finL (xs.drop f) (xs.length - f) = false) : chE xs f = 5 := by
  unfold chE; rw [if_neg h, if_neg (by omega), Int.toNat_natCast, if_pos h3]
theorem chE_7 {xs : List Cw} {f : Nat} (h : ¬ 64 < xs.length) (h2 : f < xs.length) (h3 : finL (xs.drop f) (xs.length - f) = true) (h4 : (hv (xs.drop f)).2 = 0) : chE xs f = 7 := by
  unfold chE; rw [if_neg h, if_neg (by omega), Int.toNat_natCast, if_neg (by rw [h3]; decide), if_pos h4]
theorem chE_0 {xs : List Cw} {f : Nat} (h : ¬ 64 < xs.length) (h2 : f < xs.length) (h3 : finL (xs.drop f) (xs.length - f) = true) (h4 : ¬ (hv (xs.drop f)).2 = 0) : chE xs f = 0 := by
  unfold chE; rw [if_neg h, if_neg (by omega), Int.toNat_natCast, if_neg (by rw [h3]; decide), if_neg h4]
theorem chI_n {xs : List Cw} {fr : Int} (h : ¬ chE xs fr = 0) : chI xs fr = 0 := if_neg h
theorem chI_0 {xs : List Cw} {f : Nat} (h : chE xs f = 0) : chI xs f = ((f + (hv (xs.drop f)).1 : Nat) : Int) := by
  unfold chI; rw [if_pos h, Int.toNat_natCast]; omega
theorem zat_drop (xs : List Cw) (f k : Nat) : zat (xs.drop f) k = zat xs (f + k) := by
  unfold zat
  rw [List.getD_eq_getElem?_getD, List.getD_eq_getElem?_getD, List.getElem?_drop]
theorem okl_drop {xs : List Cw} (h : okl xs) (f : Nat) : okl (xs.drop f) := fun k => by rw [zat_drop]; exact h _
theorem rc_drop {w : World} {b off : Nat} {xs : List Cw} (h : Rc w (some ⟨b, off, none⟩) xs) (f : Nat) : Rc w (some ⟨b, off + f, none⟩) (xs.drop f) := by
  intro k hk
  rw [List.length_drop] at hk
  obtain ⟨b', off', h1, h2, h3⟩ := h (f + k) (by omega)
  cases h1
  exact ⟨b, off + f, rfl, h2, by rw [zat_drop, Nat.add_assoc]; exact h3⟩
theorem hv_lt (xs : List Cw) : (hv xs).1 ≤ xs.length := by
  rcases fstG_at (wts xs) xs.length with ⟨_, h⟩ | ⟨_, h, _⟩
  · unfold hv; omega
  · unfold hv; omega
theorem pfin_len {W : World} {ao : Option Addr} {n cap : Nat} {xs : List Cw} (hn : xs.length = n) (hsz : n ≤ 4096) (hc : Rc W ao xs) (hx : okl xs) :
    Calls Tryz.prog 213 #[.slice ao n cap] W fun e w' => e = .returned (.bool (finL xs n)) ∧ w' = W := by
  subst hn
  exact pfin_any ao cap xs W (by omega) hc hx
theorem pheav_len {W : World} {ao : Option Addr} {n cap : Nat} {xs : List Cw} (hn : xs.length = n) (hsz : n ≤ 4096) (hc : Rc W ao xs) (hx : okl xs) (hf : finL xs n = true) :
    Calls Tryz.prog 214 #[.slice ao n cap] W fun e w' => ∃ m, e = .returned (.tuple #[.int .i64 ((hv xs).1 : Nat), .float .f64 (hv xs).2]) ∧ w' = W.drewN m := by
  subst hn
  exact pheav_any ao cap xs W (by omega) hc hx hf
set_option maxHeartbeats 1000000 in
theorem choose_any (ao : Option Addr) (cap : Nat) (xs : List Cw) (fr : Int) (w : World) (hsz : xs.length * 16 ≤ 140737488355328) (hcap : xs.length ≤ cap) (hc : Rc w ao xs) (hx : okl xs) :
    Calls Tryz.prog 179 #[.slice ao xs.length cap, .int .i64 fr] w fun e w' => ∃ m, e = .returned (.tuple #[.int .i64 (chI xs fr), .int .i64 (chE xs fr)]) ∧ w' = w.drewN m := by
  by_cases h1 : 64 < xs.length
  · have e0 := chE_3 (fr := fr) h1
    rw [chI_n (by rw [e0]; decide), e0]
    clear hc hx
    go_enter Tryz.func179, Tryz.ntmps179
    go_wp2
    go_ret2
    exact ⟨0, rfl, rfl⟩
  by_cases h2 : 0 ≤ fr ∧ fr < (xs.length : Int)
  case neg =>
    have e0 := chE_2 h1 h2
    rw [chI_n (by rw [e0]; decide), e0]
    clear hc hx e0
    have hd := decide_eq_false h2
    clear h2
    go_enter Tryz.func179, Tryz.ntmps179
    go_wp2_with (go_at_call 212; (with_reducible refine (pwithin_any _ _ _).mono ?_); rintro e w' ⟨rfl, rfl⟩; rw [hd])
    go_ret2
    exact ⟨0, rfl, rfl⟩
  have hd := decide_eq_true h2
  obtain ⟨f, rfl⟩ : ∃ f : Nat, fr = f := ⟨fr.toNat, by omega⟩
  obtain ⟨b, off, rfl, hb, _⟩ := hc 0 (by omega)
  have hf : f < xs.length := by omega
  have hcd := rc_drop hc f
  have hxd := okl_drop hx f
  have hl : (xs.drop f).length = xs.length - f := List.length_drop
  have hhv := hv_lim (xs.drop f)
  have hhl := hv_lt (xs.drop f)
  rw [hl] at hhl
  have E5 := chE_5 h1 hf
  have E7 := chE_7 h1 hf
  have E0 := chE_0 h1 hf
  have I0 := chI_0 (xs := xs) (f := f)
  have In := chI_n (xs := xs) (fr := f)
  obtain ⟨ys, hys⟩ : ∃ ys, ys = xs.drop f := ⟨_, rfl⟩
  rw [← hys] at hcd hxd hl E5 E7 E0 I0 hhv hhl
  obtain ⟨n, hn⟩ : ∃ n, n = xs.length := ⟨_, rfl⟩
  rw [← hn] at h1 hsz hcap hd hl hhl hf E5 E7 E0 ⊢
  obtain ⟨E, hE⟩ : ∃ E, E = chE xs f := ⟨_, rfl⟩
  obtain ⟨I, hI⟩ : ∃ I, I = chI xs f := ⟨_, rfl⟩
  rw [← hE] at E5 E7 E0 I0 In
  rw [← hI] at I0 In
  rw [← hE, ← hI]
  have HL : Hid (ys.length = n - f) := hl
  clear hc hx hys hn hE hI hl h2
  cases h3 : finL ys (n - f)
  · have e5 := E5 h3
    subst e5
    have i0 := In (by decide)
    subst i0
    clear E5 E7 E0 I0 In
    go_enter Tryz.func179, Tryz.ntmps179
    go_wp2_with (first
      | (go_at_call 212; (with_reducible refine (pwithin_any _ _ _).mono ?_); rintro e w' ⟨rfl, rfl⟩; rw [hd])
      | (go_at_call 213; (with_reducible refine (pfin_len HL.out (by omega) hcd hxd).mono ?_); rintro e w' ⟨rfl, rfl⟩; rw [h3]))
    go_ret2
    exact ⟨0, rfl, rfl⟩
  · by_cases h4 : (hv ys).2 = 0
    · have e5 := E7 h3 h4
      subst e5
      have i0 := In (by decide)
      subst i0
      clear E5 E7 E0 I0 In
      have q0 : FloatKind.f64.format.order 0 0 = some .eq := by kernel_rfl
      go_enter Tryz.func179, Tryz.ntmps179
      go_wp2_with (first
        | (go_at_call 212; (with_reducible refine (pwithin_any _ _ _).mono ?_); rintro e w' ⟨rfl, rfl⟩; rw [hd])
        | (go_at_call 213; (with_reducible refine (pfin_len HL.out (by omega) hcd hxd).mono ?_); rintro e w' ⟨rfl, rfl⟩; rw [h3])
        | (go_at_call 214; (with_reducible refine (pheav_len HL.out (by omega) hcd hxd h3).mono ?_); rintro e w' ⟨m, rfl, rfl⟩; rw [h4]))
      go_ret2
      exact ⟨m, rfl, rfl⟩
    · have e5 := E0 h3 h4
      subst e5
      have i0 := I0 rfl
      subst i0
      clear E5 E7 E0 I0 In
      have q0 := ord_gt hhv (Nat.zero_le _) (by omega : 0 < (hv ys).2)
      go_enter Tryz.func179, Tryz.ntmps179
      go_wp2_with (first
        | (go_at_call 212; (with_reducible refine (pwithin_any _ _ _).mono ?_); rintro e w' ⟨rfl, rfl⟩; rw [hd])
        | (go_at_call 213; (with_reducible refine (pfin_len HL.out (by omega) hcd hxd).mono ?_); rintro e w' ⟨rfl, rfl⟩; rw [h3])
        | (go_at_call 214; (with_reducible refine (pheav_len HL.out (by omega) hcd hxd h3).mono ?_); rintro e w' ⟨m, rfl, rfl⟩))
      go_ret2
      exact ⟨m, by first | rfl | (congr 3; go_num), rfl⟩

end Go.Proofs.YtmpkcioeodlbcaaGreatDoor
