/-
  Several texts in one: Vk Vw Vm Vl WVMirror Vp Vt Ma Mb Mc.
-/
import Derived.Test.YtmpkcioeodlbcaaGreatDoorK30
import Derived.Test.YtmpkcioeodlbcaaGreatDoorK14
import Derived.BigQuiet
import Derived.Deep.RegionWith
import Derived.Laws.AppendOwn
import Derived.Laws.OwnMore
import Derived.Maps.AppendAt
import Derived.Maps.Range
import Derived.Deep.AppendLies
import Derived.Deep.RegionHeldLaw
namespace Go.Proofs.YtmpkcioeodlbcaaGreatDoor
open Fl RowKit
theorem ksameR_any (a b : Nat) (w : World) : Calls Tryz.prog 54 #[.float .f64 a, .float .f64 b] w fun e w' => e = .returned (.bool (smB a b)) ∧ w' = w := by
  by_cases hab : a = b
  · subst hab
    rw [smB_self]
    go_enter Tryz.func54, Tryz.ntmps54
    go_wp2
    go_ret
    exact ⟨rfl, rfl⟩
  · have hne : ¬ ((a : Int) = (b : Int)) := by omega
    have hnb : (a == b) = false := beq_false_of_ne hab
    cases ha : nan a <;> cases hb : nan b
    all_goals
      first | (have h1 := order_num ha) | (have h1 := order_nan ha)
      first | (have h2 := order_num hb) | (have h2 := order_nan hb)
      go_enter Tryz.func54, Tryz.ntmps54
      go_wp2
      go_ret
      refine ⟨retb ?_, rfl⟩
      simp [smB, ha, hb, hnb]
      try exact hne
theorem ksame_any (a b c d : Nat) (w : World) : Calls Tryz.prog 17 #[.complex .f64 a b, .complex .f64 c d] w fun e w' => e = .returned (.bool (smB a c && smB b d)) ∧ w' = w := by
  cases h1 : smB a c <;> cases h2 : smB b d
  all_goals
    go_enter Tryz.func17, Tryz.ntmps17
    go_wp2_with (first | (go_at_call 54; refine (ksameR_any _ _ _).mono ?_; rintro e w' ⟨rfl, rfl⟩))
    go_ret
    exact ⟨rfl, rfl⟩
def finZ (z : Cw) : Bool := finB z.1 && finB z.2
/-- are the first k numbers finite? -/
def finL (xs : List Cw) : Nat → Bool
  | 0 => true
  | k + 1 => finL xs k && finZ (zat xs k)
theorem finL_at {xs : List Cw} {n : Nat} (h : finL xs n = true) : ∀ j, j < n → finZ (zat xs j) = true := by
  induction n with
  | zero => intro j hj; omega
  | succ n ih =>
    unfold finL at h
    rw [Bool.and_eq_true] at h
    intro j hj
    by_cases e : j = n
    · subst e; exact h.2
    · exact ih h.1 j (by omega)
theorem finL_lt {xs : List Cw} {k : Nat} (hf : finZ (zat xs k) = false) : ∀ n, k < n → finL xs n = false := by
  intro n
  induction n with
  | zero => intro _; omega
  | succ n ih =>
    intro hk
    unfold finL
    by_cases e : k = n
    · subst e; rw [hf, Bool.and_false]
    · rw [ih (by omega), Bool.false_and]
set_option maxHeartbeats 1000000 in
theorem kequal_yes (ao bo : Option Addr) (ca cb : Nat) (xs ys : List Cw) (w : World) (hsz : xs.length * 16 ≤ 140737488355328) (hl : ys.length = xs.length) (hc : Rc w ao xs) (hd : Rc w bo ys)
    (hs : ∀ k, k < xs.length → eqB (zat xs k).1 (zat ys k).1 = true ∧ eqB (zat xs k).2 (zat ys k).2 = true) :
    Calls Tryz.prog 36 #[.slice ao xs.length ca, .slice bo xs.length cb] w fun e w' => ∃ n, e = .returned (.bool true) ∧ w' = w.drewN n := by
  go_enter Tryz.func36, Tryz.ntmps36
  go_wp2
  go_loopw [5] (fun i wr => ∃ (k n : Nat), k ≤ xs.length ∧ i = .int .i64 k ∧ wr = w.drewN n) (fun i _ => xs.length - (intOf i).toNat)
  case atStart => exact ⟨0, 0, Nat.zero_le _, rfl, rfl⟩
  case round =>
    obtain ⟨k, n, hk, rfl, hw⟩ := hrel
    have HW : Hid (wr = w.drewN n) := hw
    by_cases hlt : k < xs.length
    · obtain ⟨b, off, rfl, hb, hcx⟩ := hc.drewN n k hlt
      obtain ⟨b2, off2, rfl, hb2, hcy⟩ := hd.drewN n k (by omega)
      rw [← hw] at hb hcx hb2 hcy
      obtain ⟨k1, k2⟩ := hs k hlt
      obtain ⟨x, hxe⟩ : ∃ x, x = zat xs k := ⟨_, rfl⟩
      obtain ⟨y, hye⟩ : ∃ y, y = zat ys k := ⟨_, rfl⟩
      rw [← hxe] at hcx k1 k2
      rw [← hye] at hcy k1 k2
      unfold eqB at k1 k2
      unfold cx at hcx hcy
      clear hxe hye hc hd hs hw
      go_wp2
      go_quiet (fail)
      go_wp2
      go_roundw
      case rel => exact ⟨k + 1, n + nq, by omega, by go_num, by rw [HW.out, World.drewN_drewN]⟩
      case measure => simp [intOf]; omega
    · clear hc hd hs hw
      go_wp2
      go_ret
      exact ⟨_, rfl, HW.out⟩
set_option maxHeartbeats 1000000 in
theorem ksameL_yes (ao bo : Option Addr) (ca cb : Nat) (xs ys : List Cw) (w : World) (hsz : xs.length * 16 ≤ 140737488355328) (hl : ys.length = xs.length) (hc : Rc w ao xs) (hd : Rc w bo ys)
    (hs : ∀ k, k < xs.length → smB (zat xs k).1 (zat ys k).1 = true ∧ smB (zat xs k).2 (zat ys k).2 = true) :
    Calls Tryz.prog 78 #[.slice ao xs.length ca, .slice bo xs.length cb] w fun e w' => ∃ n, e = .returned (.bool true) ∧ w' = w.drewN n := by
  go_enter Tryz.func78, Tryz.ntmps78
  go_wp2
  go_loopw [5] (fun i wr => ∃ (k n : Nat), k ≤ xs.length ∧ i = .int .i64 k ∧ wr = w.drewN n) (fun i _ => xs.length - (intOf i).toNat)
  case atStart => exact ⟨0, 0, Nat.zero_le _, rfl, rfl⟩
  case round =>
    obtain ⟨k, n, hk, rfl, hw⟩ := hrel
    have HW : Hid (wr = w.drewN n) := hw
    by_cases hlt : k < xs.length
    · obtain ⟨b, off, rfl, hb, hcx⟩ := hc.drewN n k hlt
      obtain ⟨b2, off2, rfl, hb2, hcy⟩ := hd.drewN n k (by omega)
      rw [← hw] at hb hcx hb2 hcy
      obtain ⟨k1, k2⟩ := hs k hlt
      obtain ⟨x, hxe⟩ : ∃ x, x = zat xs k := ⟨_, rfl⟩
      obtain ⟨y, hye⟩ : ∃ y, y = zat ys k := ⟨_, rfl⟩
      rw [← hxe] at hcx k1 k2
      rw [← hye] at hcy k1 k2
      unfold cx at hcx hcy
      have hsm := fun W => ksame_any x.1 x.2 y.1 y.2 W
      rw [k1, k2] at hsm
      clear hxe hye hc hd hs hw k1 k2
      go_wp2
      go_big_quiet (first | (go_at_call 17; (with_reducible exact Calls.quiet_of_same (hsm _))))
      go_wp2
      go_roundw
      case rel => exact ⟨k + 1, n + nq, by omega, by go_num, by rw [HW.out, World.drewN_drewN]⟩
      case measure => simp [intOf]; omega
    · clear hc hd hs hw
      go_wp2
      go_ret
      exact ⟨_, rfl, HW.out⟩

end Go.Proofs.YtmpkcioeodlbcaaGreatDoor
namespace Go.Proofs.YtmpkcioeodlbcaaGreatDoor
open Fl RowKit
theorem ba {w a : World} (h : Below w.heap.size w a) (o : Obj) : Below w.heap.size w (a.alloc o) := h.alloc h.size o
theorem kequal_len (n : Nat) (ao bo : Option Addr) (ca cb : Nat) (xs ys : List Cw) (w : World) (hsz : n * 16 ≤ 140737488355328) (hk : xs.length = n) (hl : ys.length = n) (hc : Rc w ao xs) (hd : Rc w bo ys)
    (hs : ∀ k, k < n → eqB (zat xs k).1 (zat ys k).1 = true ∧ eqB (zat xs k).2 (zat ys k).2 = true) :
    Calls Tryz.prog 36 #[.slice ao n ca, .slice bo n cb] w fun e w' => ∃ n, e = .returned (.bool true) ∧ w' = w.drewN n := by
  subst hk
  exact kequal_yes ao bo ca cb xs ys w hsz hl hc hd hs
def a1 : Cw := (4607182418800017408, 4607182418800017408)
def a2 : Cw := (4611686018427387904, 0)
def b1 : Cw := (4607182418800017408, 13830554455654793216)
def b2 : Cw := (0, 4613937818241073152)
def c1 : Cw := (4607182418800017408, 0)
def c2 : Cw := (0, 4607182418800017408)
def d1 : Cw := (4617315517961601024, 4617315517961601024)
def r1 : Cw := (4617315517961601024, 4618441417868443648)
def r2 : Cw := (4616189618054758400, 4617315517961601024)
end Go.Proofs.YtmpkcioeodlbcaaGreatDoor
namespace Go.Proofs.YtmpkcioeodlbcaaGreatDoor
open Fl RowKit
theorem fin_of {x : Nat} (h : finB x = true) : fin x := of_decide_eq_true (p := mg x < 9218868437227405312) h
end Go.Proofs.YtmpkcioeodlbcaaGreatDoor
namespace Go.Proofs.YtmpkcioeodlbcaaGreatDoor
open Fl RowKit
def finA (o : Option Nat) : Bool := match o with | none => false | some x => finB x
theorem finA_of {o : Option Nat} {x : Nat} (h : rep o x) : finB x = finA o := by
  cases o with
  | none =>
    have := ans_none h.2
    unfold finA finB
    unfold nan at this
    have := of_decide_eq_true this
    exact decide_eq_false (by omega)
  | some c => rw [rep_is h rfl]; rfl
def finC (X : Cn) : Bool := finA X.1 && finA X.2
theorem finC_of {X : Cn} {z : Cw} (h : repz X z) : (finB z.1 && finB z.2) = finC X := by unfold finC; rw [finA_of h.1, finA_of h.2]
def finF (f : Nat → Cn) : Nat → Bool
  | 0 => true
  | k + 1 => finF f k && finC (f k)
/-- a list that is handed back: what it holds, where it is read -/
structure Lst (w : World) (A : Option Addr) (n : Nat) (f : Nat → Cn) (zs : List Cw) : Prop where
  len : zs.length = n
  rep : repl f n zs
  rc : Rc w A zs
theorem Lst.okl {w : World} {A : Option Addr} {n : Nat} {f : Nat → Cn} {zs : List Cw} (h : Lst w A n f zs) : okl zs := by
  obtain ⟨rfl, h2, _⟩ := h
  exact h2.okl
theorem Lst.below {w w' : World} {A : Option Addr} {n : Nat} {f : Nat → Cn} {zs : List Cw} (h : Lst w A n f zs) (hb : Below w.heap.size w w') : Lst w' A n f zs := ⟨h.len, h.rep, h.rc.below hb⟩
theorem Lst.drewN {w : World} {A : Option Addr} {n : Nat} {f : Nat → Cn} {zs : List Cw} (h : Lst w A n f zs) (m : Nat) : Lst (w.drewN m) A n f zs := ⟨h.len, h.rep, h.rc.drewN m⟩
section two
variable {n ca cb : Nat} {ao bo : Option Addr} {F G : Nat → Cn} {xs ys : List Cw} {w : World} (h : Lst w ao n F xs) (k : Lst w bo n G ys) (hm : n ≤ 65536)
include h k hm
end two
section one
variable {n ca : Nat} {ao : Option Addr} {F : Nat → Cn} {xs : List Cw} {w : World} (h : Lst w ao n F xs) (hsz : n * 16 ≤ 140737488355328)
include h hsz
end one
theorem finF_at {f : Nat → Cn} {n : Nat} (h : finF f n = true) : ∀ j, j < n → finC (f j) = true := by
  induction n with
  | zero => intro j hj; omega
  | succ n ih =>
    unfold finF at h
    rw [Bool.and_eq_true] at h
    intro j hj
    by_cases e : j = n
    · subst e; exact h.2
    · exact ih h.1 j (by omega)
end Go.Proofs.YtmpkcioeodlbcaaGreatDoor
namespace Go.Proofs.YtmpkcioeodlbcaaGreatDoor
open Fl RowKit
theorem one_mul {xs zs : List Cw} {n : Nat} (hx : okl xs) (hf : finF (fun j => anz (zat xs j)) n = true) (h : repl (fun j => mulZ (anz (4607182418800017408, 0)) (anz (zat xs j))) n zs) : ∀ j, j < n → eqB (zat zs j).1 (zat xs j).1 = true ∧ eqB (zat zs j).2 (zat xs j).2 = true := by
  intro j hj
  have hc := finF_at hf j hj
  unfold finC at hc
  rw [Bool.and_eq_true] at hc
  have f1 : fin (zat xs j).1 := fin_of (by rw [finA_of (rep_ans (hx j).1)]; exact hc.1)
  have f2 : fin (zat xs j).2 := fin_of (by rw [finA_of (rep_ans (hx j).2)]; exact hc.2)
  have k := h j hj
  have e1 : (mulZ (anz (4607182418800017408, 0)) (anz (zat xs j))).1 = mulRe (ans (zat xs j).1) (ans (zat xs j).2) (some 4607182418800017408) (some 0) := by
    show subA (mulA (some 4607182418800017408) (ans (zat xs j).1)) (mulA (some 0) (ans (zat xs j).2)) = subA (mulA (ans (zat xs j).1) (some 4607182418800017408)) (mulA (ans (zat xs j).2) (some 0))
    rw [mulA_comm (some 4607182418800017408), mulA_comm (some 0)]
  have e2 : (mulZ (anz (4607182418800017408, 0)) (anz (zat xs j))).2 = mulIm (ans (zat xs j).1) (ans (zat xs j).2) (some 4607182418800017408) (some 0) := by
    show addA (mulA (some 4607182418800017408) (ans (zat xs j).2)) (mulA (some 0) (ans (zat xs j).1)) = addA (mulA (ans (zat xs j).1) (some 0)) (mulA (ans (zat xs j).2) (some 4607182418800017408))
    rw [mulA_comm (some 4607182418800017408), mulA_comm (some 0), addA_comm]
  exact times_one f1 f2 (hx j).1 (hx j).2 (by rw [← e1]; exact k.1) (by rw [← e2]; exact k.2)
theorem run_mkC (n : Nat) (hn : n ≤ 65536) (w : World) : (Instr.makeSlice 32 (.int .i64 (n : Int)) (.int .i64 (n : Int))).run Tryz.prog w = .ok (.slice (some ⟨w.heap.size, 0, none⟩) n n) (w.alloc (.cells (madeCells #[.complex .f64 0 0] n) 39)) := by
  obtain ⟨i0, hi, hz0, hz1, hz2⟩ := info_parts Tryz.infoC
  have h := run_make (P := Tryz.prog) w 32 39 i0 (.complex .f64 0 0) Tryz.underlying32 hi hz0 .i64 .i64 n n (by omega) (Int.le_refl _) (by rw [hz2]; omega) (by omega)
  simp only [Int.toNat_natCast, hz1, Nat.mul_one] at h
  exact h
end Go.Proofs.YtmpkcioeodlbcaaGreatDoor
namespace Go.Proofs.YtmpkcioeodlbcaaGreatDoor
open Fl RowKit
/-- a mark -/
def mkO (k i : Int) : Option Nat := subO (floatOfInt .f64 (-1000 * k - i)) 4620130267728707584
def mk1 (k i : Int) : Nat := (mkO k i).getD 0
def mk (k i : Int) : Cw := (mk1 k i, floatOfInt .f64 k)
/-- a list that is read: its address is none only if it is empty -/
structure Sl (w : World) (ao : Option Addr) (cap : Nat) (xs : List Cw) : Prop where
  rd : Rc w ao xs
  shape : ao = none ∧ xs.length = 0 ∨ ∃ g off, ao = some ⟨g, off, none⟩
  cap : xs.length ≤ cap
theorem Sl.below {w w' : World} {ao : Option Addr} {cap : Nat} {xs : List Cw} (h : Sl w ao cap xs) (hb : Below w.heap.size w w') : Sl w' ao cap xs := ⟨h.rd.below hb, h.shape, h.cap⟩
theorem Sl.drewN {w : World} {ao : Option Addr} {cap : Nat} {xs : List Cw} (h : Sl w ao cap xs) (n : Nat) : Sl (w.drewN n) ao cap xs := ⟨h.rd.drewN n, h.shape, h.cap⟩
theorem ksameL_len (ao bo : Option Addr) (ca cb n : Nat) (es fs : List Cw) (w : World) (hsz : n * 16 ≤ 140737488355328) (h1 : es.length = n) (h2 : fs.length = n) (hc : Rc w ao es) (hd : Rc w bo fs)
    (hs : ∀ k, k < n → smB (zat es k).1 (zat fs k).1 = true ∧ smB (zat es k).2 (zat fs k).2 = true) :
    Calls Tryz.prog 78 #[.slice ao n ca, .slice bo n cb] w fun e w' => ∃ m, e = .returned (.bool true) ∧ w' = w.drewN m := by
  subst h1
  exact ksameL_yes ao bo ca cb es fs w hsz h2 hc hd hs
/-- the row g alone is written -/
structure OnlyRow (g : Nat) (w w' : World) : Prop where
  os : w'.os = w.os
  tape : w'.tape = w.tape
  output : w'.output = w.output
  size : w'.heap.size = w.heap.size
  block : ∀ b, b ≠ g → w'.heap[b]? = w.heap[b]?
theorem OnlyRow.refl (g : Nat) (w : World) : OnlyRow g w w := ⟨rfl, rfl, rfl, rfl, fun _ _ => rfl⟩
theorem OnlyRow.setCell {g k : Nat} {w w' : World} (h : OnlyRow g w w') (u : Value) : OnlyRow g w (w'.setCell ⟨g, k, none⟩ u) := by
  refine ⟨h.os, h.tape, h.output, by simpa using h.size, fun b hb => ?_⟩
  rw [Below.heap_setCell _ _ _ _ (by exact hb)]
  exact h.block b hb
end Go.Proofs.YtmpkcioeodlbcaaGreatDoor
namespace Go.Proofs.YtmpkcioeodlbcaaGreatDoor
open Fl RowKit
/-- a row that is owned -/
structure Rw (w : World) (b : Nat) (v : Value) (n : Nat) (zs : List Cw) : Prop where
  len : zs.length = n
  own : w.ownsRow b 39 1 v n (zs.map cx)
theorem Rw.below {w w' : World} {b n : Nat} {v : Value} {zs : List Cw} (h : Rw w b v n zs) (hb : Below w.heap.size w w') : Rw w' b v n zs := ⟨h.len, own_below h.own hb⟩
theorem Rw.drewN {w : World} {b n : Nat} {v : Value} {zs : List Cw} (h : Rw w b v n zs) (m : Nat) : Rw (w.drewN m) b v n zs := ⟨h.len, h.own⟩
theorem Rw.only {w w' : World} {b n g : Nat} {v : Value} {zs : List Cw} (h : Rw w b v n zs) (ho : OnlyRow g w w') (hne : v.ownBlock ≠ some g) : Rw w' b v n zs := ⟨h.len, own_at h.own (fun q hq => ho.block q (fun e => hne (by rw [hq, e])))⟩
theorem Rw.lt {w : World} {b n g c : Nat} {zs : List Cw} (h : Rw w b (.slice (some ⟨g, 0, none⟩) n c) n zs) : b ≤ g ∧ g < w.heap.size := h.own.lt g rfl
theorem Rw.rc {w : World} {b n g c : Nat} {zs : List Cw} (h : Rw w b (.slice (some ⟨g, 0, none⟩) n c) n zs) : Rc w (some ⟨g, 0, none⟩) zs := by
  obtain ⟨A, C, hv, _, _, hr⟩ := own_rc h.len.symm h.own
  cases hv
  exact hr
theorem tsame_none (w : World) : Calls Tryz.prog 78 #[.slice none 0 0, .slice none 0 0] w fun e w' => ∃ m, e = .returned (.bool true) ∧ w' = w.drewN m :=
  ksameL_len none none 0 0 0 [] [] w (by simp) rfl rfl (Rc.nil _ _) (Rc.nil _ _) (fun j hj => by omega)
section two
variable {n ca cb : Nat} {ao bo : Option Addr} {F G : Nat → Cn} {xs ys : List Cw} {w : World} (h : Lst w ao n F xs) (k : Lst w bo n G ys) (hm : n ≤ 65536)
include h k hm
end two
section one
variable {n ca : Nat} {ao : Option Addr} {F : Nat → Cn} {xs : List Cw} {w : World} (h : Lst w ao n F xs) (hsz : n * 16 ≤ 140737488355328)
include h hsz
end one
section errs
variable {na nb : Nat} {E : Int} (ao bo : Option Addr) (ca cb : Nat) (w : World) (ha : na ≤ 1000000000000000) (hb : nb ≤ 1000000000000000) (he : ¬ E = 0) (hE : E = errV na nb)
include ha hb he hE
end errs
theorem rw_nil (w : World) (b : Nat) : Rw w b (.slice none 0 0) 0 [] := ⟨rfl, World.ownsRow_nil _ _ _ _⟩
theorem rw_base {w : World} {b b' n : Nat} {v : Value} {zs : List Cw} (h : Rw w b v n zs) (hb : b' ≤ b) : Rw w b' v n zs := ⟨h.len, own_base h.own hb⟩
theorem below_only {B g : Nat} {w w6 w7 : World} (h : Below B w w6) (ho : OnlyRow g w6 w7) (hg : B ≤ g) : Below B w w7 :=
  ⟨ho.os.trans h.os, ho.tape.trans h.tape, ho.output.trans h.output, by rw [ho.size]; exact h.size, fun b hb => (ho.block b (by omega)).trans (h.block b hb)⟩
theorem Lst.only {w w' : World} {g q n : Nat} {f : Nat → Cn} {zs : List Cw} (h : Lst w (some ⟨q, 0, none⟩) n f zs) (ho : OnlyRow g w w') (hne : q ≠ g) : Lst w' (some ⟨q, 0, none⟩) n f zs := by
  refine ⟨h.len, h.rep, fun k hk => ?_⟩
  obtain ⟨b, off, h1, h2, h3⟩ := h.rc k hk
  cases h1
  exact ⟨q, 0, rfl, by rw [ho.size]; exact h2, by rw [World.cell?_of_block (w := w) (ho.block q hne)]; exact h3⟩

end Go.Proofs.YtmpkcioeodlbcaaGreatDoor
namespace Go.Proofs.YtmpkcioeodlbcaaGreatDoor
open Fl RowKit
/-- may a matrix be? -/
def mb (R C : Int) (n : Nat) : Bool := decide (0 ≤ R ∧ R ≤ 64 ∧ 0 ≤ C ∧ C ≤ 64 ∧ (n : Int) = R * C)
def cnt (n : Int) : Bool := decide (0 ≤ n ∧ n ≤ 64)
theorem cnt_any (n : Int) (w : World) : Calls Tryz.prog 201 #[.int .i64 n] w fun e w' => e = .returned (.bool (cnt n)) ∧ w' = w := by
  by_cases h1 : 0 ≤ n
  · by_cases h2 : n ≤ 64
    · have e : cnt n = true := decide_eq_true ⟨h1, h2⟩
      rw [e]
      go_enter Tryz.func201, Tryz.ntmps201
      go_wp2
      go_ret
      exact ⟨rfl, rfl⟩
    · have e : cnt n = false := decide_eq_false (fun h => h2 h.2)
      rw [e]
      go_enter Tryz.func201, Tryz.ntmps201
      go_wp2
      go_ret
      exact ⟨rfl, rfl⟩
  · have e : cnt n = false := decide_eq_false (fun h => h1 h.1)
    rw [e]
    go_enter Tryz.func201, Tryz.ntmps201
    go_wp2
    go_ret
    exact ⟨rfl, rfl⟩
theorem wrap_small {z : Int} (h0 : 0 ≤ z) (h1 : z ≤ 1000000) : wrap64 z = z := by
  unfold wrap64
  omega
theorem mb_val {R C : Int} {n : Nat} (h1 : cnt R = true) (h2 : cnt C = true) : mb R C n = ((n : Int) == wrap64 (R * C)) := by
  obtain ⟨a, b⟩ := of_decide_eq_true h1
  obtain ⟨c, d⟩ := of_decide_eq_true h2
  have e0 : 0 ≤ R * C := Int.mul_nonneg a c
  have e1 : R * C ≤ 64 * 64 := Int.mul_le_mul b d c (by omega)
  rw [wrap_small e0 (by omega)]
  unfold mb
  by_cases h : (n : Int) = R * C
  · rw [decide_eq_true ⟨a, b, c, d, h⟩, h]; exact (beq_self_eq_true _).symm
  · rw [decide_eq_false (fun k => h k.2.2.2.2)]; exact (beq_false_of_ne h).symm
theorem mb_no1 {R C : Int} {n : Nat} (h1 : cnt R = false) : mb R C n = false := decide_eq_false (fun k => of_decide_eq_false h1 ⟨k.1, k.2.1⟩)
theorem mb_no2 {R C : Int} {n : Nat} (h1 : cnt C = false) : mb R C n = false := decide_eq_false (fun k => of_decide_eq_false h1 ⟨k.2.2.1, k.2.2.2.1⟩)
theorem mayBe_any (R C : Int) (A : Option Addr) (n c : Nat) (w : World) (_hn : n ≤ 1000000000000000) :
    Calls Tryz.prog 165 #[.agg #[.int .i64 R, .int .i64 C, .slice A n c]] w fun e w' => e = .returned (.bool (mb R C n)) ∧ w' = w.alloc (.cells #[.int .i64 R, .int .i64 C, .slice A n c] 120) := by
  cases h1 : cnt R <;> cases h2 : cnt C
  all_goals
    first | rw [mb_no1 h1] | rw [mb_no2 h2] | rw [mb_val h1 h2]
    go_enter Tryz.func165, Tryz.ntmps165
    go_wp2_with (go_at_call 201; refine (cnt_any _ _).mono ?_; rintro e w' ⟨rfl, rfl⟩)
    go_ret
    exact ⟨rfl, rfl⟩
/-- places: row i, column j -/
theorem place_lt {R C i j : Nat} (hi : i < R) (hj : j < C) : i * C + j < R * C := by
  have h1 : (i + 1) * C ≤ R * C := Nat.mul_le_mul_right _ (by omega)
  rw [Nat.succ_mul] at h1
  omega
theorem le_4096 {R C : Nat} (hR : R ≤ 64) (hC : C ≤ 64) : R * C ≤ 4096 := Nat.mul_le_mul hR hC
theorem wrap_mul {i C : Nat} (hi : i ≤ 1000) (hC : C ≤ 1000) : wrap64 ((i : Int) * (C : Int)) = ((i * C : Nat) : Int) := by
  have := Nat.mul_le_mul hi hC
  rw [← Int.natCast_mul]
  exact wrap_small (by omega) (by omega)
end Go.Proofs.YtmpkcioeodlbcaaGreatDoor
namespace Go.Proofs.YtmpkcioeodlbcaaGreatDoor
open Fl RowKit
theorem other_cell {w : World} {a b : Addr} (u : Value) (h : a ≠ b) : (w.setCell a u).cell? b = w.cell? b := World.cell?_setCell_other _ _ _ _ h
/-- a struct of three cells that may be written -/
structure V3 (p : Nat) (a b c : Value) (w : World) : Prop where
  lt : p < w.heap.size
  c0 : w.cell? ⟨p, 0, none⟩ = some a
  c1 : w.cell? ⟨p, 1, none⟩ = some b
  c2 : w.cell? ⟨p, 2, none⟩ = some c
  f0 : w.frozen? ⟨p, 0, none⟩ = false
  f1 : w.frozen? ⟨p, 1, none⟩ = false
  f2 : w.frozen? ⟨p, 2, none⟩ = false
theorem V3.later {p n : Nat} {a b c : Value} {w w' : World} (h : V3 p a b c w) (hb : Below n w w') (hn : p < n) : V3 p a b c w' :=
  ⟨Nat.lt_of_lt_of_le h.lt hb.size, (hb.cell hn).trans h.c0, (hb.cell hn).trans h.c1, (hb.cell hn).trans h.c2, (hb.frozen hn).trans h.f0, (hb.frozen hn).trans h.f1, (hb.frozen hn).trans h.f2⟩
theorem V3.below {p : Nat} {a b c : Value} {w w' : World} (h : V3 p a b c w) (hb : Below w.heap.size w w') : V3 p a b c w' := h.later hb h.lt
theorem V3.drewN {p : Nat} {a b c : Value} {w : World} (h : V3 p a b c w) (n : Nat) : V3 p a b c (w.drewN n) := ⟨h.lt, h.c0, h.c1, h.c2, h.f0, h.f1, h.f2⟩
theorem v3_new (w : World) (a b c : Value) (t : TypeId) : V3 w.heap.size a b c (w.alloc (.cells #[a, b, c] t)) :=
  ⟨by simp, World.cell?_alloc_new w _ _ 0, World.cell?_alloc_new w _ _ 1, World.cell?_alloc_new w _ _ 2, by simp, by simp, by simp⟩
theorem V3.other {p : Nat} {a b c : Value} {w : World} (h : V3 p a b c w) {q : Addr} (hq : q.block ≠ p) (u : Value) : V3 p a b c (w.setCell q u) := by
  have key : ∀ j : Nat, q ≠ (⟨p, j, none⟩ : Addr) := fun j e => hq (congrArg Addr.block e)
  refine ⟨by simpa using h.lt, ?_, ?_, ?_, ?_, ?_, ?_⟩
  · rw [other_cell _ (key _)]; exact h.c0
  · rw [other_cell _ (key _)]; exact h.c1
  · rw [other_cell _ (key _)]; exact h.c2
  · simpa using h.f0
  · simpa using h.f1
  · simpa using h.f2
theorem V3.reads {p : Nat} {x y z : Value} {w : World} (h : V3 p x y z w) : (∀ a, (w.setCell ⟨p, 0, none⟩ a).cell? ⟨p, 0, none⟩ = some a) ∧ (∀ a b, ((w.setCell ⟨p, 0, none⟩ a).setCell ⟨p, 1, none⟩ b).cell? ⟨p, 1, none⟩ = some b) ∧
    (∀ a b c, (((w.setCell ⟨p, 0, none⟩ a).setCell ⟨p, 1, none⟩ b).setCell ⟨p, 2, none⟩ c).cell? ⟨p, 2, none⟩ = some c) := by
  refine ⟨fun a => World.cell?_setCell_same _ _ _ h.c0, fun a b => World.cell?_setCell_same _ _ _ (u := y) ?_, fun a b c => World.cell?_setCell_same _ _ _ (u := z) ?_⟩
  · rw [other_cell _ (by simp)]; exact h.c1
  · rw [other_cell _ (by simp), other_cell _ (by simp)]; exact h.c2
/-- three cells written -/
def set3 (w : World) (p : Nat) (a b c : Value) : World := ((w.setCell ⟨p, 0, none⟩ a).setCell ⟨p, 1, none⟩ b).setCell ⟨p, 2, none⟩ c
theorem V3.put {p : Nat} {x y z : Value} {w : World} (h : V3 p x y z w) (a b c : Value) : V3 p a b c (set3 w p a b c) := by
  obtain ⟨r0, r1, r2⟩ := h.reads
  refine ⟨by simpa [set3] using h.lt, ?_, ?_, r2 a b c, by simpa [set3] using h.f0, by simpa [set3] using h.f1, by simpa [set3] using h.f2⟩
  · unfold set3; rw [other_cell _ (by simp), other_cell _ (by simp)]; exact r0 a
  · unfold set3; rw [other_cell _ (by simp)]; exact r1 a b
theorem below_set3 {n p : Nat} {w w' : World} (h : Below n w w') (hp : n ≤ p) (a b c : Value) : Below n w (set3 w' p a b c) :=
  ((h.setCell (p := ⟨p, 0, none⟩) hp _).setCell (p := ⟨p, 1, none⟩) hp _).setCell (p := ⟨p, 2, none⟩) hp _
theorem set3_block {w : World} {p g : Nat} {a b c : Value} (h : p ≠ g) : (set3 w p a b c).heap[g]? = w.heap[g]? := by
  unfold set3
  rw [Below.heap_setCell _ _ _ _ (Ne.symm h), Below.heap_setCell _ _ _ _ (Ne.symm h), Below.heap_setCell _ _ _ _ (Ne.symm h)]
/-- holds it at all places below k? -/
def allB (p : Nat → Bool) : Nat → Bool
  | 0 => true
  | k + 1 => allB p k && p k
end Go.Proofs.YtmpkcioeodlbcaaGreatDoor
namespace Go.Proofs.YtmpkcioeodlbcaaGreatDoor
open Fl RowKit
/-- a matrix that may be, and is read -/
structure Mx (w : World) (R C : Nat) (A : Option Addr) (c : Nat) (F : Nat → Cn) (xs : List Cw) : Prop where
  len : xs.length = R * C
  hR : R ≤ 64
  hC : C ≤ 64
  rep : repl F (R * C) xs
  sl : Sl w A c xs
theorem Mx.below {w w' : World} {R C c : Nat} {A : Option Addr} {F : Nat → Cn} {xs : List Cw} (h : Mx w R C A c F xs) (hb : Below w.heap.size w w') : Mx w' R C A c F xs := ⟨h.len, h.hR, h.hC, h.rep, h.sl.below hb⟩
theorem Mx.drewN {w : World} {R C c : Nat} {A : Option Addr} {F : Nat → Cn} {xs : List Cw} (h : Mx w R C A c F xs) (n : Nat) : Mx (w.drewN n) R C A c F xs := ⟨h.len, h.hR, h.hC, h.rep, h.sl.drewN n⟩
theorem Mx.okl {w : World} {R C c : Nat} {A : Option Addr} {F : Nat → Cn} {xs : List Cw} (h : Mx w R C A c F xs) : okl xs := by
  have h1 := h.len
  have h2 := h.rep
  rw [← h1] at h2
  exact h2.okl
theorem Mx.at {w : World} {R C c i j : Nat} {A : Option Addr} {F : Nat → Cn} {xs : List Cw} (h : Mx w R C A c F xs) (hi : i < R) (hj : j < C) : repz (F (i * C + j)) (zat xs (i * C + j)) := h.rep _ (place_lt hi hj)
theorem bal (w : World) (o : Obj) : Below w.heap.size w (w.alloc o) := (Below.refl _ _).alloc (Nat.le_refl _) o
section one
variable {w : World} {R C c B : Nat} {A : Option Addr} {F : Nat → Cn} {xs : List Cw} (h : Mx w R C A c F xs) (hV : V3 B (.int .i64 R) (.int .i64 C) (.slice A (R * C) c) w)
include h hV
end one
theorem undrew {w w' : World} (h : Below w.drew.heap.size w.drew w') : Below w.heap.size w w' := ((below_self w).drew).trans h
section one2
variable {w : World} {R C c B : Nat} {A : Option Addr} {F : Nat → Cn} {xs : List Cw} (h : Mx w R C A c F xs) (hV : V3 B (.int .i64 R) (.int .i64 C) (.slice A (R * C) c) w)
include h hV
end one2
section two
variable {w : World} {R C c B R' C' c' B' : Nat} {A A' : Option Addr} {F G : Nat → Cn} {xs ys : List Cw} (h : Mx w R C A c F xs) (hV : V3 B (.int .i64 R) (.int .i64 C) (.slice A (R * C) c) w) (h' : Mx w R' C' A' c' G ys) (hV' : V3 B' (.int .i64 R') (.int .i64 C') (.slice A' (R' * C') c') w)
include h hV h' hV'
end two
end Go.Proofs.YtmpkcioeodlbcaaGreatDoor
