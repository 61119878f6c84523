/-
  Several texts in one: Me Mg Mw Mva Mp Sta Stb Ada Gqv Pnt Stp.
-/
import Derived.Test.YtmpkcioeodlbcaaGreatDoorK31
import Derived.Deep.SlicePairs
import Derived.OpenShut
import Derived.SizedLaws
import Derived.Test.YtmpkcioeodlbcaaGreatDoorK19
import Derived.Test.YtmpkcioeodlbcaaGreatDoorK14
import Derived.Test.YtmpkcioeodlbcaaGreatDoorK23
import Derived.Lib.SmallJoins
import Derived.Below
namespace Go.Proofs.YtmpkcioeodlbcaaGreatDoor
open Fl RowKit
@[go_sem] theorem run_fieldM (a b : Int) (o : Option Addr) (l c : Nat) (w : World) : Sem.run Tryz.prog (Instr.field 120 (.agg #[.int .i64 a, .int .i64 b, .slice o l c]) 2) w = .ok (.slice o l c) w := by kernel_rfl
theorem v3_at (w : World) {p : Nat} (a b c : Value) (t : TypeId) (hp : w.heap.size = p) : V3 p a b c (w.alloc (.cells #[a, b, c] t)) := by subst hp; exact v3_new w a b c t
theorem mb_of {R C : Nat} {n : Nat} (hR : R ≤ 64) (hC : C ≤ 64) (hn : n = R * C) : mb (R : Int) (C : Int) n = true := decide_eq_true ⟨by omega, by omega, by omega, by omega, by rw [hn, Int.natCast_mul]⟩
theorem Mx.mb {w : World} {R C c : Nat} {A : Option Addr} {F : Nat → Cn} {xs : List Cw} (h : Mx w R C A c F xs) : mb (R : Int) (C : Int) (R * C) = true := mb_of h.hR h.hC rfl
theorem small {n : Nat} (h : n ≤ 4096) : n ≤ 1000000000000000 := by omega
section one
variable {w : World} {R C c : Nat} {A : Option Addr} {F : Nat → Cn} {xs : List Cw} (h : Mx w R C A c F xs)
include h
end one
end Go.Proofs.YtmpkcioeodlbcaaGreatDoor
namespace Go.Proofs.YtmpkcioeodlbcaaGreatDoor
open Fl RowKit
theorem mcheck (R C : Int) (A : Option Addr) (n c : Nat) (w : World) (hn : n ≤ 1000000000000000) : Calls Tryz.prog 126 #[.agg #[.int .i64 R, .int .i64 C, .slice A n c]] w fun e w' => e = .returned (.int .i64 (if mb R C n then 0 else 4)) ∧ Below w.heap.size w w' := by
  cases hm : mb R C n
  all_goals
    go_enter Tryz.func126, Tryz.ntmps126
    go_wp2_with (go_at_call 165; (refine (mayBe_any _ _ _ _ _ _ hn).mono ?_); (rintro e w' ⟨rfl, rfl⟩); (rw [hm]))
    go_ret
    exact ⟨rfl, ba (bal _ _) _⟩
section none
variable {R C : Int} {A : Option Addr} {n c : Nat} {w : World} (hn : n ≤ 1000000000000000) (hm : mb R C n = false)
include hn hm
end none
section arg
variable {R C : Int} {A : Option Addr} {n c : Nat} {w : World} (hn : n ≤ 1000000000000000) (hm : mb R C n = true)
include hn hm
end arg
end Go.Proofs.YtmpkcioeodlbcaaGreatDoor
namespace Go.Proofs.YtmpkcioeodlbcaaGreatDoor
open Fl RowKit
theorem Rw.set3 {w : World} {b n p : Nat} {v : Value} {zs : List Cw} (h : Rw w b v n zs) (hp : p < b) (x y z : Value) : Rw (Go.Proofs.YtmpkcioeodlbcaaGreatDoor.set3 w p x y z) b v n zs :=
  ⟨h.len, own_at h.own (fun q hq => set3_block (by have := (h.own.lt q hq).1; omega))⟩
end Go.Proofs.YtmpkcioeodlbcaaGreatDoor
namespace Go.Proofs.YtmpkcioeodlbcaaGreatDoor
open Fl RowKit
def x1 : Cw := (4607182418800017408, 0)
def x2 : Cw := (4611686018427387904, 0)
def x3 : Cw := (4613937818241073152, 0)
def x4 : Cw := (4616189618054758400, 0)
def x0 : Cw := (0, 0)
end Go.Proofs.YtmpkcioeodlbcaaGreatDoor
namespace Go.Proofs.YtmpkcioeodlbcaaGreatDoor
open Fl RowKit
theorem V3.drew {p : Nat} {a b c : Value} {w : World} (h : V3 p a b c w) : V3 p a b c w.drew := h.drewN 1
end Go.Proofs.YtmpkcioeodlbcaaGreatDoor
namespace Go.Proofs.YtmpkcioeodlbcaaGreatDoor
open Fl RowKit
theorem hidS {p : Prop} (h : p) : Hid p := h
theorem finZ_of {Z : Cn} {r : Cw} (h : repz Z r) : finZ r = finC Z := finC_of h
/-- what a function value of two numbers answers -/
def Op2 (F : FuncId) (op : Cn → Cn → Cn) : Prop := ∀ (W : World) (x y : Cw), okz x → okz y → Calls Tryz.prog F #[.complex .f64 x.1 x.2, .complex .f64 y.1 y.2] W fun e W' => ∃ (r : Cw) (m : Nat), e = .returned (.complex .f64 r.1 r.2) ∧ repz (op (anz x) (anz y)) r ∧ W' = W.drewN m
theorem op2_add : Op2 129 addZ := fun W x y hx hy => (add_any W (rep_ans hx.1) (rep_ans hx.2) (rep_ans hy.1) (rep_ans hy.2)).mono (by rintro e w' ⟨re, im, n, rfl, h1, h2, rfl⟩; exact ⟨(re, im), n, rfl, ⟨h1, h2⟩, rfl⟩)
theorem op2_sub : Op2 47 subZ := fun W x y hx hy => (sub_any W (rep_ans hx.1) (rep_ans hx.2) (rep_ans hy.1) (rep_ans hy.2)).mono (by rintro e w' ⟨re, im, n, rfl, h1, h2, rfl⟩; exact ⟨(re, im), n, rfl, ⟨h1, h2⟩, rfl⟩)
theorem ent2_add : Ent 129 := fun _ _ => by go_simp
theorem ent2_sub : Ent 47 := fun _ _ => by go_simp
end Go.Proofs.YtmpkcioeodlbcaaGreatDoor
namespace Go.Proofs.YtmpkcioeodlbcaaGreatDoor
open Fl RowKit
set_option linter.unusedVariables false
/-- an entry changed in place -/
theorem sput_any {F : FuncId} {op : Cn → Cn → Cn} (hE : Ent F) (hF : Op2 F op) {w : World} {p : Addr} {x y : Cw} (hx : okz x) (hy : okz y) (hc : w.cell? p = some (cx x)) (hf : w.frozen? p = false) (f : Bool) (hfin : finC (op (anz x) (anz y)) = f) :
    Calls Tryz.prog 255 #[.pointer (some p), .func (.func F) #[] #[], .complex .f64 y.1 y.2] w fun e w' => e = .returned (.int .i64 (if f = true then 0 else 6)) ∧ ∃ (r : Cw) (m : Nat), repz (op (anz x) (anz y)) r ∧ w' = (w.drewN m).setCell p (cx r) := by
  have HF := hidS (fun W => hF W x y hx hy)
  have HFI := hidS hfin
  have hfin2 := fun (r : Cw) (h : repz (op (anz x) (anz y)) r) => (finZ_of h).trans hfin
  have HF2 := hidS hfin2
  unfold cx at hc
  unfold Ent at hE
  clear hfin hfin2 hF
  cases f
  all_goals
    go_enter Tryz.func255, Tryz.ntmps255
    go_wp2_with (first
      | (go_at_call 59; (with_reducible refine (fin_any r.1 r.2 _ o1 o2).mono ?_); rintro e w' ⟨rfl, rfl⟩; (have hff := HF2.out r HR.out); (unfold finZ at hff); rw [hff])
      | ((refine (HF.out _).mono ?_); rintro e w1 ⟨r, m, rfl, hr, rfl⟩; (have HR := hidS hr); (obtain ⟨o1, o2⟩ := hr.ok); (have hrd : ((w.drewN m).setCell p (.complex .f64 r.1 r.2)).cell? p = some (.complex .f64 r.1 r.2) := World.cell?_setCell_same _ _ _ (show (w.drewN m).cell? p = some _ from hc)); clear hr))
    go_ret
    exact ⟨rfl, _, _, HR.out, _, rfl⟩
section no
variable {R C : Int} {n : Nat} {i j : Int} {y : Cw} {xs : List Cw} (hn : n ≤ 1000000000000000)
include hn
end no
section yes
variable {R C i j : Nat} {y : Cw} {xs : List Cw} (hR : R ≤ 64) (hC : C ≤ 64) (hi : i < R) (hj : j < C) (hy : okz y)
include hR hC hi hj hy
end yes
end Go.Proofs.YtmpkcioeodlbcaaGreatDoor
namespace Go.Proofs.YtmpkcioeodlbcaaGreatDoor
open Fl RowKit
set_option linter.unusedVariables false
/-- what is wrong with a frequency -/
def frI (o : Nat) : Int := if finB o = false then 5 else if posV o = false then 2 else 0
/-- what is wrong with a frequency or an element -/
def ckA (x : Elm) (o : Nat) : Int := if frI o = 0 then chkI x else frI o
def mW (o v : Nat) : Nat := (mulO o v).getD 0
def dW (p : Nat) : Nat := (divO 4607182418800017408 p).getD 0
abbrev Tr3 := Nat × Nat × Int
def toA (a b : Nat) : Tr3 := if (finB a && finB b) = true then (a, b, 0) else (0, 0, 6)
def prA (o v : Nat) : Tr3 := toA 0 (mW o v)
def ovA (o v : Nat) : Tr3 := if finB (mW o v) = true then toA 0 (ngW (dW (mW o v))) else (0, 0, 6)
def ofT (x : Elm) (o : Nat) : Tr3 := if ckA x o = 0 then (if x.k = 1 ∨ x.k = 8 then toA (dW x.v) 0 else if x.k = 3 then prA o x.v else if x.k = 2 then ovA o x.v else (0, 0, 2)) else (0, 0, ckA x o)
def tV (t : Tr3) : Value := .tuple #[.complex .f64 t.1 t.2.1, .int .i64 t.2.2]
theorem finB_iff {x : Nat} : finB x = true ↔ fin x := by unfold finB Fl.fin; simp
theorem fr_zero {o : Nat} (h : frI o = 0) : fin o ∧ posV o = true := by
  unfold frI at h
  by_cases h1 : finB o = false
  · rw [if_pos h1] at h; omega
  · rw [if_neg h1] at h
    by_cases h2 : posV o = false
    · rw [if_pos h2] at h; omega
    · exact ⟨finB_iff.1 (by simpa using h1), by simpa using h2⟩
theorem kd_fin2 {v : Nat} (h : ¬ 2 < kdB v) : fin v := by
  have hn := kd_fin h
  unfold kdB at h
  rw [hn] at h
  have := not_nan hn
  unfold Fl.fin
  by_cases q : mg v = 9218868437227405312
  · rw [if_neg (by simp), if_pos q] at h; omega
  · omega
theorem ck_zero {x : Elm} {o : Nat} (h : ckA x o = 0) : frI o = 0 ∧ chkI x = 0 := by
  unfold ckA at h
  by_cases h1 : frI o = 0
  · rw [if_pos h1] at h; exact ⟨h1, h⟩
  · rw [if_neg h1] at h; exact absurd h h1
theorem chk_zero {x : Elm} (h : chkI x = 0) : fin x.v ∧ (abv x.k = true → posV x.v = true) := by
  unfold chkI at h
  by_cases h1 : ltr x.k = 0
  · rw [if_pos h1] at h; omega
  · rw [if_neg h1] at h
    by_cases h2 : naF x = false
    · rw [if_pos h2] at h; omega
    · rw [if_neg h2] at h
      by_cases h3 : (x.a.toList == x.b.toList) = true ∨ spF x = false
      · rw [if_pos h3] at h; omega
      · rw [if_neg h3] at h
        by_cases h4 : 2 < kdB x.v
        · rw [if_pos h4] at h; omega
        · rw [if_neg h4] at h
          refine ⟨kd_fin2 h4, fun ha => ?_⟩
          by_cases h5 : abv x.k = true ∧ posV x.v = false
          · rw [if_pos h5] at h; omega
          · cases hp : posV x.v
            · exact absurd ⟨ha, hp⟩ h5
            · rfl
/-- products of finite numbers are told, and have no NaN -/
theorem mul_some {o v : Nat} (ho : fin o) (hv : fin v) : mulO o v = some (mW o v) := by
  unfold mW; rw [mul_gen ho hv]; rfl
theorem div_some {p : Nat} (hn : nan p = false) : ∃ q, divO 4607182418800017408 p = some q := by
  rcases kinds p with h | h | h
  · by_cases h0 : sig (mg p) = 0
    · have hz : mg p = 0 := by
        unfold sig at h0; split at h0 <;> omega
      unfold divO Ieee.Format.div
      rw [read_fin p h, h0]
      exact ⟨_, rfl⟩
    · exact ⟨_, div_gen (x := 4607182418800017408) (finB_iff.1 (by decide)) h h0⟩
  · unfold divO Ieee.Format.div
    rw [read_inf p h]
    exact ⟨_, rfl⟩
  · rw [hn] at h; cases h
theorem dW_some {p : Nat} (hn : nan p = false) : divO 4607182418800017408 p = some (dW p) := by
  obtain ⟨q, hq⟩ := div_some hn
  unfold dW; rw [hq]; rfl
theorem dW_bd {p : Nat} (hn : nan p = false) : dW p < 18446744073709551616 ∧ nan (dW p) = false := div_bd (dW_some hn)
theorem divV_of {x y s : Nat} (h : divO x y = some s) (W : World) : divV W x y = s := by unfold divV fV; rw [h]
theorem fN_some {o : Option Nat} {s : Nat} (h : o = some s) : fN o = 0 := by rw [h]; rfl
end Go.Proofs.YtmpkcioeodlbcaaGreatDoor
namespace Go.Proofs.YtmpkcioeodlbcaaGreatDoor
set_option linter.unusedVariables false
theorem addU_self (xs : List (List UInt8)) (s : List UInt8) : s ∈ addU xs s := by unfold addU; split; assumption; simp
theorem addU_sub {xs : List (List UInt8)} {s x : List UInt8} (h : x ∈ xs) : x ∈ addU xs s := by unfold addU; split; exact h; exact List.mem_append_left _ h
theorem addU_mem {xs : List (List UInt8)} {s x : List UInt8} (h : x ∈ addU xs s) : x ∈ xs ∨ x = s := by
  unfold addU at h
  split at h
  · exact .inl h
  · rcases List.mem_append.1 h with q | q
    · exact .inl q
    · exact .inr (by simpa using q)
theorem addU_nodup {xs : List (List UInt8)} {s : List UInt8} (h : xs.Nodup) : (addU xs s).Nodup := by
  unfold addU
  split
  · exact h
  · rename_i hs
    rw [List.nodup_append]
    refine ⟨h, by simp, fun a ha b hb e => ?_⟩
    simp at hb
    rw [e, hb] at ha
    exact hs ha
/-- what is known of the nodes of a net -/
structure Nw (xs : List (List UInt8)) : Prop where
  u : xs.Nodup
  g : [48] ∉ xs
  s : ∀ s ∈ xs, s.length ≤ 100000
theorem Nw.nil : Nw [] := ⟨List.nodup_nil, by simp, by simp⟩
theorem ndO_sub {xs : List (List UInt8)} {s : ByteArray} {x : List UInt8} (h : x ∈ xs) : x ∈ ndO xs s := by unfold ndO; split; exact addU_sub h; exact h
theorem isN_iff {s : ByteArray} : isN s = true ↔ bl s ≠ [] ∧ bl s ≠ [48] := by
  unfold isN
  rw [Bool.and_eq_true, Bool.not_eq_true', Bool.not_eq_true', beq_eq_false_iff_ne, beq_eq_false_iff_ne]
theorem ndO_in {xs : List (List UInt8)} {s : ByteArray} (h : bl s ≠ []) : bl s ∈ [48] :: ndO xs s := by
  by_cases h2 : bl s = [48]
  · rw [h2]; exact List.mem_cons_self
  · refine List.mem_cons_of_mem _ ?_
    unfold ndO
    rw [if_pos (isN_iff.2 ⟨h, h2⟩)]
    exact addU_self _ _
theorem Nw.ndO {xs : List (List UInt8)} {s : ByteArray} (h : Nw xs) (hs : s.size ≤ 100000) : Nw (ndO xs s) := by
  unfold Go.Proofs.YtmpkcioeodlbcaaGreatDoor.ndO
  split
  · rename_i hn
    have hn2 := isN_iff.1 hn
    refine ⟨addU_nodup h.u, fun q => ?_, fun t ht => ?_⟩
    · rcases addU_mem q with q | q
      · exact h.g q
      · exact hn2.2 q.symm
    · rcases addU_mem ht with q | q
      · exact h.s t q
      · rw [q]; exact hs
  · exact h
theorem cons_sub {xs ys : List (List UInt8)} (h : ∀ x, x ∈ xs → x ∈ ys) {s : List UInt8} (hs : s ∈ [48] :: xs) : s ∈ [48] :: ys := by
  rcases List.mem_cons.1 hs with q | q
  · rw [q]; exact List.mem_cons_self
  · exact List.mem_cons_of_mem _ (h s q)
theorem ndE_sub {xs : List (List UInt8)} {x : Elm} {s : List UInt8} (h : s ∈ xs) : s ∈ ndE xs x := ndO_sub (ndO_sub (ndO_sub (ndO_sub h)))
/-- what Check says of an element that may be -/
structure Cks (x : Elm) : Prop where
  sh : x.n.size ≤ 16 ∧ 2 ≤ x.n.size ∧ x.a.size ≤ 16 ∧ x.b.size ≤ 16 ∧ x.c.size ≤ 16 ∧ x.d.size ≤ 16
  na : naF x = true
  ab : bl x.a ≠ bl x.b
  lt : ltr x.k ≠ 0
  a : bl x.a ≠ []
  b : bl x.b ≠ []
theorem ne_bl {s : ByteArray} (h : 0 < s.size) : bl s ≠ [] := fun q => by
  have : (bl s).length = 0 := by rw [q]; rfl
  rw [bl_len] at this; omega
theorem nd_pos {s : ByteArray} (h : ndF s = true) : 0 < s.size := by
  unfold ndF at h
  simp at h
  exact h.1.1
theorem chk_all {x : Elm} (h0 : chkI x = 0) : Cks x := by
  have hsh := chk_short h0
  have h := h0
  unfold chkI at h
  by_cases h1 : ltr x.k = 0
  · rw [if_pos h1] at h; cases h
  rw [if_neg h1] at h
  by_cases h2 : naF x = false
  · rw [if_pos h2] at h; cases h
  rw [if_neg h2] at h
  by_cases h3 : (x.a.toList == x.b.toList) = true ∨ spF x = false
  · rw [if_pos h3] at h; cases h
  have h2' : naF x = true := by simpa using h2
  have h4 := h2'
  unfold naF at h4
  simp only [Bool.and_eq_true] at h4
  refine ⟨hsh, h2', fun q => h3 (.inl ?_), h1, ne_bl (nd_pos h4.1.1.2), ne_bl (nd_pos h4.1.2)⟩
  rw [ByteArray.toList_eq, ByteArray.toList_eq]
  exact beq_iff_eq.2 q
/-- what is known of a net that is being made -/
structure Nv (N : Ns) : Prop where
  nw : Nw N.nd
  el : ∀ x ∈ N.es, bl x.a ∈ [48] :: N.nd ∧ bl x.b ∈ [48] :: N.nd ∧ Cks x
  nm : N.nm = N.es.map fun x => bl x.n
  nu : N.nm.Nodup
theorem Nv.nil : Nv Ns.nil := ⟨Nw.nil, (fun x hx => by cases hx), rfl, List.nodup_nil⟩
theorem Nv.lay {N : Ns} {x : Elm} (h : Nv N) (hc : chkI x = 0) (hn : bl x.n ∉ N.nm) : Nv (N.lay x) := by
  have ck := chk_all hc
  obtain ⟨s1, s2, s3, s4, s5, s6⟩ := ck.sh
  have hA : bl x.a ∈ [48] :: ndE N.nd x := cons_sub (fun y hy => ndO_sub (ndO_sub (ndO_sub hy))) (ndO_in ck.a)
  have hB : bl x.b ∈ [48] :: ndE N.nd x := cons_sub (fun y hy => ndO_sub (ndO_sub hy)) (ndO_in ck.b)
  have hnm : addU N.nm (bl x.n) = N.nm ++ [bl x.n] := if_neg hn
  refine ⟨((((h.nw.ndO (s := x.a) (by omega)).ndO (s := x.b) (by omega)).ndO (s := x.c) (by omega)).ndO (s := x.d) (by omega)), fun y hy => ?_, ?_, addU_nodup h.nu⟩
  · rcases List.mem_append.1 hy with q | q
    · obtain ⟨h1, h2, h3⟩ := h.el y q
      exact ⟨cons_sub (fun z hz => ndE_sub hz) h1, cons_sub (fun z hz => ndE_sub hz) h2, h3⟩
    · simp at q; rw [q]; exact ⟨hA, hB, ck⟩
  · show addU N.nm (bl x.n) = (N.es ++ [x]).map _
    rw [hnm, h.nm]; simp
theorem ofR_facts : ∀ (l : List Elm) (N N' : Ns) (i : Nat), Nv N → ofR N i l = ((0, 0), N') → Nv N' ∧ N'.es = N.es ++ l ∧ N'.nd.length ≤ 32 := by
  intro l
  induction l with
  | nil =>
    intro N N' i h ho
    unfold ofR at ho
    split at ho
    · simp at ho
    · rename_i hb
      have : N = N' := by simpa using ho
      subst this
      exact ⟨h, by simp, by omega⟩
  | cons x t ih =>
    intro N N' i h ho
    by_cases hc : chkI x = 0
    · by_cases hn : bl x.n ∈ N.nm
      · rw [ofR_there hc hn] at ho
        simp at ho
      · rw [ofR_go hc hn] at ho
        obtain ⟨h1, h2, h3⟩ := ih (N.lay x) N' (i + 1) (h.lay hc hn) ho
        exact ⟨h1, by rw [h2]; show (N.es ++ [x]) ++ t = _; simp, h3⟩
    · rw [ofR_bad hc] at ho
      simp at ho
      exact absurd ho.1.1 hc
theorem ofA_facts {l : List Elm} {N : Ns} (h : ofA l = ((0, 0), N)) : Nv N ∧ N.es = l ∧ N.nd.length ≤ 32 ∧ l.length ≤ 256 := by
  unfold ofA at h
  split at h
  · simp at h
  · rename_i hl
    obtain ⟨h1, h2, h3⟩ := ofR_facts l Ns.nil N 0 Nv.nil h
    exact ⟨h1, by rw [h2]; rfl, h3, by omega⟩
/-- the other way: what is known of a list makes a net of it -/
theorem Nv.nm_ne {N : Ns} (h : Nv N) : [] ∉ N.nm := by
  rw [h.nm]
  intro q
  obtain ⟨x, hx, he⟩ := List.mem_map.1 q
  have := (h.el x hx).2.2.sh.2.1
  have h2 : (bl x.n).length = 0 := by rw [he]; rfl
  rw [bl_len] at h2; omega
end Go.Proofs.YtmpkcioeodlbcaaGreatDoor
namespace Go.Proofs.YtmpkcioeodlbcaaGreatDoor
open Fl Go.Maps RowKit Joins Deep
set_option linter.unusedVariables false
/-- a node's place; -1: the ground's -/
def plI (N : Ns) (s : ByteArray) : Int := if bl s ∈ N.nd then (posL N.nd (bl s) : Int) else -1
/-- a branch's row -/
def rwI (N : Ns) (x : Elm) : Int := (N.nd.length : Int) + (posL N.br (bl x.n) : Int)
theorem plI_lo (N : Ns) (s : ByteArray) : -1 ≤ plI N s := by unfold plI; split <;> omega
theorem posL_lt {xs : List (List UInt8)} {s : List UInt8} (h : s ∈ xs) : posL xs s < xs.length := by unfold posL; rw [if_pos h]; exact List.idxOf_lt_length_of_mem h
theorem plI_hi {N : Ns} {s : ByteArray} : plI N s < N.nd.length := by
  unfold plI
  split
  · rename_i h; have := posL_lt h; omega
  · omega
theorem rwI_lo (N : Ns) (x : Elm) : -1 ≤ rwI N x := by unfold rwI; omega
theorem posL_le (xs : List (List UInt8)) (t : List UInt8) : posL xs t ≤ xs.length := by
  by_cases h : t ∈ xs
  · exact Nat.le_of_lt (posL_lt h)
  · unfold posL; rw [if_neg h]; omega
/-- nothing that was there is touched but the block s -/
structure Kp (s : Nat) (w w' : World) : Prop where
  bel : Below s w w'
  ot : ∀ q, q < w.heap.size → q ≠ s → w'.heap[q]? = w.heap[q]?
theorem Kp.refl (s : Nat) (w : World) : Kp s w w := ⟨Below.refl _ _, fun _ _ _ => rfl⟩
theorem Kp.size {s : Nat} {w w' : World} (h : Kp s w w') : w.heap.size ≤ w'.heap.size := h.bel.size
theorem Kp.trans {s : Nat} {a b c : World} (h : Kp s a b) (k : Kp s b c) : Kp s a c := ⟨h.bel.trans k.bel, fun q h1 h2 => (k.ot q (Nat.lt_of_lt_of_le h1 h.size) h2).trans (h.ot q h1 h2)⟩
theorem Kp.of {s : Nat} {w w' : World} (h : Below w.heap.size w w') (hs : s < w.heap.size) : Kp s w w' := ⟨h.mono (Nat.le_of_lt hs), fun q h1 _ => h.block q h1⟩
theorem Kp.dN (s : Nat) (w : World) (m : Nat) : Kp s w (w.drewN m) := ⟨⟨rfl, rfl, rfl, Nat.le_refl _, fun _ _ => rfl⟩, fun _ _ _ => rfl⟩
theorem Kp.setCell {s : Nat} {w w' : World} (h : Kp s w w') (j : Nat) (u : Value) : Kp s w (w'.setCell ⟨s, j, none⟩ u) := ⟨h.bel.setCell (p := ⟨s, j, none⟩) (Nat.le_refl s) u, fun q h1 h2 => (Below.heap_setCell w' ⟨s, j, none⟩ u q h2).trans (h.ot q h1 h2)⟩
theorem plc_made {w : World} {base p : Nat} {N : Ns} {b : Nb} (h : Nt w base p N b) (s : ByteArray) (hs : s.size ≤ 100000) : Calls Tryz.prog 45 #[.pointer (some ⟨p, 0, none⟩), .string s] w fun e w' => e = .returned (.tuple #[.int .i64 (posL N.nd (bl s)), .bool (decide (bl s ∈ N.nd))]) ∧ w' = w := by
  have c2 := h.nm.c1
  have hpl := place_s w p 3 b.B4 N.nd s hs h.nd.c1 h.nd.mp
  go_enter Tryz.func45, Tryz.ntmps45
  go_wp2_with (first | (go_at_call 66; (with_reducible refine (made_yes c2).mono ?_); rintro e1 w1 ⟨rfl, hw1⟩; subst w1) | (go_at_call 82; (with_reducible refine hpl.mono ?_); rintro e2 w2 ⟨rfl, hw2⟩; subst w2))
  go_ret2
  exact ⟨rfl, rfl⟩
theorem brn_made {w : World} {base p : Nat} {N : Ns} {b : Nb} (h : Nt w base p N b) (s : ByteArray) (hs : s.size ≤ 100000) : Calls Tryz.prog 48 #[.pointer (some ⟨p, 0, none⟩), .string s] w fun e w' => e = .returned (.tuple #[.int .i64 (posL N.br (bl s)), .bool (decide (bl s ∈ N.br))]) ∧ w' = w := by
  have c2 := h.nm.c1
  have hpl := place_s w p 5 b.B6 N.br s hs h.br.c1 h.br.mp
  go_enter Tryz.func48, Tryz.ntmps48
  go_wp2_with (first | (go_at_call 66; (with_reducible refine (made_yes c2).mono ?_); rintro e1 w1 ⟨rfl, hw1⟩; subst w1) | (go_at_call 82; (with_reducible refine hpl.mono ?_); rintro e2 w2 ⟨rfl, hw2⟩; subst w2))
  go_ret2
  exact ⟨rfl, rfl⟩
theorem wto_made {w : World} {base p : Nat} {N : Ns} {b : Nb} (h : Nt w base p N b) (hn : bl ⟨#[]⟩ ∉ N.nm) : Calls Tryz.prog 92 #[.pointer (some ⟨p, 0, none⟩), .string ⟨#[]⟩] w fun e w' => e = .returned (.tuple #[.pointer none, .int .i64 10]) ∧ w' = w := by
  have c2 := h.nm.c1
  have hpl := place_s w p 1 b.B2 N.nm ⟨#[]⟩ (by decide) c2 h.nm.mp
  rw [show decide (bl ⟨#[]⟩ ∈ N.nm) = false from decide_eq_false hn] at hpl
  go_enter Tryz.func92, Tryz.ntmps92
  go_wp2_with (first | (go_at_call 66; (with_reducible refine (made_yes c2).mono ?_); rintro e1 w1 ⟨rfl, hw1⟩; subst w1) | (go_at_call 82; (with_reducible refine hpl.mono ?_); rintro e2 w2 ⟨rfl, hw2⟩; subst w2))
  go_ret2
  exact ⟨rfl, rfl⟩
end Go.Proofs.YtmpkcioeodlbcaaGreatDoor
namespace Go.Proofs.YtmpkcioeodlbcaaGreatDoor
open Fl RowKit
set_option linter.unusedVariables false
/-- a matrix while it is stamped: its entries, and whether one that was put there was not finite -/
structure Sh where
  m : Nat → Nat → Cn
  ov : Bool
def Sh.zero : Sh := ⟨fun _ _ => (some 0, some 0), false⟩
/-- an entry changed -/
def Sh.put (S : Sh) (op : Cn → Cn → Cn) (i j : Nat) (Y : Cn) : Sh := ⟨fun a b => if a = i ∧ b = j then op (S.m i j) Y else S.m a b, S.ov || !finC (op (S.m i j) Y)⟩
/-- an entry changed, unless it is the ground's -/
def Sh.chg (S : Sh) (op : Cn → Cn → Cn) (i j : Int) (Y : Cn) : Sh := if i < 0 ∨ j < 0 then S else S.put op i.toNat j.toNat Y
def one1 : Cn := (some 4607182418800017408, some 0)
def valC (x : Elm) : Cn := (ans x.v, some 0)
def bra (N : Ns) (x : Elm) (S : Sh) : Sh :=
  (((S.chg addZ (plI N x.a) (rwI N x) one1).chg addZ (rwI N x) (plI N x.a) one1).chg subZ (plI N x.b) (rwI N x) one1).chg subZ (rwI N x) (plI N x.b) one1
def adm (N : Ns) (x : Elm) (Y : Cn) (S : Sh) : Sh :=
  (((S.chg addZ (plI N x.a) (plI N x.a) Y).chg addZ (plI N x.b) (plI N x.b) Y).chg subZ (plI N x.a) (plI N x.b) Y).chg subZ (plI N x.b) (plI N x.a) Y
def tra (N : Ns) (x : Elm) (S : Sh) : Sh :=
  (((S.chg addZ (plI N x.a) (plI N x.c) (valC x)).chg subZ (plI N x.a) (plI N x.d) (valC x)).chg subZ (plI N x.b) (plI N x.c) (valC x)).chg addZ (plI N x.b) (plI N x.d) (valC x)
def amp (N : Ns) (x : Elm) (S : Sh) : Sh :=
  ((bra N x S).chg subZ (rwI N x) (plI N x.c) (valC x)).chg addZ (rwI N x) (plI N x.d) (valC x)
/-- what an element stamps -/
def stE (N : Ns) (o : Nat) (x : Elm) (S : Sh) : Sh :=
  if x.k = 4 then S else if x.k = 5 then bra N x S else if x.k = 6 then tra N x S else if x.k = 7 then amp N x S
  else adm N x (ans (ofT x o).1, ans (ofT x o).2.1) S
/-- what its admittance is refused for -/
def stR (o : Nat) (x : Elm) : Int := if x.k = 4 ∨ x.k = 5 ∨ x.k = 6 ∨ x.k = 7 then 0 else (ofT x o).2.2
/-- what the elements from the i-th on stamp: the fault, the matrix -/
def stL (N : Ns) (o : Nat) (S : Sh) (i : Nat) : List Elm → (Int × Int) × Sh
  | [] => ((0, 0), S)
  | x :: t => if stR o x ≠ 0 then ((stR o x, i), S) else if (stE N o x S).ov = true then ((6, i), stE N o x S) else stL N o (stE N o x S) (i + 1) t
/-- what Matrix answers of a net that is made -/
def stA (N : Ns) (o : Nat) : (Int × Int) × Sh := if frI o ≠ 0 then ((frI o, -1), Sh.zero) else stL N o Sh.zero 0 N.es
theorem stL_bad {N : Ns} {o i : Nat} {S : Sh} {x : Elm} {t : List Elm} (h : stR o x ≠ 0) : stL N o S i (x :: t) = ((stR o x, (i : Int)), S) := by rw [stL, if_pos h]
theorem stL_over {N : Ns} {o i : Nat} {S : Sh} {x : Elm} {t : List Elm} (h : stR o x = 0) (h2 : (stE N o x S).ov = true) : stL N o S i (x :: t) = ((6, (i : Int)), stE N o x S) := by rw [stL, if_neg (by simp [h]), if_pos h2]
theorem stL_go {N : Ns} {o i : Nat} {S : Sh} {x : Elm} {t : List Elm} (h : stR o x = 0) (h2 : (stE N o x S).ov = false) : stL N o S i (x :: t) = stL N o (stE N o x S) (i + 1) t := by rw [stL, if_neg (by simp [h]), if_neg (by simp [h2])]
end Go.Proofs.YtmpkcioeodlbcaaGreatDoor
