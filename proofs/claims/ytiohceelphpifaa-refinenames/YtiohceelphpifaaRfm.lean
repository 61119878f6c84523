/-
  Rounds, by the words: what refine's Until hands back.
-/
import Derived.Test.YtiohceelphpifaaRfk
import Derived.Test.YtiohceelphpifaaRfl
namespace Go.Proofs.Ytiohceelphpifaa
open Fl RowKit

/-- a list of n finite numbers -/
structure Gd (n : Nat) (xs : List Cw) : Prop where
  len : xs.length = n
  ok : okl xs
  fin : finL xs n = true
theorem gd_of {n : Nat} {f : Nat → Cn} {y : Nat → Cw} (h : ∀ j, j < n → repz (f j) (y j)) (hf : finS f n = true) : ro n y = ro n (fun j => toW (f j)) ∧ Gd n (ro n y) :=
  ⟨ro_congr (fun j hj => (toW_rep (h j hj) (finS_iff.1 hf j hj)).symm), ro_len _ _, ro_okl h, by rw [finL_S h n (Nat.le_refl _)]; exact hf⟩
/-- what is left, a better solution, and whether there are any -/
def lfL (N : Nat) (data xs bs : List Cw) : List Cw := ro N (fun i => toW (lfF N data xs bs i))
def lfK (N : Nat) (data xs bs : List Cw) : Bool := finS (lfF N data xs bs) N
def btL (N : Nat) (M : Nat → Nat → Cw) (o : Nat → Nat) (xs ls : List Cw) : List Cw := ro N (fun i => toW (btX N M o xs ls i))
def lsK (N : Nat) (ks ls : List Cw) : Bool := ordA (nrm ks N) (nrm ls N) == some .lt
def stK (N : Nat) (data bs : List Cw) (M : Nat → Nat → Cw) (o : Nat → Nat) (xs ls : List Cw) : Bool := btK N M o xs ls && (lfK N data (btL N M o xs ls) bs && lsK N (lfL N data (btL N M o xs ls) bs) ls)
/-- as many rounds as may be -/
def unt (N : Nat) (data bs : List Cw) (M : Nat → Nat → Cw) (o : Nat → Nat) : Nat → List Cw → List Cw → List Cw × Nat
  | 0, xs, _ => (xs, 0)
  | f + 1, xs, ls => if stK N data bs M o xs ls = true then ((unt N data bs M o f (btL N M o xs ls) (lfL N data (btL N M o xs ls) bs)).1, (unt N data bs M o f (btL N M o xs ls) (lfL N data (btL N M o xs ls) bs)).2 + 1) else (xs, 0)
section left
variable {N ca cx' cb : Nat} {A X B : Option Addr} {data xs bs : List Cw} {w : World} (hN : N ≤ 64) (hcap : N * N ≤ ca) (hA : A = none ∧ ca = 0 ∨ ∃ g off, A = some ⟨g, off, none⟩) (hd : Gd (N * N) data) (hx : Gd N xs) (hb : Gd N bs) (rd : Rc w A data) (rx : Rc w X xs) (rb : Rc w B bs)
include hN hcap hA hd hx hb rd rx rb
theorem left_y (hk : lfK N data xs bs = true) : Calls Try.prog 12 #[.agg #[.int .i64 N, .int .i64 N, .slice A (N * N) ca], .slice X N cx', .slice B N cb] w fun e w' => ∃ g, e = .returned (.tuple #[.slice (some ⟨g, 0, none⟩) N N, .int .i64 0]) ∧ Rw w' w.heap.size (.slice (some ⟨g, 0, none⟩) N N) N (lfL N data xs bs) ∧ Gd N (lfL N data xs bs) ∧ Below w.heap.size w w' :=
  (left_ok N N A X B ca cx' cb data xs bs w hN hN hd.len hx.len hb.len hcap hA rd rx rb hd.ok hx.ok hb.ok hd.fin hx.fin hb.fin).mono (by
    rintro e w' ⟨v, E, rfl, hG, hbb⟩
    rcases hG with ⟨k1, rfl, g, y, rfl, k2, k3⟩ | ⟨k1, _⟩
    · obtain ⟨e1, e2⟩ := gd_of k2 k1
      rw [e1] at e2 k3
      exact ⟨g, rfl, k3, e2, hbb⟩
    · rw [show finS (lfF N data xs bs) N = true from hk] at k1; cases k1)
theorem left_n (hk : lfK N data xs bs = false) : Calls Try.prog 12 #[.agg #[.int .i64 N, .int .i64 N, .slice A (N * N) ca], .slice X N cx', .slice B N cb] w fun e w' => e = .returned (.tuple #[.slice none 0 0, .int .i64 6]) ∧ Below w.heap.size w w' :=
  (left_ok N N A X B ca cx' cb data xs bs w hN hN hd.len hx.len hb.len hcap hA rd rx rb hd.ok hx.ok hb.ok hd.fin hx.fin hb.fin).mono (by
    rintro e w' ⟨v, E, rfl, hG, hbb⟩
    rcases hG with ⟨k1, _⟩ | ⟨_, rfl, rfl⟩
    · rw [show finS (lfF N data xs bs) N = false from hk] at k1; cases k1
    · exact ⟨rfl, hbb⟩)
end left
theorem rf_z {N : Nat} {s : Int} {ls : List Cw} (hs : ¬ s = 0) (hl : Gd N ls) : rfS N s N ls = 0 := by unfold rfS; rw [if_neg hs, if_neg (by simp), if_pos hl.fin]
section better
variable {w : World} {v : Value} {N : Nat} {M : Nat → Nat → Cw} {o : Nat → Nat} {s : Int} (h : Lhd w v N M o s) (hs : ¬ s = 0) {X L : Option Addr} {cx' cl : Nat} {xs ls : List Cw} (hN : N ≤ 64) (hx : Gd N xs) (hl : Gd N ls) (rx : Rc w X xs) (rl : Rc w L ls) (hM : okM N M) (ho : ∀ i, i < N → o i < N)
include h hs hN hx hl rx rl hM ho
theorem better_y (hk : btK N M o xs ls = true) : Calls Try.prog 45 #[v, .slice X N cx', .slice L N cl] w fun e w' => ∃ g, e = .returned (.tuple #[.slice (some ⟨g, 0, none⟩) N N, .int .i64 0]) ∧ Rw w' w.heap.size (.slice (some ⟨g, 0, none⟩) N N) N (btL N M o xs ls) ∧ Gd N (btL N M o xs ls) ∧ Below w.heap.size w w' :=
  (better_any h hx.len hl.len hN rx rl hx.ok hl.ok (rf_z hs hl) hM ho).mono (by
    rintro e w' ⟨u, E, rfl, hG, hbb⟩
    rcases hG with ⟨k1, rfl, g, y, rfl, k2, k3⟩ | ⟨k1, _⟩
    · have kf : finS (btX N M o xs ls) N = true := by unfold btK at hk; rw [Bool.and_eq_true] at hk; exact hk.2
      obtain ⟨e1, e2⟩ := gd_of k2 kf
      rw [e1] at e2 k3
      exact ⟨g, rfl, k3, e2, hbb⟩
    · rw [hk] at k1; cases k1)
theorem better_n (hk : btK N M o xs ls = false) : Calls Try.prog 45 #[v, .slice X N cx', .slice L N cl] w fun e w' => e = .returned (.tuple #[.slice none 0 0, .int .i64 6]) ∧ Below w.heap.size w w' :=
  (better_any h hx.len hl.len hN rx rl hx.ok hl.ok (rf_z hs hl) hM ho).mono (by
    rintro e w' ⟨u, E, rfl, hG, hbb⟩
    rcases hG with ⟨k1, _⟩ | ⟨_, rfl, rfl⟩
    · rw [hk] at k1; cases k1
    · exact ⟨rfl, hbb⟩)
end better
theorem vnorm_n (ao : Option Addr) (cap n : Nat) (xs : List Cw) (w : World) (hn : xs.length = n) (h4 : n ≤ 4096) (hc : Rc w ao xs) (hx : okl xs) :
    Calls Try.prog 19 #[.slice ao n cap] w fun e w' => ∃ s m, e = .returned (.float .f64 s) ∧ rep (nrm xs n) s ∧ w' = w.drewN m := by
  subst hn
  exact vnorm_any ao cap xs w (by omega) hc hx
/-- what a round starts with -/
structure Rnd (N : Nat) (data bs : List Cw) (M : Nat → Nat → Cw) (o : Nat → Nat) (s : Int) (A B : Option Addr) (v : Value) (b p most n gx gl : Nat) (Q ca : Nat) (x0 l0 xs ls : List Cw) (w0 w : World) : Prop where
  lh : Lhd w v N M o s
  rd : Rc w A data
  rb : Rc w B bs
  rx : Rw w b (.slice (some ⟨gx, 0, none⟩) N N) N xs
  rl : Rw w b (.slice (some ⟨gl, 0, none⟩) N N) N ls
  gx : Gd N xs
  gl : Gd N ls
  v3 : V3 p (.int .i64 N) (.int .i64 N) (.slice A Q ca) w
  un1 : (unt N data bs M o (most - n) xs ls).1 = (unt N data bs M o most x0 l0).1
  un2 : (unt N data bs M o (most - n) xs ls).2 + n = (unt N data bs M o most x0 l0).2
  be : Below b w0 w
theorem Rnd.below {N : Nat} {data bs : List Cw} {M : Nat → Nat → Cw} {o : Nat → Nat} {s : Int} {A B : Option Addr} {v : Value} {b p most n gx gl Q ca : Nat} {x0 l0 xs ls : List Cw} {w0 w w' : World} (h : Rnd N data bs M o s A B v b p most n gx gl Q ca x0 l0 xs ls w0 w) (hb : Below w.heap.size w w') (hbb : b ≤ w.heap.size) : Rnd N data bs M o s A B v b p most n gx gl Q ca x0 l0 xs ls w0 w' :=
  ⟨h.lh.below hb, h.rd.below hb, h.rb.below hb, h.rx.below hb, h.rl.below hb, h.gx, h.gl, h.v3.below hb, h.un1, h.un2, h.be.trans (hb.mono hbb)⟩
end Go.Proofs.Ytiohceelphpifaa
