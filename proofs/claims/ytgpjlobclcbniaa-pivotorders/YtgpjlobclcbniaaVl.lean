/-
  The calls of package vector once more, by a letter for the length, what they hand back laid apart.
-/
import Derived.Test.YtgpjlobclcbniaaVw
import Derived.Test.YtgpjlobclcbniaaVm
import Derived.Test.YtgpjlobclcbniaaVn
namespace Go.Proofs.Ytgpjlobclcbniaa
open Fl RowKit

def finA (o : Option Nat) : Bool := match o with | none => false | some x => finB x
theorem finA_of {o : Option Nat} {x : Nat} (h : rep o x) : finB x = finA o := by
  cases o with
  | none =>
    have := ans_none h.2
    unfold finA finB
    unfold nan at this
    have := of_decide_eq_true this
    exact decide_eq_false (by omega)
  | some c => rw [rep_is h rfl]; rfl
def finC (X : Cn) : Bool := finA X.1 && finA X.2
theorem finC_of {X : Cn} {z : Cw} (h : repz X z) : (finB z.1 && finB z.2) = finC X := by unfold finC; rw [finA_of h.1, finA_of h.2]
def finF (f : Nat → Cn) : Nat → Bool
  | 0 => true
  | k + 1 => finF f k && finC (f k)
theorem finF_of {f : Nat → Cn} {zs : List Cw} {n : Nat} (h : repl f n zs) : ∀ k, k ≤ n → finL zs k = finF f k := by
  intro k
  induction k with
  | zero => intro _; rfl
  | succ k ih =>
    intro hk
    show (finL zs k && finZ (zat zs k)) = (finF f k && finC (f k))
    rw [ih (by omega), show finZ (zat zs k) = finC (f k) from finC_of (h k (by omega))]
/-- a list that is handed back: what it holds, where it is read -/
structure Lst (w : World) (A : Option Addr) (n : Nat) (f : Nat → Cn) (zs : List Cw) : Prop where
  len : zs.length = n
  rep : repl f n zs
  rc : Rc w A zs
theorem Lst.okl {w : World} {A : Option Addr} {n : Nat} {f : Nat → Cn} {zs : List Cw} (h : Lst w A n f zs) : okl zs := by
  obtain ⟨rfl, h2, _⟩ := h
  exact h2.okl
theorem Lst.below {w w' : World} {A : Option Addr} {n : Nat} {f : Nat → Cn} {zs : List Cw} (h : Lst w A n f zs) (hb : Below w.heap.size w w') : Lst w' A n f zs := ⟨h.len, h.rep, h.rc.below hb⟩
theorem Lst.drewN {w : World} {A : Option Addr} {n : Nat} {f : Nat → Cn} {zs : List Cw} (h : Lst w A n f zs) (m : Nat) : Lst (w.drewN m) A n f zs := ⟨h.len, h.rep, h.rc.drewN m⟩
/-- a list of words that is read -/
theorem lst_self {w : World} {A : Option Addr} {n : Nat} {xs : List Cw} (hn : xs.length = n) (hx : okl xs) (hc : Rc w A xs) : Lst w A n (fun j => anz (zat xs j)) xs := ⟨hn, fun j _ => repz_anz (hx j), hc⟩
theorem new_lst {base n : Nat} {f : Nat → Cn} {zs : List Cw} {g c : Nat} {w : World} (h : New base f n zs (.slice (some ⟨g, 0, none⟩) n c) w) : Lst w (some ⟨g, 0, none⟩) n f zs := ⟨h.len, h.rep, new_rc h⟩
theorem repl_congr {f g : Nat → Cn} {n : Nat} {zs : List Cw} (h : repl f n zs) (e : ∀ j, j < n → f j = g j) : repl g n zs := fun j hj => by rw [← e j hj]; exact h j hj
def zipF (f : Cn → Cn → Cn) (F G : Nat → Cn) (j : Nat) : Cn := f (F j) (G j)
theorem dotF_zip {f : Cn → Cn → Cn} {F G : Nat → Cn} {xs ys : List Cw} {n : Nat} (h : repl F n xs) (k : repl G n ys) : ∀ j, j < n → dotF f xs ys j = zipF f F G j := fun j hj => by unfold dotF zipF; rw [h.anz hj, k.anz hj]

section two
variable {n ca cb : Nat} {ao bo : Option Addr} {F G : Nat → Cn} {xs ys : List Cw} {w : World} (h : Lst w ao n F xs) (k : Lst w bo n G ys) (hm : n ≤ 65536)
include h k hm
end two
section one
variable {n ca : Nat} {ao : Option Addr} {F : Nat → Cn} {xs : List Cw} {w : World} (h : Lst w ao n F xs) (hsz : n * 16 ≤ 140737488355328)
include h hsz
end one
theorem finF_at {f : Nat → Cn} {n : Nat} (h : finF f n = true) : ∀ j, j < n → finC (f j) = true := by
  induction n with
  | zero => intro j hj; omega
  | succ n ih =>
    unfold finF at h
    rw [Bool.and_eq_true] at h
    intro j hj
    by_cases e : j = n
    · subst e; exact h.2
    · exact ih h.1 j (by omega)
theorem eq_same {o : Option Nat} {x y : Nat} (hx : rep o x) (hy : rep o y) (hf : finA o = true) : eqB x y = true := by
  have hn : nan x = false := fin_not_nan (fin_of (by rw [finA_of hx]; exact hf))
  have := (eqz.refl o).order hx hy hn
  unfold eqB; rw [this]; rfl
theorem eq_sames {n : Nat} {f g : Nat → Cn} {xs ys : List Cw} (h : repl f n xs) (k : repl g n ys) (e : ∀ j, j < n → f j = g j) (hf : finF f n = true) : ∀ j, j < n → eqB (zat xs j).1 (zat ys j).1 = true ∧ eqB (zat xs j).2 (zat ys j).2 = true := by
  intro j hj
  have h1 := h j hj
  have h2 := k j hj
  have hc := finF_at hf j hj
  unfold finC at hc
  rw [Bool.and_eq_true] at hc
  rw [← e j hj] at h2
  exact ⟨eq_same h1.1 h2.1 hc.1, eq_same h1.2 h2.2 hc.2⟩
theorem addZ_comm (X Y : Cn) : addZ X Y = addZ Y X := by unfold addZ; rw [addA_comm X.1, addA_comm X.2]
theorem sub_self_zero {o : Option Nat} {x : Nat} (hf : finA o = true) (h : rep (subA o o) x) : eqB x 0 = true := by
  cases o with
  | none => cases hf
  | some c =>
    have hc : fin c := fin_of hf
    obtain ⟨r, hr, fr, vr⟩ := sub_fin hc hc (by rw [show val c - val c = 0 by omega]; exact rn_lt (by simp))
    have e : subA (some c) (some c) = some r := hr
    rw [rep_is h e]
    have := sub_self_fin hc
    have h2 : ∀ W, subV W c c = r := fun W => by unfold subV fV; rw [hr]
    have w : World := { heap := #[], tape := fun _ _ => 0, drawn := 0, os := default, output := default }
    have k := this w
    rw [h2 w] at k
    unfold eqB; rw [k]; rfl
theorem errV_comm (a b : Nat) : errV a b = errV b a := by
  unfold errV
  by_cases h : 65536 < a ∨ 65536 < b
  · rw [if_pos h, if_pos (Or.comm.1 h)]
  · rw [if_neg h, if_neg (fun k => h (Or.comm.1 k))]
    by_cases e : a = b
    · subst e; rfl
    · rw [if_pos e, if_pos (Ne.symm e)]
end Go.Proofs.Ytgpjlobclcbniaa
