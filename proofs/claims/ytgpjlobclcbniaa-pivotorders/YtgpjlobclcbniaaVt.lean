/-
  Lists that are handed in, lent and handed back, with the memory that they own.
-/
import Derived.Test.YtgpjlobclcbniaaVr
import Derived.Test.YtgpjlobclcbniaaWVMirrorE
namespace Go.Proofs.Ytgpjlobclcbniaa
open Fl RowKit

/-- a list of words that is read -/
structure Src (w : World) (A : Option Addr) (C n : Nat) (xs : List Cw) : Prop where
  len : xs.length = n
  ok : okl xs
  sl : Sl w A C xs
theorem Src.below {w w' : World} {A : Option Addr} {C n : Nat} {xs : List Cw} (h : Src w A C n xs) (hb : Below w.heap.size w w') : Src w' A C n xs := ⟨h.len, h.ok, h.sl.below hb⟩
theorem Src.drewN {w : World} {A : Option Addr} {C n : Nat} {xs : List Cw} (h : Src w A C n xs) (m : Nat) : Src (w.drewN m) A C n xs := ⟨h.len, h.ok, h.sl.drewN m⟩
theorem Src.lst {w : World} {A : Option Addr} {C n : Nat} {xs : List Cw} (h : Src w A C n xs) : Lst w A n (fun j => anz (zat xs j)) xs := lst_self h.len h.ok h.sl.rd
/-- a row that is owned -/
structure Rw (w : World) (b : Nat) (v : Value) (n : Nat) (zs : List Cw) : Prop where
  len : zs.length = n
  own : w.ownsRow b 55 1 v n (zs.map cx)
theorem Rw.below {w w' : World} {b n : Nat} {v : Value} {zs : List Cw} (h : Rw w b v n zs) (hb : Below w.heap.size w w') : Rw w' b v n zs := ⟨h.len, own_below h.own hb⟩
theorem Rw.drewN {w : World} {b n : Nat} {v : Value} {zs : List Cw} (h : Rw w b v n zs) (m : Nat) : Rw (w.drewN m) b v n zs := ⟨h.len, h.own⟩
theorem Rw.only {w w' : World} {b n g : Nat} {v : Value} {zs : List Cw} (h : Rw w b v n zs) (ho : OnlyRow g w w') (hne : v.ownBlock ≠ some g) : Rw w' b v n zs := ⟨h.len, own_at h.own (fun q hq => ho.block q (fun e => hne (by rw [hq, e])))⟩
theorem Rw.lt {w : World} {b n g c : Nat} {zs : List Cw} (h : Rw w b (.slice (some ⟨g, 0, none⟩) n c) n zs) : b ≤ g ∧ g < w.heap.size := h.own.lt g rfl
theorem Rw.rc {w : World} {b n g c : Nat} {zs : List Cw} (h : Rw w b (.slice (some ⟨g, 0, none⟩) n c) n zs) : Rc w (some ⟨g, 0, none⟩) zs := by
  obtain ⟨A, C, hv, _, _, hr⟩ := own_rc h.len.symm h.own
  cases hv
  exact hr
theorem rw_pre {w : World} {b N n g c : Nat} {xs ys : List Cw} (h : Rw w b (.slice (some ⟨g, 0, none⟩) N c) N (xs ++ ys)) (hn : xs.length = n) (hx : okl xs) : Lst w (some ⟨g, 0, none⟩) n (fun j => anz (zat xs j)) xs := by
  refine lst_self hn hx ?_
  intro k hk
  obtain ⟨b', off, h1, h2, h3⟩ := h.rc k (by rw [List.length_append]; omega)
  refine ⟨b', off, h1, h2, ?_⟩
  rw [h3]
  simp [zat, List.getD_eq_getElem?_getD, List.getElem?_append_left hk]
theorem tnumbers {ao : Option Addr} {cap n : Nat} {xs : List Cw} {w : World} (hn : xs.length = n) (hsz : n * 16 ≤ 140737488355328) (hx : okl xs) (hc : Rz w ao xs) :
    Calls Try.prog 9 #[.slice ao n cap] w fun e w' => ∃ A C, e = .returned (.slice A n C) ∧ Src w' A C n xs ∧ Below w.heap.size w w' := by
  subst hn
  refine (numbers_any ao cap xs w hsz hc).mono ?_
  rintro e w' ⟨v, rfl, ho, hb⟩
  obtain ⟨A, C, rfl, hs⟩ := own_sl ho
  exact ⟨A, C, rfl, ⟨rfl, hx, hs⟩, hb⟩
theorem tlent {A : Option Addr} {C n : Nat} {xs : List Cw} {w : World} (h : Src w A C n xs) (hsz : n * 16 + 96 ≤ 140737488355328) :
    Calls Try.prog 10 #[.slice A n C] w fun e w' => ∃ g c, e = .returned (.slice (some ⟨g, 0, none⟩) (n + 6) c) ∧ (n + 6 ≤ c ∧ c ≤ maxLen) ∧ Rw w' w.heap.size (.slice (some ⟨g, 0, none⟩) (n + 6) c) (n + 6) (xs ++ marks 7 6) ∧ Below w.heap.size w w' := by
  obtain ⟨rfl, h2, h3⟩ := h
  refine (lent_any A C xs w hsz h3).mono ?_
  rintro e w' ⟨v, rfl, ho, hb⟩
  obtain ⟨g, c, rfl, _, h5, h6⟩ := own_shape ho (by omega)
  exact ⟨g, c, rfl, ⟨h5, h6⟩, ⟨by rw [List.length_append, marks_len], ho⟩, hb⟩
theorem tkept {A : Option Addr} {C n b : Nat} {v : Value} {xs : List Cw} {w : World} (h : Src w A C n xs) (hsz : n * 16 + 96 ≤ 140737488355328) (k : Rw w b v (n + 6) (xs ++ marks 7 6)) :
    Calls Try.prog 14 #[v, .slice A n C] w fun e w' => e = .returned (.bool true) ∧ Below w.heap.size w w' := by
  obtain ⟨rfl, h2, h3⟩ := h
  exact kept_any A C b v xs w hsz h3 k.own
theorem new_rw {base n : Nat} {f : Nat → Cn} {zs : List Cw} {v : Value} {w : World} (h : New base f n zs v w) : Rw w base v n zs := ⟨h.len, h.own⟩
theorem new_any {base n : Nat} {f g : Nat → Cn} {zs : List Cw} {v : Value} {w : World} (h : New base f n zs v w) (e : ∀ j, j < n → f j = g j) : ∃ A C, v = .slice A n C ∧ Lst w A n g zs := by
  obtain ⟨A, C, rfl, _, _, hr⟩ := own_rc h.len.symm h.own
  exact ⟨A, C, by rw [h.len], h.len, repl_congr h.rep e, hr⟩
theorem rw_lst {w : World} {b n C : Nat} {A : Option Addr} {f : Nat → Cn} {zs : List Cw} (h : Rw w b (.slice A n C) n zs) (k : repl f n zs) : Lst w A n f zs := by
  obtain ⟨A', C', hv, _, _, hr⟩ := own_rc h.len.symm h.own
  rw [h.len] at hv
  cases hv
  exact ⟨h.len, k, hr⟩
theorem Src.only {w0 w w' : World} {A : Option Addr} {C n g : Nat} {xs : List Cw} (h0 : Src w0 A C n xs) (h : Src w A C n xs) (ho : OnlyRow g w w') (hg : w0.heap.size ≤ g) : Src w' A C n xs := by
  refine ⟨h.len, h.ok, ⟨fun k hk => ?_, h.sl.shape, h.sl.cap⟩⟩
  obtain ⟨b, off, h1, h2, h3⟩ := h0.sl.rd k hk
  obtain ⟨b', off', e1, e2, e3⟩ := h.sl.rd k hk
  rw [h1] at e1
  cases e1
  exact ⟨b, off, h1, by rw [ho.size]; exact e2, by rw [World.cell?_of_block (w := w) (ho.block b (by omega))]; exact e3⟩
theorem tsame {n ca cb : Nat} {ao bo : Option Addr} {F : Nat → Cn} {xs ys : List Cw} {w : World} (h : Lst w ao n F xs) (k : Lst w bo n F ys) (hsz : n * 16 ≤ 140737488355328) :
    Calls Try.prog 48 #[.slice ao n ca, .slice bo n cb] w fun e w' => ∃ m, e = .returned (.bool true) ∧ w' = w.drewN m :=
  ksameL_len ao bo ca cb n xs ys w hsz h.len k.len h.rc k.rc (fun j hj => ⟨smB_of (h.rep j hj).1 (k.rep j hj).1, smB_of (h.rep j hj).2 (k.rep j hj).2⟩)
theorem tsame_none (w : World) : Calls Try.prog 48 #[.slice none 0 0, .slice none 0 0] w fun e w' => ∃ m, e = .returned (.bool true) ∧ w' = w.drewN m :=
  ksameL_len none none 0 0 0 [] [] w (by simp) rfl rfl (Rc.nil _ _) (Rc.nil _ _) (fun j hj => by omega)
section two
variable {n ca cb : Nat} {ao bo : Option Addr} {F G : Nat → Cn} {xs ys : List Cw} {w : World} (h : Lst w ao n F xs) (k : Lst w bo n G ys) (hm : n ≤ 65536)
include h k hm
end two
section one
variable {n ca : Nat} {ao : Option Addr} {F : Nat → Cn} {xs : List Cw} {w : World} (h : Lst w ao n F xs) (hsz : n * 16 ≤ 140737488355328)
include h hsz
end one
section errs
variable {na nb : Nat} {E : Int} (ao bo : Option Addr) (ca cb : Nat) (w : World) (ha : na ≤ 1000000000000000) (hb : nb ≤ 1000000000000000) (he : ¬ E = 0) (hE : E = errV na nb)
include ha hb he hE
end errs
/-- rows that are handed to ApartNumbers -/
theorem many_of {w : World} {base m : Nat} {n : Nat → Nat} {V : Nat → Value} {L : Nat → List Cw} (cs : Array Value) (t : TypeId) (hcs : ∀ j, j < m → cs[j]? = some (V j)) (hR : ∀ j, j < m → Rw w base (V j) (n j) (L j)) (hap : ∀ j k, j < k → k < m → ∀ g, (V j).ownBlock = some g → (V k).ownBlock ≠ some g) :
    Many base w.heap.size m n V L (w.alloc (.cells cs t)) := by
  refine ⟨fun j hj => by rw [al_at w cs t _ j rfl]; exact hcs j hj, fun j hj => (hR j hj).own.alloc _, fun j hj => (hR j hj).len, ?_, ?_, by rw [size_al]; omega⟩
  · intro j k hj hk hne g hg e
    rcases Nat.lt_or_gt_of_ne hne with h | h
    · exact hap j k h hk g hg e
    · exact hap k j h hj g e hg
  · intro j hj e
    have := ((hR j hj).own.lt _ e).2
    omega
theorem rw_nil (w : World) (b : Nat) : Rw w b (.slice none 0 0) 0 [] := ⟨rfl, World.ownsRow_nil _ _ _ _⟩
theorem rw_base {w : World} {b b' n : Nat} {v : Value} {zs : List Cw} (h : Rw w b v n zs) (hb : b' ≤ b) : Rw w b' v n zs := ⟨h.len, own_base h.own hb⟩
theorem below_only {B g : Nat} {w w6 w7 : World} (h : Below B w w6) (ho : OnlyRow g w6 w7) (hg : B ≤ g) : Below B w w7 :=
  ⟨ho.os.trans h.os, ho.tape.trans h.tape, ho.output.trans h.output, by rw [ho.size]; exact h.size, fun b hb => (ho.block b (by omega)).trans (h.block b hb)⟩
theorem Lst.only {w w' : World} {g q n : Nat} {f : Nat → Cn} {zs : List Cw} (h : Lst w (some ⟨q, 0, none⟩) n f zs) (ho : OnlyRow g w w') (hne : q ≠ g) : Lst w' (some ⟨q, 0, none⟩) n f zs := by
  refine ⟨h.len, h.rep, fun k hk => ?_⟩
  obtain ⟨b, off, h1, h2, h3⟩ := h.rc k hk
  cases h1
  exact ⟨q, 0, rfl, by rw [ho.size]; exact h2, by rw [World.cell?_of_block (w := w) (ho.block q hne)]; exact h3⟩

end Go.Proofs.Ytgpjlobclcbniaa
