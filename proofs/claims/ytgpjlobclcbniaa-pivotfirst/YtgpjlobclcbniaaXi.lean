/-
  Two lists that grow, beside each other.
-/
import Derived.Test.YtgpjlobclcbniaaXh
import Derived.Test.YtgpjlobclcbniaaMe
import Derived.Test.YtgpjlobclcbniaaXc
import Derived.Deep.AppendLies
namespace Go.Proofs.Ytgpjlobclcbniaa
open Fl RowKit

structure G2 (base k l : Nat) (hs ts : List Cw) (vh vt : Value) (w : World) : Prop where
  oh : w.ownsRow base 55 1 vh k (hs.map cx)
  ot : w.ownsRow base 55 1 vt l (ts.map cx)
  ap : ∀ g, vh.ownBlock = some g → vt.ownBlock ≠ some g
theorem G2.drewN {base k l : Nat} {hs ts : List Cw} {vh vt : Value} {w : World} (h : G2 base k l hs ts vh vt w) (n : Nat) : G2 base k l hs ts vh vt (w.drewN n) := ⟨h.oh, h.ot, h.ap⟩
theorem G2.alloc {base k l : Nat} {hs ts : List Cw} {vh vt : Value} {w : World} (h : G2 base k l hs ts vh vt w) (o : Obj) : G2 base k l hs ts vh vt (w.alloc o) := ⟨h.oh.alloc o, h.ot.alloc o, h.ap⟩
theorem G2.nil (base : Nat) (w : World) : G2 base 0 0 [] [] (.slice none 0 0) (.slice none 0 0) w := ⟨World.ownsRow_nil _ _ _ _, World.ownsRow_nil _ _ _ _, fun g h => by simp [Value.ownBlock] at h⟩
theorem G2.below {base k l : Nat} {hs ts : List Cw} {vh vt : Value} {w w' : World} (h : G2 base k l hs ts vh vt w) (hb : Below w.heap.size w w') : G2 base k l hs ts vh vt w' := ⟨own_below h.oh hb, own_below h.ot hb, h.ap⟩
theorem G2.pushH {base k l g cap H : Nat} {hs ts : List Cw} {r : Cw} {vh vt : Value} {w w1 : World} (h : G2 base k l hs ts vh vt w) (hown : w1.ownsRow base 55 1 (.slice (some ⟨g, 0, none⟩) (k + 1) cap) (k + 1) (hs.map cx ++ [.complex .f64 r.1 r.2])) (hg : w.grownBy w1 vh.ownBlock) (hat : vh.ownBlock = some g ∨ g = H) (hH : w.heap.size = H) : G2 base (k + 1) l (hs ++ [r]) ts (.slice (some ⟨g, 0, none⟩) (k + 1) cap) vt w1 := by
  refine ⟨push_own hown, own_at h.ot (fun q hq => hg.block q (h.ot.lt q hq).2 (fun e => h.ap q e.symm hq)), ?_⟩
  intro q hq hv
  have : g = q := by simpa [Value.ownBlock] using hq
  subst this
  rcases hat with e | e
  · exact h.ap _ e hv
  · have := (h.ot.lt _ hv).2; omega
theorem G2.pushT {base k l g cap H : Nat} {hs ts : List Cw} {r : Cw} {vh vt : Value} {w w1 : World} (h : G2 base k l hs ts vh vt w) (hown : w1.ownsRow base 55 1 (.slice (some ⟨g, 0, none⟩) (l + 1) cap) (l + 1) (ts.map cx ++ [.complex .f64 r.1 r.2])) (hg : w.grownBy w1 vt.ownBlock) (hat : vt.ownBlock = some g ∨ g = H) (hH : w.heap.size = H) : G2 base k (l + 1) hs (ts ++ [r]) vh (.slice (some ⟨g, 0, none⟩) (l + 1) cap) w1 := by
  refine ⟨own_at h.oh (fun q hq => hg.block q (h.oh.lt q hq).2 (fun e => h.ap q hq e.symm)), push_own hown, ?_⟩
  intro q hq hv
  have : g = q := by simpa [Value.ownBlock] using hv
  subst this
  rcases hat with e | e
  · exact h.ap _ hq e
  · have := (h.oh.lt _ hq).2; omega
/-- the answers of halves; whether all of the first k are exact -/
def hlf (x : Cw) : Cn := (mulA (some 4602678819172646912) (ans x.1), mulA (some 4602678819172646912) (ans x.2))
def exL (xs : List Cw) : Nat → Bool
  | 0 => true
  | k + 1 => exL xs k && (exq (zat xs k) (hlf (zat xs k)) && fnq (zat xs k))
theorem exL_at {xs : List Cw} {n : Nat} (h : exL xs n = true) : ∀ j, j < n → exq (zat xs j) (hlf (zat xs j)) = true ∧ fnq (zat xs j) = true := by
  induction n with
  | zero => intro j hj; omega
  | succ n ih =>
    unfold exL at h
    rw [Bool.and_eq_true, Bool.and_eq_true] at h
    intro j hj
    by_cases e : j = n
    · subst e; exact h.2
    · exact ih h.1 j (by omega)
theorem rep_half : rep (some 4602678819172646912) 4602678819172646912 := rep_num (by decide) (by decide)
/-- what a list of opposites of conjugates says -/
def trn (x : Cw) : Cn := (negA (ans x.1), negA (negA (ans x.2)))
theorem add_eqs {x s : Cw} {H : Cn} (h : repz (addZ H H) s) (hx : okz x) : (eqB s.1 x.1 && eqB s.2 x.2) = exq x H := by
  unfold exq
  rw [eqA_of h.1 (rep_ans hx.1), eqA_of h.2 (rep_ans hx.2)]; rfl
theorem equal_exq {W : World} {x s : Cw} {H : Cn} (h1 : rep (addA H.1 H.1) s.1) (h2 : rep (addA H.2 H.2) s.2) (hx : okz x) :
    Calls Try.prog 32 #[.complex .f64 s.1 s.2, .complex .f64 x.1 x.2] W fun e w' => e = .returned (.bool (exq x H)) ∧ w' = W :=
  (equal_any s.1 s.2 x.1 x.2 W).mono (by rintro e w' ⟨rfl, rfl⟩; exact ⟨by rw [add_eqs ⟨h1, h2⟩ hx], rfl⟩)
theorem kfin_q {W : World} {x : Cw} {r : Nat} (hr : rep (addA (sizA (ans x.1)) (sizA (ans x.2))) r) : Calls Try.prog 34 #[.float .f64 r] W fun e w' => ∃ n, e = .returned (.bool (fnq x)) ∧ w' = W.drewN n :=
  (kfin_any r W).mono (by rintro e w' ⟨n, rfl, rfl⟩; exact ⟨n, by rw [fin_div hr]; rfl, rfl⟩)
theorem okl_of {F : Nat → Cn} {zs : List Cw} {n : Nat} (hl : zs.length = n) (h : repl F n zs) : okl zs := by subst hl; exact h.okl
/-- what is taken of the opposites of conjugates; of exact halves -/
theorem ch_turn {xs ts : List Cw} {fr : Int} {n : Nat} (hn : xs.length = n) (hx : okl xs) (hl : ts.length = n) (h : repl (fun j => trn (zat xs j)) n ts) (h0 : chE xs fr = 0) (hf : ∀ j, fr.toNat ≤ j → j < n → finZ (zat xs j) = true) : chE ts fr = 0 ∧ chI ts fr = chI xs fr := by
  subst hn
  have key : ∀ j, fr.toNat ≤ j → j < xs.length → finZ (zat ts j) = true ∧ wt (zat ts j) = wt (zat xs j) := fun j h1 h2 => turn_wt (hx j) (h j h2).1 (h j h2).2 (hf j h1 h2)
  refine ch_iso hl h0 (fun j h1 h2 => (key j h1 h2).1) ?_ ?_
  · intro i j a b c d
    rw [(key i a b).2, (key j c d).2]
  · intro j a b
    rw [(key j a b).2]
theorem ch_half {xs hs : List Cw} {fr : Int} {n : Nat} (hn : xs.length = n) (hl : hs.length = n) (h : repl (fun j => hlf (zat xs j)) n hs) (he : exL xs n = true) (h0 : chE xs fr = 0) (hf : ∀ j, fr.toNat ≤ j → j < n → finZ (zat xs j) = true) : chE hs fr = 0 ∧ chI hs fr = chI xs fr := by
  subst hn
  have key : ∀ j, fr.toNat ≤ j → j < xs.length → finZ (zat hs j) = true ∧ sz (wt (zat xs j)) = 2 * sz (wt (zat hs j)) := fun j h1 h2 => half_of (h j h2) (exL_at he j h2).1 (exL_at he j h2).2 (hf j h1 h2)
  refine ch_iso hl h0 (fun j h1 h2 => (key j h1 h2).1) ?_ ?_
  · intro i j a b c d
    exact half_lt (key i a b).2 (key j c d).2
  · intro j a b
    exact half_0 (key j a b).2

end Go.Proofs.Ytgpjlobclcbniaa
