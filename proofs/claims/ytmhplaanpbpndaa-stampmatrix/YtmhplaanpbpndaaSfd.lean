/-
  Find of a net that is made, by a text of any length; the elements' own order of names.
-/
import Derived.Test.YtmhplaanpbpndaaBsd
import Derived.Test.YtmhplaanpbpndaaSrc
import Derived.Test.YtmhplaanpbpndaaDnb
import Derived.Test.YtmhplaanpbpndaaPnt
namespace Go.Proofs.Ytmhplaanpbpndaa
open Fl Go.Maps RowKit Joins Deep
set_option linter.unusedVariables false

/-- the first element of a name -/
def fnd (l : List Elm) (t : List UInt8) : Option Elm := l.find? fun x => bl x.n == t
theorem fnd_ix : ∀ (l : List Elm) (t : List UInt8) (x : Elm), fnd l t = some x → l[(l.map fun x => bl x.n).idxOf t]? = some x ∧ t ∈ (l.map fun x => bl x.n) ∧ bl x.n = t := by
  intro l
  induction l with
  | nil => intro t x h; cases h
  | cons y l ih =>
    intro t x h
    unfold fnd at h
    rw [List.find?_cons] at h
    by_cases e : bl y.n = t
    · rw [beq_iff_eq.2 e] at h
      obtain rfl : y = x := by simpa using h
      rw [List.map_cons, List.idxOf_cons, beq_iff_eq.2 e]
      exact ⟨rfl, by rw [e]; exact List.mem_cons_self, e⟩
    · rw [beq_eq_false_iff_ne.2 e] at h
      obtain ⟨h1, h2, h3⟩ := ih t x h
      rw [List.map_cons, List.idxOf_cons, beq_eq_false_iff_ne.2 e]
      exact ⟨h1, List.mem_cons_of_mem _ h2, h3⟩
theorem fnd_no {l : List Elm} {t : List UInt8} (h : fnd l t = none) : t ∉ (l.map fun x => bl x.n) := by
  unfold fnd at h
  rw [List.find?_eq_none] at h
  intro q
  obtain ⟨x, hx, he⟩ := List.mem_map.1 q
  exact h x hx (beq_iff_eq.2 he)
theorem fnd_mem {l : List Elm} {t : List UInt8} {x : Elm} (h : fnd l t = some x) : x ∈ l := List.mem_of_find?_eq_some h
theorem key_sb (l : List UInt8) (h : l.length ≤ 140737488351232) : keyOf Try.prog 9 (.string ⟨l.toArray⟩) = some (kyS l) := by
  have := Go.WideMaps.keyOf_string_mk (P := Try.prog) (s := ⟨l.toArray⟩) Try.underlying9 (by unfold maxLen; simp [ByteArray.size]; omega)
  simpa using this
theorem nplace_big (w : World) (p f B : Nat) (xs : List (List UInt8)) (s : ByteArray) (hl : s.size ≤ 140737488351232) (hc : w.cell? ⟨p, f + 1, none⟩ = some (.map (some B))) (hm : Mp w B xs) :
    Calls Try.prog 19 #[.pointer (some ⟨p, f, none⟩), .string s] w fun e w' => e = .returned (.tuple #[.int .i64 (posL xs (bl s)), .bool (decide (bl s ∈ xs))]) ∧ w' = w := by
  obtain ⟨D, hown, hD⟩ := hm
  have hkey : keyOf Try.prog 9 (.string s) = some (kyS (bl s)) := key_sb (bl s) hl
  go_enter Try.func19, Try.ntmps19
  go_wp2_with (at_lookup; refine wpList_lookup_own_ok_int _ rfl _ _ 59 rfl 9 3 .i64 lawS Try.underlying59 Try.underlying3 (zeroI _) B xs.length D rfl hown _ _ rfl hkey ?_; intro c hat hwc)
  go_ret2
  rw [hD.ak (bl s)] at hat
  obtain rfl : ((posL xs (bl s) : Nat) : Int) = c := (Lit.int.inj (DataW.lit.inj hat)).2
  refine ⟨?_, rfl⟩
  show Ending.returned (.tuple #[.int .i64 ((posL xs (bl s) : Nat) : Int), .bool (has D (kyS (bl s)))]) = _
  rw [hD.hs (bl s)]
/-- the element that is none -/
def elZ : Elm := ⟨0, ⟨#[]⟩, ⟨#[]⟩, ⟨#[]⟩, ⟨#[]⟩, ⟨#[]⟩, 0, 0⟩
end Go.Proofs.Ytmhplaanpbpndaa
