/-
  Kept of Nma.
-/
import Derived.Test.YtmpkcioeodlbcaaGreatDoorProg
import Derived.Maps.OwnSet
namespace Go.Proofs.YtmpkcioeodlbcaaGreatDoor
open Go.Maps
/-- names are told by their bytes -/
abbrev kyS (s : List UInt8) : Lit := .string s
theorem kyS_inj {s t : List UInt8} (h : kyS s = kyS t) : s = t := Lit.string.inj h
/-- where a text stands in a list; 0 if it does not -/
def posL (xs : List (List UInt8)) (s : List UInt8) : Nat := if s ∈ xs then xs.idxOf s else 0
/-- the map says of each text whether it is on the list, and where -/
structure MdOk (D : DataW Unit) (xs : List (List UInt8)) : Prop where
  im : IsMap D
  hs : ∀ s, Maps.has D (kyS s) = decide (s ∈ xs)
  ak : ∀ s, D.atKey (kyS s) (.lit (.int .i64 0)) = .lit (.int .i64 (posL xs s))
theorem MdOk.empty : MdOk (.map []) [] := ⟨isMap_empty, fun s => by simp [has_eq], fun s => by simp [posL]; rfl⟩
theorem pos_old {xs : List (List UInt8)} {x s : List UInt8} (h : s ∈ xs) : posL (xs ++ [x]) s = posL xs s := by
  unfold posL
  rw [if_pos (List.mem_append_left _ h), if_pos h, List.idxOf_append, if_pos h]
theorem pos_new {xs : List (List UInt8)} {x : List UInt8} (h : x ∉ xs) : posL (xs ++ [x]) x = xs.length := by
  unfold posL
  rw [if_pos (by simp), List.idxOf_append, if_neg h]
  simp
theorem MdOk.push {D : DataW Unit} {xs : List (List UInt8)} {x : List UInt8} (h : MdOk D xs) (hx : x ∉ xs) : MdOk (D.put (kyS x) (.lit (.int .i64 xs.length))) (xs ++ [x]) := by
  refine ⟨h.im.put _ _, fun s => ?_, fun s => ?_⟩
  · by_cases e : s = x
    · subst e
      rw [has_put_same h.im (by trivial)]; simp
    · rw [has_put_other (fun q => e (kyS_inj q)), h.hs]
      simp [e]
  · by_cases e : s = x
    · subst e
      rw [atKey_put_same h.im (by trivial), pos_new hx]
    · rw [atKey_put_other (fun q => e (kyS_inj q)), h.ak]
      by_cases hm : s ∈ xs
      · rw [pos_old hm]
      · unfold posL
        rw [if_neg hm, if_neg (by simp [hm, e])]

end Go.Proofs.YtmpkcioeodlbcaaGreatDoor
