/-
  What CopyInts, LentInts, KeptInts and OverInts of the given package gridworkkit hand back, and which memory they leave.
-/
import Derived.Test.YtklbgibhbnijaaaBnd
namespace Go.Proofs.Ytklbgibhbnijaaa.In
open Fl RowKit

/-- a mark -/
def mk (k i : Int) : Int := -1000 * k - i - 7
theorem mark_any (k i : Int) (w : World) (hk : 0 ≤ k) (hk2 : k ≤ 20) (hi : 0 ≤ i) (hi2 : i ≤ 1000000000000000) :
    Calls Try.prog 110 #[.int .i64 k, .int .i64 i] w fun e w' => e = .returned (.int .i64 (mk k i)) ∧ w' = w := by
  unfold mk
  go_enter Try.func110, Try.ntmps110
  go_wp2
  go_ret
  exact ⟨rfl, rfl⟩
theorem own_rc {w : World} {base n : Nat} {v : Value} {xs : List Int} (hn : n = xs.length) (h : w.ownsRow base 3 1 v n (xs.map ci)) :
    ∃ ao cap, v = .slice ao xs.length cap ∧ xs.length ≤ cap ∧ (xs.length = 0 ∧ ao = none ∧ cap = 0 ∨ ∃ g, ao = some ⟨g, 0, none⟩ ∧ base ≤ g) ∧ Qi w ao xs := by
  subst hn
  rcases h.2 with ⟨hv, h0⟩ | ⟨g, cap, cur, hv, hb, hg, hnc, _, _, htake⟩
  · refine ⟨none, 0, by rw [hv, h0], by omega, .inl ⟨h0, rfl, rfl⟩, fun k hk => by omega⟩
  · refine ⟨some ⟨g, 0, none⟩, cap, hv, hnc, .inr ⟨g, rfl, hb⟩, fun k hk => ⟨g, 0, rfl, (Array.getElem?_eq_some_iff.1 hg).1, ?_⟩⟩
    subst hv
    rw [Nat.zero_add, h.cellAt k (by omega), List.getElem?_map, iat_lt hk]; rfl

/-- a list that is read: its address is none only if it is empty -/
structure Sl (w : World) (ao : Option Addr) (cap : Nat) (xs : List Int) : Prop where
  rd : Qi w ao xs
  shape : xs.length = 0 ∨ ∃ g off, ao = some ⟨g, off, none⟩
  cap : xs.length ≤ cap
theorem Sl.below {w w' : World} {ao : Option Addr} {cap : Nat} {xs : List Int} (h : Sl w ao cap xs) (hb : Below w.heap.size w w') : Sl w' ao cap xs := ⟨h.rd.below hb, h.shape, h.cap⟩
theorem Sl.drewN {w : World} {ao : Option Addr} {cap : Nat} {xs : List Int} (h : Sl w ao cap xs) (n : Nat) : Sl (w.drewN n) ao cap xs := ⟨h.rd.drewN n, h.shape, h.cap⟩
theorem own_sl {w : World} {base : Nat} {v : Value} {xs : List Int} (h : w.ownsRow base 3 1 v xs.length (xs.map ci)) :
    ∃ ao cap, v = .slice ao xs.length cap ∧ Sl w ao cap xs := by
  obtain ⟨ao, cap, h1, h2, h3, h4⟩ := own_rc rfl h
  refine ⟨ao, cap, h1, h4, ?_, h2⟩
  rcases h3 with ⟨a, b, _⟩ | ⟨g, a, _⟩
  · exact .inl a
  · exact .inr ⟨g, 0, a⟩
/-- the first m marks of list k -/
def marks (k : Int) (m : Nat) : List Int := (List.range m).map (fun (i : Nat) => mk k (i : Int))
theorem marks_len (k : Int) (m : Nat) : (marks k m).length = m := by simp [marks]
theorem marks_succ (k : Int) (m : Nat) : marks k (m + 1) = marks k m ++ [mk k (m : Int)] := by simp [marks, List.range_succ]
theorem marks_getD (k : Int) (m j : Nat) (h : j < m) : iat (marks k m) j = mk k (j : Int) := by simp [marks, iat, List.getD_eq_getElem?_getD, h]
/-- a full list of marks, and what is left of a list, in one row -/
theorem over_step {xs : List Int} {k : Nat} (hk : k < xs.length) : ((marks 9 k ++ xs.drop k).map ci).set k (ci (mk 9 (k : Int))) = (marks 9 (k + 1) ++ xs.drop (k + 1)).map ci := by
  have e : (marks 9 k ++ xs.drop k).set k (mk 9 (k : Int)) = marks 9 (k + 1) ++ xs.drop (k + 1) := by
    rw [List.set_append_right _ _ (by rw [marks_len]; exact Nat.le_refl _), marks_len, Nat.sub_self, List.drop_eq_getElem_cons hk, marks_succ, List.append_assoc]; rfl
  rw [← e, List.map_set]
end Go.Proofs.Ytklbgibhbnijaaa.In
