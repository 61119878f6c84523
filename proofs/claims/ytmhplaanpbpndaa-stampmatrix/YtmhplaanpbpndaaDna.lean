/-
  A net as the document counts it: nodes and branches out of the list of elements; the same as what Of of netlist lays.
-/
import Derived.Test.YtmhplaanpbpndaaBsd
namespace Go.Proofs.Ytmhplaanpbpndaa
set_option linter.unusedVariables false

/-- the nodes of a list -/
def ndR (l : List Elm) : List (List UInt8) := l.foldl ndE []
/-- the branches of a list -/
def brR (l : List Elm) : List (List UInt8) := (l.filter isB).map fun x => bl x.n
def laysN (l : List Elm) : Ns := l.foldl Ns.lay Ns.nil
theorem laysN_snoc (l : List Elm) (x : Elm) : laysN (l ++ [x]) = (laysN l).lay x := by unfold laysN; rw [List.foldl_append]; rfl
theorem ndR_snoc (l : List Elm) (x : Elm) : ndR (l ++ [x]) = ndE (ndR l) x := by unfold ndR; rw [List.foldl_append]; rfl
theorem brR_snoc (l : List Elm) (x : Elm) : brR (l ++ [x]) = if isB x = true then brR l ++ [bl x.n] else brR l := by
  unfold brR
  rw [List.filter_append, List.map_append]
  by_cases h : isB x = true
  · rw [if_pos h, List.filter_cons_of_pos h]; rfl
  · rw [if_neg h, List.filter_cons_of_neg h]; simp
theorem snoc_rec {P : List Elm → Prop} (h0 : P []) (h1 : ∀ l x, P l → P (l ++ [x])) : ∀ l, P l := by
  intro l
  have : ∀ (m : List Elm), P m.reverse := by
    intro m
    induction m with
    | nil => exact h0
    | cons x t ih => rw [List.reverse_cons]; exact h1 _ _ ih
  have h := this l.reverse
  rw [List.reverse_reverse] at h
  exact h
theorem laysN_es (l : List Elm) : (laysN l).es = l := snoc_rec (P := fun l => (laysN l).es = l) rfl (fun l x ih => by
  show (laysN (l ++ [x])).es = l ++ [x]
  rw [laysN_snoc]; show (laysN l).es ++ [x] = _; rw [ih]) l
theorem laysN_nd (l : List Elm) : (laysN l).nd = ndR l := snoc_rec (P := fun l => (laysN l).nd = ndR l) rfl (fun l x ih => by
  show (laysN (l ++ [x])).nd = ndR (l ++ [x])
  rw [laysN_snoc, ndR_snoc]; show ndE (laysN l).nd x = _; rw [ih]) l
theorem brR_sub {l : List Elm} {s : List UInt8} (h : s ∈ brR l) : s ∈ l.map fun x => bl x.n := by
  unfold brR at h
  obtain ⟨x, hx, rfl⟩ := List.mem_map.1 h
  exact List.mem_map.2 ⟨x, (List.mem_filter.1 hx).1, rfl⟩
theorem nm_of {l : List Elm} (h : Nv (laysN l)) : (laysN l).nm = l.map fun x => bl x.n := by rw [h.nm, laysN_es]
theorem brR_lay {l : List Elm} {x : Elm} (h : Nv (laysN l)) (hb : (laysN l).br = brR l) (hn : bl x.n ∉ (laysN l).nm) : (laysN (l ++ [x])).br = brR (l ++ [x]) := by
  rw [laysN_snoc, brR_snoc]
  show brE (laysN l).br x = _
  unfold brE
  by_cases hx : isB x = true
  · rw [if_pos hx, if_pos hx, hb]
    refine if_neg fun q => hn ?_
    rw [nm_of h]
    exact brR_sub q
  · rw [if_neg hx, if_neg hx, hb]
/-- what is known of a list's first i elements while they are looked at -/
structure Fine15 (l : List Elm) (i : Nat) : Prop where
  nv : Nv (laysN (l.take i))
  br : (laysN (l.take i)).br = brR (l.take i)
  rest : ofR (laysN (l.take i)) i (l.drop i) = ofR Ns.nil 0 l
theorem Fine15.zero (l : List Elm) : Fine15 l 0 := ⟨by rw [List.take_zero]; exact Nv.nil, by rw [List.take_zero]; rfl, by rw [List.take_zero, List.drop_zero]; rfl⟩
theorem take_snoc {l : List Elm} {i : Nat} {x : Elm} (hx : l[i]? = some x) : l.take (i + 1) = l.take i ++ [x] := by rw [List.take_add_one, hx]; rfl
theorem drop_cons {l : List Elm} {i : Nat} {x : Elm} (hx : l[i]? = some x) : l.drop i = x :: l.drop (i + 1) := by
  obtain ⟨h, rfl⟩ := List.getElem?_eq_some_iff.1 hx
  exact List.drop_eq_getElem_cons h
theorem Fine15.next {l : List Elm} {i : Nat} {x : Elm} (h : Fine15 l i) (hx : l[i]? = some x) (hc : chkI x = 0) (hn : bl x.n ∉ (l.take i).map fun x => bl x.n) : Fine15 l (i + 1) := by
  have hn2 : bl x.n ∉ (laysN (l.take i)).nm := by rw [nm_of h.nv]; exact hn
  refine ⟨?_, ?_, ?_⟩
  · rw [take_snoc hx, laysN_snoc]; exact h.nv.lay hc hn2
  · rw [take_snoc hx]; exact brR_lay h.nv h.br hn2
  · rw [take_snoc hx, laysN_snoc, ← ofR_go hc hn2, ← drop_cons hx]; exact h.rest
theorem Fine15.bad {l : List Elm} {i : Nat} {x : Elm} (h : Fine15 l i) (hx : l[i]? = some x) (hl : l.length ≤ 256) (hc : chkI x ≠ 0) : (ofA l).1 = (chkI x, (i : Int)) := by
  unfold ofA
  rw [if_neg (by omega), ← h.rest, drop_cons hx, ofR_bad hc]
theorem Fine15.there {l : List Elm} {i : Nat} {x : Elm} (h : Fine15 l i) (hx : l[i]? = some x) (hl : l.length ≤ 256) (hc : chkI x = 0) (hn : bl x.n ∈ (l.take i).map fun x => bl x.n) : (ofA l).1 = (9, (i : Int)) := by
  unfold ofA
  rw [if_neg (by omega), ← h.rest, drop_cons hx, ofR_there hc (by rw [nm_of h.nv]; exact hn)]
theorem Fine15.whole {l : List Elm} (h : Fine15 l l.length) (hl : l.length ≤ 256) : ofA l = if 32 < (ndR l).length ∨ 64 < (ndR l).length + (brR l).length then ((3, -1), laysN l) else ((0, 0), laysN l) := by
  have hr := h.rest
  have hb := h.br
  rw [List.take_length] at hr hb
  rw [List.drop_length] at hr
  unfold ofA
  rw [if_neg (by omega), ← hr]
  unfold ofR
  rw [laysN_nd, hb]
/-- what Of lays is what the document counts -/
theorem ofR_counts : ∀ (l : List Elm) (N N' : Ns) (i : Nat), Nv N → N.nd = ndR N.es → N.br = brR N.es → ofR N i l = ((0, 0), N') → N'.nd = ndR N'.es ∧ N'.br = brR N'.es ∧ N'.nd.length ≤ 32 ∧ N'.nd.length + N'.br.length ≤ 64 := by
  intro l
  induction l with
  | nil =>
    intro N N' i hv h1 h2 ho
    unfold ofR at ho
    split at ho
    · simp at ho
    · rename_i hb
      have : N = N' := by simpa using ho
      subst this
      exact ⟨h1, h2, by omega, by omega⟩
  | cons x t ih =>
    intro N N' i hv h1 h2 ho
    by_cases hc : chkI x = 0
    · by_cases hn : bl x.n ∈ N.nm
      · rw [ofR_there hc hn] at ho
        simp at ho
      · rw [ofR_go hc hn] at ho
        refine ih (N.lay x) N' (i + 1) (hv.lay hc hn) ?_ ?_ ho
        · show ndE N.nd x = ndR (N.es ++ [x]); rw [ndR_snoc, h1]
        · show brE N.br x = brR (N.es ++ [x])
          rw [brR_snoc, h2]
          unfold brE
          by_cases hx : isB x = true
          · rw [if_pos hx, if_pos hx]
            refine if_neg fun q => hn ?_
            rw [hv.nm]
            exact brR_sub q
          · rw [if_neg hx, if_neg hx]
    · rw [ofR_bad hc] at ho
      simp at ho
      exact absurd ho.1.1 hc
theorem ofA_counts {l : List Elm} {N : Ns} (h : ofA l = ((0, 0), N)) : N.es = l ∧ N.nd = ndR l ∧ N.br = brR l ∧ N.nd.length ≤ 32 ∧ N.nd.length + N.br.length ≤ 64 := by
  have he := (ofA_facts h).2.1
  unfold ofA at h
  split at h
  · simp at h
  · obtain ⟨h1, h2, h3, h4⟩ := ofR_counts l Ns.nil N 0 Nv.nil rfl rfl h
    rw [he] at h1 h2
    exact ⟨he, h1, h2, h3, h4⟩
end Go.Proofs.Ytmhplaanpbpndaa
