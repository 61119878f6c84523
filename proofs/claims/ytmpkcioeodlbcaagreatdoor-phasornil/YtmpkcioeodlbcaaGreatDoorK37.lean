/-
  Kept of Srm.
-/
import Derived.Test.YtmpkcioeodlbcaaGreatDoorK27
import Derived.Test.YtmpkcioeodlbcaaGreatDoorK36
namespace Go.Proofs.YtmpkcioeodlbcaaGreatDoor
open Fl RowKit
set_option linter.unusedVariables false
/-- a net that is made -/
structure Md (N : Ns) : Prop where
  ok : ∀ x ∈ N.es, x.ok
  ck : ∀ x ∈ N.es, chkI x = 0
  pb : ∀ x ∈ N.es, x.phb
  nv : Nv N
  ndR : N.nd = ndR N.es
  brR : N.br = brR N.es
  nd : N.nd.length ≤ 32
  nb : N.nd.length + N.br.length ≤ 64
  ln : N.es.length ≤ 256
theorem ofR_ck : ∀ (l : List Elm) (N N' : Ns) (i : Nat), ofR N i l = ((0, 0), N') → ∀ x ∈ l, chkI x = 0 := by
  intro l
  induction l with
  | nil => intro N N' i _ x hx; cases hx
  | cons y t ih =>
    intro N N' i ho x hx
    by_cases hc : chkI y = 0
    · by_cases hn : bl y.n ∈ N.nm
      · rw [ofR_there hc hn] at ho
        simp at ho
      · rw [ofR_go hc hn] at ho
        rcases List.mem_cons.1 hx with q | q
        · rw [q]; exact hc
        · exact ih _ _ _ ho x q
    · rw [ofR_bad hc] at ho
      simp at ho
      exact absurd ho.1.1 hc
theorem ofA_ck {l : List Elm} {N : Ns} (h : ofA l = ((0, 0), N)) : ∀ x ∈ l, chkI x = 0 := by
  unfold ofA at h
  split at h
  · simp at h
  · exact ofR_ck l _ _ _ h
theorem Md.of {l : List Elm} (h : (ofA l).1 = (0, 0)) (hok : ∀ x ∈ l, x.ok) (hpb : ∀ x ∈ l, x.phb) : Md (ofA l).2 := by
  have e : ofA l = ((0, 0), (ofA l).2) := by rw [← h]
  obtain ⟨h1, h2, h3, h4⟩ := ofA_facts e
  obtain ⟨k1, k2, k3, k4, k5⟩ := ofA_counts e
  have ck := ofA_ck e
  refine ⟨?_, ?_, ?_, h1, ?_, ?_, h3, k5, ?_⟩
  · rw [h2]; exact hok
  · rw [h2]; exact ck
  · rw [h2]; exact hpb
  · rw [h2]; exact k2
  · rw [h2]; exact k3
  · rw [h2]; exact h4
theorem Md.nn {N : Ns} (h : Md N) : [] ∉ N.nm := h.nv.nm_ne
theorem Md.br5 {N : Ns} (h : Md N) {x : Elm} (hx : x ∈ N.es) (hk : x.k = 5) : bl x.n ∈ N.br := by
  rw [h.brR]
  exact List.mem_map.2 ⟨x, List.mem_filter.2 ⟨hx, by unfold isB; rw [hk]; rfl⟩, rfl⟩
theorem Md.sh {N : Ns} (h : Md N) {x : Elm} (hx : x ∈ N.es) : x.n.size ≤ 16 ∧ x.a.size ≤ 16 ∧ x.b.size ≤ 16 ∧ x.c.size ≤ 16 ∧ x.d.size ≤ 16 := by
  obtain ⟨s1, _, s2, s3, s4, s5⟩ := (h.nv.el x hx).2.2.sh
  exact ⟨s1, s2, s3, s4, s5⟩
end Go.Proofs.YtmpkcioeodlbcaaGreatDoor
