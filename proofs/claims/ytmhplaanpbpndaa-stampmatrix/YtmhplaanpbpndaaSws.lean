/-
  SourceRights' walk.
-/
import Derived.Test.YtmhplaanpbpndaaSrx
import Derived.Test.YtmhplaanpbpndaaBsd
import Derived.Test.YtmhplaanpbpndaaSsp
import Derived.Test.YtmhplaanpbpndaaDnd
import Derived.BigQuiet
namespace Go.Proofs.Ytmhplaanpbpndaa
open Fl Go.Maps RowKit Joins Deep
set_option linter.unusedVariables false
set_option maxRecDepth 20000

/-- a fault that lies in memory -/
def Flt (w : World) (q : Nat) (a b : Int) : Prop := w.heap[q]? = some (.cells #[.int .i64 a, .int .i64 b] 29 (0, 0))
theorem Flt.on {w w' : World} {q : Nat} {a b : Int} (h : Flt w q a b) (hb : Below w.heap.size w w') : Flt w' q a b := by
  unfold Flt at *
  rw [hb.block q (Array.getElem?_eq_some_iff.1 h).1]; exact h
theorem flt_new (w : World) (a b : Int) : Flt (w.alloc (.cells #[.int .i64 a, .int .i64 b] 29)) w.heap.size a b := heap_alloc_new w _
theorem re_on {w w' : World} {A : Option Addr} {xs : List Elm} (h : Re w A xs) (hb : Below w.heap.size w w') : Re w' A xs := fun k x hk => by
  obtain ⟨b, off, h1, h2, h3⟩ := h k x hk
  exact ⟨b, off, h1, Nat.lt_of_lt_of_le h2 hb.size, fun i v hi => (hb.cell (p := ⟨b, off + k * 8 + i, none⟩) h2).trans (h3 i v hi)⟩
theorem of_yes3 {w w' : World} {l : List Elm} {e : Ending} (h : (ofA l).1 = (0, 0)) (hp : OfP w l e w') : Below w.heap.size w w' ∧ ∃ p b0 b, e = .returned (.tuple #[.pointer (some ⟨p, 0, none⟩), .agg #[.int .i64 0, .int .i64 0]]) ∧ Nt w' b0 p (ofA l).2 b := by
  obtain ⟨hb, ⟨_, b0, p, b, he, hN, _⟩ | ⟨hne, _⟩⟩ := hp
  · exact ⟨hb, p, b0, b, he, hN⟩
  · rw [h] at hne; exact absurd rfl hne
theorem of_no3 {w w' : World} {l : List Elm} {e : Ending} (h : (ofA l).1 ≠ (0, 0)) (hp : OfP w l e w') : Below w.heap.size w w' ∧ e = .returned (.tuple #[.pointer none, .agg #[.int .i64 (ofA l).1.1, .int .i64 (ofA l).1.2]]) := by
  obtain ⟨hb, ⟨h1, _⟩ | ⟨_, he⟩⟩ := hp
  · exact absurd h1 h
  · exact ⟨hb, he⟩
theorem dof_yes3 {w w' : World} {l : List Elm} {e : Ending} (h : (ofA l).1 = (0, 0)) (hp : DofP w l e w') : Below w.heap.size w w' ∧ ∃ p, e = .returned (.tuple #[.pointer (some ⟨p, 0, none⟩), .agg #[.int .i64 0, .int .i64 0]]) ∧ Dn w' p l := by
  obtain ⟨hb, ⟨_, p, he, hN⟩ | ⟨hne, _⟩⟩ := hp
  · exact ⟨hb, p, he, hN⟩
  · rw [h] at hne; exact absurd rfl hne
theorem dof_no3 {w w' : World} {l : List Elm} {e : Ending} (h : (ofA l).1 ≠ (0, 0)) (hp : DofP w l e w') : Below w.heap.size w w' ∧ e = .returned (.tuple #[.pointer none, .agg #[.int .i64 (ofA l).1.1, .int .i64 (ofA l).1.2]]) := by
  obtain ⟨hb, ⟨h1, _⟩ | ⟨_, he⟩⟩ := hp
  · exact absurd h1 h
  · exact ⟨hb, he⟩
end Go.Proofs.Ytmhplaanpbpndaa
namespace Go.Proofs.Ytmhplaanpbpndaa
open Fl Go.Maps RowKit Joins Deep
set_option linter.unusedVariables false
set_option maxRecDepth 20000

theorem sbranches_made {w : World} {base p : Nat} {N : Ns} {b : Nb} (h : Nt w base p N b) (hn : N.br.length ≤ 1000000) : Calls Try.prog 30 #[.pointer (some ⟨p, 0, none⟩)] w fun e w' => ∃ v', e = .returned v' ∧ w'.ownsRow w.heap.size 9 1 v' N.br.length (N.br.map sv) ∧ Below w.heap.size w w' := by
  have c2 := h.nm.c1
  have c5 := h.br.c0
  have hcl := clone_s w base b.v5 N.br h.br.row hn
  go_enter Try.func30, Try.ntmps30
  go_wp2_with (first | (go_at_call 43; (with_reducible refine (made_yes c2).mono ?_); rintro e1 w1 ⟨rfl, hw1⟩; subst w1) | (go_at_call 51; (with_reducible refine hcl.mono ?_); rintro e2 w2 ⟨v2, rfl, ho2, hb2⟩))
  go_ret
  exact ⟨v2, rfl, ho2, hb2⟩
theorem netOf_big (w : World) (A : Option Addr) (c : Nat) (l : List Elm) (hl : 256 < l.length) : Calls Try.prog 5 #[.slice A l.length c] w (OfP w l) := by
  obtain ⟨n, hn⟩ : ∃ n, l.length = n := ⟨_, rfl⟩
  have HN := hidS hn
  rw [hn] at hl ⊢
  clear hn
  have hbi : (256 : Int) < (n : Int) := by omega
  go_enter Try.func5, Try.ntmps5
  go_wp2_with fail
  (try simp only [Exit.inBlock, Exit.then])
  refine bodyPost_ret (by simp [results, Try.results5, go_sem]; try rfl) rfl ?_
  have hA3 : ofA l = ((3, -1), Ns.nil) := if_pos (by have := HN.out; omega)
  exact ⟨(Below.refl _ w).alloc (Nat.le_refl _) _, .inr ⟨by rw [hA3]; simp, by rw [hA3]⟩⟩
theorem netOf_row {w : World} {base n : Nat} {v : Value} {l : List Elm} (hl : l.length = n) (h : w.ownsRow base 55 8 v n (elCs l)) (hok : ∀ x ∈ l, x.ok) : Calls Try.prog 5 #[v] w (OfP w l) := by
  subst hl
  by_cases hb : l.length ≤ 1000
  · exact netOf_any w v l (rdE_row2 h hb) hok
  · obtain ⟨A, c, rfl⟩ := drow_slice h
    exact netOf_big w A c l (by omega)
theorem of_ne {w w' : World} {l : List Elm} {e : Ending} (h : (ofA l).1 ≠ (0, 0)) (hp : OfP w l e w') : (ofA l).1.1 ≠ 0 := by
  obtain ⟨_, ⟨h1, _⟩ | ⟨h1, _⟩⟩ := hp
  · exact absurd h1 h
  · exact h1
end Go.Proofs.Ytmhplaanpbpndaa
