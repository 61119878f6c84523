/-
  A net that is made: its elements, its nodes, in new memory.
-/
import Derived.Test.YtdlecihkjokeiaaGob
namespace Go.Proofs.Ytdlecihkjokeiaa
open Go.Maps Go.RowKit
set_option linter.unusedVariables false
set_option maxRecDepth 100000

theorem eql_sl (t e : TypeId) (ht : Try.prog.underlying t = some (.slice e)) (w : World) (a : Option Addr) (n c n' c' : Nat) : (binOp .eql t (.slice a n c) (.slice none n' c')).run Try.prog w = .ok (.bool a.isNone) w := Lib.run_eql_slice_nil w _ _ a n c n' c' ht
/-- a list of names, copied -/
theorem clone_s (w : World) (base : Nat) (v : Value) (xs : List Nm) (h : w.ownsRow base 9 1 v xs.length (xs.map sv)) (hn : xs.length ≤ 1000000) :
    Calls Try.prog 57 #[v] w fun e w' => ∃ v', e = .returned v' ∧ w'.ownsRow w.heap.size 9 1 v' xs.length (xs.map sv) ∧ Below w.heap.size w w' := by
  have q29 := eql_sl 29 9 Try.underlying29
  obtain ⟨i0, hi0, hz0, hz1, hz2⟩ := info_parts Try.infoS
  obtain ⟨hxl, ⟨rfl, hx0⟩ | ⟨g, cap, cur, rfl, hg, hcur, hcap, hcm, hcs, htk⟩⟩ := h
  · go_enter Try.func57, Try.ntmps57
    go_wp2_with fail
    go_ret
    have hxe : xs = [] := List.length_eq_zero_iff.1 hx0
    subst hxe
    exact ⟨.slice none 0 0, rfl, World.ownsRow_nil _ _ _ _, Below.refl _ _⟩
  · have HC : Hid (∀ j u, (xs.map sv)[j]? = some u → w.cell? ⟨g, j, none⟩ = some u) := fun j u hj => by
      have hrow : w.ownsRow base 9 1 (.slice (some ⟨g, 0, none⟩) xs.length cap) xs.length (xs.map sv) := ⟨hxl, .inr ⟨g, cap, cur, rfl, hg, hcur, hcap, hcm, hcs, htk⟩⟩
      rw [hrow.cellAt j (by have := (List.getElem?_eq_some_iff.1 hj).1; simp at this; omega)]; exact hj
    obtain ⟨m, hm⟩ : ∃ m, xs.length = m := ⟨_, rfl⟩
    rw [hm] at hn ⊢
    have HM : Hid (xs.length = m) := hm
    clear hm hxl hcur hcap hcm hcs htk hg
    go_enter Try.func57, Try.ntmps57
    go_wp2_with (at_builtin; refine wpList_append_own _ rfl _ _ 29 rfl w.heap.size 9 i0 (.string ByteArray.empty) 1 16 Try.underlying29 hi0 hz0 hz1 hz2 (by rfl) (by decide) _ _ _ rfl (World.ownsRow_made w #[] 0 (Nat.le_refl _) (Nat.zero_le _) rfl) ⟨g, 0, none⟩ m cap (xs.map sv) rfl ?qc1 ?qc2 ?qc3 ?qc4 ?qc5 ?qc6 ?_)
    case qc1 => simp [HM.out]
    case qc2 =>
      intro j u hj
      rw [Addr.add_lit]
      have := HC.out j u hj
      simp only [Nat.zero_add]
      rw [World.cell?_alloc_lt _ _ _ (World.block_lt_of_cell? w _ this)]; exact this
    case qc3 => intro u hu; obtain ⟨x, _, rfl⟩ := List.mem_map.1 hu; rfl
    case qc4 => unfold maxLen; omega
    case qc5 => omega
    case qc6 => simp
    intro v' w1 hown hgrow hnil
    go_wp2
    go_ret
    refine ⟨v', rfl, by simpa using hown, ?_⟩
    exact ((Below.refl _ w).alloc (Nat.le_refl _) _).grown hgrow (by simp) (by intro k hk; simp [Value.ownBlock] at hk; omega)
theorem elC_one (l : List Elm) : ∀ u ∈ elCs l, u.oneCell' = true := by
  intro u hu
  unfold elCs at hu
  obtain ⟨x, _, hx⟩ := List.mem_flatMap.1 hu
  simp [elC] at hx
  rcases hx with rfl | rfl | rfl | rfl | rfl | rfl | rfl | rfl <;> rfl
/-- a list of elements, copied -/
theorem clone_e (w : World) (base : Nat) (v : Value) (l : List Elm) (h : w.ownsRow base 61 8 v l.length (elCs l)) (hn : l.length ≤ 1000000) :
    Calls Try.prog 58 #[v] w fun e w' => ∃ v', e = .returned v' ∧ w'.ownsRow w.heap.size 61 8 v' l.length (elCs l) ∧ Below w.heap.size w w' := by
  have q29 := eql_sl 45 61 Try.underlying45
  obtain ⟨i0, hi0, hz0, hz1, hz2⟩ := info_parts Try.infoE
  obtain ⟨hxl, ⟨rfl, hx0⟩ | ⟨g, cap, cur, rfl, hg, hcur, hcap, hcm, hcs, htk⟩⟩ := h
  · go_enter Try.func58, Try.ntmps58
    go_wp2_with fail
    go_ret
    have hxe : l = [] := List.length_eq_zero_iff.1 hx0
    subst hxe
    exact ⟨.slice none 0 0, rfl, World.ownsRow_nil _ _ _ _, Below.refl _ _⟩
  · have HC : Hid (∀ j u, (elCs l)[j]? = some u → w.cell? ⟨g, j, none⟩ = some u) := fun j u hj => by
      have hrow : w.ownsRow base 61 8 (.slice (some ⟨g, 0, none⟩) l.length cap) l.length (elCs l) := ⟨hxl, .inr ⟨g, cap, cur, rfl, hg, hcur, hcap, hcm, hcs, htk⟩⟩
      rw [hrow.cellAt j (by have := (List.getElem?_eq_some_iff.1 hj).1; omega)]; exact hj
    obtain ⟨m, hm⟩ : ∃ m, l.length = m := ⟨_, rfl⟩
    rw [hm] at hn ⊢
    have HM : Hid ((elCs l).length = m * 8 ∧ l.length = m) := ⟨by rw [elCs_len, hm], hm⟩
    clear hm hxl hcur hcap hcm hcs htk hg
    go_enter Try.func58, Try.ntmps58
    go_wp2_with (at_builtin; refine wpList_append_own _ rfl _ _ 45 rfl w.heap.size 61 i0 _ 8 104 Try.underlying45 hi0 hz0 hz1 hz2 (by rfl) (by decide) _ _ _ rfl (World.ownsRow_made w #[] 0 (Nat.le_refl _) (Nat.zero_le _) rfl) ⟨g, 0, none⟩ m cap (elCs l) rfl ?qc1 ?qc2 ?qc3 ?qc4 ?qc5 ?qc6 ?_)
    case qc1 => exact HM.out.1
    case qc2 =>
      intro j u hj
      rw [Addr.add_lit]
      have := HC.out j u hj
      simp only [Nat.zero_add]
      rw [World.cell?_alloc_lt _ _ _ (World.block_lt_of_cell? w _ this)]; exact this
    case qc3 => exact elC_one l
    case qc4 => unfold maxLen; omega
    case qc5 => omega
    case qc6 => simp
    intro v' w1 hown hgrow hnil
    go_wp2
    go_ret
    refine ⟨v', rfl, by simpa using hown, ?_⟩
    exact ((Below.refl _ w).alloc (Nat.le_refl _) _).grown hgrow (by simp) (by intro k hk; simp [Value.ownBlock] at hk; omega)
theorem nodes_made {w : World} {base p : Nat} {N : Ns} {b : Nb} (h : Nt w base p N b) (hn : N.nd.length ≤ 1000000) : Calls Try.prog 27 #[.pointer (some ⟨p, 0, none⟩)] w fun e w' => ∃ v', e = .returned v' ∧ w'.ownsRow w.heap.size 9 1 v' N.nd.length (N.nd.map sv) ∧ Below w.heap.size w w' := by
  have c2 := h.nm.c1
  have c3 := h.nd.c0
  have hcl := clone_s w base b.v3 N.nd h.nd.row hn
  go_enter Try.func27, Try.ntmps27
  go_wp2_with (first | (go_at_call 56; (with_reducible refine (made_yes c2).mono ?_); rintro e1 w1 ⟨rfl, rfl⟩) | (go_at_call 57; (with_reducible refine hcl.mono ?_); rintro e2 w2 ⟨v2, rfl, ho2, hb2⟩))
  go_ret
  exact ⟨v2, rfl, ho2, hb2⟩
theorem elements_made {w : World} {base p : Nat} {N : Ns} {b : Nb} (h : Nt w base p N b) (hn : N.es.length ≤ 1000000) : Calls Try.prog 29 #[.pointer (some ⟨p, 0, none⟩)] w fun e w' => ∃ v', e = .returned v' ∧ w'.ownsRow w.heap.size 61 8 v' N.es.length (elCs N.es) ∧ Below w.heap.size w w' := by
  have c2 := h.nm.c1
  have c0 := h.c0
  have hcl := clone_e w base b.v0 N.es h.es hn
  go_enter Try.func29, Try.ntmps29
  go_wp2_with (first | (go_at_call 56; (with_reducible refine (made_yes c2).mono ?_); rintro e1 w1 ⟨rfl, rfl⟩) | (go_at_call 58; (with_reducible refine hcl.mono ?_); rintro e2 w2 ⟨v2, rfl, ho2, hb2⟩))
  go_ret
  exact ⟨v2, rfl, ho2, hb2⟩
theorem without_no {w : World} {base p : Nat} {N : Ns} {b : Nb} (h : Nt w base p N b) (hn : [] ∉ N.nm) : Calls Try.prog 62 #[.pointer (some ⟨p, 0, none⟩), .string ⟨#[]⟩] w fun e w' => e = .returned (.tuple #[.pointer none, .int .i64 10]) ∧ w' = w := by
  have c2 := h.nm.c1
  have hpl := place_s w p 1 b.B2 N.nm ⟨#[]⟩ (by decide) c2 h.nm.mp
  rw [show decide (bl ⟨#[]⟩ ∈ N.nm) = false from decide_eq_false hn] at hpl
  go_enter Try.func62, Try.ntmps62
  go_wp2_with (first | (go_at_call 56; (with_reducible refine (made_yes c2).mono ?_); rintro e1 w1 ⟨rfl, rfl⟩) | (go_at_call 52; (with_reducible refine hpl.mono ?_); rintro e2 w2 ⟨rfl, rfl⟩))
  go_ret2
  exact ⟨rfl, rfl⟩

end Go.Proofs.Ytdlecihkjokeiaa
