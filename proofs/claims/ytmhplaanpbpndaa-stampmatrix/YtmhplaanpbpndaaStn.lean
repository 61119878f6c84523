/-
  The program's Names of a net; its Matrix and Names of no net.
-/
import Derived.Test.YtmhplaanpbpndaaSty
import Derived.Test.YtmhplaanpbpndaaSws
import Derived.Laws.AppendOwnNone
namespace Go.Proofs.Ytmhplaanpbpndaa
open Go.ChangeShapes Go.WideShapes Go.ChangeAt Fl Go.Maps RowKit Joins Deep
set_option linter.unusedVariables false
set_option maxRecDepth 20000

/-- the rows' names -/
def nmR (N : Ns) : List (List UInt8) := N.nd ++ N.br
set_option maxHeartbeats 1000000 in
theorem snames_any {w : World} {nb p : Nat} {N : Ns} {b : Nb} (h : Nt w nb p N b) (hm : Md N) : Calls Try.prog 9 #[.pointer (some ⟨p, 0, none⟩)] w fun e w' => ∃ v, e = .returned v ∧ w'.ownsRow w.heap.size 9 1 v (nmR N).length ((nmR N).map sv) ∧ Below w.heap.size w w' := by
  obtain ⟨i0, hi0, hz0, hz1, hz2⟩ := info_parts Try.infoS
  have HNT := hidS h
  have HM := hidS hm
  have hlen : (nmR N).length = N.nd.length + N.br.length := by unfold nmR; rw [List.length_append]
  have hmap : (nmR N).map sv = N.nd.map sv ++ N.br.map sv := by unfold nmR; rw [List.map_append]
  rw [hlen, hmap]
  have hmb : N.nd.length + N.br.length ≤ 64 := hm.nb
  clear h hm hlen hmap
  go_enter Try.func9, Try.ntmps9
  go_wp2_with fail
  refine (nodes_made HNT.out (by omega)).mono ?_
  rintro e1 w1 ⟨v1, rfl, ho1, hb1⟩
  have HO1 := hidS (And.intro ho1 hb1)
  clear ho1 hb1
  go_wp2_with fail
  refine (sbranches_made (HNT.out.below HO1.out.2) (by omega)).mono ?_
  rintro e2 w2 ⟨v2, rfl, ho2, hb2⟩
  have hr1 : w2.ownsRow w.heap.size 9 1 v1 N.nd.length (N.nd.map sv) := own_below HO1.out.1 hb2
  have HR1 := hidS hr1
  have HB2 := hidS (HO1.out.2.trans (hb2.mono HO1.out.2.size))
  obtain ⟨d, hd⟩ : ∃ d, N.nd.length = d := ⟨_, rfl⟩
  obtain ⟨r, hr⟩ : ∃ r, N.br.length = r := ⟨_, rfl⟩
  have HDR := hidS (And.intro hd hr)
  rw [hd, hr] at hmb
  rw [hd] at HR1
  rw [hr] at ho2
  clear hb2 hd hr1
  by_cases h0 : v2 = .slice none 0 0
  · subst h0
    have hr0 : r = 0 := by
      obtain ⟨_, ⟨_, h1⟩ | ⟨g, cap, cur, h1, _⟩⟩ := ho2
      · exact h1
      · cases h1
    subst hr0
    have hbr : N.br = [] := List.length_eq_zero_iff.1 hr
    clear hr ho2
    go_wp2_with (at_builtin; refine wpList_append_own_none (by rfl) _ _ 42 (by rfl) w.heap.size 9 i0 1 Try.underlying42 hi0 _ _ _ (by rfl) HR1.out (by rfl) ?_)
    go_ret
    refine ⟨v1, rfl, ?_, HB2.out⟩
    rw [HDR.out.1, HDR.out.2, hbr]
    simpa using HR1.out
  · obtain ⟨g, cap, rfl, HC⟩ : ∃ g cap, v2 = .slice (some ⟨g, 0, none⟩) r cap ∧ Hid (∀ j u, (N.br.map sv)[j]? = some u → w2.cell? ⟨g, j, none⟩ = some u) := by
      have h3 := ho2
      obtain ⟨hxl, ⟨h1, _⟩ | ⟨g, cap, cur, h1, _⟩⟩ := ho2
      · exact absurd h1 h0
      · subst h1
        exact ⟨g, cap, rfl, fun j u hj => by
          rw [h3.cellAt j (by have := (List.getElem?_eq_some_iff.1 hj).1; rw [List.length_map, hr] at this; omega)]; exact hj⟩
    have HRL := hidS hr
    clear h0 ho2 hr
    go_wp2_with (at_builtin; refine wpList_append_own _ (by rfl) _ _ 42 (by rfl) w.heap.size 9 i0 (.string ByteArray.empty) 1 16 Try.underlying42 hi0 hz0 hz1 hz2 (by rfl) (by decide) _ _ _ (by rfl) HR1.out ⟨g, 0, none⟩ r cap (N.br.map sv) (by rfl) (by simp [HRL.out]) ?qc2 ?qc3 (by unfold maxLen; omega) (by omega) HB2.out.size ?_)
    case qc2 =>
      intro j u hj
      rw [Addr.add_lit]
      have := HC.out j u hj
      simp only [Nat.zero_add]
      exact this
    case qc3 =>
      intro u hu
      obtain ⟨x, _, rfl⟩ := List.mem_map.1 hu
      rfl
    intro v4 w4 hown4 hgrow4 hnil4
    have HE := hidS (And.intro hown4 (HB2.out.trans ⟨hgrow4.os, hgrow4.tape, hgrow4.output, hgrow4.size, fun q hq => hgrow4.block q (Nat.lt_of_lt_of_le hq HB2.out.size) (fun e => by have := (HR1.out.lt q e.symm).1; omega)⟩))
    clear hown4 hgrow4 hnil4
    go_wp2_with fail
    go_ret
    refine ⟨v4, rfl, ?_, HE.out.2⟩
    rw [HDR.out.1, HDR.out.2]
    exact HE.out.1
theorem snames_none {w : World} {v : Value} (h : NoNet v w) : Calls Try.prog 9 #[v] w fun e w' => e = .returned (.slice none 0 0) ∧ w' = w := by
  obtain ⟨i0, hi0, hz0, hz1, hz2⟩ := info_parts Try.infoS
  have H1 := hidS (nnodes_none h)
  have H2 := hidS (nbranches_none h)
  have HN := hidS (World.ownsRow_nil w w.heap.size 9 1)
  go_enter Try.func9, Try.ntmps9
  go_wp2_with (first
    | (go_at_call 26; (with_reducible refine H1.out.mono ?_); rintro e v ⟨rfl, hv⟩; subst v)
    | (go_at_call 30; (with_reducible refine H2.out.mono ?_); rintro e v ⟨rfl, hv⟩; subst v)
    | (at_builtin; refine wpList_append_own_none (by rfl) _ _ 42 (by rfl) w.heap.size 9 i0 1 Try.underlying42 hi0 _ _ _ (by rfl) HN.out (by rfl) ?_))
  go_ret
  exact ⟨rfl, rfl⟩
/-- no net's Matrix -/
theorem srefused_none {w : World} {v : Value} (h : NoNet v w) (o : Nat) : Calls Try.prog 25 #[v, .float .f64 o] w fun e w' => e = .returned (.int .i64 1) ∧ w' = w := by
  have HW := hidS (nwithout_none h ⟨#[]⟩)
  go_enter Try.func25, Try.ntmps25
  go_wp2_with (go_at_call 49; (with_reducible refine (HW.out).mono ?_); rintro e w1 ⟨rfl, hw⟩; subst w1)
  go_ret
  exact ⟨rfl, rfl⟩
end Go.Proofs.Ytmhplaanpbpndaa
