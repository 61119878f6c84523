/-
  Kept of Tfp.
-/
import Derived.Test.YtmpkcioeodlbcaaGreatDoorK13
import Derived.Test.YtmpkcioeodlbcaaGreatDoorK12
import Derived.Test.YtmpkcioeodlbcaaGreatDoorK52
namespace Go.Proofs.YtmpkcioeodlbcaaGreatDoor
set_option linter.unusedVariables false
theorem err_laid20 {P : Program} {W : World} {name : String} {d : DataW Unit} {rest : List (String × DataW Unit)} {g : Nat} {t : TypeId} {ms : Array (String × TypeId)} {ps : List MemPlace}
    (hg : P.globalNamed name = some g) (hty : (P.globals[g]?).map (·.type) = some t) (ht : P.underlying t = some (.interface ms)) (h : DataW.LaidVars P W ((name, d) :: rest) ps) :
    ∃ ev, W.cell? ⟨g, 0, none⟩ = some ev ∧ (ev = .nilIface ∨ ∃ te pe, ev = .iface te pe) := by
  obtain ⟨g', t', cs, fuel, p, q, hg', ht', hvar, hd, _, _⟩ := h
  obtain rfl := Option.some.inj (hg.symm.trans hg')
  obtain rfl := Option.some.inj (hty.symm.trans ht')
  have hc : ∃ ev, cs.toList = [ev] ∧ (ev = .nilIface ∨ ∃ te pe, ev = .iface te pe) := by
    cases fuel with
    | zero => simp [DataW.trod] at hd
    | succ m =>
      unfold DataW.trod at hd
      rw [ht] at hd
      rcases hcs : cs.toList with _ | ⟨v, _ | ⟨v2, r⟩⟩
      · rw [hcs] at hd; simp at hd
      · rw [hcs] at hd
        cases v <;> simp at hd
        · exact ⟨_, rfl, .inr ⟨_, _, rfl⟩⟩
        · exact ⟨_, rfl, .inl rfl⟩
      · rw [hcs] at hd; simp at hd
  obtain ⟨ev, hcs, hev⟩ := hc
  refine ⟨ev, ?_, hev⟩
  unfold World.var? at hvar
  rw [hg] at hvar
  simp only [Option.bind_some] at hvar
  split at hvar
  · rename_i cs' e fr hh
    obtain rfl := Option.some.inj hvar
    have h0 : cs'[0]? = some ev := by rw [← Array.getElem?_toList, hcs]; rfl
    simp [World.cell?, hh, h0]
  · cases hvar
theorem wow_laid_phasorNil {W : World} {ps : List MemPlace} (hsh : W.ShapedOpen Tryz.prog) (hl : DataW.LaidVars Tryz.prog W.memory Rows.phasorNilRow.laid ps) : Wow W := by
  obtain ⟨q1, h1⟩ := laid_next (x := ("math/bits.deBruijn32tab", Rows.laid_math_bits_deBruijn32tab)) hl
  obtain ⟨q2, h2⟩ := laid_next (x := ("math/bits.deBruijn64tab", Rows.laid_math_bits_deBruijn64tab)) h1
  obtain ⟨q3, h3⟩ := laid_next (x := ("internal/strconv.uint64pow10", Rows.laid_internal_strconv_uint64pow10)) h2
  obtain ⟨q4, h4⟩ := laid_next (x := ("unicode/utf8.acceptRanges", Rows.laid_unicode_utf8_acceptRanges)) h3
  have e1 := err_laid20 (name := "strconv.ErrRange") (d := Rows.laid_strconv_ErrRange) (g := 3) (t := 295) (by kernel_rfl) (by kernel_rfl) Tryz.underlying295 h4
  obtain ⟨q5, h5⟩ := laid_next (x := ("strconv.ErrRange", Rows.laid_strconv_ErrRange)) h4
  have e2 := err_laid20 (name := "strconv.ErrSyntax") (d := Rows.laid_strconv_ErrSyntax) (g := 2) (t := 295) (by kernel_rfl) (by kernel_rfl) Tryz.underlying295 h5
  exact ⟨mln_shaped hsh, e2, e1, pw_laid h2⟩
end Go.Proofs.YtmpkcioeodlbcaaGreatDoor
