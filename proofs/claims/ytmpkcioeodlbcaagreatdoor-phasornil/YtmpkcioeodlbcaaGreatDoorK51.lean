/-
  Several texts in one: Pnc Tfx Tfr Tfp.
-/
import Derived.Test.YtmpkcioeodlbcaaGreatDoorRows
import Derived.WalkKit
import Derived.ProofKit
import Derived.JoinedOf
import Derived.Test.YtmpkcioeodlbcaaGreatDoorK06
import Derived.HandedShaped
import Derived.SizedLaws
import Derived.ShutString
import Derived.MakeChecks
import Derived.Lib.LaidTab
import Derived.Test.YtmpkcioeodlbcaaGreatDoorK03
import Derived.Shelf.Vars
namespace Go.Proofs.YtmpkcioeodlbcaaGreatDoor
open Go.ChangeShapes Go.WideShapes
set_option maxHeartbeats 40000000 in
theorem pn_closed : joinedFacts Tryz.pinned.checked.prog 5 Tryz.f5 Rows.phasorNilSpec Rows.phasorNilRow = true := by
  unfold joinedFacts
  simp only [Bool.and_eq_true]
  repeat' refine And.intro ?_ ?_
  all_goals (as_aux_lemma => kernel_rfl)
end Go.Proofs.YtmpkcioeodlbcaaGreatDoor
namespace Go.Proofs.YtmpkcioeodlbcaaGreatDoor
set_option linter.unusedVariables false
variable {H : Type} {enc : TypeId × Value → H}
theorem handed_and_laid {a : Assume} {C : Checked} {os : Os} {f : FuncId} {fn : Func} {s : ChangeSpec} {conds : List PathCond} {apart fresh handsOn again : Bool} {X : World → Array Value → Prop}
    (own : ownKnob C.prog.godebug = none) (started : os.Started) (noInit : C.prog.inits.idxOf? f = none) (hfn : C.prog.funcs[f]? = some fn)
    (witness : ∃ (w : World) (tape : Tape) (i : Input), w.os = os ∧ (w.forCall tape i).Shaped C.prog ∧ i.vars = [] ∧ Input.okWide C.prog (w.forCall tape i) .any w.heap.size f i ∧
      ((s.pre enc C.prog fn conds apart (w.forCall tape i).memory i.args ∧ X (w.forCall tape i).memory i.args) ∧ sizedMet enc C.prog fn (OpenSpec.ofChange s) apart (w.forCall tape i).memory i.args) ∧ a.holds C.prog (lone (Frame.enter C.prog f i.args .normal) [] (w.forCall tape i)))
    (contract : ∀ (W : World) (base : Nat) (args : Array Value) (ds gs : List (DataW H)) (before : List MemPlace),
      (∀ (j : Nat) t v, fn.params[j]? = some t → args[j]? = some v → Value.okWide C.prog W .any base t v) →
      DataW.Whole enc C.prog fn.params.toList s.vars apart W args.toList ds gs before →
      (DataW.weightsEach C.prog (fn.params.toList ++ s.plain.varTypes C.prog) (ds ++ gs)).all (· ≤ reachBytes) = true → W.ShapedOpen C.prog → X W.memory args →
      Calls C.prog f args W fun e W' => ∃ v, e = .returned v ∧ s.post enc C.prog fn apart fresh handsOn again W args v W') :
    ReturnsInHanded a C os f .any (fun w args => (s.pre enc C.prog fn conds apart w args ∧ X w args) ∧ sizedMet enc C.prog fn (OpenSpec.ofChange s) apart w args) (s.post enc C.prog fn apart fresh handsOn again) := by
  refine returnsInHanded_of_calls own started noInit witness ?_
  intro w tape i _ hsh _ hok hpre hholds
  obtain ⟨_, _, _, fn', hfn', _, _, _, _, hval⟩ := hok
  have e : fn' = fn := Option.some.inj (hfn'.symm.trans hfn)
  subst e
  obtain ⟨⟨⟨ds, gs, before, hw, hc⟩, hx⟩, hz⟩ := hpre
  have hw' := DataW.Whole.of_heap (w' := w.forCall tape i) (by rfl) hw
  refine (contract (w.forCall tape i) w.heap.size i.args ds gs before hval hw' (hz.weights hw) hsh hx).mono fun e W' ⟨v, he, hp⟩ => ?_
  subst he
  exact ChangeSpec.post_blind hp
theorem laid_next {P : Program} {W : World} {x : String × DataW Unit} {rest : List (String × DataW Unit)} {ps : List MemPlace} (h : DataW.LaidVars P W (x :: rest) ps) : ∃ q, DataW.LaidVars P W rest q := by
  obtain ⟨n, d⟩ := x
  obtain ⟨g', t', cs, fuel, p, q, _, _, _, _, hr, _⟩ := h
  exact ⟨q, hr⟩
theorem tab_laid {P : Program} {W : World} {name : String} {k : IntKind} {zs : List Int} {rest : List (String × DataW Unit)} {g : Nat} {t e : TypeId} {n : Nat} {ps : List MemPlace}
    (hg : P.globalNamed name = some g) (hty : (P.globals[g]?).map (·.type) = some t) (ht : P.underlying t = some (.array n e)) (he : P.underlying e = some (.int k)) (hce : P.cellsOf e = 1) (hct : P.cellsOf t = n)
    (h : DataW.LaidVars P W ((name, Lib.tabData k zs) :: rest) ps) : Lib.TabIs P W name k zs := by
  obtain ⟨g', t', cs, fuel, p, q, hg', ht', hvar, hd, _, _⟩ := h
  obtain rfl := Option.some.inj (hg.symm.trans hg')
  obtain rfl := Option.some.inj (hty.symm.trans ht')
  unfold Lib.TabIs
  rw [hvar, ← Lib.cells_of_tab ht he hce hct hd]
theorem pw_laid {W : World} {ps : List MemPlace} {rest : List (String × DataW Unit)} (h : DataW.LaidVars Tryz.prog W.memory (("internal/strconv.uint64pow10", Rows.laid_internal_strconv_uint64pow10) :: rest) ps) : Pw W := by
  have h1 : Lib.TabIs Tryz.prog W.memory "internal/strconv.uint64pow10" .u64 Lib.pow10Tab := tab_laid (g := 4) (t := 386) (e := 47) (n := 20) (by kernel_rfl) (by kernel_rfl) Tryz.underlying386 Tryz.underlying47 (by kernel_rfl) (by kernel_rfl) h
  exact h1
end Go.Proofs.YtmpkcioeodlbcaaGreatDoor
namespace Go.Proofs.YtmpkcioeodlbcaaGreatDoor
set_option linter.unusedVariables false
variable {H : Type} {enc : TypeId × Value → H}
theorem mln_shaped {w : World} (h : w.ShapedOpen Tryz.prog) : Mln w :=
  cell_of_shapedOpen_int (t := 3) (zero := #[.int .i64 0]) h (by decide +kernel) (by kernel_rfl) rfl (by kernel_rfl) (by kernel_rfl) Tryz.underlying3
end Go.Proofs.YtmpkcioeodlbcaaGreatDoor
namespace Go.Proofs.YtmpkcioeodlbcaaGreatDoor
set_option linter.unusedVariables false
theorem err_laid20 {P : Program} {W : World} {name : String} {d : DataW Unit} {rest : List (String × DataW Unit)} {g : Nat} {t : TypeId} {ms : Array (String × TypeId)} {ps : List MemPlace}
    (hg : P.globalNamed name = some g) (hty : (P.globals[g]?).map (·.type) = some t) (ht : P.underlying t = some (.interface ms)) (h : DataW.LaidVars P W ((name, d) :: rest) ps) :
    ∃ ev, W.cell? ⟨g, 0, none⟩ = some ev ∧ (ev = .nilIface ∨ ∃ te pe, ev = .iface te pe) := by
  obtain ⟨g', t', cs, fuel, p, q, hg', ht', hvar, hd, _, _⟩ := h
  obtain rfl := Option.some.inj (hg.symm.trans hg')
  obtain rfl := Option.some.inj (hty.symm.trans ht')
  have hc : ∃ ev, cs.toList = [ev] ∧ (ev = .nilIface ∨ ∃ te pe, ev = .iface te pe) := by
    cases fuel with
    | zero => simp [DataW.trod] at hd
    | succ m =>
      unfold DataW.trod at hd
      rw [ht] at hd
      rcases hcs : cs.toList with _ | ⟨v, _ | ⟨v2, r⟩⟩
      · rw [hcs] at hd; simp at hd
      · rw [hcs] at hd
        cases v <;> simp at hd
        · exact ⟨_, rfl, .inr ⟨_, _, rfl⟩⟩
        · exact ⟨_, rfl, .inl rfl⟩
      · rw [hcs] at hd; simp at hd
  obtain ⟨ev, hcs, hev⟩ := hc
  refine ⟨ev, ?_, hev⟩
  unfold World.var? at hvar
  rw [hg] at hvar
  simp only [Option.bind_some] at hvar
  split at hvar
  · rename_i cs' e fr hh
    obtain rfl := Option.some.inj hvar
    have h0 : cs'[0]? = some ev := by rw [← Array.getElem?_toList, hcs]; rfl
    simp [World.cell?, hh, h0]
  · cases hvar
theorem wow_laid_phasorNil {W : World} {ps : List MemPlace} (hsh : W.ShapedOpen Tryz.prog) (hl : DataW.LaidVars Tryz.prog W.memory Rows.phasorNilRow.laid ps) : Wow W := by
  obtain ⟨q1, h1⟩ := laid_next (x := ("math/bits.deBruijn32tab", Rows.laid_math_bits_deBruijn32tab)) hl
  obtain ⟨q2, h2⟩ := laid_next (x := ("math/bits.deBruijn64tab", Rows.laid_math_bits_deBruijn64tab)) h1
  obtain ⟨q3, h3⟩ := laid_next (x := ("internal/strconv.uint64pow10", Rows.laid_internal_strconv_uint64pow10)) h2
  obtain ⟨q4, h4⟩ := laid_next (x := ("unicode/utf8.acceptRanges", Rows.laid_unicode_utf8_acceptRanges)) h3
  have e1 := err_laid20 (name := "strconv.ErrRange") (d := Rows.laid_strconv_ErrRange) (g := 3) (t := 295) (by kernel_rfl) (by kernel_rfl) Tryz.underlying295 h4
  obtain ⟨q5, h5⟩ := laid_next (x := ("strconv.ErrRange", Rows.laid_strconv_ErrRange)) h4
  have e2 := err_laid20 (name := "strconv.ErrSyntax") (d := Rows.laid_strconv_ErrSyntax) (g := 2) (t := 295) (by kernel_rfl) (by kernel_rfl) Tryz.underlying295 h5
  exact ⟨mln_shaped hsh, e2, e1, pw_laid h2⟩
end Go.Proofs.YtmpkcioeodlbcaaGreatDoor
