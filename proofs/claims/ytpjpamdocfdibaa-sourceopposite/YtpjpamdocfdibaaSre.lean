/-
  Where an element's number goes: the entries, in memory.
-/
import Derived.Test.YtpjpamdocfdibaaSrd
import Derived.Test.YtpjpamdocfdibaaStb
import Derived.Test.YtpjpamdocfdibaaSrp
import Derived.Deep.RegionHeldLaw
namespace Go.Proofs.Ytpjpamdocfdibaa
open Fl Go.Maps RowKit Joins Deep
set_option linter.unusedVariables false

/-- the function that the j-th entry holds -/
def eF (x : Elm) (j : Nat) : FuncId := if x.k = 4 then (if j = 0 then 35 else 36) else 107
/-- entries that lie in memory -/
def Ety (lo : Nat) (w : World) (A : Option Addr) (m : Nat) (I : Nat → Int) (F : Nat → FuncId) : Prop := ∀ j, j < m → ∃ q, A = some ⟨q, 0, none⟩ ∧ lo ≤ q ∧ q < w.heap.size ∧ w.cell? ⟨q, j * 2, none⟩ = some (.int .i64 (I j)) ∧ w.cell? ⟨q, j * 2 + 1, none⟩ = some (.func (.func (F j)) #[] #[])
theorem Ety.blk {lo : Nat} {w w' : World} {A : Option Addr} {m : Nat} {I : Nat → Int} {F : Nat → FuncId} (h : Ety lo w A m I F) (hs : w.heap.size ≤ w'.heap.size) (hb : ∀ q, lo ≤ q → q < w.heap.size → w'.heap[q]? = w.heap[q]?) : Ety lo w' A m I F := fun j hj => by
  obtain ⟨q, h1, h0, h2, h3, h4⟩ := h j hj
  have k := hb q h0 h2
  exact ⟨q, h1, h0, Nat.lt_of_lt_of_le h2 hs, (World.cell?_of_block k).trans h3, (World.cell?_of_block k).trans h4⟩
theorem Ety.on {lo : Nat} {w w' : World} {A : Option Addr} {m : Nat} {I : Nat → Int} {F : Nat → FuncId} (h : Ety lo w A m I F) (hb : Below w.heap.size w w') : Ety lo w' A m I F := h.blk hb.size (fun q _ h2 => hb.block q h2)
theorem Ety.drew {lo : Nat} {w : World} {A : Option Addr} {m : Nat} {I : Nat → Int} {F : Nat → FuncId} (h : Ety lo w A m I F) : Ety lo w.drew A m I F := h.on ((Below.refl _ _).drew)
theorem Ety.kv {lo base : Nat} {v : Value} {w w' : World} {A : Option Addr} {m : Nat} {I : Nat → Int} {F : Nat → FuncId} (h : Ety lo w A m I F) (k : Kv base v w w') (hv : ∀ g, v.ownBlock = some g → g < lo) : Ety lo w' A m I F := h.blk k.bel.size (fun q h1 h2 => k.ot q h2 (fun e => by have := hv q e; omega))
theorem ent_eF (x : Elm) (j : Nat) : Ent (eF x j) := by
  unfold eF
  split
  · split
    · exact ent2_sub
    · exact ent2_add
  · exact ent_instead
theorem op2_eF (x : Elm) (j : Nat) : Op2 (eF x j) (eO x j) := by
  unfold eF eO
  split
  · split
    · exact op2_sub
    · exact op2_add
  · exact op2_instead
set_option maxHeartbeats 4000000 in
theorem entries_any {w0 w : World} {nb p : Nat} {N : Ns} {b : Nb} {base s : Nat} {v : Value} {R : Nat → Cn} (h : Sw w0 w nb p N b base s v R) (x : Elm) (hx : x.n.size ≤ 100000) (ha : x.a.size ≤ 100000) (hb : x.b.size ≤ 100000) :
    Calls Try.prog 61 #[.pointer (some ⟨s, 0, none⟩), elV x] w fun e w' => ∃ A, e = .returned (.slice A (eM x) (eM x)) ∧ Ety w.heap.size w' A (eM x) (eI N x) (eF x) ∧ Below w.heap.size w w' := by
  have HN := hidS (h.on (bal w (.cells (elA x) 57)))
  have E0 : Hid (EC w (w.alloc (.cells (elA x) 57)) w.heap.size x) := ec_new w x
  have HB := hidS (bal w (.cells (elA x) 57))
  obtain ⟨l1, c10, c11, c12, c13, c14, c15, c16, c17⟩ := E0.out.f
  obtain ⟨wa, hwa⟩ : ∃ wa, w.alloc (.cells (elA x) 57) = wa := ⟨_, rfl⟩
  rw [hwa] at HN E0 HB l1 c10 c11 c12 c13 c14 c15 c16 c17
  have HROW := hidS (fun (W : World) (q : Sw w0 W nb p N b base s v R) => drow_any q x hx)
  have HPA := hidS (fun (W : World) (q : Sw w0 W nb p N b base s v R) => dplace_any q x.a ha)
  have HPB := hidS (fun (W : World) (q : Sw w0 W nb p N b base s v R) => dplace_any q x.b hb)
  unfold elV at HROW
  have HB0 := hidS (Below.refl wa.heap.size wa)
  unfold elA at hwa
  rcases kinds45 x.k with hk | hk | ⟨k4, k5⟩
  · have e1 : eM x = 2 := by unfold eM; rw [if_pos hk]
    have e2 : eI N x 0 = plI N x.a := by unfold eI; rw [if_pos hk, if_pos rfl]
    have e3 : eI N x 1 = plI N x.b := by unfold eI; rw [if_pos hk, if_neg (by decide)]
    have e4 : eF x 0 = 35 := by unfold eF; rw [if_pos hk, if_pos rfl]
    have e5 : eF x 1 = 36 := by unfold eF; rw [if_pos hk, if_neg (by decide)]
    rw [e1]
    have HE := hidS (And.intro e2 (And.intro e3 (And.intro e4 e5)))
    have b4 : ((x.k : Int) == 4) = true := by rw [hk]; rfl
    clear e1 e2 e3 e4 e5 hk h hx ha hb HROW
    unfold elV
    go_enter Try.func61, Try.ntmps61
    go_wp2
    go_region_held_law (fun W => W.cell? ⟨w.heap.size, 2, none⟩ = some (.string x.a) ∧ W.cell? ⟨w.heap.size, 3, none⟩ = some (.string x.b)) (first | exact ⟨c12, c13⟩ | go_keep) (first
      | (go_at_call 70; (with_reducible refine (HPA.out _ (by repeat first | with_reducible exact HN.out | with_reducible refine Sw.drew ?_)).mono ?_); rintro e w2 ⟨rfl, hw⟩; subst w2)
      | (go_at_call 70; (with_reducible refine (HPB.out _ (by repeat first | with_reducible exact HN.out | with_reducible refine Sw.drew ?_)).mono ?_); rintro e w2 ⟨rfl, hw⟩; subst w2))
    all_goals rename_i hHeld
    all_goals clear hHeld
    all_goals go_wp2_with fail
    go_ret
    obtain ⟨e2, e3, e4, e5⟩ := HE.out
    have hc := fun (j : Nat) => cell_of_row _ _ j _ _ (0, 0) (heap_alloc_new wa (.cells #[.int .i64 (plI N x.a), .func (.func 35) #[] #[], .int .i64 (plI N x.b), .func (.func 36) #[] #[]] 119))
    refine ⟨some ⟨wa.heap.size, 0, none⟩, rfl, Ety.drew ?_, (HB.out.alloc HB.out.size _).drew⟩
    intro j hj
    refine ⟨wa.heap.size, rfl, HB.out.size, by simp, ?_, ?_⟩
    · rw [hc (j * 2)]
      rcases (by omega : j = 0 ∨ j = 1) with rfl | rfl
      · rw [e2]; rfl
      · rw [e3]; rfl
    · rw [hc (j * 2 + 1)]
      rcases (by omega : j = 0 ∨ j = 1) with rfl | rfl
      · rw [e4]; rfl
      · rw [e5]; rfl
  · have e1 : eM x = 1 := by unfold eM; rw [if_neg (by omega), if_pos hk]
    have e2 : eI N x 0 = rwI N x := by unfold eI; rw [if_neg (by omega)]
    have e4 : eF x 0 = 107 := by unfold eF; rw [if_neg (by omega)]
    rw [e1]
    have HE := hidS (And.intro e2 e4)
    have b4 : ((x.k : Int) == 4) = false := by rw [hk]; rfl
    have b5 : ((x.k : Int) == 5) = true := by rw [hk]; rfl
    clear e1 e2 e4 hk h hx ha hb HPA HPB
    unfold elV
    go_enter Try.func61, Try.ntmps61
    go_wp2_with (first
      | (go_at_call 106; (with_reducible refine (HROW.out _ HN.out).mono ?_); rintro e w2 ⟨rfl, hb⟩; (have HB2 := hidS (HB.out.trans (hb.mono (Nat.le_of_lt l1)))); clear hb))
    go_ret
    obtain ⟨e2, e4⟩ := HE.out
    have hc := fun (j : Nat) => cell_of_row _ _ j _ _ (0, 0) (heap_alloc_new w2 (.cells #[.int .i64 (rwI N x), .func (.func 107) #[] #[]] 119))
    refine ⟨some ⟨w2.heap.size, 0, none⟩, rfl, ?_, HB2.out.alloc HB2.out.size _⟩
    intro j hj
    refine ⟨w2.heap.size, rfl, HB2.out.size, by simp, ?_, ?_⟩
    · rw [hc (j * 2)]
      obtain rfl : j = 0 := by omega
      rw [e2]; rfl
    · rw [hc (j * 2 + 1)]
      obtain rfl : j = 0 := by omega
      rw [e4]; rfl
  · have e1 : eM x = 0 := by unfold eM; rw [if_neg k4, if_neg k5]
    rw [e1]
    have b4 : ((x.k : Int) == 4) = false := by rw [beq_eq_false_iff_ne]; omega
    have b5 : ((x.k : Int) == 5) = false := by rw [beq_eq_false_iff_ne]; omega
    clear e1 k4 k5 h hx ha hb HPA HPB HROW
    unfold elV
    go_enter Try.func61, Try.ntmps61
    go_wp2_with fail
    go_ret
    exact ⟨none, rfl, fun j hj => absurd hj (Nat.not_lt_zero j), HB.out⟩
end Go.Proofs.Ytpjpamdocfdibaa
