/-
  Trees, loops, loops of volts: Tree, Loops, VoltLoops of package graph, of a net that is made.
-/
import Derived.Test.YtdlecihkjokeiaaGoh
namespace Go.Proofs.Ytdlecihkjokeiaa
open Go.Maps Go.RowKit
set_option linter.unusedVariables false
set_option maxRecDepth 100000

def wJ (k : Nat) : Bool := k == 1 || k == 2 || k == 3 || k == 5 || k == 7 || k == 8
def wB (k : Nat) : Bool := k == 5 || k == 7
theorem retB {a b : Bool} (h : a = b) : Ending.returned (.bool a) = .returned (.bool b) := by rw [h]
theorem joins_any (k : Nat) (W : World) : Calls Try.prog 37 #[.int .u8 (k : Int)] W fun e w' => e = .returned (.bool (wJ k)) ∧ w' = W := by
  go_enter Try.func37, Try.ntmps37
  go_wp2_with fail
  all_goals go_ret
  all_goals refine ⟨retB ?_, rfl⟩
  all_goals (unfold wJ; simp_all; try omega)
theorem branches_any (k : Nat) (W : World) : Calls Try.prog 45 #[.int .u8 (k : Int)] W fun e w' => e = .returned (.bool (wB k)) ∧ w' = W := by
  go_enter Try.func45, Try.ntmps45
  go_wp2_with fail
  all_goals go_ret
  all_goals refine ⟨retB ?_, rfl⟩
  all_goals (unfold wB; rw [Bool.eq_iff_iff]; simp; omega)
theorem ent_joins : EntG 37 := fun _ _ => by go_simp
theorem ent_branches : EntG 45 := fun _ _ => by go_simp
/-- what is asked of a net that graph looks at; F: the forest of the elements that are wanted -/
structure Gn (w : World) (p f : Nat) (N : Ns) (want : Nat → Bool) (F : Fr) : Prop where
  nt : ∃ b0 b, Nt w b0 p N b
  nm : [] ∉ N.nm
  nd : ([48] :: N.nd).Nodup
  n0 : 0 < N.nd.length
  n1 : N.nd.length ≤ 1000
  ne : N.es.length ≤ 1000
  el : ∀ x ∈ N.es, ElN ([48] :: N.nd) x
  fu : f ≤ 10000
  g : growF f want ([48] :: N.nd) N.es (Fr.new ([48] :: N.nd)) = some F
  s : ∀ s ∈ N.nd, s.length ≤ 100000
theorem growF_fit {f : Nat} {want : Nat → Bool} {nodes : List Nm} {n : Nat} : ∀ {es : List Elm} {F F' : Fr} {i : Nat}, F.fit n i → growF f want nodes es F = some F' → F'.fit n (i + es.length) := by
  intro es
  induction es with
  | nil => intro F F' i h hg; cases hg; exact h
  | cons x t ih =>
    intro F F' i h hg
    rw [growF] at hg
    split at hg
    · cases q : F.take f (bl x.n) (pos nodes (bl x.a)) (pos nodes (bl x.b)) with
      | none => rw [q] at hg; cases hg
      | some F2 =>
        rw [q] at hg
        have := ih (h.take q) hg
        rw [List.length_cons, show i + (t.length + 1) = i + 1 + t.length by omega]; exact this
    · have := ih (h.mono (show i ≤ i + 1 by omega)) hg
      rw [List.length_cons, show i + (t.length + 1) = i + 1 + t.length by omega]; exact this
theorem Gn.fit {w : World} {p f : Nat} {N : Ns} {want : Nat → Bool} {F : Fr} (h : Gn w p f N want F) : F.fit (N.nd.length + 1) N.es.length := by
  have := growF_fit (Fr.fit.new ([48] :: N.nd)) h.g
  rw [Nat.zero_add] at this; exact this
theorem Gn.below {w w' : World} {p f : Nat} {N : Ns} {want : Nat → Bool} {F : Fr} (h : Gn w p f N want F) (hb : Below w.heap.size w w') : Gn w' p f N want F := by
  obtain ⟨b0, b, h1⟩ := h.nt
  exact ⟨⟨b0, b, h1.below hb⟩, h.nm, h.nd, h.n0, h.n1, h.ne, h.el, h.fu, h.g, h.s⟩
theorem grow_j {w : World} {p f : Nat} {N : Ns} {F : Fr} (h : Gn w p f N wJ F) : Calls Try.prog 36 #[.pointer (some ⟨p, 0, none⟩), .func (.func 37) #[] #[]] w fun e w' => ∃ fp B', e = .returned (.tuple #[.pointer (some ⟨fp, 0, none⟩), .bool true]) ∧ Fo w' w.heap.size fp F B' ∧ Below w.heap.size w w' := by
  obtain ⟨b0, b, hN⟩ := h.nt
  exact grow_any _ _ ent_joins joins_any w b0 p f N b F hN h.nm h.nd h.n0 h.n1 h.ne h.el h.fu h.g h.s
theorem grow_b {w : World} {p f : Nat} {N : Ns} {F : Fr} (h : Gn w p f N wB F) : Calls Try.prog 36 #[.pointer (some ⟨p, 0, none⟩), .func (.func 45) #[] #[]] w fun e w' => ∃ fp B', e = .returned (.tuple #[.pointer (some ⟨fp, 0, none⟩), .bool true]) ∧ Fo w' w.heap.size fp F B' ∧ Below w.heap.size w w' := by
  obtain ⟨b0, b, hN⟩ := h.nt
  exact grow_any _ _ ent_branches branches_any w b0 p f N b F hN h.nm h.nd h.n0 h.n1 h.ne h.el h.fu h.g h.s
theorem tree_any {w : World} {p f : Nat} {N : Ns} {F : Fr} (h : Gn w p f N wJ F) : Calls Try.prog 11 #[.pointer (some ⟨p, 0, none⟩)] w fun e w' => ∃ v, e = .returned v ∧ w'.ownsRow w.heap.size 9 1 v F.tr.length (F.tr.map sv) ∧ Below w.heap.size w w' := by
  have hg := grow_j h
  go_enter Try.func11, Try.ntmps11
  go_wp2_with (go_at_call 36; (with_reducible refine hg.mono ?_); rintro e1 w1 ⟨fp, B, rfl, hF, hb⟩; (obtain ⟨c0, c1, c2, c3⟩ := hF.c); (have HF : Hid _ := hF); clear hF)
  go_ret
  exact ⟨_, rfl, HF.out.tr, hb⟩
theorem loops_any {w : World} {p f : Nat} {N : Ns} {F : Fr} (h : Gn w p f N wJ F) : Calls Try.prog 12 #[.pointer (some ⟨p, 0, none⟩)] w fun e w' => ∃ v lv, e = .returned v ∧ LL w' w.heap.size 29 9 1 nmE v lv F.lp ∧ Below w.heap.size w w' := by
  have hg := grow_j h
  go_enter Try.func12, Try.ntmps12
  go_wp2_with (go_at_call 36; (with_reducible refine hg.mono ?_); rintro e1 w1 ⟨fp, B, rfl, hF, hb⟩; (obtain ⟨c0, c1, c2, c3⟩ := hF.c); (have HF : Hid _ := hF); clear hF)
  go_ret
  exact ⟨_, _, rfl, HF.out.lps, hb⟩
theorem volt_any {w : World} {p f : Nat} {N : Ns} {F : Fr} (h : Gn w p f N wB F) : Calls Try.prog 20 #[.pointer (some ⟨p, 0, none⟩)] w fun e w' => e = .returned (.bool (decide (0 < F.lp.length))) ∧ Below w.heap.size w w' := by
  have hg := grow_b h
  go_enter Try.func20, Try.ntmps20
  go_wp2_with (go_at_call 36; (with_reducible refine hg.mono ?_); rintro e1 w1 ⟨fp, B, rfl, hF, hb⟩; (obtain ⟨c0, c1, c2, c3⟩ := hF.c); (obtain ⟨A3, cap3, hv3⟩ := row_slice hF.lps.out); (rw [hv3, ← hF.lps.len] at c3); clear hF hv3)
  go_ret
  exact ⟨rfl, hb⟩

end Go.Proofs.Ytdlecihkjokeiaa
