/-
  stamp.Add and the document's Add: an entry of a matrix and a number together, in new memory.
-/
import Derived.Test.YtdgjnhboaajonaaBsc
namespace Go.Proofs.Ytdgjnhboaajonaa
open Fl RowKit

theorem hidS {p : Prop} (h : p) : Hid p := h
theorem finZ_of {Z : Cn} {r : Cw} (h : repz Z r) : finZ r = finC Z := finC_of h
theorem eql_slC (w : World) (a : Option Addr) (n c n' c' : Nat) : (binOp .eql 37 (.slice a n c) (.slice none n' c')).run Try.prog w = .ok (.bool a.isNone) w := Lib.run_eql_slice_nil w _ _ a n c n' c' Try.underlying37
theorem clone_c {A : Option Addr} {c n : Nat} {xs : List Cw} {w : World} (h : Src w A c n xs) (hsz : n * 16 ≤ 140737488355328) :
    Calls Try.prog 48 #[.slice A n c] w fun e w' => ∃ v, e = .returned v ∧ w'.ownsRow w.heap.size 59 1 v n (xs.map cx) ∧ Below w.heap.size w w' := by
  obtain ⟨i0, hi, hz0, hz1, hz2⟩ := info_parts Try.infoC
  have q29 := eql_slC
  obtain ⟨rfl, _, hc⟩ := h
  rcases hc.shape with ⟨rfl, h0⟩ | ⟨g, off, rfl⟩
  · have hxe : xs = [] := List.length_eq_zero_iff.1 h0
    subst hxe
    clear hc
    go_enter Try.func48, Try.ntmps48
    go_wp2_with fail
    go_ret
    exact ⟨.slice none 0 0, rfl, World.ownsRow_nil _ _ _ _, Below.refl _ _⟩
  · have HC : Hid (Rc w (some ⟨g, off, none⟩) xs) := hc.rd
    clear hc
    go_enter Try.func48, Try.ntmps48
    go_wp2_with (at_builtin; refine wpList_append_own _ rfl _ _ 37 rfl w.heap.size 59 i0 (.complex .f64 0 0) 1 16 Try.underlying37 hi hz0 hz1 hz2 rfl (by decide) _ _ _ rfl (World.ownsRow_made w #[] 0 (Nat.le_refl _) (Nat.zero_le _) rfl) ⟨g, off, none⟩ xs.length c (xs.map cx) rfl (by simp) ?c1 ?c2 ?c3 ?c4 ?c5 ?_)
    case c1 =>
      intro j u hj
      rw [List.getElem?_map] at hj
      have hl : j < xs.length := by
        rcases Nat.lt_or_ge j xs.length with h | h
        · exact h
        · rw [List.getElem?_eq_none h] at hj; simp at hj
      obtain ⟨b, o, h1, _, h3⟩ := HC.out j hl
      simp only [Option.some.injEq, Addr.mk.injEq, and_true] at h1
      obtain ⟨rfl, rfl⟩ := h1
      have ha : (⟨g, off, none⟩ : Addr).add j = ⟨g, off + j, none⟩ := by unfold Addr.add; split <;> simp_all
      rw [ha, World.cell?_alloc_lt _ _ _ (World.block_lt_of_cell? w _ h3), h3]
      rw [zat_lt hl] at hj
      exact hj
    case c2 => intro u hu; rw [List.mem_map] at hu; obtain ⟨n, _, rfl⟩ := hu; rfl
    case c3 => unfold maxLen; omega
    case c4 => omega
    case c5 => simp
    intro v' w1 hown' hgrow _
    go_wp2
    go_ret
    refine ⟨v', rfl, by simpa using hown', ?_⟩
    exact ((Below.refl _ w).alloc (Nat.le_refl _) _).grown hgrow (by simp) (by intro k hk; simp [Value.ownBlock] at hk; omega)
/-- what a function value of two numbers answers -/
def Op2 (F : FuncId) (op : Cn → Cn → Cn) : Prop := ∀ (W : World) (x y : Cw), okz x → okz y → Calls Try.prog F #[.complex .f64 x.1 x.2, .complex .f64 y.1 y.2] W fun e W' => ∃ (r : Cw) (m : Nat), e = .returned (.complex .f64 r.1 r.2) ∧ repz (op (anz x) (anz y)) r ∧ W' = W.drewN m
theorem op2_add : Op2 50 addZ := fun W x y hx hy => (add_any W (rep_ans hx.1) (rep_ans hx.2) (rep_ans hy.1) (rep_ans hy.2)).mono (by rintro e w' ⟨re, im, n, rfl, h1, h2, rfl⟩; exact ⟨(re, im), n, rfl, ⟨h1, h2⟩, rfl⟩)
theorem op2_sub : Op2 112 subZ := fun W x y hx hy => (sub_any W (rep_ans hx.1) (rep_ans hx.2) (rep_ans hy.1) (rep_ans hy.2)).mono (by rintro e w' ⟨re, im, n, rfl, h1, h2, rfl⟩; exact ⟨(re, im), n, rfl, ⟨h1, h2⟩, rfl⟩)
theorem ent2_add : Ent 50 := fun _ _ => by go_simp
theorem ent2_sub : Ent 112 := fun _ _ => by go_simp
end Go.Proofs.Ytdgjnhboaajonaa
