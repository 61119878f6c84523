/-
  The document's Lower: its order.
-/
import Derived.Test.YtklbgibhbnijaaaLrd
namespace Go.Proofs.Ytklbgibhbnijaaa
open Fl RowKit

set_option maxHeartbeats 1000000 in
theorem r9order_none {v : Value} {n : Nat} {A B : Value} {odd : Bool} {w : World} (h : Hr w v false n A B odd) :
    Calls Try.prog 72 #[v] w fun e w' => e = .returned (.slice none 0 0) ∧ w' = w := by
  have HH := hid_o h
  clear h
  go_enter Try.func72, Try.ntmps72
  go_wp2_with (go_at_call 109; (with_reducible refine (r9none_any HH.out).mono ?_); rintro e w1 ⟨rfl, rfl⟩)
  go_ret
  exact ⟨rfl, rfl⟩
set_option maxHeartbeats 1000000 in
theorem r9order_any {w : World} {b p n gr go cr co : Nat} {bl cp : Nat → Nat} {M : Nat → Nat → Cw} {o : Nat → Nat} {odd ties : Bool} (hn : n ≤ 64) (h : Lr w b p n gr go cr co bl cp M o odd ties) :
    Calls Try.prog 72 #[.pointer (some ⟨p, 0, none⟩)] w fun e w' => ∃ v, e = .returned v ∧ Ir w' w.heap.size v n (ri n o) ∧ Below w.heap.size w w' := by
  obtain ⟨i0, hi, hz0, hz1, hz2⟩ := info_parts Try.infoI
  have HH := hid_o h.hr
  have c2 := h.v.c2
  have pl := h.v.lt
  have HO := hid_o h.ord
  have hl : (ri n o).length = n := h.ord.len
  clear h
  go_enter Try.func72, Try.ntmps72
  go_wp2_with (first
    | (go_at_call 109; (with_reducible refine (r9none_any HH.out).mono ?_); rintro e w1 ⟨rfl, rfl⟩)
    | (at_builtin; refine wpList_append_own _ rfl _ _ 31 rfl w1.heap.size 3 i0 (.int .i64 0) 1 8 Try.underlying31 hi hz0 hz1 hz2 rfl (by decide) _ 0 [] rfl (World.ownsRow_nil _ _ _ _) ⟨go, 0, none⟩ n co ((ri n o).map ci) rfl (by simp [hl]) ?c1 ?c2 ?c3 ?c4 ?c5 ?_))
  case c1 =>
    intro j u hj
    have hjn : j < n := by
      rcases Nat.lt_or_ge j n with h | h
      · exact h
      · rw [List.getElem?_eq_none (by simp [hl]; omega)] at hj; simp at hj
    have hc := HO.out.own.cellAt j (by omega)
    have ha : (⟨go, 0, none⟩ : Addr).add j = ⟨go, j, none⟩ := by unfold Addr.add; split <;> simp_all
    rw [ha, hc]
    exact hj
  case c2 => intro u hu; rw [List.mem_map] at hu; obtain ⟨n, _, rfl⟩ := hu; rfl
  case c3 => unfold maxLen; simp; omega
  case c4 => simp; omega
  case c5 => exact Nat.le_refl _
  · intro v' w2 hown' hgrow _
    have R2 := (Below.refl w1.heap.size w1).grown hgrow (Nat.le_refl _) (by intro k hk; simp [Value.ownBlock] at hk)
    clear hgrow
    go_wp2
    go_ret
    exact ⟨v', rfl, ⟨hl, by simpa [hl] using hown'⟩, R2⟩
end Go.Proofs.Ytklbgibhbnijaaa
