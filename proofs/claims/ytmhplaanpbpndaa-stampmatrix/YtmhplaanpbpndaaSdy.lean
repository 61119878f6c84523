/-
  The document's sheet: a change at any place, and the place of a node.
-/
import Derived.Test.YtmhplaanpbpndaaSdx
namespace Go.Proofs.Ytmhplaanpbpndaa
open Fl Go.Maps RowKit Joins Deep
set_option linter.unusedVariables false
set_option maxRecDepth 20000
theorem Kd.refl (base s : Nat) (v : Value) (w : World) : Kd base s v w w := ⟨Below.refl _ _, fun _ _ _ _ => rfl⟩
theorem Kd.trans {base s : Nat} {v : Value} {a b c : World} (h : Kd base s v a b) (g : Kd base s v b c) : Kd base s v a c :=
  ⟨h.bel.trans g.bel, fun q h1 h2 h3 => by rw [g.ot q (Nat.lt_of_lt_of_le h1 h.bel.size) h2 h3, h.ot q h1 h2 h3]⟩
/-- a place: the ground's, or one of the matrix -/
def okp (m : Nat) (i : Int) : Prop := i < 0 ∨ (0 ≤ i ∧ i < (m : Int))
theorem dsh_chg_add {w : World} {base s : Nat} {v : Value} {m : Nat} {S : Sh} (h : Dh w base s v m S) {i j : Int} (hi : okp m i) (hj : okp m j) {y : Cw} (hy : okz y) :
    Calls Try.prog 62 #[.pointer (some ⟨s, 0, none⟩), .int .i64 i, .int .i64 j, .complex .f64 y.1 y.2] w fun e w' => e = .returned (.tuple #[]) ∧ Dh w' base s v m (S.chg addZ i j (anz y)) ∧ Kd base s v w w' := by
  unfold Sh.chg
  by_cases hg : i < 0 ∨ j < 0
  · rw [if_pos hg]
    exact (dsh_ground_add hg).mono (by rintro e w' ⟨rfl, rfl⟩; exact ⟨rfl, h, Kd.refl _ _ _ _⟩)
  · rw [if_neg hg]
    obtain ⟨h1, h2⟩ := hi.resolve_left (fun q => hg (.inl q))
    obtain ⟨h3, h4⟩ := hj.resolve_left (fun q => hg (.inr q))
    obtain ⟨a, rfl⟩ := Int.eq_ofNat_of_zero_le h1
    obtain ⟨b, rfl⟩ := Int.eq_ofNat_of_zero_le h3
    exact dsh_put_add h (by omega) (by omega) hy
theorem dsh_chg_sub {w : World} {base s : Nat} {v : Value} {m : Nat} {S : Sh} (h : Dh w base s v m S) {i j : Int} (hi : okp m i) (hj : okp m j) {y : Cw} (hy : okz y) :
    Calls Try.prog 63 #[.pointer (some ⟨s, 0, none⟩), .int .i64 i, .int .i64 j, .complex .f64 y.1 y.2] w fun e w' => e = .returned (.tuple #[]) ∧ Dh w' base s v m (S.chg subZ i j (anz y)) ∧ Kd base s v w w' := by
  unfold Sh.chg
  by_cases hg : i < 0 ∨ j < 0
  · rw [if_pos hg]
    exact (dsh_ground_sub hg).mono (by rintro e w' ⟨rfl, rfl⟩; exact ⟨rfl, h, Kd.refl _ _ _ _⟩)
  · rw [if_neg hg]
    obtain ⟨h1, h2⟩ := hi.resolve_left (fun q => hg (.inl q))
    obtain ⟨h3, h4⟩ := hj.resolve_left (fun q => hg (.inr q))
    obtain ⟨a, rfl⟩ := Int.eq_ofNat_of_zero_le h1
    obtain ⟨b, rfl⟩ := Int.eq_ofNat_of_zero_le h3
    exact dsh_put_sub h (by omega) (by omega) hy
/-- a node's place in the document's net; the ground's is below 0 -/
def plD (l : List Elm) (t : ByteArray) : Int := if bl t ∈ ndR l then (posL (ndR l) (bl t) : Int) else -1
theorem dpl18 {w : World} {p : Nat} {l : List Elm} (h : Dn w p l) (t : ByteArray) : Calls Try.prog 59 #[.pointer (some ⟨p, 0, none⟩), .string t] w fun e w' => e = .returned (.int .i64 (plD l t)) ∧ Below w.heap.size w w' := by
  have HP := hidS (dplaceN h t)
  clear h
  by_cases k : bl t ∈ ndR l
  · have hk : plD l t = (posL (ndR l) (bl t) : Int) := if_pos k
    rw [hk]
    rw [show decide (bl t ∈ ndR l) = true from decide_eq_true k] at HP
    go_enter Try.func59, Try.ntmps59
    go_wp2_with (go_at_call 79; (refine (HP.out).mono ?_); rintro e w9 ⟨rfl, hb⟩)
    exact bodyPost_ret (by simp [results, Try.results59, go_sem]; try rfl) rfl ⟨rfl, hb⟩
  · have hk : plD l t = -1 := if_neg k
    rw [hk]
    rw [show decide (bl t ∈ ndR l) = false from decide_eq_false k] at HP
    go_enter Try.func59, Try.ntmps59
    go_wp2_with (go_at_call 79; (refine (HP.out).mono ?_); rintro e w9 ⟨rfl, hb⟩)
    exact bodyPost_ret (by simp [results, Try.results59, go_sem]; try rfl) rfl ⟨rfl, hb⟩
end Go.Proofs.Ytmhplaanpbpndaa
