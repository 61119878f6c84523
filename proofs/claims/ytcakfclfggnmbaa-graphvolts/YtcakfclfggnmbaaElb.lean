/-
  Elements: what a kind is (natureOf, Letter, Unit, Of, Name of package value).
-/
import Derived.Test.YtcakfclfggnmbaaEla
namespace Go.Proofs.Ytcakfclfggnmbaa
open Fl RowKit
set_option linter.unusedVariables false

/-- the table: letter, unit, above, phase, four -/
def ltr : Nat → Nat
  | 1 => 82 | 2 => 76 | 3 => 67 | 4 => 73 | 5 => 86 | 6 => 71 | 7 => 69 | 8 => 80 | _ => 0
def unS : Nat → ByteArray
  | 1 => ⟨#[111, 104, 109]⟩ | 2 => ⟨#[104, 101, 110, 114, 121]⟩ | 3 => ⟨#[102, 97, 114, 97, 100]⟩ | 4 => ⟨#[97, 109, 112, 101, 114, 101]⟩ | 5 => ⟨#[118, 111, 108, 116]⟩ | 6 => ⟨#[115, 105, 101, 109, 101, 110, 115]⟩ | 7 => ⟨#[]⟩ | 8 => ⟨#[111, 104, 109]⟩ | _ => ⟨#[]⟩
def abv : Nat → Bool
  | 1 => true | 2 => true | 3 => true | 8 => true | _ => false
def phs : Nat → Bool
  | 4 => true | 5 => true | _ => false
def fou : Nat → Bool
  | 6 => true | 7 => true | _ => false
def natV (k : Nat) : Value := .agg #[.int .u8 (ltr k : Nat), .string (unS k), .bool (abv k), .bool (phs k), .bool (fou k)]
theorem nat_none {k : Nat} (h : k = 0 ∨ 8 < k) : ltr k = 0 ∧ unS k = ⟨#[]⟩ ∧ abv k = false ∧ phs k = false ∧ fou k = false := by
  rcases h with rfl | h
  · exact ⟨rfl, rfl, rfl, rfl, rfl⟩
  · match k, h with
    | n + 9, _ => exact ⟨rfl, rfl, rfl, rfl, rfl⟩
set_option maxRecDepth 100000 in
set_option maxHeartbeats 2000000 in
theorem nature_any (k : Nat) (w : World) :
    Calls Try.prog 66 #[.int .u8 (k : Int)] w fun e w' => e = .returned (natV k) ∧ Below w.heap.size w w' := by
  have HB : Hid (∀ a b c d e t, Below w.heap.size w (w.alloc (.cells #[a, b, c, d, e] t))) := fun a b c d e t => (Below.refl _ _).alloc (Nat.le_refl _) _
  rcases (show k = 1 ∨ k = 2 ∨ k = 3 ∨ k = 4 ∨ k = 5 ∨ k = 6 ∨ k = 7 ∨ k = 8 ∨ (k = 0 ∨ 8 < k) from by omega) with rfl | rfl | rfl | rfl | rfl | rfl | rfl | rfl | h
  case inr.inr.inr.inr.inr.inr.inr.inr =>
    have h1 : ((k : Int) == 1) = false := by simp; omega
    have h2 : ((k : Int) == 2) = false := by simp; omega
    have h3 : ((k : Int) == 3) = false := by simp; omega
    have h4 : ((k : Int) == 4) = false := by simp; omega
    have h5 : ((k : Int) == 5) = false := by simp; omega
    have h6 : ((k : Int) == 6) = false := by simp; omega
    have h7 : ((k : Int) == 7) = false := by simp; omega
    have h8 : ((k : Int) == 8) = false := by simp; omega
    obtain ⟨e1, e2, e3, e4, e5⟩ := nat_none h
    unfold natV
    rw [e1, e2, e3, e4, e5]
    clear h e1 e2 e3 e4 e5
    go_enter Try.func66, Try.ntmps66
    go_wp2_with fail
    refine bodyPost_ret (by simp [results, Try.results66, go_sem]; try rfl) rfl ?_
    exact ⟨rfl, HB.out _ _ _ _ _ _⟩
  all_goals
    go_enter Try.func66, Try.ntmps66
    go_wp2_with fail
    refine bodyPost_ret (by simp [results, Try.results66, go_sem]; try rfl) rfl ?_
    exact ⟨rfl, HB.out _ _ _ _ _ _⟩

@[go_sem] theorem run_fieldL (a b c d e : Value) (w : World) : Sem.run Try.prog (Instr.field 113 (.agg #[a, b, c, d, e]) 0) w = .ok a w := by kernel_rfl
@[go_sem] theorem run_fieldU (a b c d e : Value) (w : World) : Sem.run Try.prog (Instr.field 113 (.agg #[a, b, c, d, e]) 1) w = .ok b w := by kernel_rfl
/-- the kind of a letter; 0: none -/
def ofK (c : Nat) : Nat := if c = 82 then 1 else if c = 76 then 2 else if c = 67 then 3 else if c = 73 then 4 else if c = 86 then 5 else if c = 71 then 6 else if c = 69 then 7 else if c = 80 then 8 else 0
theorem of_ltr {k : Nat} (h1 : 1 ≤ k) (h8 : k ≤ 8) : ofK (ltr k) = k := by
  rcases (show k = 1 ∨ k = 2 ∨ k = 3 ∨ k = 4 ∨ k = 5 ∨ k = 6 ∨ k = 7 ∨ k = 8 from by omega) with rfl | rfl | rfl | rfl | rfl | rfl | rfl | rfl <;> rfl
theorem of_none {c : Nat} (h : ∀ j, 1 ≤ j → j < 9 → ltr j ≠ c) : ofK c = 0 := by
  have h1 : 82 ≠ c := h 1 (by omega) (by omega)
  have h2 : 76 ≠ c := h 2 (by omega) (by omega)
  have h3 : 67 ≠ c := h 3 (by omega) (by omega)
  have h4 : 73 ≠ c := h 4 (by omega) (by omega)
  have h5 : 86 ≠ c := h 5 (by omega) (by omega)
  have h6 : 71 ≠ c := h 6 (by omega) (by omega)
  have h7 : 69 ≠ c := h 7 (by omega) (by omega)
  have h8 : 80 ≠ c := h 8 (by omega) (by omega)
  unfold ofK
  rw [if_neg (Ne.symm h1), if_neg (Ne.symm h2), if_neg (Ne.symm h3), if_neg (Ne.symm h4), if_neg (Ne.symm h5), if_neg (Ne.symm h6), if_neg (Ne.symm h7), if_neg (Ne.symm h8)]
theorem ofK_le (c : Nat) : ofK c ≤ 8 := by
  unfold ofK
  repeat' split
  all_goals omega
theorem ltr_of {c : Nat} (h : ofK c ≠ 0) : ltr (ofK c) = c := by
  unfold ofK at h ⊢
  repeat' split
  all_goals (try subst c)
  all_goals first | rfl | (exfalso; revert h; simp_all)
theorem ltr_lt (k : Nat) : ltr k < 256 := by unfold ltr; split <;> omega
set_option maxRecDepth 100000 in
theorem kof_any (c : Nat) (w : World) (hc : c < 256) :
    Calls Try.prog 89 #[.int .u8 (c : Int)] w fun e w' => e = .returned (.tuple #[.int .u8 (ofK c : Nat), .bool (ofK c != 0)]) ∧ Below w.heap.size w w' := by
  go_enter Try.func89, Try.ntmps89
  go_wp2_with fail
  go_loopw [4] (fun kv wr => ∃ k : Nat, kv = .int .u8 k ∧ 1 ≤ k ∧ k ≤ 9 ∧ (∀ j, 1 ≤ j → j < k → ltr j ≠ c) ∧ Below w.heap.size w wr) (fun kv _ => 9 - (intOf kv).toNat)
  case atStart => exact ⟨1, rfl, by omega, by omega, fun j h1 h2 => absurd h2 (by omega), Below.refl _ _⟩
  case round =>
    obtain ⟨k, rfl, hk1, hk9, hno, hbel⟩ := hrel
    have HN : Hid (∀ j, 1 ≤ j → j < k → ltr j ≠ c) := hno
    have HB : Hid (Below w.heap.size w wr) := hbel
    clear hno hbel
    by_cases hk : k ≤ 8
    · have hl := ltr_lt k
      by_cases he : ltr k = c
      · have he2 : (((ltr k : Nat) : Int) == (c : Int)) = true := by rw [he]; simp
        go_wp2_with (first | (go_at_call 66; (with_reducible refine (nature_any k _).mono ?_); rintro e w' ⟨rfl, hb⟩; (have HB2 : Hid (Below wr.heap.size wr w') := hb); clear hb; unfold natV))
        go_ret2
        have h3 : ofK c = k := by rw [← he]; exact of_ltr hk1 hk
        refine ⟨?_, HB.out.trans (HB2.out.mono HB.out.size)⟩
        rw [h3, show (k != 0) = true from by simp; omega]
        rfl
      · have he2 : (((ltr k : Nat) : Int) == (c : Int)) = false := by simp; omega
        have hw : IntKind.u8.wrap ((k : Int) + 1) = ((k + 1 : Nat) : Int) := by rw [IntKind.wrap_u8]; omega
        go_wp2_with (first | (go_at_call 66; (with_reducible refine (nature_any k _).mono ?_); rintro e w' ⟨rfl, hb⟩; (have HB2 : Hid (Below wr.heap.size wr w') := hb); clear hb; unfold natV))
        go_roundw
        case rel =>
          refine ⟨k + 1, by go_num, by omega, by omega, fun j h1 h2 => ?_, HB.out.trans (HB2.out.mono HB.out.size)⟩
          rcases Nat.lt_succ_iff_lt_or_eq.1 h2 with h | rfl
          · exact HN.out j h1 h
          · exact he
        case measure => simp [intOf]; omega
    · have e : k = 9 := by omega
      subst e
      have h0 := of_none HN.out
      have H0 : Hid (ofK c = 0) := h0
      clear h0
      go_wp2_with fail
      go_ret2
      exact ⟨by rw [H0.out]; rfl, HB.out⟩
end Go.Proofs.Ytcakfclfggnmbaa
