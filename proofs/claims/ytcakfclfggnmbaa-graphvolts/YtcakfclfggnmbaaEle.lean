/-
  Elements: the document's Letter, Unit, Of, Name.
-/
import Derived.Test.YtcakfclfggnmbaaEld
namespace Go.Proofs.Ytcakfclfggnmbaa
open Fl RowKit
set_option linter.unusedVariables false

set_option maxRecDepth 100000 in
set_option maxHeartbeats 2000000 in
theorem rof_any (c : Nat) (w : World) (hc : c < 256) :
    Calls Try.prog 85 #[.int .u8 (c : Int)] w fun e w' => e = .returned (.tuple #[.int .u8 (ofK c : Nat), .bool (ofK c != 0)]) ∧ Below w.heap.size w w' := by
  go_enter Try.func85, Try.ntmps85
  go_wp2_with (first | (go_at_call 83; (with_reducible refine (rows_any _).mono ?_); rintro e w' ⟨rfl, ht, hb⟩; (have HT : Hid (Tab w' w.heap.size) := ht); (have HB : Hid (Below w.heap.size w w') := hb); clear hb ht))
  go_loopw [5] (fun iv wr => ∃ i : Nat, iv = .int .i64 i ∧ i ≤ 8 ∧ (∀ j, 1 ≤ j → j < i + 1 → ltr j ≠ c) ∧ wr = w') (fun iv _ => 8 - (intOf iv).toNat)
  case atStart => exact ⟨0, rfl, by omega, fun j h1 h2 => absurd h2 (by omega), rfl⟩
  case round =>
    obtain ⟨i, rfl, hi8, hno, hw⟩ := hrel
    subst hw
    have HN : Hid (∀ j, 1 ≤ j → j < i + 1 → ltr j ≠ c) := hno
    clear hno
    by_cases hi : i < 8
    · obtain ⟨q0, q1, -⟩ := HT.out.row hi
      have hl := ltr_lt (i + 1)
      by_cases he : ltr (i + 1) = c
      · have he2 : (((ltr (i + 1) : Nat) : Int) == (c : Int)) = true := by rw [he]; simp
        go_wp2_with fail
        go_ret2
        have h3 : ofK c = i + 1 := by rw [← he]; exact of_ltr (by omega) (by omega)
        refine ⟨?_, HB.out⟩
        rw [h3]
        rfl
      · have he2 : (((ltr (i + 1) : Nat) : Int) == (c : Int)) = false := by simp; omega
        go_wp2_with fail
        go_roundw
        case rel =>
          refine ⟨i + 1, by go_num, by omega, fun j h1 h2 => ?_, trivial⟩
          rcases Nat.lt_succ_iff_lt_or_eq.1 h2 with h | rfl
          · exact HN.out j h1 h
          · exact he
        case measure => simp [intOf]; omega
    · have e : i = 8 := by omega
      subst e
      have H0 : Hid (ofK c = 0) := of_none HN.out
      go_wp2_with fail
      go_ret2
      exact ⟨by rw [H0.out]; rfl, HB.out⟩
set_option maxRecDepth 100000 in
theorem rname_any (s : ByteArray) (w : World) (hs : s.size ≤ 140737488351232) :
    Calls Try.prog 73 #[.string s] w fun e w' => e = .returned (.tuple #[.int .u8 (nmK s : Nat), .bool (nmK s != 0)]) ∧ Below w.heap.size w w' := by
  rcases (show s.size < 2 ∨ 16 < s.size ∨ (2 ≤ s.size ∧ s.size ≤ 16) from by omega) with h | h | h
  · rw [nm_out (by omega)]
    go_enter Try.func73, Try.ntmps73
    go_wp2_with fail
    go_ret2
    exact ⟨rfl, Below.refl _ _⟩
  · rw [nm_out (by omega)]
    go_enter Try.func73, Try.ntmps73
    go_wp2_with fail
    go_ret2
    exact ⟨rfl, Below.refl _ _⟩
  · obtain ⟨h1, h2⟩ := h
    have hpos : 0 < s.size := by omega
    have hg := byt_get hpos
    have hlt := byt_lt s 0
    have hx := ext_plF (s := s) (by omega)
    have hxs : (s.extract 1 s.size).size ≤ 140737488351232 := by rw [ext_size (by omega)]; omega
    cases hd : plF s 1
    · rw [nm_bad hd]
      rw [hd] at hx
      go_enter Try.func73, Try.ntmps73
      go_wp2_with (first
        | (go_at_call 84; (with_reducible refine (rbytes_any _ _ hxs).mono ?_); rintro e w2 ⟨rfl, hw2⟩; subst hw2; rw [hx]))
      go_ret2
      exact ⟨rfl, Below.refl _ _⟩
    · rw [nm_in h1 h2 hd]
      rw [hd] at hx
      obtain ⟨c, hc⟩ : ∃ c, c = byt s 0 := ⟨_, rfl⟩
      rw [← hc] at hg hlt ⊢
      clear hc
      go_enter Try.func73, Try.ntmps73
      go_wp2_with (first
        | (go_at_call 84; (with_reducible refine (rbytes_any _ _ hxs).mono ?_); rintro e w2 ⟨rfl, hw2⟩; subst hw2; rw [hx])
        | (go_at_call 85; (try rw [hg]); (with_reducible refine (rof_any c _ hlt).mono ?_); rintro e w' ⟨rfl, hb⟩; (have HB : Hid _ := hb); clear hb))
      go_ret2
      exact ⟨rfl, HB.out⟩
end Go.Proofs.Ytcakfclfggnmbaa
