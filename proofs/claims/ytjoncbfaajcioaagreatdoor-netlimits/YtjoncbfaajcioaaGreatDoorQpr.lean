/-
  Print of the package quantity: a real's text.
-/
import Derived.Test.YtjoncbfaajcioaaGreatDoorQst
namespace Go.Proofs.YtjoncbfaajcioaaGreatDoor
open RowKit

/-- a whole number as it is told -/
def itL (n : Int) : List UInt8 := if n < 0 then 45 :: dgL 19 n.natAbs else dgL 19 n.toNat
theorem itL_eq (n : Int) (h0 : -1000000 ≤ n) (h1 : n ≤ 1000000) : Lib.itoa n = itL n := by
  unfold Lib.itoa itL
  split
  · rw [dgL_eq 19 _ (by omega)]
  · rw [dgL_eq 19 _ (by omega)]
def ahd (E : Int) : Nat := (E + 15).toNat % 3 + 1
/-- the text of a real: its sign, its short digits, the power of ten of the first -/
def prL (ng : Bool) (d : List UInt8) (E : Int) : List UInt8 :=
  (if ng = true then [45] else []) ++ (if E < -15 ∨ 14 < E then pnt d 1 ++ (101 :: itL E) else pnt d (ahd E) ++ ltF (E - ahd E + 1) lts)
theorem pointedI (l : List UInt8) (a : Nat) {A : Int} (w : World) (hA : A = (a : Int)) (hl : l.length ≤ 1000) (ha : a ≤ 1000) :
    Calls Tryz.prog 91 #[.string (tx l), .int .i64 A] w fun e w' => ∃ R : ByteArray, e = .returned (.string R) ∧ R = tx (pnt l a) ∧ R.size ≤ 3000 ∧ Below w.heap.size w w' := by
  subst hA
  refine (pointed_any l a w hl ha).mono ?_
  rintro e w' ⟨rfl, hb⟩
  refine ⟨_, rfl, rfl, ?_, hb⟩
  rw [tx_size]; unfold pnt
  split
  · simp; omega
  · simp; omega
theorem letterI (p : Int) (w : World) :
    Calls Tryz.prog 92 #[.int .i64 p] w fun e w' => ∃ R : ByteArray, e = .returned (.string R) ∧ R = tx (ltF p lts) ∧ R.size ≤ 3000 ∧ w' = w := by
  refine (letter_any p w).mono ?_
  rintro e w' ⟨rfl, rfl⟩
  refine ⟨_, rfl, rfl, ?_, rfl⟩
  rw [tx_size]
  have : ∀ l : List UInt8, (ltF p l).length ≤ 1 := fun l => by
    induction l with
    | nil => simp [ltF]
    | cons c r ih => unfold ltF; split <;> simp [ih]
  have := this lts; omega
theorem itoaI (n : Int) (h0 : -1000000 ≤ n) (h1 : n ≤ 1000000) (w : World) (htab : Pw w) :
    Calls Tryz.prog 64 #[.int .i64 n] w fun e w' => ∃ R : ByteArray, e = .returned (.string R) ∧ R = tx (itL n) ∧ R.size ≤ 3000 ∧ Below w.heap.size w w' := by
  refine (itoa_any n (by omega) (by omega) w htab).mono ?_
  rintro e w' ⟨rfl, hb⟩
  refine ⟨_, rfl, by rw [itL_eq n h0 h1]; rfl, ?_, hb⟩
  rw [itL_eq n h0 h1]
  show (tx (itL n)).size ≤ _
  rw [tx_size]; unfold itL
  have a := dgL_len 19 n.natAbs
  have b := dgL_len 19 n.toNat
  split
  · simp; omega
  · omega
theorem sg_test (x : Nat) (hx : x < 18446744073709551616) : decide (wrap64 (x : Int) < 0) = Fl.ng x := by
  unfold Fl.ng wrap64
  rcases Nat.lt_or_ge x 9223372036854775808 with h | h
  · rw [decide_eq_false (by omega), show x / 9223372036854775808 % 2 = 0 by omega]; rfl
  · rw [decide_eq_true (by omega), show x / 9223372036854775808 % 2 = 1 by omega]; rfl
theorem signbit_any (x : Nat) (hx : x < 18446744073709551616) (w : World) : Calls Tryz.prog 90 #[.float .f64 x] w fun e w' => e = .returned (.bool (Fl.ng x)) ∧ w' = w := by
  have h := sg_test x hx
  go_enter Tryz.func90, Tryz.ntmps90
  go_wp2
  go_ret
  refine ⟨?_, rfl⟩
  rw [← h]; rfl
theorem tx_nil (l : ByteArray) : (⟨#[]⟩ : ByteArray) ++ l = l := by apply tx_ext; simp
theorem tx_e : (⟨#[101]⟩ : ByteArray) = tx [101] := rfl
theorem tx_m : (⟨#[45]⟩ : ByteArray) = tx [45] := rfl
theorem tx_0 : (⟨#[]⟩ : ByteArray) = tx [] := rfl
set_option maxRecDepth 10000 in
set_option maxHeartbeats 1000000 in
theorem Print_by (x : Nat) (hx : x < 18446744073709551616) (d : List UInt8) (E : Int) (hd : d.length ≤ 100) (hE0 : -1000 ≤ E) (hE1 : E ≤ 1000) (w : World) (htab : Pw w)
    (hSh : Calls Tryz.prog 89 #[.float .f64 x] w fun r w' => r = .returned (.tuple #[.string (tx d), .int .i64 E, .int .i64 0]) ∧ Below w.heap.size w w') :
    Calls Tryz.prog 74 #[.float .f64 x] w fun r w' => r = .returned (.tuple #[.string (tx (prL (Fl.ng x) d E)), .int .i64 0]) ∧ Below w.heap.size w w' := by
  have hsg := fun W => signbit_any x hx W
  obtain ⟨ng, hng⟩ : ∃ b, Fl.ng x = b := ⟨_, rfl⟩
  rw [hng] at hsg ⊢
  clear hng
  rcases (by omega : (E < -15 ∨ 14 < E) ∨ (-15 ≤ E ∧ E ≤ 14)) with h | h
  · have HP : Hid (prL ng d E = (if ng = true then [45] else []) ++ (pnt d 1 ++ (101 :: itL E))) := by show _ = _; unfold prL; rw [if_pos h]
    cases ng
    all_goals
      rcases h with h | h
      all_goals
        first | (have h1I : E < -15 := h) | (have h1I : ¬ E < -15 := by omega)
        first | (have h2I : 14 < E := h) | (have h2I : ¬ 14 < E := by omega)
        go_enter Tryz.func74, Tryz.ntmps74
        go_wp2_with (first
          | (go_at_call 89; (with_reducible refine hSh.mono ?_); rintro e0 w1 ⟨rfl, B1⟩; have T1 := htab.kept B1)
          | (go_at_call 90; (with_reducible refine (hsg _).mono ?_); rintro e2 w2 ⟨rfl, rfl⟩)
          | (go_at_call 91; (with_reducible refine (pointedI d 1 _ (by omega) (by omega) (by omega)).mono ?_); rintro e3 w3 ⟨R, rfl, hR, hRs, B3⟩; have T3 := T1.kept B3; have g1 : ¬ 9223372036854775807 < 0 + R.size := (by omega); have g2 : ¬ 9223372036854775807 < 1 + R.size := (by omega); have g3 : ¬ 9223372036854775807 < R.size + 1 := (by omega); have g4 : ¬ 9223372036854775807 < R.size := (by omega); have g5 : ¬ 9223372036854775807 < 1 + R.size + 1 := (by omega); have HR := hid_q hR; clear hR)
          | (go_at_call 64; (with_reducible refine (itoaI E (by omega) (by omega) _ T3).mono ?_); rintro e4 w4 ⟨U, rfl, hU, hUs, B4⟩; have g6 : ¬ 9223372036854775807 < R.size + 1 + U.size := (by omega); have g7 : ¬ 9223372036854775807 < 1 + R.size + 1 + U.size := (by omega); have HU := hid_q hU; clear hU))
        go_ret2
        refine ⟨?_, B1.trans (below_le (B3.trans (below_le B4 B3.size)) B1.size)⟩
        rw [HP.out, HR.out, HU.out, tx_e]
        first | rw [tx_m, tx_app, tx_app, tx_app] | rw [tx_nil, tx_app, tx_app] | rw [tx_0, tx_app, tx_app, tx_app] | rw [tx_app, tx_app]
        simp
  · have HP : Hid (prL ng d E = (if ng = true then [45] else []) ++ (pnt d (ahd E) ++ ltF (E - ahd E + 1) lts)) := by
      show _ = _
      have hn : ¬ (E < -15 ∨ 14 < E) := by omega
      unfold prL; rw [if_neg hn]
    have h1I : ¬ E < -15 := by omega
    have h2I : ¬ 14 < E := by omega
    have ha : ahd E ≤ 3 := by unfold ahd; omega
    have haI : (E + 15) % 3 + 1 = ((ahd E : Nat) : Int) := by unfold ahd; omega
    have haJ : (E - -15).tmod 3 + 1 = ((ahd E : Nat) : Int) := by rw [Int.tmod_eq_emod_of_nonneg (by omega)]; unfold ahd; omega
    cases ng
    all_goals
      go_enter Tryz.func74, Tryz.ntmps74
      go_wp2_with (first
        | (go_at_call 89; (with_reducible refine hSh.mono ?_); rintro e0 w1 ⟨rfl, B1⟩; have T1 := htab.kept B1)
        | (go_at_call 90; (with_reducible refine (hsg _).mono ?_); rintro e2 w2 ⟨rfl, rfl⟩)
        | (go_at_call 91; (with_reducible refine (pointedI d (ahd E) _ (by first | exact haI | exact haJ | omega) (by omega) (by omega)).mono ?_); rintro e3 w3 ⟨R, rfl, hR, hRs, B3⟩; have g1 : ¬ 9223372036854775807 < 0 + R.size := (by omega); have g2 : ¬ 9223372036854775807 < 1 + R.size := (by omega); have g4 : ¬ 9223372036854775807 < R.size := (by omega); have HR := hid_q hR; clear hR)
        | (go_at_call 92; (with_reducible refine (letterI _ _).mono ?_); rintro e4 w4 ⟨U, rfl, hU, hUs, rfl⟩; have g6 : ¬ 9223372036854775807 < R.size + U.size := (by omega); have g7 : ¬ 9223372036854775807 < 1 + R.size + U.size := (by omega); have HU := hid_q hU; clear hU))
      go_ret2
      refine ⟨?_, B1.trans (below_le B3 B1.size)⟩
      rw [HP.out, HR.out, HU.out]
      first | rw [tx_m, tx_app, tx_app] | rw [tx_nil, tx_app] | rw [tx_0, tx_app, tx_app] | rw [tx_app]
      simp

end Go.Proofs.YtjoncbfaajcioaaGreatDoor
