/-
  pointed, letter of the package quantity.
-/
import Derived.Test.YtjoncbfaajcioaaGreatDoorShp
import Derived.Test.YtjoncbfaajcioaaGreatDoorBqf
import Derived.Test.YtjoncbfaajcioaaGreatDoorQtr
namespace Go.Proofs.YtjoncbfaajcioaaGreatDoor
open RowKit

/-- a text of bytes -/
def tx (l : List UInt8) : ByteArray := ⟨l.toArray⟩
theorem tx_size (l : List UInt8) : (tx l).size = l.length := by simp [tx, ByteArray.size]
theorem tx_data (l : List UInt8) : (tx l).data.toList = l := rfl
theorem tx_ext {a b : ByteArray} (h : a.data.toList = b.data.toList) : a = b := by
  cases a; cases b; simp at h; simp [h]
theorem tx_app (a b : List UInt8) : tx a ++ tx b = tx (a ++ b) := by
  apply tx_ext; simp [tx]
theorem tx_cut (l : List UInt8) (i j : Nat) : (tx l).extract i j = tx ((l.take j).drop i) := by
  apply tx_ext
  simp [tx, ByteArray.data_extract, List.drop_take]
theorem tx_of (a : ByteArray) : a = tx a.data.toList := rfl
/-- digits with a point, or noughts, behind the first of them -/
def pnt (l : List UInt8) (a : Nat) : List UInt8 := if a < l.length then l.take a ++ 46 :: l.drop a else l ++ List.replicate (a - l.length) 48

theorem rep_48 : ∀ c : Nat, Lib.repeatL [48] c = List.replicate c (48 : UInt8)
  | 0 => rfl
  | c + 1 => by
    unfold Lib.repeatL
    rw [rep_48 c]; rfl
theorem rep_any (c : Nat) {C : Int} (w : World) (hC : C = (c : Int)) (hc : c ≤ 1000) : Calls Tryz.prog 112 #[.string ⟨#[48]⟩, .int .i64 C] w fun e w' => ∃ R : ByteArray, e = .returned (.string R) ∧ R = tx (List.replicate c 48) ∧ R.size = c ∧ Below w.heap.size w w' := by
  subst hC
  refine (Go.Proofs.Any.strings_Repeat (ρ := suR) su105 suX ⟨#[48]⟩ c w (by omega) (by show 1 * c ≤ _; omega)).mono ?_
  rintro e w' ⟨rfl, hb⟩
  refine ⟨_, rfl, ?_, ?_, hb⟩
  · exact congrArg tx (rep_48 c)
  · rw [show (⟨#[48]⟩ : ByteArray).data.toList = [48] from rfl, rep_48]
    simp [ByteArray.size]
set_option maxRecDepth 10000 in
theorem pointed_any (l : List UInt8) (a : Nat) (w : World) (hl : l.length ≤ 1000) (ha : a ≤ 1000) :
    Calls Tryz.prog 91 #[.string (tx l), .int .i64 a] w fun e w' => e = .returned (.string (tx (pnt l a))) ∧ Below w.heap.size w w' := by
  have hsz := tx_size l
  by_cases h : a < l.length
  · have hI : ((a : Nat) : Int) < ((tx l).size : Int) := by omega
    have hc1 : ∀ W : World, (Instr.slice 9 (.string (tx l)) none (some (.int .i64 (a : Int))) none).run Tryz.prog W = .ok (.string (tx (l.take a))) W := fun W => by
      rw [run_slice_string_to_if W 9 (tx l) .i64 (a : Int) Tryz.underlying9, if_pos (by omega)]
      simp [tx_cut]
    have hc2 : ∀ W : World, (Instr.slice 9 (.string (tx l)) (some (.int .i64 (a : Int))) none none).run Tryz.prog W = .ok (.string (tx (l.drop a))) W := fun W => by
      rw [run_slice_string_from_if W 9 (tx l) .i64 (a : Int) Tryz.underlying9, if_pos (by omega)]
      simp [tx_cut, hsz]
    obtain ⟨A, hA⟩ : ∃ A, A = tx (l.take a) := ⟨_, rfl⟩
    obtain ⟨B, hB⟩ : ∃ B, B = tx (l.drop a) := ⟨_, rfl⟩
    have hAs : A.size ≤ 1000 := by rw [hA, tx_size, List.length_take]; omega
    have hBs : B.size ≤ 1000 := by rw [hB, tx_size, List.length_drop]; omega
    rw [← hA] at hc1
    rw [← hB] at hc2
    have g1 : ¬ 9223372036854775807 < A.size + 1 := by omega
    have g2 : ¬ 9223372036854775807 < A.size + 1 + B.size := by omega
    obtain ⟨T, hT⟩ : ∃ T, T = tx l := ⟨_, rfl⟩
    rw [← hT] at hc1 hc2 hI hsz ⊢
    have HA : Hid (A = tx (l.take a)) := hA
    have HB : Hid (B = tx (l.drop a)) := hB
    have HT : Hid (T = tx l) := hT
    clear hA hB hT
    go_enter Tryz.func91, Tryz.ntmps91
    go_wp2_with fail
    go_region_held_law (fun _ => True) (trivial) (fail)
    go_wp2_with fail
    go_ret
    refine ⟨?_, ⟨rfl, rfl, rfl, Nat.le_refl _, fun _ _ => rfl⟩⟩
    unfold pnt
    rw [if_pos h]
    show Ending.returned (.string (A ++ ⟨#[46]⟩ ++ B)) = _
    rw [HA.out, HB.out, show (⟨#[46]⟩ : ByteArray) = tx [46] from rfl, tx_app, tx_app]
    simp
  · have hI : ¬ ((a : Nat) : Int) < ((tx l).size : Int) := by omega
    go_enter Tryz.func91, Tryz.ntmps91
    go_wp2_with (go_at_call 112; refine (rep_any (a - l.length) _ (by first | omega | (unfold wrap64; omega) | (rw [IntKind.wrap_i64]; omega)) (by omega)).mono ?_; rintro e1 w1 ⟨R, rfl, hR, hRs, hb⟩; have g3 : ¬ 9223372036854775807 < (tx l).size + R.size := (by omega); have HR : Hid (R = tx (List.replicate (a - l.length) 48)) := hR; clear hR)
    go_ret
    refine ⟨?_, hb⟩
    unfold pnt
    rw [if_neg h, HR.out, tx_app]
    rfl

/-- the letters of the prefixes, and what each says -/
def lts : List UInt8 := [102, 112, 110, 117, 109, 107, 77, 71, 84]
/-- the letter of a power of ten, from the place i on -/
def ltF (p : Int) : List UInt8 → List UInt8
  | [] => []
  | c :: r => if pfV c.toNat = p then [c] else ltF p r
theorem lts_len : lts.length = 9 := rfl
set_option maxRecDepth 10000 in
theorem letter_any (p : Int) (w : World) :
    Calls Tryz.prog 92 #[.int .i64 p] w fun e w' => e = .returned (.string (tx (ltF p lts))) ∧ w' = w := by
  go_enter Tryz.func92, Tryz.ntmps92
  go_wp2_with fail
  go_loopw [6] (fun iv wr => ∃ i : Nat, iv = .int .i64 i ∧ i ≤ 9 ∧ ltF p lts = ltF p (lts.drop i) ∧ wr = w) (fun iv _ => 9 - (intOf iv).toNat)
  case atStart => exact ⟨0, rfl, by omega, rfl, rfl⟩
  case round =>
    obtain ⟨i, rfl, hi, hl, hw⟩ := hrel
    subst hw
    rcases (by omega : i = 0 ∨ i = 1 ∨ i = 2 ∨ i = 3 ∨ i = 4 ∨ i = 5 ∨ i = 6 ∨ i = 7 ∨ i = 8 ∨ i = 9) with q | q | q | q | q | q | q | q | q | q <;> subst q
    · by_cases hp : pfV 102 = p
      · have HL : Hid (ltF p lts = [102]) := hl.trans (if_pos hp)
        clear hl
        go_wp2_with (go_at_call 102; refine (Prefix_any 102 _).mono ?_; rintro e1 w1 ⟨rfl, rfl⟩; rw [hp])
        go_ret
        rw [HL.out]
        exact ⟨rfl, rfl⟩
      · have HL : Hid (ltF p lts = ltF p (lts.drop 1)) := hl.trans (if_neg hp)
        clear hl
        go_wp2_with (go_at_call 102; refine (Prefix_any 102 _).mono ?_; rintro e1 w1 ⟨rfl, rfl⟩)
        go_roundw
        case rel => exact ⟨1, by go_num, by omega, HL.out, trivial⟩
        case measure => simp [intOf]
    · by_cases hp : pfV 112 = p
      · have HL : Hid (ltF p lts = [112]) := hl.trans (if_pos hp)
        clear hl
        go_wp2_with (go_at_call 102; refine (Prefix_any 112 _).mono ?_; rintro e1 w1 ⟨rfl, rfl⟩; rw [hp])
        go_ret
        rw [HL.out]
        exact ⟨rfl, rfl⟩
      · have HL : Hid (ltF p lts = ltF p (lts.drop 2)) := hl.trans (if_neg hp)
        clear hl
        go_wp2_with (go_at_call 102; refine (Prefix_any 112 _).mono ?_; rintro e1 w1 ⟨rfl, rfl⟩)
        go_roundw
        case rel => exact ⟨2, by go_num, by omega, HL.out, trivial⟩
        case measure => simp [intOf]
    · by_cases hp : pfV 110 = p
      · have HL : Hid (ltF p lts = [110]) := hl.trans (if_pos hp)
        clear hl
        go_wp2_with (go_at_call 102; refine (Prefix_any 110 _).mono ?_; rintro e1 w1 ⟨rfl, rfl⟩; rw [hp])
        go_ret
        rw [HL.out]
        exact ⟨rfl, rfl⟩
      · have HL : Hid (ltF p lts = ltF p (lts.drop 3)) := hl.trans (if_neg hp)
        clear hl
        go_wp2_with (go_at_call 102; refine (Prefix_any 110 _).mono ?_; rintro e1 w1 ⟨rfl, rfl⟩)
        go_roundw
        case rel => exact ⟨3, by go_num, by omega, HL.out, trivial⟩
        case measure => simp [intOf]
    · by_cases hp : pfV 117 = p
      · have HL : Hid (ltF p lts = [117]) := hl.trans (if_pos hp)
        clear hl
        go_wp2_with (go_at_call 102; refine (Prefix_any 117 _).mono ?_; rintro e1 w1 ⟨rfl, rfl⟩; rw [hp])
        go_ret
        rw [HL.out]
        exact ⟨rfl, rfl⟩
      · have HL : Hid (ltF p lts = ltF p (lts.drop 4)) := hl.trans (if_neg hp)
        clear hl
        go_wp2_with (go_at_call 102; refine (Prefix_any 117 _).mono ?_; rintro e1 w1 ⟨rfl, rfl⟩)
        go_roundw
        case rel => exact ⟨4, by go_num, by omega, HL.out, trivial⟩
        case measure => simp [intOf]
    · by_cases hp : pfV 109 = p
      · have HL : Hid (ltF p lts = [109]) := hl.trans (if_pos hp)
        clear hl
        go_wp2_with (go_at_call 102; refine (Prefix_any 109 _).mono ?_; rintro e1 w1 ⟨rfl, rfl⟩; rw [hp])
        go_ret
        rw [HL.out]
        exact ⟨rfl, rfl⟩
      · have HL : Hid (ltF p lts = ltF p (lts.drop 5)) := hl.trans (if_neg hp)
        clear hl
        go_wp2_with (go_at_call 102; refine (Prefix_any 109 _).mono ?_; rintro e1 w1 ⟨rfl, rfl⟩)
        go_roundw
        case rel => exact ⟨5, by go_num, by omega, HL.out, trivial⟩
        case measure => simp [intOf]
    · by_cases hp : pfV 107 = p
      · have HL : Hid (ltF p lts = [107]) := hl.trans (if_pos hp)
        clear hl
        go_wp2_with (go_at_call 102; refine (Prefix_any 107 _).mono ?_; rintro e1 w1 ⟨rfl, rfl⟩; rw [hp])
        go_ret
        rw [HL.out]
        exact ⟨rfl, rfl⟩
      · have HL : Hid (ltF p lts = ltF p (lts.drop 6)) := hl.trans (if_neg hp)
        clear hl
        go_wp2_with (go_at_call 102; refine (Prefix_any 107 _).mono ?_; rintro e1 w1 ⟨rfl, rfl⟩)
        go_roundw
        case rel => exact ⟨6, by go_num, by omega, HL.out, trivial⟩
        case measure => simp [intOf]
    · by_cases hp : pfV 77 = p
      · have HL : Hid (ltF p lts = [77]) := hl.trans (if_pos hp)
        clear hl
        go_wp2_with (go_at_call 102; refine (Prefix_any 77 _).mono ?_; rintro e1 w1 ⟨rfl, rfl⟩; rw [hp])
        go_ret
        rw [HL.out]
        exact ⟨rfl, rfl⟩
      · have HL : Hid (ltF p lts = ltF p (lts.drop 7)) := hl.trans (if_neg hp)
        clear hl
        go_wp2_with (go_at_call 102; refine (Prefix_any 77 _).mono ?_; rintro e1 w1 ⟨rfl, rfl⟩)
        go_roundw
        case rel => exact ⟨7, by go_num, by omega, HL.out, trivial⟩
        case measure => simp [intOf]
    · by_cases hp : pfV 71 = p
      · have HL : Hid (ltF p lts = [71]) := hl.trans (if_pos hp)
        clear hl
        go_wp2_with (go_at_call 102; refine (Prefix_any 71 _).mono ?_; rintro e1 w1 ⟨rfl, rfl⟩; rw [hp])
        go_ret
        rw [HL.out]
        exact ⟨rfl, rfl⟩
      · have HL : Hid (ltF p lts = ltF p (lts.drop 8)) := hl.trans (if_neg hp)
        clear hl
        go_wp2_with (go_at_call 102; refine (Prefix_any 71 _).mono ?_; rintro e1 w1 ⟨rfl, rfl⟩)
        go_roundw
        case rel => exact ⟨8, by go_num, by omega, HL.out, trivial⟩
        case measure => simp [intOf]
    · by_cases hp : pfV 84 = p
      · have HL : Hid (ltF p lts = [84]) := hl.trans (if_pos hp)
        clear hl
        go_wp2_with (go_at_call 102; refine (Prefix_any 84 _).mono ?_; rintro e1 w1 ⟨rfl, rfl⟩; rw [hp])
        go_ret
        rw [HL.out]
        exact ⟨rfl, rfl⟩
      · have HL : Hid (ltF p lts = ltF p (lts.drop 9)) := hl.trans (if_neg hp)
        clear hl
        go_wp2_with (go_at_call 102; refine (Prefix_any 84 _).mono ?_; rintro e1 w1 ⟨rfl, rfl⟩)
        go_roundw
        case rel => exact ⟨9, by go_num, by omega, HL.out, trivial⟩
        case measure => simp [intOf]
    · have HL : Hid (ltF p lts = []) := hl
      clear hl
      go_wp2_with fail
      go_ret
      rw [HL.out]
      exact ⟨rfl, rfl⟩

end Go.Proofs.YtjoncbfaajcioaaGreatDoor
