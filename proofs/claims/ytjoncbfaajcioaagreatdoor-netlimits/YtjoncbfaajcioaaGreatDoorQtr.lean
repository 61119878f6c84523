/-
  What strings.TrimRight of one byte hands back.
-/
import Derived.Test.YtjoncbfaajcioaaGreatDoorBqf
namespace Go.Proofs.YtjoncbfaajcioaaGreatDoor
open RowKit

/-- how many bytes are left, if those at the end that are c are struck -/
def trN (s : ByteArray) (c : Nat) : Nat → Nat
  | 0 => 0
  | n + 1 => if qbyt s n = c then trN s c n else n + 1
def szOf : Value → Nat | .string t => t.size | _ => 0
theorem size_cut (t : ByteArray) (n : Nat) (h : n ≤ t.size) : (t.extract 0 n).size = n := by
  rw [ByteArray.size_extract]; omega
theorem byt_cut (t : ByteArray) (n j : Nat) (h : n ≤ t.size) (hj : j < n) : qbyt (t.extract 0 n) j = qbyt t j := by
  have h1 : j < (t.extract 0 n).size := by rw [size_cut t n h]; exact hj
  rw [← qbyt_get h1, ← qbyt_get (show j < t.size by omega)]
  congr 1
  rw [ByteArray.getElem_extract]
  simp
theorem trimByte_any (s : ByteArray) (c : Nat) (w : World) (hs : s.size ≤ 1000) :
    Calls Tryz.prog 140 #[.string s, .int .u8 c] w fun e w' => ∃ t : ByteArray, e = .returned (.string t) ∧ t.size = trN s c s.size ∧ (∀ j, j < t.size → qbyt t j = qbyt s j) ∧ w' = w := by
  go_enter Tryz.func140, Tryz.ntmps140
  go_wp2
  go_loopw [0] (fun sv wr => ∃ t : ByteArray, sv = .string t ∧ t.size ≤ s.size ∧ trN s c t.size = trN s c s.size ∧ (∀ j, j < t.size → qbyt t j = qbyt s j) ∧ wr = w) (fun sv _ => szOf sv)
  case atStart => exact ⟨s, rfl, Nat.le_refl _, rfl, fun _ _ => rfl, rfl⟩
  case round =>
    obtain ⟨t, rfl, hle, htr, hb, rfl⟩ := hrel
    have HTR : Hid (trN s c t.size = trN s c s.size) := htr
    have HBY : Hid (∀ j, j < t.size → qbyt t j = qbyt s j) := hb
    clear htr hb
    by_cases h0 : 0 < t.size
    · have h0I : (0 : Int) < t.size := by omega
      have hlt : t.size - 1 < t.size := by omega
      have hg := qbyt_get hlt
      by_cases hbc : qbyt t (t.size - 1) = c
      · go_wp2
        go_roundw
        case rel =>
          have hc2 := size_cut t (t.size - 1) (by omega)
          refine ⟨_, rfl, by omega, ?_, fun q hq => ?_, by first | rfl | trivial⟩
          · rw [hc2, ← HTR.out]
            obtain ⟨m, hm⟩ : ∃ m, t.size = m + 1 := ⟨t.size - 1, by omega⟩
            rw [hm, Nat.add_sub_cancel]
            rw [hm, Nat.add_sub_cancel] at hbc
            have hb := HBY.out m (by omega)
            show trN s c m = if qbyt s m = c then trN s c m else m + 1
            rw [if_pos (by rw [← hb]; exact hbc)]
          · rw [hc2] at hq
            rw [byt_cut t _ q (by omega) hq]
            exact HBY.out q (by omega)
        case measure =>
          show (t.extract 0 (t.size - 1)).size < t.size
          rw [size_cut t _ (by omega)]; omega
      · have hbI : ((qbyt t (t.size - 1) : Int) == (c : Int)) = false := by simp; omega
        go_wp2
        go_ret
        refine ⟨t, rfl, ?_, HBY.out, rfl⟩
        rw [← HTR.out]
        obtain ⟨m, hm⟩ : ∃ m, t.size = m + 1 := ⟨t.size - 1, by omega⟩
        rw [hm, Nat.add_sub_cancel] at hbc
        have hb := HBY.out m (by omega)
        rw [hm]
        show m + 1 = if qbyt s m = c then trN s c m else m + 1
        rw [if_neg (by rw [← hb]; exact hbc)]
    · have e0 : t.size = 0 := by omega
      have e0I : ¬ (0 : Int) < t.size := by omega
      go_wp2
      go_ret
      exact ⟨t, rfl, by rw [← HTR.out, e0]; rfl, HBY.out, rfl⟩

set_option maxRecDepth 20000 in
set_option maxHeartbeats 400000 in
theorem trimRight_any (s : ByteArray) (w : World) (h0 : 0 < s.size) (hs : s.size ≤ 1000) :
    Calls Tryz.prog 111 #[.string s, .string ⟨#[48]⟩] w fun e w' => ∃ t : ByteArray, e = .returned (.string t) ∧ t.size = trN s 48 s.size ∧ (∀ j, j < t.size → qbyt t j = qbyt s j) ∧ w' = w := by
  have hl : ¬ s.toList = [] := fun h => by
    have h1 : s.toList.length = s.size := by rw [ByteArray.toList_eq]; exact Array.length_toList
    rw [h] at h1
    simp at h1
    omega
  have hl2 : s.toList.isEmpty = false := by simpa using hl
  have hz : ∀ h, ((⟨#[48]⟩ : ByteArray)[0]'h).toNat = 48 := fun _ => rfl
  clear h0
  go_enter Tryz.func111, Tryz.ntmps111
  go_wp2_with (go_at_call 140; refine (trimByte_any s 48 _ hs).mono ?_; rintro e1 w1 ⟨t, rfl, k1, k2, rfl⟩)
  go_ret
  exact ⟨t, rfl, k1, k2, rfl⟩

end Go.Proofs.YtjoncbfaajcioaaGreatDoor
