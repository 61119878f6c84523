/-
  Elements: the bytes of which nodes are made; what plain, bytes, Node of package value, and bytes, Node of the document's side hand back, whatever text they are called with.
-/
import Derived.Test.YtcakfclfggnmbaaPlc
namespace Go.Proofs.Ytcakfclfggnmbaa
open Fl RowKit

/-- a byte of a text (0 outside it) -/
def byt (s : ByteArray) (i : Nat) : Nat := (s.data.getD i 0).toNat
theorem byt_get {s : ByteArray} {i : Nat} (h : i < s.size) : (s[i]'h).toNat = byt s i := by
  have h2 : i < s.data.size := h
  show (s.data[i]'h2).toNat = (s.data.getD i 0).toNat
  rw [Array.getD_eq_getD_getElem?, Array.getElem?_eq_getElem h2]; rfl
theorem byt_lt (s : ByteArray) (i : Nat) : byt s i < 256 := UInt8.toNat_lt _
/-- a byte of which nodes are made -/
def chB (c : Nat) : Bool := decide (97 ≤ c ∧ c ≤ 122 ∨ 48 ≤ c ∧ c ≤ 57 ∨ c = 95)
theorem chB_yes {c : Nat} (h : 97 ≤ c ∧ c ≤ 122 ∨ 48 ≤ c ∧ c ≤ 57 ∨ c = 95) : chB c = true := decide_eq_true h
theorem chB_no {c : Nat} (h : ¬ (97 ≤ c ∧ c ≤ 122 ∨ 48 ≤ c ∧ c ≤ 57 ∨ c = 95)) : chB c = false := decide_eq_false h
/-- are all bytes from a place on such? -/
def plF (s : ByteArray) (k : Nat) : Bool := decide (∀ i, i < s.size → k ≤ i → chB (byt s i) = true)
theorem plF_no {s : ByteArray} {k i : Nat} (hi : i < s.size) (hk : k ≤ i) (h : chB (byt s i) = false) : plF s k = false :=
  decide_eq_false (fun q => by rw [q i hi hk] at h; cases h)
theorem plF_yes {s : ByteArray} {k : Nat} (h : ∀ i, i < s.size → k ≤ i → chB (byt s i) = true) : plF s k = true := decide_eq_true h

set_option maxRecDepth 1000000 in
theorem plain_any (s : ByteArray) (w : World) :
    Calls Try.prog 90 #[.string s] w fun e w' => e = .returned (.bool (plF s 0)) ∧ Below w.heap.size w w' := by
  have HB : Hid (∀ pos, Below w.heap.size w (w.iter s pos)) := fun pos => (Below.refl _ _).alloc (Nat.le_refl _) _
  go_enter Try.func90, Try.ntmps90
  go_wp2
  go_loopw [4] (fun _ w' => ∃ pos : Nat, w' = w.iter s pos ∧ pos ≤ s.size ∧ ∀ i, i < pos → chB (byt s i) = true) (fun _ w' => s.size - w'.iterPos w.heap.size)
  case atStart => exact ⟨0, rfl, Nat.zero_le _, fun i hi => absurd hi (by omega)⟩
  case round =>
    obtain ⟨pos, rfl, hle, hall⟩ := hrel
    have HA : Hid (∀ i, i < pos → chB (byt s i) = true) := hall
    clear hall
    by_cases hp : pos < s.size
    · by_cases ha : (s[pos]'hp).toNat < 128
      · have hnx : ∀ ty, (Instr.next (.pointer (some ⟨w.heap.size, 0, none⟩)) true ty).run Try.prog (w.iter s pos) = _ := fun ty => run_next_ascii w s pos ty hp ha
        have hg := byt_get hp
        obtain ⟨c, hc⟩ : ∃ c, c = byt s pos := ⟨_, rfl⟩
        rw [hg] at hnx ha
        rw [← hc] at hnx ha
        have HC : Hid (c = byt s pos) := hc
        clear hc hg
        rcases (show (97 ≤ c ∧ c ≤ 122) ∨ (48 ≤ c ∧ c ≤ 57) ∨ c = 95 ∨ c < 48 ∨ (57 < c ∧ c < 95) ∨ c = 96 ∨ 122 < c from by omega) with hU | hU | hU | hU | hU | hU | hU
        · obtain ⟨h1, h2⟩ := hU
          go_wp2
          go_roundw
          case rel =>
            refine ⟨pos + 1, rfl, by omega, fun i hi => ?_⟩
            rcases Nat.lt_succ_iff_lt_or_eq.1 hi with h | rfl
            · exact HA.out i h
            · rw [← HC.out]; exact chB_yes (by omega)
          case measure => simp; omega
        · obtain ⟨h1, h2⟩ := hU
          go_wp2
          go_roundw
          case rel =>
            refine ⟨pos + 1, rfl, by omega, fun i hi => ?_⟩
            rcases Nat.lt_succ_iff_lt_or_eq.1 hi with h | rfl
            · exact HA.out i h
            · rw [← HC.out]; exact chB_yes (by omega)
          case measure => simp; omega
        · subst hU
          go_wp2
          go_roundw
          case rel =>
            refine ⟨pos + 1, rfl, by omega, fun i hi => ?_⟩
            rcases Nat.lt_succ_iff_lt_or_eq.1 hi with h | rfl
            · exact HA.out i h
            · rw [← HC.out]; exact chB_yes (by omega)
          case measure => simp; omega
        · have hne : ((c : Int) == 95) = false := by simp; omega
          go_wp2
          go_ret
          exact ⟨retb (plF_no hp (Nat.zero_le _) (by rw [← HC.out]; exact chB_no (by omega))).symm, HB.out _⟩
        · have hne : ((c : Int) == 95) = false := by simp; omega
          obtain ⟨h1, h2⟩ := hU
          go_wp2
          go_ret
          exact ⟨retb (plF_no hp (Nat.zero_le _) (by rw [← HC.out]; exact chB_no (by omega))).symm, HB.out _⟩
        · subst hU
          go_wp2
          go_ret
          exact ⟨retb (plF_no hp (Nat.zero_le _) (by rw [← HC.out]; exact chB_no (by omega))).symm, HB.out _⟩
        · have hne : ((c : Int) == 95) = false := by simp; omega
          go_wp2
          go_ret
          exact ⟨retb (plF_no hp (Nat.zero_le _) (by rw [← HC.out]; exact chB_no (by omega))).symm, HB.out _⟩
      · have hnx : ∀ ty, (Instr.next (.pointer (some ⟨w.heap.size, 0, none⟩)) true ty).run Try.prog (w.iter s pos) = _ := fun ty => run_next_any w s pos ty hp
        have hhi := (decode_high s pos hp (by omega)).1
        obtain ⟨c, hc⟩ : ∃ c, c = (Utf8.decode s pos).1 := ⟨_, rfl⟩
        rw [← hc] at hnx hhi
        clear hc
        have hne : ((c : Int) == 95) = false := by simp; omega
        have HC : Hid (¬ byt s pos < 128) := by rw [← byt_get hp]; exact ha
        clear ha
        go_wp2
        go_ret
        exact ⟨retb (plF_no hp (Nat.zero_le _) (chB_no (by have := HC.out; omega))).symm, HB.out _⟩
    · have hnx : ∀ ty, (Instr.next (.pointer (some ⟨w.heap.size, 0, none⟩)) true ty).run Try.prog (w.iter s pos) = _ := fun ty => run_next_end w s pos ty hp
      go_wp2
      go_ret
      exact ⟨retb (plF_yes (fun i hi _ => HA.out i (by omega))).symm, HB.out _⟩

set_option maxRecDepth 1000000 in
theorem rbytes_any (s : ByteArray) (w : World) (hs : s.size ≤ 140737488351232) :
    Calls Try.prog 84 #[.string s] w fun e w' => e = .returned (.bool (plF s 0)) ∧ w' = w := by
  go_enter Try.func84, Try.ntmps84
  go_wp2
  go_loopw [3, 4] (fun iv _ w' => ∃ pos : Nat, iv = .int .i64 pos ∧ w' = w ∧ pos ≤ s.size ∧ ∀ i, i < pos → chB (byt s i) = true) (fun iv _ _ => s.size - (intOf iv).toNat)
  case atStart => exact ⟨0, rfl, rfl, Nat.zero_le _, fun i hi => absurd hi (by omega)⟩
  case round =>
    obtain ⟨pos, rfl, hw, hle, hall⟩ := hrel
    subst hw
    have HA : Hid (∀ i, i < pos → chB (byt s i) = true) := hall
    clear hall
    by_cases hp : pos < s.size
    · have hg := byt_get hp
      obtain ⟨c, hc⟩ : ∃ c, c = byt s pos := ⟨_, rfl⟩
      rw [← hc] at hg
      have HC : Hid (c = byt s pos) := hc
      clear hc
      rcases (show (97 ≤ c ∧ c ≤ 122) ∨ (48 ≤ c ∧ c ≤ 57) ∨ c = 95 ∨ c < 48 ∨ (57 < c ∧ c < 95) ∨ c = 96 ∨ 122 < c from by omega) with hU | hU | hU | hU | hU | hU | hU
      · obtain ⟨h1, h2⟩ := hU
        go_wp2
        go_roundw
        case rel =>
          refine ⟨pos + 1, by go_num, trivial, by omega, fun i hi => ?_⟩
          rcases Nat.lt_succ_iff_lt_or_eq.1 hi with h | rfl
          · exact HA.out i h
          · rw [← HC.out]; exact chB_yes (by omega)
        case measure => simp [intOf]; omega
      · obtain ⟨h1, h2⟩ := hU
        go_wp2
        go_roundw
        case rel =>
          refine ⟨pos + 1, by go_num, trivial, by omega, fun i hi => ?_⟩
          rcases Nat.lt_succ_iff_lt_or_eq.1 hi with h | rfl
          · exact HA.out i h
          · rw [← HC.out]; exact chB_yes (by omega)
        case measure => simp [intOf]; omega
      · subst hU
        go_wp2
        go_roundw
        case rel =>
          refine ⟨pos + 1, by go_num, trivial, by omega, fun i hi => ?_⟩
          rcases Nat.lt_succ_iff_lt_or_eq.1 hi with h | rfl
          · exact HA.out i h
          · rw [← HC.out]; exact chB_yes (by omega)
        case measure => simp [intOf]; omega
      · have hne : ((c : Int) == 95) = false := by simp; omega
        go_wp2
        go_ret
        exact ⟨retb (plF_no hp (Nat.zero_le _) (by rw [← HC.out]; exact chB_no (by omega))).symm, rfl⟩
      · have hne : ((c : Int) == 95) = false := by simp; omega
        obtain ⟨h1, h2⟩ := hU
        have hd1 : decide ((c : Int) ≤ 57) = false := by simp; omega
        go_wp2
        go_ret
        exact ⟨retb (plF_no hp (Nat.zero_le _) (by rw [← HC.out]; exact chB_no (by omega))).symm, rfl⟩
      · subst hU
        go_wp2
        go_ret
        exact ⟨retb (plF_no hp (Nat.zero_le _) (by rw [← HC.out]; exact chB_no (by omega))).symm, rfl⟩
      · have hne : ((c : Int) == 95) = false := by simp; omega
        have hd1 : decide ((c : Int) ≤ 57) = false := by simp; omega
        have hd2 : decide ((c : Int) ≤ 122) = false := by simp; omega
        go_wp2
        go_ret
        exact ⟨retb (plF_no hp (Nat.zero_le _) (by rw [← HC.out]; exact chB_no (by omega))).symm, rfl⟩
    · have e : pos = s.size := by omega
      subst e
      go_wp2
      go_ret
      exact ⟨retb (plF_yes (fun i hi _ => HA.out i (by omega))).symm, rfl⟩

/-- is a text a node? -/
def ndF (s : ByteArray) : Bool := decide (0 < s.size ∧ s.size ≤ 16) && plF s 0
theorem nd_in {s : ByteArray} (h1 : 0 < s.size) (h2 : s.size ≤ 16) : ndF s = plF s 0 := by unfold ndF; rw [decide_eq_true ⟨h1, h2⟩]; rfl
theorem nd_out {s : ByteArray} (h : ¬ (0 < s.size ∧ s.size ≤ 16)) : ndF s = false := by unfold ndF; rw [decide_eq_false h]; rfl
theorem node_any (s : ByteArray) (w : World) (hs : s.size ≤ 140737488351232) :
    Calls Try.prog 81 #[.string s] w fun e w' => e = .returned (.bool (ndF s)) ∧ Below w.heap.size w w' := by
  rcases (show s.size = 0 ∨ (0 < s.size ∧ s.size ≤ 16) ∨ 16 < s.size from by omega) with h | h | h
  · go_enter Try.func81, Try.ntmps81
    go_wp2_with fail
    go_ret
    exact ⟨retb (nd_out (by omega)).symm, Below.refl _ _⟩
  · obtain ⟨h1, h2⟩ := h
    rw [nd_in h1 h2]
    go_enter Try.func81, Try.ntmps81
    go_wp2_with (first | (go_at_call 90; (with_reducible refine (plain_any _ _).mono ?_); rintro e w' ⟨rfl, hb⟩; (have HB : Hid (Below w.heap.size w w') := hb); clear hb))
    go_ret
    exact ⟨rfl, HB.out⟩
  · go_enter Try.func81, Try.ntmps81
    go_wp2_with fail
    go_ret
    exact ⟨retb (nd_out (by omega)).symm, Below.refl _ _⟩
theorem rnode_any (s : ByteArray) (w : World) (hs : s.size ≤ 140737488351232) :
    Calls Try.prog 74 #[.string s] w fun e w' => e = .returned (.bool (ndF s)) ∧ w' = w := by
  rcases (show s.size = 0 ∨ (0 < s.size ∧ s.size ≤ 16) ∨ 16 < s.size from by omega) with h | h | h
  · go_enter Try.func74, Try.ntmps74
    go_wp2_with fail
    go_ret
    exact ⟨retb (nd_out (by omega)).symm, rfl⟩
  · obtain ⟨h1, h2⟩ := h
    rw [nd_in h1 h2]
    go_enter Try.func74, Try.ntmps74
    go_wp2_with (first | (go_at_call 84; (with_reducible refine (rbytes_any _ _ hs).mono ?_); rintro e w' ⟨rfl, rfl⟩))
    go_ret
    exact ⟨rfl, rfl⟩
  · go_enter Try.func74, Try.ntmps74
    go_wp2_with fail
    go_ret
    exact ⟨retb (nd_out (by omega)).symm, rfl⟩
end Go.Proofs.Ytcakfclfggnmbaa
