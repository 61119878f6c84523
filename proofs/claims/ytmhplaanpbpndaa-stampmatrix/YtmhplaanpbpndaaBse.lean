/-
  Several texts in one: Plc Ela Elb Elc Eld Ele Elf Elg Elh Eli Elo Ada Adb Adc Add Ade Adf Adg.
-/
import Derived.Test.YtmhplaanpbpndaaChecked
import Derived.Test.YtmhplaanpbpndaaBsa
import Derived.WalkKit
import Derived.WalkLawsBesides
import Derived.WalkSpells
import Derived.Deep.QuietTactic
import Derived.Deep.RegionHeldLaw
import Derived.ProofKit
import Derived.OpenShut
import Derived.ShutString
import Derived.ChangeOld
import Derived.Below
import Derived.SizedLaws
import Derived.Lib.SmallJoins
import Derived.Deep.RegionWith
namespace Go.Proofs.Ytmhplaanpbpndaa
open Fl

def plB (x : Nat) : Int := if nan x then 0 else plc x
def inR (p : Int) : Bool := decide (-9218868437227405312 ≤ p ∧ p ≤ 9218868437227405312)
def atB (p : Int) : Nat := if inR p then (if p < 0 then 9223372036854775808 + (-p).toNat else p.toNat) else 0

theorem ng_test (x : Nat) (hx : x < 18446744073709551616) : (bits BinOp.and IntKind.u64 (x : Int) 9223372036854775808 != 0) = ng x := by
  rw [and_sign x hx]; unfold ng
  rcases Nat.mod_two_eq_zero_or_one (x / 9223372036854775808) with h | h <;> rw [h] <;> rfl
theorem mg_lt (x : Nat) : mg x < 9223372036854775808 := Nat.mod_lt _ (by omega)

theorem ret2 {a b : Int} {c d : Bool} (h : a = b) (h2 : c = d) : Ending.returned (.tuple #[.int .i64 a, .bool c]) = .returned (.tuple #[.int .i64 b, .bool d]) := by rw [h, h2]

theorem ret2f {a b : Nat} {c d : Bool} (h : a = b) (h2 : c = d) : Ending.returned (.tuple #[.float .f64 a, .bool c]) = .returned (.tuple #[.float .f64 b, .bool d]) := by rw [h, h2]
theorem or_sign (n : Nat) (h : n < 9223372036854775808) : (bits BinOp.or IntKind.u64 (n : Int) 9223372036854775808).toNat = 9223372036854775808 + n := by
  have h1 := u64_or_nat n 9223372036854775808 (by omega) (by omega)
  have h2 := nat_join 63 9223372036854775808 n (by decide) (by omega)
  rw [Nat.or_comm] at h2; rw [h2] at h1
  rw [show bits BinOp.or IntKind.u64 (n : Int) 9223372036854775808 = _ from h1]; rfl
theorem at_out {p : Int} (h : p < -9218868437227405312 ∨ 9218868437227405312 < p) : atB p = 0 ∧ inR p = false := by
  have h1 : inR p = false := by unfold inR; simp; omega
  exact ⟨by unfold atB; rw [h1]; rfl, h1⟩
theorem at_neg {p : Int} (h : -9218868437227405312 ≤ p) (h2 : p < 0) : atB p = 9223372036854775808 + (-p).toNat ∧ inR p = true := by
  have h1 : inR p = true := by unfold inR; simp; omega
  exact ⟨by unfold atB; rw [h1, if_pos rfl, if_pos h2], h1⟩
theorem at_pos {p : Int} (h : 0 ≤ p) (h2 : p ≤ 9218868437227405312) : atB p = p.toNat ∧ inR p = true := by
  have h1 : inR p = true := by unfold inR; simp; omega
  exact ⟨by unfold atB; rw [h1, if_pos rfl, if_neg (by omega)], h1⟩
def kdB (x : Nat) : Int := if nan x then 4 else if mg x = 9218868437227405312 then 3 else if 4503599627370496 ≤ mg x then 2 else if 0 < mg x then 1 else 0
theorem and_pow (x : Nat) (hx : x < 18446744073709551616) : bits BinOp.and IntKind.u64 ((x : Int) / 4503599627370496) 2047 = ((mg x / 4503599627370496 : Nat) : Int) := by
  have h := u64_and_nat (x / 4503599627370496) 2047 (by omega) (by omega)
  rw [nat_mask11] at h
  have e : x / 4503599627370496 % 2048 = mg x / 4503599627370496 := by unfold mg; omega
  rw [e] at h; rw [← h]; congr 1
theorem and_frac (x : Nat) (hx : x < 18446744073709551616) : bits BinOp.and IntKind.u64 (x : Int) 4503599627370495 = ((mg x % 4503599627370496 : Nat) : Int) := by
  have h := u64_and_nat x 4503599627370495 hx (by omega)
  have h2 := Nat.and_two_pow_sub_one_eq_mod x 52
  rw [show (2 : Nat) ^ 52 - 1 = 4503599627370495 from rfl, show (2 : Nat) ^ 52 = 4503599627370496 from rfl] at h2
  rw [h2] at h
  have e : x % 4503599627370496 = mg x % 4503599627370496 := by unfold mg; omega
  rw [e] at h; exact h
theorem kd_4 {x : Nat} (h : nan x = true) : kdB x = 4 := by unfold kdB; rw [h]; rfl
theorem kd_3 {x : Nat} (hn : nan x = false) (h : mg x = 9218868437227405312) : kdB x = 3 := by unfold kdB; rw [hn, if_neg (by simp), if_pos h]
theorem kd_2 {x : Nat} (hn : nan x = false) (h : 4503599627370496 ≤ mg x) (h2 : mg x < 9218868437227405312) : kdB x = 2 := by unfold kdB; rw [hn, if_neg (by simp), if_neg (by omega), if_pos h]
theorem kd_1 {x : Nat} (hn : nan x = false) (h : 0 < mg x) (h2 : mg x < 4503599627370496) : kdB x = 1 := by unfold kdB; rw [hn, if_neg (by simp), if_neg (by omega), if_neg (by omega), if_pos h]
theorem kd_0 {x : Nat} (hn : nan x = false) (h : mg x = 0) : kdB x = 0 := by unfold kdB; rw [hn, if_neg (by simp), if_neg (by omega), if_neg (by omega), if_neg (by omega)]
theorem ret1 {a b : Int} (h : a = b) : Ending.returned (.int .i64 a) = .returned (.int .i64 b) := by rw [h]
theorem not_nan {x : Nat} (h : nan x = false) : mg x ≤ 9218868437227405312 := by unfold nan at h; simp at h; exact h
theorem is_nan {x : Nat} (h : nan x = true) : 9218868437227405312 < mg x := by unfold nan at h; simp at h; exact h
theorem kind_any (x : Nat) (w : World) (hx : x < 18446744073709551616) :
    Calls Try.prog 41 #[.float .f64 x] w fun e w' => e = .returned (.int .i64 (kdB x)) ∧ w' = w := by
  have hp := and_pow x hx
  have hf := and_frac x hx
  cases hn : nan x
  · have h0 := order_num hn
    have hl := not_nan hn
    rcases Nat.lt_or_ge (mg x) 9218868437227405312 with h1 | h1
    · rcases Nat.lt_or_ge (mg x) 4503599627370496 with h2 | h2
      · rcases Nat.eq_zero_or_pos (mg x) with h3 | h3
        · have t1 : (((mg x / 4503599627370496 : Nat) : Int) == 2047) = false := by simp; omega
          have t2 : (((mg x / 4503599627370496 : Nat) : Int) != 0) = false := by simp; omega
          have t3 : (((mg x % 4503599627370496 : Nat) : Int) != 0) = false := by simp; omega
          have e0 := kd_0 hn h3
          clear h1 h2 h3 hl
          go_enter Try.func41, Try.ntmps41
          go_wp2
          go_ret
          first | exact ⟨ret1 e0.symm, rfl⟩ | exact ⟨rfl, rfl⟩
        · have t1 : (((mg x / 4503599627370496 : Nat) : Int) == 2047) = false := by simp; omega
          have t2 : (((mg x / 4503599627370496 : Nat) : Int) != 0) = false := by simp; omega
          have t3 : (((mg x % 4503599627370496 : Nat) : Int) != 0) = true := by simp; omega
          have e0 := kd_1 hn h3 h2
          clear h1 h2 h3 hl
          go_enter Try.func41, Try.ntmps41
          go_wp2
          go_ret
          first | exact ⟨ret1 e0.symm, rfl⟩ | exact ⟨rfl, rfl⟩
      · have t1 : (((mg x / 4503599627370496 : Nat) : Int) == 2047) = false := by simp; omega
        have t2 : (((mg x / 4503599627370496 : Nat) : Int) != 0) = true := by simp; omega
        have e0 := kd_2 hn h2 h1
        clear h1 h2 hl
        go_enter Try.func41, Try.ntmps41
        go_wp2
        go_ret
        first | exact ⟨ret1 e0.symm, rfl⟩ | exact ⟨rfl, rfl⟩
    · have t1 : (((mg x / 4503599627370496 : Nat) : Int) == 2047) = true := by simp; omega
      have e0 := kd_3 hn (by omega)
      clear h1 hl
      go_enter Try.func41, Try.ntmps41
      go_wp2
      go_ret
      first | exact ⟨ret1 e0.symm, rfl⟩ | exact ⟨rfl, rfl⟩
  · have h0 := order_nan hn
    have e0 := kd_4 hn
    go_enter Try.func41, Try.ntmps41
    go_wp2
    go_ret
    first | exact ⟨ret1 e0.symm, rfl⟩ | exact ⟨rfl, rfl⟩
theorem rem_sign (x : Nat) : (x : Int) % 9223372036854775808 = ((mg x : Nat) : Int) := by unfold mg; omega
set_option maxRecDepth 100000 in
theorem rkind_any (x : Nat) (w : World) :
    Calls Try.prog 47 #[.float .f64 x] w fun e w' => e = .returned (.int .i64 (kdB x)) ∧ w' = w := by
  have hr := rem_sign x
  have hl := mg_lt x
  cases hn : nan x
  · have hl := not_nan hn
    rcases Nat.lt_or_ge (mg x) 9218868437227405312 with h1 | h1
    · rcases Nat.lt_or_ge (mg x) 4503599627370496 with h2 | h2
      · rcases Nat.eq_zero_or_pos (mg x) with h3 | h3
        · have e0 := kd_0 hn h3
          have t1 : (((mg x : Nat) : Int) == 0) = true := by simp; omega
          clear h1 h2 h3 hl
          go_enter Try.func47, Try.ntmps47
          go_wp2
          go_ret
          first | exact ⟨ret1 e0.symm, rfl⟩ | exact ⟨rfl, rfl⟩
        · have e0 := kd_1 hn h3 h2
          have t1 : (((mg x : Nat) : Int) == 0) = false := by simp; omega
          have t2 : ((mg x : Nat) : Int) < 4503599627370496 := by omega
          clear h1 h2 h3 hl
          go_enter Try.func47, Try.ntmps47
          go_wp2
          go_ret
          first | exact ⟨ret1 e0.symm, rfl⟩ | exact ⟨rfl, rfl⟩
      · have e0 := kd_2 hn h2 h1
        have t1 : (((mg x : Nat) : Int) == 0) = false := by simp; omega
        have t2 : ¬ ((mg x : Nat) : Int) < 4503599627370496 := by omega
        have t3 : ((mg x : Nat) : Int) < 9218868437227405312 := by omega
        clear h1 h2 hl
        go_enter Try.func47, Try.ntmps47
        go_wp2
        go_ret
        first | exact ⟨ret1 e0.symm, rfl⟩ | exact ⟨rfl, rfl⟩
    · have e0 := kd_3 hn (by omega)
      have t1 : (((mg x : Nat) : Int) == 0) = false := by simp; omega
      have t2 : ¬ ((mg x : Nat) : Int) < 4503599627370496 := by omega
      have t3 : ¬ ((mg x : Nat) : Int) < 9218868437227405312 := by omega
      have t4 : (((mg x : Nat) : Int) == 9218868437227405312) = true := by simp; omega
      clear h1 hl
      go_enter Try.func47, Try.ntmps47
      go_wp2
      go_ret
      first | exact ⟨ret1 e0.symm, rfl⟩ | exact ⟨rfl, rfl⟩
  · have h1 := is_nan hn
    have e0 := kd_4 hn
    have t1 : (((mg x : Nat) : Int) == 0) = false := by simp; omega
    have t2 : ¬ ((mg x : Nat) : Int) < 4503599627370496 := by omega
    have t3 : ¬ ((mg x : Nat) : Int) < 9218868437227405312 := by omega
    have t4 : (((mg x : Nat) : Int) == 9218868437227405312) = false := by simp; omega
    clear h1
    go_enter Try.func47, Try.ntmps47
    go_wp2
    go_ret
    first | exact ⟨ret1 e0.symm, rfl⟩ | exact ⟨rfl, rfl⟩
def nxB (x : Nat) (up : Bool) : Nat := if nan x then x else if inR (if up then plc x + 1 else plc x - 1) then atB (if up then plc x + 1 else plc x - 1) else x
theorem plc_bd {x : Nat} (h : nan x = false) : -9218868437227405312 ≤ plc x ∧ plc x ≤ 9218868437227405312 := by
  have := not_nan h; unfold plc sgn; split <;> omega
theorem nx_nan {x : Nat} (h : nan x = true) (up : Bool) : nxB x up = x := by unfold nxB; rw [h]; rfl
theorem nx_in {x : Nat} (h : nan x = false) (up : Bool) {p : Int} (hp : (if up then plc x + 1 else plc x - 1) = p) (hi : inR p = true) : nxB x up = atB p := by
  unfold nxB; rw [h, hp, hi]; rfl
theorem nx_out {x : Nat} (h : nan x = false) (up : Bool) {p : Int} (hp : (if up then plc x + 1 else plc x - 1) = p) (hi : inR p = false) : nxB x up = x := by
  unfold nxB; rw [h, hp, hi]; rfl
theorem in_yes {p : Int} (h : -9218868437227405312 ≤ p) (h2 : p ≤ 9218868437227405312) : inR p = true := by unfold inR; simp [h, h2]
theorem in_no {p : Int} (h : p < -9218868437227405312 ∨ 9218868437227405312 < p) : inR p = false := by unfold inR; simp; omega
end Go.Proofs.Ytmhplaanpbpndaa

namespace Go.Proofs.Ytmhplaanpbpndaa
open Fl RowKit

/-- a byte of a text (0 outside it) -/
def byt (s : ByteArray) (i : Nat) : Nat := (s.data.getD i 0).toNat
theorem byt_get {s : ByteArray} {i : Nat} (h : i < s.size) : (s[i]'h).toNat = byt s i := by
  have h2 : i < s.data.size := h
  show (s.data[i]'h2).toNat = (s.data.getD i 0).toNat
  rw [Array.getD_eq_getD_getElem?, Array.getElem?_eq_getElem h2]; rfl
theorem byt_lt (s : ByteArray) (i : Nat) : byt s i < 256 := UInt8.toNat_lt _
/-- a byte of which nodes are made -/
def chB (c : Nat) : Bool := decide (97 ≤ c ∧ c ≤ 122 ∨ 48 ≤ c ∧ c ≤ 57 ∨ c = 95)
theorem chB_yes {c : Nat} (h : 97 ≤ c ∧ c ≤ 122 ∨ 48 ≤ c ∧ c ≤ 57 ∨ c = 95) : chB c = true := decide_eq_true h
theorem chB_no {c : Nat} (h : ¬ (97 ≤ c ∧ c ≤ 122 ∨ 48 ≤ c ∧ c ≤ 57 ∨ c = 95)) : chB c = false := decide_eq_false h
/-- are all bytes from a place on such? -/
def plF (s : ByteArray) (k : Nat) : Bool := decide (∀ i, i < s.size → k ≤ i → chB (byt s i) = true)
theorem plF_no {s : ByteArray} {k i : Nat} (hi : i < s.size) (hk : k ≤ i) (h : chB (byt s i) = false) : plF s k = false :=
  decide_eq_false (fun q => by rw [q i hi hk] at h; cases h)
theorem plF_yes {s : ByteArray} {k : Nat} (h : ∀ i, i < s.size → k ≤ i → chB (byt s i) = true) : plF s k = true := decide_eq_true h

set_option maxRecDepth 1000000 in
theorem plain_any (s : ByteArray) (w : World) :
    Calls Try.prog 87 #[.string s] w fun e w' => e = .returned (.bool (plF s 0)) ∧ Below w.heap.size w w' := by
  have HB : Hid (∀ pos, Below w.heap.size w (w.iter s pos)) := fun pos => (Below.refl _ _).alloc (Nat.le_refl _) _
  go_enter Try.func87, Try.ntmps87
  go_wp2
  go_loopw [4] (fun _ w' => ∃ pos : Nat, w' = w.iter s pos ∧ pos ≤ s.size ∧ ∀ i, i < pos → chB (byt s i) = true) (fun _ w' => s.size - w'.iterPos w.heap.size)
  case atStart => exact ⟨0, rfl, Nat.zero_le _, fun i hi => absurd hi (by omega)⟩
  case round =>
    obtain ⟨pos, rfl, hle, hall⟩ := hrel
    have HA : Hid (∀ i, i < pos → chB (byt s i) = true) := hall
    clear hall
    by_cases hp : pos < s.size
    · by_cases ha : (s[pos]'hp).toNat < 128
      · have hnx : ∀ ty, (Instr.next (.pointer (some ⟨w.heap.size, 0, none⟩)) true ty).run Try.prog (w.iter s pos) = _ := fun ty => run_next_ascii w s pos ty hp ha
        have hg := byt_get hp
        obtain ⟨c, hc⟩ : ∃ c, c = byt s pos := ⟨_, rfl⟩
        rw [hg] at hnx ha
        rw [← hc] at hnx ha
        have HC : Hid (c = byt s pos) := hc
        clear hc hg
        rcases (show (97 ≤ c ∧ c ≤ 122) ∨ (48 ≤ c ∧ c ≤ 57) ∨ c = 95 ∨ c < 48 ∨ (57 < c ∧ c < 95) ∨ c = 96 ∨ 122 < c from by omega) with hU | hU | hU | hU | hU | hU | hU
        · obtain ⟨h1, h2⟩ := hU
          go_wp2
          go_roundw
          case rel =>
            refine ⟨pos + 1, rfl, by omega, fun i hi => ?_⟩
            rcases Nat.lt_succ_iff_lt_or_eq.1 hi with h | rfl
            · exact HA.out i h
            · rw [← HC.out]; exact chB_yes (by omega)
          case measure => simp; omega
        · obtain ⟨h1, h2⟩ := hU
          go_wp2
          go_roundw
          case rel =>
            refine ⟨pos + 1, rfl, by omega, fun i hi => ?_⟩
            rcases Nat.lt_succ_iff_lt_or_eq.1 hi with h | rfl
            · exact HA.out i h
            · rw [← HC.out]; exact chB_yes (by omega)
          case measure => simp; omega
        · subst hU
          go_wp2
          go_roundw
          case rel =>
            refine ⟨pos + 1, rfl, by omega, fun i hi => ?_⟩
            rcases Nat.lt_succ_iff_lt_or_eq.1 hi with h | rfl
            · exact HA.out i h
            · rw [← HC.out]; exact chB_yes (by omega)
          case measure => simp; omega
        · have hne : ((c : Int) == 95) = false := by simp; omega
          go_wp2
          go_ret
          exact ⟨retb (plF_no hp (Nat.zero_le _) (by rw [← HC.out]; exact chB_no (by omega))).symm, HB.out _⟩
        · have hne : ((c : Int) == 95) = false := by simp; omega
          obtain ⟨h1, h2⟩ := hU
          go_wp2
          go_ret
          exact ⟨retb (plF_no hp (Nat.zero_le _) (by rw [← HC.out]; exact chB_no (by omega))).symm, HB.out _⟩
        · subst hU
          go_wp2
          go_ret
          exact ⟨retb (plF_no hp (Nat.zero_le _) (by rw [← HC.out]; exact chB_no (by omega))).symm, HB.out _⟩
        · have hne : ((c : Int) == 95) = false := by simp; omega
          go_wp2
          go_ret
          exact ⟨retb (plF_no hp (Nat.zero_le _) (by rw [← HC.out]; exact chB_no (by omega))).symm, HB.out _⟩
      · have hnx : ∀ ty, (Instr.next (.pointer (some ⟨w.heap.size, 0, none⟩)) true ty).run Try.prog (w.iter s pos) = _ := fun ty => run_next_any w s pos ty hp
        have hhi := (decode_high s pos hp (by omega)).1
        obtain ⟨c, hc⟩ : ∃ c, c = (Utf8.decode s pos).1 := ⟨_, rfl⟩
        rw [← hc] at hnx hhi
        clear hc
        have hne : ((c : Int) == 95) = false := by simp; omega
        have HC : Hid (¬ byt s pos < 128) := by rw [← byt_get hp]; exact ha
        clear ha
        go_wp2
        go_ret
        exact ⟨retb (plF_no hp (Nat.zero_le _) (chB_no (by have := HC.out; omega))).symm, HB.out _⟩
    · have hnx : ∀ ty, (Instr.next (.pointer (some ⟨w.heap.size, 0, none⟩)) true ty).run Try.prog (w.iter s pos) = _ := fun ty => run_next_end w s pos ty hp
      go_wp2
      go_ret
      exact ⟨retb (plF_yes (fun i hi _ => HA.out i (by omega))).symm, HB.out _⟩

set_option maxRecDepth 1000000 in
theorem rbytes_any (s : ByteArray) (w : World) (hs : s.size ≤ 140737488351232) :
    Calls Try.prog 69 #[.string s] w fun e w' => e = .returned (.bool (plF s 0)) ∧ w' = w := by
  go_enter Try.func69, Try.ntmps69
  go_wp2
  go_loopw [3, 4] (fun iv _ w' => ∃ pos : Nat, iv = .int .i64 pos ∧ w' = w ∧ pos ≤ s.size ∧ ∀ i, i < pos → chB (byt s i) = true) (fun iv _ _ => s.size - (intOf iv).toNat)
  case atStart => exact ⟨0, rfl, rfl, Nat.zero_le _, fun i hi => absurd hi (by omega)⟩
  case round =>
    obtain ⟨pos, rfl, hw, hle, hall⟩ := hrel
    subst hw
    have HA : Hid (∀ i, i < pos → chB (byt s i) = true) := hall
    clear hall
    by_cases hp : pos < s.size
    · have hg := byt_get hp
      obtain ⟨c, hc⟩ : ∃ c, c = byt s pos := ⟨_, rfl⟩
      rw [← hc] at hg
      have HC : Hid (c = byt s pos) := hc
      clear hc
      rcases (show (97 ≤ c ∧ c ≤ 122) ∨ (48 ≤ c ∧ c ≤ 57) ∨ c = 95 ∨ c < 48 ∨ (57 < c ∧ c < 95) ∨ c = 96 ∨ 122 < c from by omega) with hU | hU | hU | hU | hU | hU | hU
      · obtain ⟨h1, h2⟩ := hU
        go_wp2
        go_roundw
        case rel =>
          refine ⟨pos + 1, by go_num, trivial, by omega, fun i hi => ?_⟩
          rcases Nat.lt_succ_iff_lt_or_eq.1 hi with h | rfl
          · exact HA.out i h
          · rw [← HC.out]; exact chB_yes (by omega)
        case measure => simp [intOf]; omega
      · obtain ⟨h1, h2⟩ := hU
        go_wp2
        go_roundw
        case rel =>
          refine ⟨pos + 1, by go_num, trivial, by omega, fun i hi => ?_⟩
          rcases Nat.lt_succ_iff_lt_or_eq.1 hi with h | rfl
          · exact HA.out i h
          · rw [← HC.out]; exact chB_yes (by omega)
        case measure => simp [intOf]; omega
      · subst hU
        go_wp2
        go_roundw
        case rel =>
          refine ⟨pos + 1, by go_num, trivial, by omega, fun i hi => ?_⟩
          rcases Nat.lt_succ_iff_lt_or_eq.1 hi with h | rfl
          · exact HA.out i h
          · rw [← HC.out]; exact chB_yes (by omega)
        case measure => simp [intOf]; omega
      · have hne : ((c : Int) == 95) = false := by simp; omega
        go_wp2
        go_ret
        exact ⟨retb (plF_no hp (Nat.zero_le _) (by rw [← HC.out]; exact chB_no (by omega))).symm, rfl⟩
      · have hne : ((c : Int) == 95) = false := by simp; omega
        obtain ⟨h1, h2⟩ := hU
        have hd1 : decide ((c : Int) ≤ 57) = false := by simp; omega
        go_wp2
        go_ret
        exact ⟨retb (plF_no hp (Nat.zero_le _) (by rw [← HC.out]; exact chB_no (by omega))).symm, rfl⟩
      · subst hU
        go_wp2
        go_ret
        exact ⟨retb (plF_no hp (Nat.zero_le _) (by rw [← HC.out]; exact chB_no (by omega))).symm, rfl⟩
      · have hne : ((c : Int) == 95) = false := by simp; omega
        have hd1 : decide ((c : Int) ≤ 57) = false := by simp; omega
        have hd2 : decide ((c : Int) ≤ 122) = false := by simp; omega
        go_wp2
        go_ret
        exact ⟨retb (plF_no hp (Nat.zero_le _) (by rw [← HC.out]; exact chB_no (by omega))).symm, rfl⟩
    · have e : pos = s.size := by omega
      subst e
      go_wp2
      go_ret
      exact ⟨retb (plF_yes (fun i hi _ => HA.out i (by omega))).symm, rfl⟩

/-- is a text a node? -/
def ndF (s : ByteArray) : Bool := decide (0 < s.size ∧ s.size ≤ 16) && plF s 0
theorem nd_in {s : ByteArray} (h1 : 0 < s.size) (h2 : s.size ≤ 16) : ndF s = plF s 0 := by unfold ndF; rw [decide_eq_true ⟨h1, h2⟩]; rfl
theorem nd_out {s : ByteArray} (h : ¬ (0 < s.size ∧ s.size ≤ 16)) : ndF s = false := by unfold ndF; rw [decide_eq_false h]; rfl
theorem node_any (s : ByteArray) (w : World) (hs : s.size ≤ 140737488351232) :
    Calls Try.prog 66 #[.string s] w fun e w' => e = .returned (.bool (ndF s)) ∧ Below w.heap.size w w' := by
  rcases (show s.size = 0 ∨ (0 < s.size ∧ s.size ≤ 16) ∨ 16 < s.size from by omega) with h | h | h
  · go_enter Try.func66, Try.ntmps66
    go_wp2_with fail
    go_ret
    exact ⟨retb (nd_out (by omega)).symm, Below.refl _ _⟩
  · obtain ⟨h1, h2⟩ := h
    rw [nd_in h1 h2]
    go_enter Try.func66, Try.ntmps66
    go_wp2_with (first | (go_at_call 87; (with_reducible refine (plain_any _ _).mono ?_); rintro e w' ⟨rfl, hb⟩; (have HB : Hid (Below w.heap.size w w') := hb); clear hb))
    go_ret
    exact ⟨rfl, HB.out⟩
  · go_enter Try.func66, Try.ntmps66
    go_wp2_with fail
    go_ret
    exact ⟨retb (nd_out (by omega)).symm, Below.refl _ _⟩
theorem rnode_any (s : ByteArray) (w : World) (hs : s.size ≤ 140737488351232) :
    Calls Try.prog 46 #[.string s] w fun e w' => e = .returned (.bool (ndF s)) ∧ w' = w := by
  rcases (show s.size = 0 ∨ (0 < s.size ∧ s.size ≤ 16) ∨ 16 < s.size from by omega) with h | h | h
  · go_enter Try.func46, Try.ntmps46
    go_wp2_with fail
    go_ret
    exact ⟨retb (nd_out (by omega)).symm, rfl⟩
  · obtain ⟨h1, h2⟩ := h
    rw [nd_in h1 h2]
    go_enter Try.func46, Try.ntmps46
    go_wp2_with (first | (go_at_call 69; (with_reducible refine (rbytes_any _ _ hs).mono ?_); rintro e w' ⟨rfl, rfl⟩))
    go_ret
    exact ⟨rfl, rfl⟩
  · go_enter Try.func46, Try.ntmps46
    go_wp2_with fail
    go_ret
    exact ⟨retb (nd_out (by omega)).symm, rfl⟩
end Go.Proofs.Ytmhplaanpbpndaa

namespace Go.Proofs.Ytmhplaanpbpndaa
open Fl RowKit
set_option linter.unusedVariables false

/-- the table: letter, unit, above, phase, four -/
def ltr : Nat → Nat
  | 1 => 82 | 2 => 76 | 3 => 67 | 4 => 73 | 5 => 86 | 6 => 71 | 7 => 69 | 8 => 80 | _ => 0
def unS : Nat → ByteArray
  | 1 => ⟨#[111, 104, 109]⟩ | 2 => ⟨#[104, 101, 110, 114, 121]⟩ | 3 => ⟨#[102, 97, 114, 97, 100]⟩ | 4 => ⟨#[97, 109, 112, 101, 114, 101]⟩ | 5 => ⟨#[118, 111, 108, 116]⟩ | 6 => ⟨#[115, 105, 101, 109, 101, 110, 115]⟩ | 7 => ⟨#[]⟩ | 8 => ⟨#[111, 104, 109]⟩ | _ => ⟨#[]⟩
def abv : Nat → Bool
  | 1 => true | 2 => true | 3 => true | 8 => true | _ => false
def phs : Nat → Bool
  | 4 => true | 5 => true | _ => false
def fou : Nat → Bool
  | 6 => true | 7 => true | _ => false
def natV (k : Nat) : Value := .agg #[.int .u8 (ltr k : Nat), .string (unS k), .bool (abv k), .bool (phs k), .bool (fou k)]
theorem nat_none {k : Nat} (h : k = 0 ∨ 8 < k) : ltr k = 0 ∧ unS k = ⟨#[]⟩ ∧ abv k = false ∧ phs k = false ∧ fou k = false := by
  rcases h with rfl | h
  · exact ⟨rfl, rfl, rfl, rfl, rfl⟩
  · match k, h with
    | n + 9, _ => exact ⟨rfl, rfl, rfl, rfl, rfl⟩
set_option maxRecDepth 100000 in
set_option maxHeartbeats 2000000 in
theorem nature_any (k : Nat) (w : World) :
    Calls Try.prog 38 #[.int .u8 (k : Int)] w fun e w' => e = .returned (natV k) ∧ Below w.heap.size w w' := by
  have HB : Hid (∀ a b c d e t, Below w.heap.size w (w.alloc (.cells #[a, b, c, d, e] t))) := fun a b c d e t => (Below.refl _ _).alloc (Nat.le_refl _) _
  rcases (show k = 1 ∨ k = 2 ∨ k = 3 ∨ k = 4 ∨ k = 5 ∨ k = 6 ∨ k = 7 ∨ k = 8 ∨ (k = 0 ∨ 8 < k) from by omega) with rfl | rfl | rfl | rfl | rfl | rfl | rfl | rfl | h
  case inr.inr.inr.inr.inr.inr.inr.inr =>
    have h1 : ((k : Int) == 1) = false := by simp; omega
    have h2 : ((k : Int) == 2) = false := by simp; omega
    have h3 : ((k : Int) == 3) = false := by simp; omega
    have h4 : ((k : Int) == 4) = false := by simp; omega
    have h5 : ((k : Int) == 5) = false := by simp; omega
    have h6 : ((k : Int) == 6) = false := by simp; omega
    have h7 : ((k : Int) == 7) = false := by simp; omega
    have h8 : ((k : Int) == 8) = false := by simp; omega
    obtain ⟨e1, e2, e3, e4, e5⟩ := nat_none h
    unfold natV
    rw [e1, e2, e3, e4, e5]
    clear h e1 e2 e3 e4 e5
    go_enter Try.func38, Try.ntmps38
    go_wp2_with fail
    refine bodyPost_ret (by simp [results, Try.results38, go_sem]; try rfl) rfl ?_
    exact ⟨rfl, HB.out _ _ _ _ _ _⟩
  all_goals
    go_enter Try.func38, Try.ntmps38
    go_wp2_with fail
    refine bodyPost_ret (by simp [results, Try.results38, go_sem]; try rfl) rfl ?_
    exact ⟨rfl, HB.out _ _ _ _ _ _⟩

@[go_sem] theorem run_fieldL (a b c d e : Value) (w : World) : Sem.run Try.prog (Instr.field 95 (.agg #[a, b, c, d, e]) 0) w = .ok a w := by kernel_rfl
@[go_sem] theorem run_fieldU (a b c d e : Value) (w : World) : Sem.run Try.prog (Instr.field 95 (.agg #[a, b, c, d, e]) 1) w = .ok b w := by kernel_rfl
/-- the kind of a letter; 0: none -/
def ofK (c : Nat) : Nat := if c = 82 then 1 else if c = 76 then 2 else if c = 67 then 3 else if c = 73 then 4 else if c = 86 then 5 else if c = 71 then 6 else if c = 69 then 7 else if c = 80 then 8 else 0
theorem of_ltr {k : Nat} (h1 : 1 ≤ k) (h8 : k ≤ 8) : ofK (ltr k) = k := by
  rcases (show k = 1 ∨ k = 2 ∨ k = 3 ∨ k = 4 ∨ k = 5 ∨ k = 6 ∨ k = 7 ∨ k = 8 from by omega) with rfl | rfl | rfl | rfl | rfl | rfl | rfl | rfl <;> rfl
theorem of_none {c : Nat} (h : ∀ j, 1 ≤ j → j < 9 → ltr j ≠ c) : ofK c = 0 := by
  have h1 : 82 ≠ c := h 1 (by omega) (by omega)
  have h2 : 76 ≠ c := h 2 (by omega) (by omega)
  have h3 : 67 ≠ c := h 3 (by omega) (by omega)
  have h4 : 73 ≠ c := h 4 (by omega) (by omega)
  have h5 : 86 ≠ c := h 5 (by omega) (by omega)
  have h6 : 71 ≠ c := h 6 (by omega) (by omega)
  have h7 : 69 ≠ c := h 7 (by omega) (by omega)
  have h8 : 80 ≠ c := h 8 (by omega) (by omega)
  unfold ofK
  rw [if_neg (Ne.symm h1), if_neg (Ne.symm h2), if_neg (Ne.symm h3), if_neg (Ne.symm h4), if_neg (Ne.symm h5), if_neg (Ne.symm h6), if_neg (Ne.symm h7), if_neg (Ne.symm h8)]
theorem ofK_le (c : Nat) : ofK c ≤ 8 := by
  unfold ofK
  repeat' split
  all_goals omega
theorem ltr_of {c : Nat} (h : ofK c ≠ 0) : ltr (ofK c) = c := by
  unfold ofK at h ⊢
  repeat' split
  all_goals (try subst c)
  all_goals first | rfl | (exfalso; revert h; simp_all)
theorem ltr_lt (k : Nat) : ltr k < 256 := by unfold ltr; split <;> omega
set_option maxRecDepth 100000 in
theorem kof_any (c : Nat) (w : World) (hc : c < 256) :
    Calls Try.prog 86 #[.int .u8 (c : Int)] w fun e w' => e = .returned (.tuple #[.int .u8 (ofK c : Nat), .bool (ofK c != 0)]) ∧ Below w.heap.size w w' := by
  go_enter Try.func86, Try.ntmps86
  go_wp2_with fail
  go_loopw [4] (fun kv wr => ∃ k : Nat, kv = .int .u8 k ∧ 1 ≤ k ∧ k ≤ 9 ∧ (∀ j, 1 ≤ j → j < k → ltr j ≠ c) ∧ Below w.heap.size w wr) (fun kv _ => 9 - (intOf kv).toNat)
  case atStart => exact ⟨1, rfl, by omega, by omega, fun j h1 h2 => absurd h2 (by omega), Below.refl _ _⟩
  case round =>
    obtain ⟨k, rfl, hk1, hk9, hno, hbel⟩ := hrel
    have HN : Hid (∀ j, 1 ≤ j → j < k → ltr j ≠ c) := hno
    have HB : Hid (Below w.heap.size w wr) := hbel
    clear hno hbel
    by_cases hk : k ≤ 8
    · have hl := ltr_lt k
      by_cases he : ltr k = c
      · have he2 : (((ltr k : Nat) : Int) == (c : Int)) = true := by rw [he]; simp
        go_wp2_with (first | (go_at_call 38; (with_reducible refine (nature_any k _).mono ?_); rintro e w' ⟨rfl, hb⟩; (have HB2 : Hid (Below wr.heap.size wr w') := hb); clear hb; unfold natV))
        go_ret2
        have h3 : ofK c = k := by rw [← he]; exact of_ltr hk1 hk
        refine ⟨?_, HB.out.trans (HB2.out.mono HB.out.size)⟩
        rw [h3, show (k != 0) = true from by simp; omega]
        rfl
      · have he2 : (((ltr k : Nat) : Int) == (c : Int)) = false := by simp; omega
        have hw : IntKind.u8.wrap ((k : Int) + 1) = ((k + 1 : Nat) : Int) := by rw [IntKind.wrap_u8]; omega
        go_wp2_with (first | (go_at_call 38; (with_reducible refine (nature_any k _).mono ?_); rintro e w' ⟨rfl, hb⟩; (have HB2 : Hid (Below wr.heap.size wr w') := hb); clear hb; unfold natV))
        go_roundw
        case rel =>
          refine ⟨k + 1, by go_num, by omega, by omega, fun j h1 h2 => ?_, HB.out.trans (HB2.out.mono HB.out.size)⟩
          rcases Nat.lt_succ_iff_lt_or_eq.1 h2 with h | rfl
          · exact HN.out j h1 h
          · exact he
        case measure => simp [intOf]; omega
    · have e : k = 9 := by omega
      subst e
      have h0 := of_none HN.out
      have H0 : Hid (ofK c = 0) := h0
      clear h0
      go_wp2_with fail
      go_ret2
      exact ⟨by rw [H0.out]; rfl, HB.out⟩
end Go.Proofs.Ytmhplaanpbpndaa

namespace Go.Proofs.Ytmhplaanpbpndaa
open Fl RowKit
set_option linter.unusedVariables false

theorem ext_size {s : ByteArray} (h : 1 ≤ s.size) : (s.extract 1 s.size).size = s.size - 1 := by simp
theorem ext_byt {s : ByteArray} {i : Nat} (h : i < s.size - 1) : byt (s.extract 1 s.size) i = byt s (i + 1) := by
  have h1 : i < (s.extract 1 s.size).size := by simp; omega
  have h2 : i + 1 < s.size := by omega
  rw [← byt_get h1, ← byt_get h2, ByteArray.getElem_extract]
  congr 2
  omega
theorem ext_plF {s : ByteArray} (h : 1 ≤ s.size) : plF (s.extract 1 s.size) 0 = plF s 1 := by
  rw [Bool.eq_iff_iff]
  unfold plF
  rw [decide_eq_true_iff, decide_eq_true_iff]
  constructor
  · intro q i hi h1
    have := q (i - 1) (by rw [ext_size h]; omega) (Nat.zero_le _)
    rwa [ext_byt (by omega), Nat.sub_add_cancel h1] at this
  · intro q i hi _
    rw [ext_size h] at hi
    rw [ext_byt hi]
    exact q (i + 1) (by omega) (by omega)
/-- the kind of which a text is a name; 0: none -/
def nmK (s : ByteArray) : Nat := if (2 ≤ s.size ∧ s.size ≤ 16) ∧ plF s 1 = true then ofK (byt s 0) else 0
theorem nm_out {s : ByteArray} (h : ¬ (2 ≤ s.size ∧ s.size ≤ 16)) : nmK s = 0 := if_neg (fun q => h q.1)
theorem nm_bad {s : ByteArray} (h : plF s 1 = false) : nmK s = 0 := if_neg (fun q => by rw [h] at q; cases q.2)
theorem nm_in {s : ByteArray} (h1 : 2 ≤ s.size) (h2 : s.size ≤ 16) (h : plF s 1 = true) : nmK s = ofK (byt s 0) := if_pos ⟨⟨h1, h2⟩, h⟩
theorem nmK_le (s : ByteArray) : nmK s ≤ 8 := by
  unfold nmK
  split
  · exact ofK_le _
  · omega
theorem ndx {s : ByteArray} (h1 : 1 ≤ s.size) (h2 : s.size ≤ 16) : ndF (s.extract 1 s.size) = (decide (2 ≤ s.size) && plF s 1) := by
  unfold ndF
  rw [ext_plF h1, ext_size h1]
  congr 1
  rw [decide_eq_decide]; omega
set_option maxRecDepth 100000 in
theorem name_any (s : ByteArray) (w : World) (hs : s.size ≤ 140737488351232) :
    Calls Try.prog 65 #[.string s] w fun e w' => e = .returned (.tuple #[.int .u8 (nmK s : Nat), .bool (nmK s != 0)]) ∧ Below w.heap.size w w' := by
  rcases (show s.size = 0 ∨ 16 < s.size ∨ (1 ≤ s.size ∧ s.size ≤ 16) from by omega) with h | h | h
  · rw [nm_out (by omega)]
    go_enter Try.func65, Try.ntmps65
    go_wp2_with fail
    go_ret2
    exact ⟨rfl, Below.refl _ _⟩
  · rw [nm_out (by omega)]
    have h0 : ((s.size : Int) == 0) = false := by rw [beq_eq_false_iff_ne]; omega
    go_enter Try.func65, Try.ntmps65
    go_wp2_with fail
    go_ret2
    exact ⟨rfl, Below.refl _ _⟩
  · obtain ⟨h1, h2⟩ := h
    have h0 : ((s.size : Int) == 0) = false := by rw [beq_eq_false_iff_ne]; omega
    have hpos : 0 < s.size := h1
    have hg := byt_get hpos
    have hlt := byt_lt s 0
    have hx := ndx h1 h2
    have hxs : (s.extract 1 s.size).size ≤ 140737488351232 := by rw [ext_size h1]; omega
    obtain ⟨c, hc⟩ : ∃ c, c = byt s 0 := ⟨_, rfl⟩
    rw [← hc] at hg hlt
    have HC : Hid (c = byt s 0) := hc
    clear hc
    cases hk : (ofK c != 0)
    · have hn : nmK s = 0 := by
        have hc0 : ofK c = 0 := by simpa using hk
        unfold nmK; split
        · rw [← HC.out]; exact hc0
        · rfl
      rw [hn]
      clear hn hx hxs
      go_enter Try.func65, Try.ntmps65
      go_wp2_with (first
        | (go_at_call 86; (try rw [hg]); (with_reducible refine (kof_any c _ hlt).mono ?_); rintro e w' ⟨rfl, hb⟩; (have HB : Hid (Below w.heap.size w w') := hb); clear hb; rw [hk]))
      go_ret2
      exact ⟨rfl, HB.out⟩
    · cases hd : ndF (s.extract 1 s.size)
      · have hn : nmK s = 0 := by
          rw [hx] at hd
          unfold nmK; split
          · next q => rw [q.2] at hd; simp at hd; omega
          · rfl
        rw [hn]
        clear hn hx
        go_enter Try.func65, Try.ntmps65
        go_wp2_with (first
          | (go_at_call 86; (try rw [hg]); (with_reducible refine (kof_any c _ hlt).mono ?_); rintro e w' ⟨rfl, hb⟩; (have HB : Hid (Below w.heap.size w w') := hb); clear hb; rw [hk])
          | (go_at_call 66; (with_reducible refine (node_any _ _ hxs).mono ?_); rintro e w2 ⟨rfl, hb⟩; (have HB2 : Hid (Below w'.heap.size w' w2) := hb); clear hb; rw [hd]))
        go_ret2
        exact ⟨rfl, HB.out.trans (HB2.out.mono HB.out.size)⟩
      · have hn : nmK s = ofK c := by
          rw [hx] at hd
          simp at hd
          rw [HC.out]
          exact nm_in hd.1 h2 hd.2
        rw [hn, hk]
        clear hn hx
        go_enter Try.func65, Try.ntmps65
        go_wp2_with (first
          | (go_at_call 86; (try rw [hg]); (with_reducible refine (kof_any c _ hlt).mono ?_); rintro e w' ⟨rfl, hb⟩; (have HB : Hid (Below w.heap.size w w') := hb); clear hb; rw [hk])
          | (go_at_call 66; (with_reducible refine (node_any _ _ hxs).mono ?_); rintro e w2 ⟨rfl, hb⟩; (have HB2 : Hid (Below w'.heap.size w' w2) := hb); clear hb; rw [hd]))
        go_ret2
        exact ⟨rfl, HB.out.trans (HB2.out.mono HB.out.size)⟩
end Go.Proofs.Ytmhplaanpbpndaa

namespace Go.Proofs.Ytmhplaanpbpndaa
open Fl RowKit
set_option linter.unusedVariables false

/-- the table's cells -/
def tabV : Array Value := #[Value.int IntKind.u8 1, Value.int IntKind.u8 82, Value.string { data := #[111, 104, 109] }, Value.bool true,
          Value.bool false, Value.bool false, Value.int IntKind.u8 2, Value.int IntKind.u8 76,
          Value.string { data := #[104, 101, 110, 114, 121] }, Value.bool true, Value.bool false, Value.bool false,
          Value.int IntKind.u8 3, Value.int IntKind.u8 67, Value.string { data := #[102, 97, 114, 97, 100] },
          Value.bool true, Value.bool false, Value.bool false, Value.int IntKind.u8 4, Value.int IntKind.u8 73,
          Value.string { data := #[97, 109, 112, 101, 114, 101] }, Value.bool false, Value.bool true, Value.bool false,
          Value.int IntKind.u8 5, Value.int IntKind.u8 86, Value.string { data := #[118, 111, 108, 116] },
          Value.bool false, Value.bool true, Value.bool false, Value.int IntKind.u8 6, Value.int IntKind.u8 71,
          Value.string { data := #[115, 105, 101, 109, 101, 110, 115] }, Value.bool false, Value.bool false,
          Value.bool true, Value.int IntKind.u8 7, Value.int IntKind.u8 69, Value.string { data := #[] },
          Value.bool false, Value.bool false, Value.bool true, Value.int IntKind.u8 8, Value.int IntKind.u8 80,
          Value.string { data := #[111, 104, 109] }, Value.bool true, Value.bool false, Value.bool false]
/-- the table in memory -/
structure Tab (w : World) (p : Nat) : Prop where
  blk : w.heap[p]? = some (.cells tabV 103 (0, 0))
theorem Tab.lt {w : World} {p : Nat} (h : Tab w p) : p < w.heap.size := (Array.getElem?_eq_some_iff.1 h.blk).1
theorem Tab.cell {w : World} {p : Nat} (h : Tab w p) (j : Nat) : w.cell? ⟨p, j, none⟩ = tabV[j]? := by
  rw [cell_of_row w p j _ _ (0, 0) h.blk]
theorem Tab.row {w : World} {p i : Nat} (h : Tab w p) (hi : i < 8) : w.cell? ⟨p, i * 6, none⟩ = some (.int .u8 ((i + 1 : Nat) : Int)) ∧ w.cell? ⟨p, i * 6 + 1, none⟩ = some (.int .u8 (ltr (i + 1) : Nat)) ∧ w.cell? ⟨p, i * 6 + 2, none⟩ = some (.string (unS (i + 1))) ∧
    w.cell? ⟨p, i * 6 + 3, none⟩ = some (.bool (abv (i + 1))) ∧ w.cell? ⟨p, i * 6 + 4, none⟩ = some (.bool (phs (i + 1))) ∧ w.cell? ⟨p, i * 6 + 5, none⟩ = some (.bool (fou (i + 1))) := by
  simp only [h.cell]
  rcases (show i = 0 ∨ i = 1 ∨ i = 2 ∨ i = 3 ∨ i = 4 ∨ i = 5 ∨ i = 6 ∨ i = 7 from by omega) with rfl | rfl | rfl | rfl | rfl | rfl | rfl | rfl <;> exact ⟨rfl, rfl, rfl, rfl, rfl, rfl⟩
theorem Tab.below {w w' : World} {p : Nat} (h : Tab w p) (hb : Below w.heap.size w w') : Tab w' p := ⟨by rw [hb.block p h.lt]; exact h.blk⟩
set_option maxRecDepth 100000 in
set_option maxHeartbeats 2000000 in
theorem rows_any (w : World) :
    Calls Try.prog 68 #[] w fun e w' => e = .returned (.slice (some ⟨w.heap.size, 0, none⟩) 8 8) ∧ Tab w' w.heap.size ∧ Below w.heap.size w w' := by
  go_enter Try.func68, Try.ntmps68
  go_wp2_with fail
  go_ret
  exact ⟨rfl, ⟨heap_alloc_new w _⟩, (Below.refl _ _).alloc (Nat.le_refl _) _⟩
theorem al_size (w : World) (o : Obj) : (w.alloc o).heap.size = w.heap.size + 1 := by simp
theorem below_up {w w' : World} {o : Obj} (h : Below (w.heap.size + 1) (w.alloc o) w') : Below w.heap.size w w' :=
  ((Below.refl _ w).alloc (Nat.le_refl _) o).trans (h.mono (by omega))
/-- a struct of six cells that may be written -/
structure V6 (w : World) (p : Nat) (a b c d e f : Value) : Prop where
  blk : w.heap[p]? = some (.cells #[a, b, c, d, e, f] 103 (0, 0))
theorem v6_of {w w' : World} {a b c d e f : Value} (h : Below (w.heap.size + 1) (w.alloc (.cells #[a, b, c, d, e, f] 103)) w') : V6 w' w.heap.size a b c d e f :=
  ⟨by rw [h.block _ (by omega)]; exact heap_alloc_new w _⟩
theorem V6.cells {w : World} {p : Nat} {a b c d e f : Value} (h : V6 w p a b c d e f) : w.cell? ⟨p, 0, none⟩ = some a ∧ w.cell? ⟨p, 1, none⟩ = some b ∧ w.cell? ⟨p, 2, none⟩ = some c ∧ w.cell? ⟨p, 3, none⟩ = some d ∧ w.cell? ⟨p, 4, none⟩ = some e ∧ w.cell? ⟨p, 5, none⟩ = some f := by
  refine ⟨?_, ?_, ?_, ?_, ?_, ?_⟩ <;> rw [cell_of_row w p _ _ _ (0, 0) h.blk] <;> rfl
theorem V6.free {w : World} {p : Nat} {a b c d e f : Value} (h : V6 w p a b c d e f) (j : Nat) : w.frozen? ⟨p, j, none⟩ = false := frozen_of_row w p j _ _ h.blk
theorem V6.put {w : World} {p : Nat} {a b c d e f : Value} (h : V6 w p a b c d e f) (x : Value) : V6 (w.setCell ⟨p, 0, none⟩ x) p x b c d e f ∧ V6 (w.setCell ⟨p, 1, none⟩ x) p a x c d e f ∧ V6 (w.setCell ⟨p, 2, none⟩ x) p a b x d e f ∧ V6 (w.setCell ⟨p, 3, none⟩ x) p a b c x e f ∧ V6 (w.setCell ⟨p, 4, none⟩ x) p a b c d x f ∧ V6 (w.setCell ⟨p, 5, none⟩ x) p a b c d e x :=
  ⟨⟨heap_setCell_same _ p 0 _ _ _ h.blk⟩, ⟨heap_setCell_same _ p 1 _ _ _ h.blk⟩, ⟨heap_setCell_same _ p 2 _ _ _ h.blk⟩, ⟨heap_setCell_same _ p 3 _ _ _ h.blk⟩, ⟨heap_setCell_same _ p 4 _ _ _ h.blk⟩, ⟨heap_setCell_same _ p 5 _ _ _ h.blk⟩⟩
/-- six cells written -/
def set6 (w : World) (p : Nat) (a b c d e f : Value) : World := (((((w.setCell ⟨p, 0, none⟩ a).setCell ⟨p, 1, none⟩ b).setCell ⟨p, 2, none⟩ c).setCell ⟨p, 3, none⟩ d).setCell ⟨p, 4, none⟩ e).setCell ⟨p, 5, none⟩ f
theorem V6.puts {w : World} {p : Nat} {a b c d e f : Value} (h : V6 w p a b c d e f) (a' b' c' d' e' f' : Value) : V6 (set6 w p a' b' c' d' e' f') p a' b' c' d' e' f' :=
  ((((((h.put a').1.put b').2.1.put c').2.2.1.put d').2.2.2.1.put e').2.2.2.2.1.put f').2.2.2.2.2
theorem below_set6 {n p : Nat} {w w' : World} (h : Below n w w') (hp : n ≤ p) (a b c d e f : Value) : Below n w (set6 w' p a b c d e f) :=
  (((((h.setCell (p := ⟨p, 0, none⟩) hp _).setCell (p := ⟨p, 1, none⟩) hp _).setCell (p := ⟨p, 2, none⟩) hp _).setCell (p := ⟨p, 3, none⟩) hp _).setCell (p := ⟨p, 4, none⟩) hp _).setCell (p := ⟨p, 5, none⟩) hp _
/-- the document's row of a kind -/
def rk (k : Nat) : Nat := if ltr k = 0 then 0 else k
def rowV (k : Nat) : Value := .agg #[.int .u8 ((rk k : Nat) : Int), .int .u8 (ltr k : Nat), .string (unS k), .bool (abv k), .bool (phs k), .bool (fou k)]
set_option maxRecDepth 100000 in
set_option maxHeartbeats 2000000 in
theorem vrow_any (k : Nat) (w : World) (hk : k < 256) :
    Calls Try.prog 44 #[.int .u8 (k : Int)] w fun e w' => e = .returned (.tuple #[rowV k, .bool (ltr k != 0)]) ∧ Below w.heap.size w w' := by
  go_enter Try.func44, Try.ntmps44
  go_wp2_with (first | (go_at_call 68; (with_reducible refine (rows_any _).mono ?_); rintro e w' ⟨rfl, ht, hb⟩; (rw [al_size] at ht hb); (have HT : Hid (Tab w' (w.heap.size + 1)) := ht); (have HB : Hid (Below w.heap.size w w' ∧ Below (w.heap.size + 1) (w.alloc (.cells #[.int .u8 0, .int .u8 0, .string ⟨#[]⟩, .bool false, .bool false, .bool false] 103)) w') := ⟨below_up hb, hb⟩); (have V0 := v6_of hb); clear hb ht))
  go_loopw [5] (fun iv wr => ∃ i : Nat, iv = .int .i64 i ∧ i ≤ 8 ∧ (∀ j, j < i → j + 1 ≠ k) ∧ wr = w') (fun iv _ => 8 - (intOf iv).toNat)
  case atStart => exact ⟨0, rfl, by omega, fun j h1 => absurd h1 (by omega), rfl⟩
  case round =>
    obtain ⟨i, rfl, hi8, hno, hw⟩ := hrel
    subst hw
    have HN : Hid (∀ j, j < i → j + 1 ≠ k) := hno
    clear hno
    by_cases hi : i < 8
    · obtain ⟨q0, q1, q2, q3, q4, q5⟩ := HT.out.row hi
      obtain ⟨v0, v1, v2, v3, v4, v5⟩ := V0.cells
      have f0 := V0.free 0
      have f1 := V0.free 1
      have f2 := V0.free 2
      have f3 := V0.free 3
      have f4 := V0.free 4
      have f5 := V0.free 5
      have HV : Hid _ := V0
      clear V0
      by_cases he : i + 1 = k
      · have he2 : ((((i + 1 : Nat)) : Int) == (k : Int)) = true := by rw [he]; simp
        go_wp2_with fail
        have P := HV.out.puts (.int .u8 (k : Int)) (.int .u8 (ltr k : Nat)) (.string (unS k)) (.bool (abv k)) (.bool (phs k)) (.bool (fou k))
        obtain ⟨z0, z1, z2, z3, z4, z5⟩ := P.cells
        unfold set6 at z0 z1 z2 z3 z4 z5
        have hl : ltr k ≠ 0 := by
          intro q
          have := of_ltr (k := k) (by omega) (by omega)
          rw [q] at this
          have h0 : ofK 0 = 0 := rfl
          omega
        refine bodyPost_ret (by simp [results, Try.results44, go_sem, z0, z1, z2, z3, z4, z5]; try rfl) rfl ?_
        refine ⟨?_, below_set6 HB.out.1 (Nat.le_refl _) _ _ _ _ _ _⟩
        unfold rowV rk
        rw [if_neg hl, show (ltr k != 0) = true from by simp [hl]]
      · have he2 : (((i + 1 : Nat) : Int) == (k : Int)) = false := by simp; omega
        go_wp2_with fail
        go_roundw
        case rel =>
          refine ⟨i + 1, by go_num, by omega, fun j h1 => ?_, trivial⟩
          rcases Nat.lt_succ_iff_lt_or_eq.1 h1 with h | rfl
          · exact HN.out j h
          · exact he
        case measure => simp [intOf]; omega
    · have e : i = 8 := by omega
      subst e
      have hk0 : k = 0 ∨ 8 < k := by
        have h1 := HN.out 0 (by omega)
        have h2 := HN.out 1 (by omega)
        have h3 := HN.out 2 (by omega)
        have h4 := HN.out 3 (by omega)
        have h5 := HN.out 4 (by omega)
        have h6 := HN.out 5 (by omega)
        have h7 := HN.out 6 (by omega)
        have h8 := HN.out 7 (by omega)
        omega
      obtain ⟨e1, e2, e3, e4, e5⟩ := nat_none hk0
      have hr : rowV k = .agg #[.int .u8 0, .int .u8 0, .string ⟨#[]⟩, .bool false, .bool false, .bool false] := by
        unfold rowV rk; rw [e1, e2, e3, e4, e5]; rfl
      have hl : (ltr k != 0) = false := by rw [e1]; rfl
      have HR : Hid (rowV k = .agg #[.int .u8 0, .int .u8 0, .string ⟨#[]⟩, .bool false, .bool false, .bool false] ∧ (ltr k != 0) = false) := ⟨hr, hl⟩
      clear hk0 e1 e2 e3 e4 e5 hr hl
      obtain ⟨v0, v1, v2, v3, v4, v5⟩ := V0.cells
      have f0 := V0.free 0
      have f1 := V0.free 1
      have f2 := V0.free 2
      have f3 := V0.free 3
      have f4 := V0.free 4
      have f5 := V0.free 5
      have HV : Hid _ := V0
      clear V0
      go_wp2_with fail
      have P := HV.out.puts (.int .u8 0) (.int .u8 0) (.string ⟨#[]⟩) (.bool false) (.bool false) (.bool false)
      obtain ⟨z0, z1, z2, z3, z4, z5⟩ := P.cells
      unfold set6 at z0 z1 z2 z3 z4 z5
      refine bodyPost_ret (by simp [results, Try.results44, go_sem, z0, z1, z2, z3, z4, z5]; try rfl) rfl ?_
      refine ⟨?_, below_set6 HB.out.1 (Nat.le_refl _) _ _ _ _ _ _⟩
      rw [HR.out.1, HR.out.2]
end Go.Proofs.Ytmhplaanpbpndaa

namespace Go.Proofs.Ytmhplaanpbpndaa
open Fl RowKit
set_option linter.unusedVariables false

set_option maxRecDepth 100000 in
set_option maxHeartbeats 2000000 in
theorem rof_any (c : Nat) (w : World) (hc : c < 256) :
    Calls Try.prog 70 #[.int .u8 (c : Int)] w fun e w' => e = .returned (.tuple #[.int .u8 (ofK c : Nat), .bool (ofK c != 0)]) ∧ Below w.heap.size w w' := by
  go_enter Try.func70, Try.ntmps70
  go_wp2_with (first | (go_at_call 68; (with_reducible refine (rows_any _).mono ?_); rintro e w' ⟨rfl, ht, hb⟩; (have HT : Hid (Tab w' w.heap.size) := ht); (have HB : Hid (Below w.heap.size w w') := hb); clear hb ht))
  go_loopw [5] (fun iv wr => ∃ i : Nat, iv = .int .i64 i ∧ i ≤ 8 ∧ (∀ j, 1 ≤ j → j < i + 1 → ltr j ≠ c) ∧ wr = w') (fun iv _ => 8 - (intOf iv).toNat)
  case atStart => exact ⟨0, rfl, by omega, fun j h1 h2 => absurd h2 (by omega), rfl⟩
  case round =>
    obtain ⟨i, rfl, hi8, hno, hw⟩ := hrel
    subst hw
    have HN : Hid (∀ j, 1 ≤ j → j < i + 1 → ltr j ≠ c) := hno
    clear hno
    by_cases hi : i < 8
    · obtain ⟨q0, q1, -⟩ := HT.out.row hi
      have hl := ltr_lt (i + 1)
      by_cases he : ltr (i + 1) = c
      · have he2 : (((ltr (i + 1) : Nat) : Int) == (c : Int)) = true := by rw [he]; simp
        go_wp2_with fail
        go_ret2
        have h3 : ofK c = i + 1 := by rw [← he]; exact of_ltr (by omega) (by omega)
        refine ⟨?_, HB.out⟩
        rw [h3]
        rfl
      · have he2 : (((ltr (i + 1) : Nat) : Int) == (c : Int)) = false := by simp; omega
        go_wp2_with fail
        go_roundw
        case rel =>
          refine ⟨i + 1, by go_num, by omega, fun j h1 h2 => ?_, trivial⟩
          rcases Nat.lt_succ_iff_lt_or_eq.1 h2 with h | rfl
          · exact HN.out j h1 h
          · exact he
        case measure => simp [intOf]; omega
    · have e : i = 8 := by omega
      subst e
      have H0 : Hid (ofK c = 0) := of_none HN.out
      go_wp2_with fail
      go_ret2
      exact ⟨by rw [H0.out]; rfl, HB.out⟩
set_option maxRecDepth 100000 in
theorem rname_any (s : ByteArray) (w : World) (hs : s.size ≤ 140737488351232) :
    Calls Try.prog 45 #[.string s] w fun e w' => e = .returned (.tuple #[.int .u8 (nmK s : Nat), .bool (nmK s != 0)]) ∧ Below w.heap.size w w' := by
  rcases (show s.size < 2 ∨ 16 < s.size ∨ (2 ≤ s.size ∧ s.size ≤ 16) from by omega) with h | h | h
  · rw [nm_out (by omega)]
    go_enter Try.func45, Try.ntmps45
    go_wp2_with fail
    go_ret2
    exact ⟨rfl, Below.refl _ _⟩
  · rw [nm_out (by omega)]
    go_enter Try.func45, Try.ntmps45
    go_wp2_with fail
    go_ret2
    exact ⟨rfl, Below.refl _ _⟩
  · obtain ⟨h1, h2⟩ := h
    have hpos : 0 < s.size := by omega
    have hg := byt_get hpos
    have hlt := byt_lt s 0
    have hx := ext_plF (s := s) (by omega)
    have hxs : (s.extract 1 s.size).size ≤ 140737488351232 := by rw [ext_size (by omega)]; omega
    cases hd : plF s 1
    · rw [nm_bad hd]
      rw [hd] at hx
      go_enter Try.func45, Try.ntmps45
      go_wp2_with (first
        | (go_at_call 69; (with_reducible refine (rbytes_any _ _ hxs).mono ?_); rintro e w2 ⟨rfl, hw2⟩; subst hw2; rw [hx]))
      go_ret2
      exact ⟨rfl, Below.refl _ _⟩
    · rw [nm_in h1 h2 hd]
      rw [hd] at hx
      obtain ⟨c, hc⟩ : ∃ c, c = byt s 0 := ⟨_, rfl⟩
      rw [← hc] at hg hlt ⊢
      clear hc
      go_enter Try.func45, Try.ntmps45
      go_wp2_with (first
        | (go_at_call 69; (with_reducible refine (rbytes_any _ _ hxs).mono ?_); rintro e w2 ⟨rfl, hw2⟩; subst hw2; rw [hx])
        | (go_at_call 70; (try rw [hg]); (with_reducible refine (rof_any c _ hlt).mono ?_); rintro e w' ⟨rfl, hb⟩; (have HB : Hid _ := hb); clear hb))
      go_ret2
      exact ⟨rfl, HB.out⟩
end Go.Proofs.Ytmhplaanpbpndaa

namespace Go.Proofs.Ytmhplaanpbpndaa
open Fl RowKit
set_option linter.unusedVariables false

/-- an element -/
structure Elm where
  k : Nat
  n : ByteArray
  a : ByteArray
  b : ByteArray
  c : ByteArray
  d : ByteArray
  v : Nat
  ph : Int
def elV (x : Elm) : Value := .agg #[.int .u8 (x.k : Int), .string x.n, .string x.a, .string x.b, .string x.c, .string x.d, .float .f64 x.v, .int .i64 x.ph]
structure Elm.ok (x : Elm) : Prop where
  k : x.k < 256
  n : x.n.size ≤ 140737488351232
  a : x.a.size ≤ 140737488351232
  b : x.b.size ≤ 140737488351232
  c : x.c.size ≤ 140737488351232
  d : x.d.size ≤ 140737488351232
  v : x.v < 18446744073709551616
/-- the element's cells, its nature's cells -/
def elA (x : Elm) : Array Value := #[.int .u8 (x.k : Int), .string x.n, .string x.a, .string x.b, .string x.c, .string x.d, .float .f64 x.v, .int .i64 x.ph]
def ntA (k : Nat) : Array Value := #[.int .u8 (ltr k : Nat), .string (unS k), .bool (abv k), .bool (phs k), .bool (fou k)]
/-- an element that lies in memory -/
structure EC (w W : World) (p : Nat) (x : Elm) : Prop where
  bel : Below w.heap.size w W
  e : W.heap[p]? = some (.cells (elA x) 55 (0, 0))
theorem EC.lt {w W : World} {p : Nat} {x : Elm} (h : EC w W p x) : p < W.heap.size := (Array.getElem?_eq_some_iff.1 h.e).1
theorem EC.below {w W W' : World} {p : Nat} {x : Elm} (h : EC w W p x) (hb : Below W.heap.size W W') : EC w W' p x :=
  ⟨h.bel.trans (hb.mono h.bel.size), by rw [hb.block p h.lt]; exact h.e⟩
theorem EC.al {w W : World} {p : Nat} {x : Elm} (h : EC w W p x) (o : Obj) : EC w (W.alloc o) p x := h.below ((Below.refl _ _).alloc (Nat.le_refl _) o)
theorem EC.f {w W : World} {p : Nat} {x : Elm} (h : EC w W p x) : p < W.heap.size ∧ W.cell? ⟨p, 0, none⟩ = some (.int .u8 (x.k : Int)) ∧ W.cell? ⟨p, 1, none⟩ = some (.string x.n) ∧ W.cell? ⟨p, 2, none⟩ = some (.string x.a) ∧ W.cell? ⟨p, 3, none⟩ = some (.string x.b) ∧ W.cell? ⟨p, 4, none⟩ = some (.string x.c) ∧ W.cell? ⟨p, 5, none⟩ = some (.string x.d) ∧ W.cell? ⟨p, 6, none⟩ = some (.float .f64 x.v) ∧ W.cell? ⟨p, 7, none⟩ = some (.int .i64 x.ph) := by
  refine ⟨h.lt, ?_, ?_, ?_, ?_, ?_, ?_, ?_, ?_⟩ <;> rw [cell_of_row W p _ _ _ (0, 0) h.e] <;> rfl
theorem ec_new (w : World) (x : Elm) : EC w (w.alloc (.cells (elA x) 55)) w.heap.size x :=
  ⟨(Below.refl _ _).alloc (Nat.le_refl _) _, heap_alloc_new w _⟩
/-- a nature that lies in memory -/
structure NC (W : World) (q : Nat) (k : Nat) : Prop where
  n : W.heap[q]? = some (.cells (ntA k) 95 (0, 0))
theorem NC.lt {W : World} {p k : Nat} (h : NC W p k) : p < W.heap.size := (Array.getElem?_eq_some_iff.1 h.n).1
theorem NC.below {W W' : World} {p k : Nat} (h : NC W p k) (hb : Below W.heap.size W W') : NC W' p k := ⟨by rw [hb.block p h.lt]; exact h.n⟩
theorem NC.f {W : World} {p k : Nat} (h : NC W p k) : p < W.heap.size ∧ W.cell? ⟨p, 0, none⟩ = some (.int .u8 (ltr k : Nat)) ∧ W.cell? ⟨p, 1, none⟩ = some (.string (unS k)) ∧ W.cell? ⟨p, 2, none⟩ = some (.bool (abv k)) ∧ W.cell? ⟨p, 3, none⟩ = some (.bool (phs k)) ∧ W.cell? ⟨p, 4, none⟩ = some (.bool (fou k)) := by
  refine ⟨h.lt, ?_, ?_, ?_, ?_, ?_⟩ <;> rw [cell_of_row W p _ _ _ (0, 0) h.n] <;> rfl
theorem nc_new (W : World) (k : Nat) : NC (W.alloc (.cells (ntA k) 95)) W.heap.size k := ⟨heap_alloc_new W _⟩
/-- has it nothing where its kind uses nothing? -/
def spF (x : Elm) : Bool := (fou x.k || (x.c.toList.isEmpty && x.d.toList.isEmpty)) && (phs x.k || x.ph == 0)
set_option maxRecDepth 100000 in
set_option maxHeartbeats 2000000 in
theorem spare_any (x : Elm) (w : World) (h : x.ok) :
    Calls Try.prog 40 #[elV x, natV x.k] w fun e w' => e = .returned (.bool (spF x)) ∧ Below w.heap.size w w' := by
  unfold elV natV
  have HB : Hid (∀ o1 o2, Below w.heap.size w ((w.alloc o1).alloc o2)) := fun o1 o2 => ((Below.refl _ _).alloc (Nat.le_refl _) _).alloc (by simp) _
  go_enter Try.func40, Try.ntmps40
  go_wp2_with fail
  all_goals go_ret
  all_goals refine ⟨retb ?_, HB.out _ _⟩
  all_goals simp_all [spF]
/-- has it a name of its kind, and nodes? -/
def naF (x : Elm) : Bool := (nmK x.n != 0) && (nmK x.n == x.k) && ndF x.a && ndF x.b && (!fou x.k || (ndF x.c && ndF x.d))
set_option maxRecDepth 100000 in
set_option maxHeartbeats 2000000 in
theorem named_any (x : Elm) (w : World) (h : x.ok) :
    Calls Try.prog 39 #[elV x, natV x.k] w fun e w' => e = .returned (.bool (naF x)) ∧ Below w.heap.size w w' := by
  unfold elV natV
  have E0 : Hid (EC w ((w.alloc (.cells (elA x) 55)).alloc (.cells (ntA x.k) 95)) w.heap.size x) := (ec_new w x).al _
  have N0 : Hid (NC ((w.alloc (.cells (elA x) 55)).alloc (.cells (ntA x.k) 95)) (w.heap.size + 1) x.k) := by have := nc_new (w.alloc (.cells (elA x) 55)) x.k; rwa [al_size] at this
  go_enter Try.func39, Try.ntmps39
  go_wp2_with (first
    | (go_at_call 65; (with_reducible refine (name_any x.n _ h.n).mono ?_); rintro e w1 ⟨rfl, hb⟩; (have E1 : Hid _ := E0.out.below hb); (have N1 : Hid _ := N0.out.below hb); (obtain ⟨l1, c10, c11, c12, c13, c14, c15, c16, c17⟩ := E1.out.f); (obtain ⟨m1, n10, n11, n12, n13, n14⟩ := N1.out.f); clear hb E0 N0)
    | (go_at_call 66; (with_reducible refine (node_any x.a _ h.a).mono ?_); rintro e w2 ⟨rfl, hb⟩; (have E2 : Hid _ := E1.out.below hb); (have N2 : Hid _ := N1.out.below hb); (obtain ⟨l2, c20, c21, c22, c23, c24, c25, c26, c27⟩ := E2.out.f); (obtain ⟨m2, n20, n21, n22, n23, n24⟩ := N2.out.f); clear hb E1 N1 c10 c11 c12 c13 c14 c15 c16 c17 n10 n11 n12 n13 n14)
    | (go_at_call 66; (with_reducible refine (node_any x.b _ h.b).mono ?_); rintro e w3 ⟨rfl, hb⟩; (have E3 : Hid _ := E2.out.below hb); (have N3 : Hid _ := N2.out.below hb); (obtain ⟨l3, c30, c31, c32, c33, c34, c35, c36, c37⟩ := E3.out.f); (obtain ⟨m3, n30, n31, n32, n33, n34⟩ := N3.out.f); clear hb E2 N2 c20 c21 c22 c23 c24 c25 c26 c27 n20 n21 n22 n23 n24)
    | (go_at_call 66; (with_reducible refine (node_any x.c _ h.c).mono ?_); rintro e w4 ⟨rfl, hb⟩; (have E4 : Hid _ := E3.out.below hb); (obtain ⟨l4, c40, c41, c42, c43, c44, c45, c46, c47⟩ := E4.out.f); clear hb E3 N3 c30 c31 c32 c33 c34 c35 c36 c37 n30 n31 n32 n33 n34)
    | (go_at_call 66; (with_reducible refine (node_any x.d _ h.d).mono ?_); rintro e w5 ⟨rfl, hb⟩; (have E5 : Hid _ := E4.out.below hb); clear hb E4 c40 c41 c42 c43 c44 c45 c46 c47))
  all_goals go_ret
  all_goals refine ⟨retb ?_, ?_⟩
  all_goals first | exact E1.out.bel | exact E2.out.bel | exact E3.out.bel | exact E4.out.bel | exact E5.out.bel | (simp_all [naF]; done) | (simp_all [naF]; omega) | (simp_all [naF]; intro _; omega)
end Go.Proofs.Ytmhplaanpbpndaa

namespace Go.Proofs.Ytmhplaanpbpndaa
open Fl RowKit
set_option linter.unusedVariables false

/-- is a real above nought? -/
def posV (v : Nat) : Bool := decide (0 < plc v)
/-- what is wrong with an element -/
def chkI (x : Elm) : Int := if ltr x.k = 0 then 2 else if naF x = false then 8 else if (x.a.toList == x.b.toList) = true ∨ spF x = false then 2 else if 2 < kdB x.v then 5 else if abv x.k = true ∧ posV x.v = false then 2 else 0
theorem kd_fin {v : Nat} (h : ¬ 2 < kdB v) : nan v = false := by
  cases hn : nan v
  · rfl
  · rw [kd_4 hn] at h; omega
theorem leq_zero {v : Nat} (h : nan v = false) : (FloatKind.f64.format.order v 0 == some .lt || FloatKind.f64.format.order v 0 == some .eq) = !posV v := by
  rw [order_lt h nan_zero, order_eqb h nan_zero, plc_zero]
  unfold posV
  rw [Bool.eq_iff_iff]; simp; omega
theorem leq_iff {v : Nat} (h : nan v = false) : posV v = false ↔ FloatKind.f64.format.order v 0 = some .lt ∨ FloatKind.f64.format.order v 0 = some .eq := by
  have := leq_zero h
  cases hp : posV v
  · rw [hp] at this; simpa using this
  · rw [hp] at this; simpa using this
theorem gt_zero {v : Nat} (h : nan v = false) : (FloatKind.f64.format.order v 0 == some .gt) = posV v := by
  rw [order_gt h nan_zero, plc_zero]; rfl
theorem named_w (x : Elm) (w : World) (h : x.ok) :
    Calls Try.prog 39 #[.agg #[.int .u8 (x.k : Int), .string x.n, .string x.a, .string x.b, .string x.c, .string x.d, .float .f64 x.v, .int .i64 x.ph], .agg #[.int .u8 (ltr x.k : Nat), .string (unS x.k), .bool (abv x.k), .bool (phs x.k), .bool (fou x.k)]] w fun e w' => e = .returned (.bool (naF x)) ∧ Below w.heap.size w w' := named_any x w h
theorem spare_w (x : Elm) (w : World) (h : x.ok) :
    Calls Try.prog 40 #[.agg #[.int .u8 (x.k : Int), .string x.n, .string x.a, .string x.b, .string x.c, .string x.d, .float .f64 x.v, .int .i64 x.ph], .agg #[.int .u8 (ltr x.k : Nat), .string (unS x.k), .bool (abv x.k), .bool (phs x.k), .bool (fou x.k)]] w fun e w' => e = .returned (.bool (spF x)) ∧ Below w.heap.size w w' := spare_any x w h
set_option maxRecDepth 100000 in
set_option maxHeartbeats 2000000 in
theorem check_any (x : Elm) (w : World) (h : x.ok) :
    Calls Try.prog 18 #[elV x] w fun e w' => e = .returned (.int .i64 (chkI x)) ∧ Below w.heap.size w w' := by
  have E0 : Hid (EC w (w.alloc (.cells (elA x) 55)) w.heap.size x) := ec_new w x
  by_cases hl : ltr x.k = 0
  · have hk0 : x.k = 0 ∨ 8 < x.k := by
      rcases (show x.k = 1 ∨ x.k = 2 ∨ x.k = 3 ∨ x.k = 4 ∨ x.k = 5 ∨ x.k = 6 ∨ x.k = 7 ∨ x.k = 8 ∨ (x.k = 0 ∨ 8 < x.k) from by omega) with q | q | q | q | q | q | q | q | q
      all_goals first | exact q | (rw [q] at hl; exact absurd hl (by decide))
    obtain ⟨e1, e2, e3, e4, e5⟩ := nat_none hk0
    have hn : natV x.k = .agg #[.int .u8 0, .string ⟨#[]⟩, .bool false, .bool false, .bool false] := by unfold natV; rw [e1, e2, e3, e4, e5]; rfl
    have hc : chkI x = 2 := by unfold chkI; rw [if_pos hl]
    rw [hc]
    have HN : Hid _ := hn
    clear e1 e2 e3 e4 e5 hk0 hn hc hl
    unfold elV
    go_enter Try.func18, Try.ntmps18
    go_wp2_with (first
      | (go_at_call 38; (with_reducible refine (nature_any x.k _).mono ?_); rintro e w1 ⟨rfl, hb⟩; (have E1 : Hid _ := E0.out.below hb); (rw [HN.out]); clear hb E0))
    go_ret
    exact ⟨rfl, (E1.out.al _).bel⟩
  · have hl2 : (((ltr x.k : Nat) : Int) == 0) = false := by rw [beq_eq_false_iff_ne]; omega
    have HL : Hid (¬ ltr x.k = 0) := hl
    clear hl
    have hkd : ∀ W, Calls Try.prog 41 #[.float .f64 x.v] W fun e w' => e = .returned (.int .i64 (kdB x.v)) ∧ w' = W := fun W => kind_any x.v W h.v
    have HK : Hid (∀ W, Calls Try.prog 41 #[.float .f64 x.v] W fun e w' => e = .returned (.int .i64 (kdB x.v)) ∧ w' = W) := hkd
    clear hkd
    have hz : ¬ 2 < kdB x.v → (posV x.v = false ↔ FloatKind.f64.format.order x.v 0 = some .lt ∨ FloatKind.f64.format.order x.v 0 = some .eq) := fun q => leq_iff (kd_fin q)
    have HZ : Hid _ := hz
    clear hz
    unfold elV
    go_enter Try.func18, Try.ntmps18
    go_wp2_with (first
      | (go_at_call 38; (with_reducible refine (nature_any x.k _).mono ?_); rintro e w1 ⟨rfl, hb⟩; (have E1 : Hid _ := (E0.out.below hb).al (.cells (ntA x.k) 95)); (have N1 : Hid _ := nc_new w1 x.k); (obtain ⟨l1, c10, c11, c12, c13, c14, c15, c16, c17⟩ := (E0.out.below hb).f); unfold natV; clear hb E0)
      | (go_at_call 39; (with_reducible refine (named_w x _ h).mono ?_); rintro e w2 ⟨rfl, hb⟩; (have E2 : Hid _ := E1.out.below hb); (have N2 : Hid _ := N1.out.below hb); (obtain ⟨l2, c20, c21, c22, c23, c24, c25, c26, c27⟩ := E2.out.f); (obtain ⟨m2, n20, n21, n22, n23, n24⟩ := N2.out.f); clear hb E1 N1 c10 c11 c12 c13 c14 c15 c16 c17)
      | (go_at_call 40; (with_reducible refine (spare_w x _ h).mono ?_); rintro e w3 ⟨rfl, hb⟩; (have E3 : Hid _ := E2.out.below hb); (have N3 : Hid _ := N2.out.below hb); (obtain ⟨l3, c30, c31, c32, c33, c34, c35, c36, c37⟩ := E3.out.f); (obtain ⟨m3, n30, n31, n32, n33, n34⟩ := N3.out.f); clear hb E2 N2 c20 c21 c22 c23 c24 c25 c26 c27 n20 n21 n22 n23 n24)
      | (go_at_call 41; (with_reducible refine (HK.out _).mono ?_); rintro e w4 ⟨rfl, rfl⟩))
    all_goals go_ret
    all_goals refine ⟨ret1 ?_, ?_⟩
    all_goals (have hl := HL.out)
    all_goals first | exact E2.out.bel | exact E3.out.bel | (unfold chkI; have hz := HZ.out; clear HL HZ HK; simp_all; done) | (unfold chkI; have hz := HZ.out; clear HL HZ HK; (repeat' split) <;> simp_all <;> omega)
end Go.Proofs.Ytmhplaanpbpndaa

namespace Go.Proofs.Ytmhplaanpbpndaa
open Fl RowKit
set_option linter.unusedVariables false

def rwA (k : Nat) : Array Value := #[.int .u8 ((rk k : Nat) : Int), .int .u8 (ltr k : Nat), .string (unS k), .bool (abv k), .bool (phs k), .bool (fou k)]
/-- a row of the table that lies in memory -/
structure RC (W : World) (q : Nat) (k : Nat) : Prop where
  n : W.heap[q]? = some (.cells (rwA k) 103 (0, 0))
theorem RC.lt {W : World} {p k : Nat} (h : RC W p k) : p < W.heap.size := (Array.getElem?_eq_some_iff.1 h.n).1
theorem RC.below {W W' : World} {p k : Nat} (h : RC W p k) (hb : Below W.heap.size W W') : RC W' p k := ⟨by rw [hb.block p h.lt]; exact h.n⟩
theorem RC.f {W : World} {p k : Nat} (h : RC W p k) : p < W.heap.size ∧ W.cell? ⟨p, 3, none⟩ = some (.bool (abv k)) ∧ W.cell? ⟨p, 4, none⟩ = some (.bool (phs k)) ∧ W.cell? ⟨p, 5, none⟩ = some (.bool (fou k)) := by
  refine ⟨h.lt, ?_, ?_, ?_⟩ <;> rw [cell_of_row W p _ _ _ (0, 0) h.n] <;> rfl
theorem rc_new (W : World) (k : Nat) : RC (W.alloc (.cells (rwA k) 103)) W.heap.size k := ⟨heap_alloc_new W _⟩
theorem gt_iff {v : Nat} (h : nan v = false) : posV v = true ↔ FloatKind.f64.format.order v 0 = some .gt := by
  have := gt_zero h
  cases hp : posV v
  · rw [hp] at this; simpa using this
  · rw [hp] at this; simpa using this
set_option maxRecDepth 100000 in
set_option maxHeartbeats 4000000 in
theorem vrcheck_any (x : Elm) (w : World) (h : x.ok) :
    Calls Try.prog 22 #[elV x] w fun e w' => e = .returned (.int .i64 (chkI x)) ∧ Below w.heap.size w w' := by
  have E0 : Hid (EC w (w.alloc (.cells (elA x) 55)) w.heap.size x) := ec_new w x
  by_cases hl : ltr x.k = 0
  · have hl2 : (ltr x.k != 0) = false := by simp [hl]
    have hc : chkI x = 2 := by unfold chkI; rw [if_pos hl]
    rw [hc]
    clear hc hl
    unfold elV
    go_enter Try.func22, Try.ntmps22
    go_wp2_with (first
      | (go_at_call 44; (with_reducible refine (vrow_any x.k _ h.k).mono ?_); rintro e w1 ⟨rfl, hb⟩; (have E1 : Hid _ := E0.out.below hb); (rw [hl2]); unfold rowV; clear hb E0))
    go_ret
    exact ⟨rfl, (E1.out.al _).bel⟩
  · have hl2 : (ltr x.k != 0) = true := by simp [hl]
    have HL : Hid (¬ ltr x.k = 0) := hl
    clear hl
    have HK : Hid (∀ W, Calls Try.prog 47 #[.float .f64 x.v] W fun e w' => e = .returned (.int .i64 (kdB x.v)) ∧ w' = W) := fun W => rkind_any x.v W
    have HZ : Hid (¬ 2 < kdB x.v → (posV x.v = true ↔ FloatKind.f64.format.order x.v 0 = some .gt)) := fun q => gt_iff (kd_fin q)
    unfold elV
    go_enter Try.func22, Try.ntmps22
    go_wp2_with (first
      | (go_at_call 44; (with_reducible refine (vrow_any x.k _ h.k).mono ?_); rintro e w1 ⟨rfl, hb⟩; (have E1 : Hid _ := (E0.out.below hb).al (.cells (rwA x.k) 103)); (have N1 : Hid _ := rc_new w1 x.k); (obtain ⟨l1, c10, c11, c12, c13, c14, c15, c16, c17⟩ := (E0.out.below hb).f); unfold rowV; rw [hl2]; clear hb E0)
      | (go_at_call 45; (with_reducible refine (rname_any x.n _ h.n).mono ?_); rintro e w2 ⟨rfl, hb⟩; (have E2 : Hid _ := E1.out.below hb); (have N2 : Hid _ := N1.out.below hb); (obtain ⟨l2, c20, c21, c22, c23, c24, c25, c26, c27⟩ := E2.out.f); (obtain ⟨m2, n23, n24, n25⟩ := N2.out.f); clear hb E1 N1 c10 c11 c12 c13 c14 c15 c16 c17)
      | (go_at_call 46; (with_reducible refine (rnode_any x.a _ h.a).mono ?_); rintro e w3 ⟨rfl, rfl⟩)
      | (go_at_call 46; (with_reducible refine (rnode_any x.b _ h.b).mono ?_); rintro e w3 ⟨rfl, rfl⟩)
      | (go_at_call 46; (with_reducible refine (rnode_any x.c _ h.c).mono ?_); rintro e w3 ⟨rfl, rfl⟩)
      | (go_at_call 46; (with_reducible refine (rnode_any x.d _ h.d).mono ?_); rintro e w3 ⟨rfl, rfl⟩)
      | (go_at_call 47; (with_reducible refine (HK.out _).mono ?_); rintro e w4 ⟨rfl, rfl⟩))
    all_goals go_ret
    all_goals refine ⟨ret1 ?_, E2.out.bel⟩
    all_goals (have hl := HL.out)
    all_goals (have hz := HZ.out)
    all_goals (clear HL HZ HK E2 N2 c20 c21 c22 c23 c24 c25 c26 c27 n23 n24 n25)
    all_goals first | (simp_all [chkI, naF, spF, Int.ofNat_inj]; done) | (simp_all [chkI, naF, spF, Int.ofNat_inj]; omega) | ((repeat' split) <;> simp_all [chkI, naF, spF, Int.ofNat_inj] <;> omega)
end Go.Proofs.Ytmhplaanpbpndaa

namespace Go.Proofs.Ytmhplaanpbpndaa
open Fl RowKit
set_option linter.unusedVariables false

@[go_sem] theorem run_store_flt {P : Program} (w : World) (a : Addr) (m : Mode) (k : FloatKind) (b : Nat) : (store a (.float k b) m).run P w = stored P w a (.float k b) m := run_store P w a _ m rfl
theorem order_00 : FloatKind.f64.format.order 0 0 = some .eq := order_num nan_zero
theorem below_2 (w : World) (o1 o2 : Obj) : Below w.heap.size w ((w.alloc o1).alloc o2) := ((Below.refl _ _).alloc (Nat.le_refl _) _).alloc (by simp) _
@[go_sem] theorem run_eq00 (w : World) : Sem.run Try.prog (Op.equalIn 9999 35 (.float .f64 0) (.float .f64 0)) w = .ok true w := by kernel_rfl
/-- are two elements the same? -/
def seF (x y : Elm) : Bool := (x.k == y.k) && (x.n.toList == y.n.toList) && (x.a.toList == y.a.toList) && (x.b.toList == y.b.toList) && (x.c.toList == y.c.toList) && (x.d.toList == y.d.toList) && smB x.v y.v && (x.ph == y.ph)
theorem cells_8 {W : World} {p : Nat} {a b c d e f g h : Value} {t : TypeId} (hb : W.heap[p]? = some (.cells #[a, b, c, d, e, f, g, h] t (0, 0))) : W.cell? ⟨p, 0, none⟩ = some a ∧ W.cell? ⟨p, 1, none⟩ = some b ∧ W.cell? ⟨p, 2, none⟩ = some c ∧ W.cell? ⟨p, 3, none⟩ = some d ∧ W.cell? ⟨p, 4, none⟩ = some e ∧ W.cell? ⟨p, 5, none⟩ = some f ∧ W.cell? ⟨p, 6, none⟩ = some g ∧ W.cell? ⟨p, 7, none⟩ = some h := by
  refine ⟨?_, ?_, ?_, ?_, ?_, ?_, ?_, ?_⟩ <;> rw [cell_of_row W p _ _ _ (0, 0) hb] <;> rfl
/-- eight cells written -/
def set8 (w : World) (p : Nat) (a b c d e f g h : Value) : World := (((((((w.setCell ⟨p, 0, none⟩ a).setCell ⟨p, 1, none⟩ b).setCell ⟨p, 2, none⟩ c).setCell ⟨p, 3, none⟩ d).setCell ⟨p, 4, none⟩ e).setCell ⟨p, 5, none⟩ f).setCell ⟨p, 6, none⟩ g).setCell ⟨p, 7, none⟩ h
theorem set8_blk {w : World} {p : Nat} {a b c d e f g h : Value} {t : TypeId} (hb : w.heap[p]? = some (.cells #[a, b, c, d, e, f, g, h] t (0, 0))) (a' b' c' d' e' f' g' h' : Value) : (set8 w p a' b' c' d' e' f' g' h').heap[p]? = some (.cells #[a', b', c', d', e', f', g', h'] t (0, 0)) := by
  have h0 : (w.setCell ⟨p, 0, none⟩ a').heap[p]? = some (.cells #[a', b, c, d, e, f, g, h] t (0, 0)) := heap_setCell_same _ p 0 _ t a' hb
  have h1 : ((w.setCell ⟨p, 0, none⟩ a').setCell ⟨p, 1, none⟩ b').heap[p]? = some (.cells #[a', b', c, d, e, f, g, h] t (0, 0)) := heap_setCell_same _ p 1 _ t b' h0
  have h2 : (((w.setCell ⟨p, 0, none⟩ a').setCell ⟨p, 1, none⟩ b').setCell ⟨p, 2, none⟩ c').heap[p]? = some (.cells #[a', b', c', d, e, f, g, h] t (0, 0)) := heap_setCell_same _ p 2 _ t c' h1
  have h3 : ((((w.setCell ⟨p, 0, none⟩ a').setCell ⟨p, 1, none⟩ b').setCell ⟨p, 2, none⟩ c').setCell ⟨p, 3, none⟩ d').heap[p]? = some (.cells #[a', b', c', d', e, f, g, h] t (0, 0)) := heap_setCell_same _ p 3 _ t d' h2
  have h4 : (((((w.setCell ⟨p, 0, none⟩ a').setCell ⟨p, 1, none⟩ b').setCell ⟨p, 2, none⟩ c').setCell ⟨p, 3, none⟩ d').setCell ⟨p, 4, none⟩ e').heap[p]? = some (.cells #[a', b', c', d', e', f, g, h] t (0, 0)) := heap_setCell_same _ p 4 _ t e' h3
  have h5 : ((((((w.setCell ⟨p, 0, none⟩ a').setCell ⟨p, 1, none⟩ b').setCell ⟨p, 2, none⟩ c').setCell ⟨p, 3, none⟩ d').setCell ⟨p, 4, none⟩ e').setCell ⟨p, 5, none⟩ f').heap[p]? = some (.cells #[a', b', c', d', e', f', g, h] t (0, 0)) := heap_setCell_same _ p 5 _ t f' h4
  have h6 : (((((((w.setCell ⟨p, 0, none⟩ a').setCell ⟨p, 1, none⟩ b').setCell ⟨p, 2, none⟩ c').setCell ⟨p, 3, none⟩ d').setCell ⟨p, 4, none⟩ e').setCell ⟨p, 5, none⟩ f').setCell ⟨p, 6, none⟩ g').heap[p]? = some (.cells #[a', b', c', d', e', f', g', h] t (0, 0)) := heap_setCell_same _ p 6 _ t g' h5
  have h7 : ((((((((w.setCell ⟨p, 0, none⟩ a').setCell ⟨p, 1, none⟩ b').setCell ⟨p, 2, none⟩ c').setCell ⟨p, 3, none⟩ d').setCell ⟨p, 4, none⟩ e').setCell ⟨p, 5, none⟩ f').setCell ⟨p, 6, none⟩ g').setCell ⟨p, 7, none⟩ h').heap[p]? = some (.cells #[a', b', c', d', e', f', g', h'] t (0, 0)) := heap_setCell_same _ p 7 _ t h' h6
  exact h7
theorem below_set8 {n p : Nat} {w w' : World} (h : Below n w w') (hp : n ≤ p) (x0 x1 x2 x3 x4 x5 x6 x7 : Value) : Below n w (set8 w' p x0 x1 x2 x3 x4 x5 x6 x7) := by
  have h0 := h.setCell (p := ⟨p, 0, none⟩) hp x0
  have h1 := h0.setCell (p := ⟨p, 1, none⟩) hp x1
  have h2 := h1.setCell (p := ⟨p, 2, none⟩) hp x2
  have h3 := h2.setCell (p := ⟨p, 3, none⟩) hp x3
  have h4 := h3.setCell (p := ⟨p, 4, none⟩) hp x4
  have h5 := h4.setCell (p := ⟨p, 5, none⟩) hp x5
  have h6 := h5.setCell (p := ⟨p, 6, none⟩) hp x6
  exact h6.setCell (p := ⟨p, 7, none⟩) hp x7
set_option maxRecDepth 100000 in
set_option maxHeartbeats 4000000 in
theorem element_any (x : Elm) (w : World) :
    Calls Try.prog 16 #[.agg #[.int .u8 (x.k : Int), .string x.n, .string x.a, .string x.b, .string x.c, .string x.d, .int .u64 (x.v : Int), .int .i64 x.ph]] w fun e w' => e = .returned (elV x) ∧ Below w.heap.size w w' := by
  obtain ⟨W, hW⟩ : ∃ W, W = (w.alloc (.cells #[.int .u8 (x.k : Int), .string x.n, .string x.a, .string x.b, .string x.c, .string x.d, .int .u64 (x.v : Int), .int .i64 x.ph] 58)).alloc (.cells #[.int .u8 0, .string ⟨#[]⟩, .string ⟨#[]⟩, .string ⟨#[]⟩, .string ⟨#[]⟩, .string ⟨#[]⟩, .float .f64 0, .int .i64 0] 55) := ⟨_, rfl⟩
  have B : Below w.heap.size w W := by rw [hW]; exact below_2 _ _ _
  have b0 : W.heap[w.heap.size]? = some (.cells #[.int .u8 (x.k : Int), .string x.n, .string x.a, .string x.b, .string x.c, .string x.d, .int .u64 (x.v : Int), .int .i64 x.ph] 58 (0, 0)) := by
    rw [hW, ((Below.refl _ _).alloc (Nat.le_refl _) _ : Below (w.alloc _).heap.size _ _).block _ (by simp)]; exact heap_alloc_new w _
  have b1 : W.heap[w.heap.size + 1]? = some (.cells #[.int .u8 0, .string ⟨#[]⟩, .string ⟨#[]⟩, .string ⟨#[]⟩, .string ⟨#[]⟩, .string ⟨#[]⟩, .float .f64 0, .int .i64 0] 55 (0, 0)) := by
    rw [hW]; have := heap_alloc_new (w.alloc (.cells #[.int .u8 (x.k : Int), .string x.n, .string x.a, .string x.b, .string x.c, .string x.d, .int .u64 (x.v : Int), .int .i64 x.ph] 58)) (.cells #[.int .u8 0, .string ⟨#[]⟩, .string ⟨#[]⟩, .string ⟨#[]⟩, .string ⟨#[]⟩, .string ⟨#[]⟩, .float .f64 0, .int .i64 0] 55); rwa [al_size] at this
  obtain ⟨c0, c1, c2, c3, c4, c5, c6, c7⟩ := cells_8 b0
  obtain ⟨d0, d1, d2, d3, d4, d5, d6, d7⟩ := cells_8 b1
  have fz : ∀ j, W.frozen? ⟨w.heap.size + 1, j, none⟩ = false := fun j => frozen_of_row W _ j _ _ b1
  have f0 := fz 0
  have f1 := fz 1
  have f2 := fz 2
  have f3 := fz 3
  have f4 := fz 4
  have f5 := fz 5
  have f6 := fz 6
  have f7 := fz 7
  clear fz
  have HW : Hid (W.heap[w.heap.size + 1]? = some (.cells #[.int .u8 0, .string ⟨#[]⟩, .string ⟨#[]⟩, .string ⟨#[]⟩, .string ⟨#[]⟩, .string ⟨#[]⟩, .float .f64 0, .int .i64 0] 55 (0, 0))) := b1
  have HB : Hid (Below w.heap.size w W) := B
  clear b1 B b0
  go_enter Try.func16, Try.ntmps16
  go_wp2_with fail
  rw [← hW]
  clear hW
  go_region_held_law (fun V => V.cell? ⟨w.heap.size, 0, none⟩ = some (.int .u8 (x.k : Int)) ∧ V.cell? ⟨w.heap.size, 1, none⟩ = some (.string x.n) ∧ V.cell? ⟨w.heap.size, 2, none⟩ = some (.string x.a) ∧ V.cell? ⟨w.heap.size, 3, none⟩ = some (.string x.b) ∧ V.cell? ⟨w.heap.size, 4, none⟩ = some (.string x.c) ∧ V.cell? ⟨w.heap.size, 5, none⟩ = some (.string x.d) ∧ V.cell? ⟨w.heap.size, 6, none⟩ = some (.int .u64 (x.v : Int)) ∧ V.cell? ⟨w.heap.size, 7, none⟩ = some (.int .i64 x.ph))
    (first | with_reducible exact ⟨c0, c1, c2, c3, c4, c5, c6, c7⟩ | go_keep)
    (first | fail)
  go_wp2_with fail
  rename_i hHeld
  clear hHeld
  have Z := cells_8 (set8_blk HW.out (.int .u8 (x.k : Int)) (.string x.n) (.string x.a) (.string x.b) (.string x.c) (.string x.d) (.float .f64 x.v) (.int .i64 x.ph))
  unfold set8 at Z
  obtain ⟨z0, z1, z2, z3, z4, z5, z6, z7⟩ := Z
  refine bodyPost_ret (by simp [results, Try.results16, go_sem, z0, z1, z2, z3, z4, z5, z6, z7]; try rfl) rfl ?_
  exact ⟨rfl, (below_set8 HB.out (by omega) _ _ _ _ _ _ _ _).drew⟩
end Go.Proofs.Ytmhplaanpbpndaa

namespace Go.Proofs.Ytmhplaanpbpndaa
open Go.ChangeShapes Go.WideShapes Go.ChangeAt Go.RowKit Go.Joins Go.Deep
set_option linter.unusedVariables false
set_option maxRecDepth 100000

theorem array8 {α : Type} {cs : Array α} (h : cs.size = 8) : ∃ c0 c1 c2 c3 c4 c5 c6 c7, cs = #[c0, c1, c2, c3, c4, c5, c6, c7] := by
  obtain ⟨l⟩ := cs
  match l, h with
  | [c0, c1, c2, c3, c4, c5, c6, c7], _ => exact ⟨c0, c1, c2, c3, c4, c5, c6, c7, rfl⟩
theorem list8 {α : Type} {cs : List α} (h : cs.length = 8) : ∃ c0 c1 c2 c3 c4 c5 c6 c7, cs = [c0, c1, c2, c3, c4, c5, c6, c7] := by
  match cs, h with
  | [c0, c1, c2, c3, c4, c5, c6, c7], _ => exact ⟨c0, c1, c2, c3, c4, c5, c6, c7, rfl⟩
theorem fields8 : ∃ fs, Try.prog.underlying 58 = some (.struct fs) ∧ fs.size = 8 ∧ oneCellFields Try.prog fs = true ∧ (fs.toList.map (·.type)) = [5, 9, 9, 9, 9, 9, 23, 3] :=
  ⟨_, Try.underlying58, rfl, by kernel_rfl, rfl⟩
theorem cells8 : Try.prog.cellsOf 58 = 8 := by kernel_rfl
/-- an element as it is handed in -/
def inV (x : Elm) : Value := .agg #[.int .u8 (x.k : Int), .string x.n, .string x.a, .string x.b, .string x.c, .string x.d, .int .u64 (x.v : Int), .int .i64 x.ph]
def inD {H : Type} (x : Elm) : DataW H := .agg [.lit (.int .u8 (x.k : Int)), .lit (.string x.n.data.toList), .lit (.string x.a.data.toList), .lit (.string x.b.data.toList), .lit (.string x.c.data.toList), .lit (.string x.d.data.toList), .lit (.int .u64 (x.v : Int)), .lit (.int .i64 x.ph)]
set_option maxHeartbeats 1000000 in
theorem el_open {H : Type} {enc : TypeId × Value → H} {w : World} {base b0 : Nat} {sp : Nat → Bool} {held : Bool} {r : Reach} {v : Value} {d : DataW H} {p : List MemPlace}
    (hv : Value.okWide Try.prog w r b0 58 v) (h : DataW.Trod enc Try.prog w base sp held 58 v d p) :
    ∃ x : Elm, v = inV x ∧ d = inD x ∧ x.k < 256 ∧ x.v < 18446744073709551616 ∧ -9223372036854775808 ≤ x.ph ∧ x.ph ≤ 9223372036854775807 := by
  obtain ⟨fs, hs, hsz8, hone, hty⟩ := fields8
  obtain ⟨cs, rfl, hsz⟩ := okWide_struct hs hv
  obtain ⟨c0, c1, c2, c3, c4, c5, c6, c7, rfl⟩ := array8 (hsz.trans cells8)
  obtain ⟨fuel, hf⟩ := h
  obtain ⟨xs, n, -, hx, -, hlen, hall⟩ := DataW.trod_struct hs hf
  obtain ⟨y0, y1, y2, y3, y4, y5, y6, y7, rfl⟩ := list8 (hlen.trans hsz8)
  have key : ∀ (i : Nat) (t : TypeId) (c : Value) (y : DataW H × List MemPlace), (fs.toList.map (·.type))[i]? = some t → [c0, c1, c2, c3, c4, c5, c6, c7][i]? = some c → [y0, y1, y2, y3, y4, y5, y6, y7][i]? = some y → DataW.trod enc Try.prog w base sp held n t [c] = some y := by
    intro i t c y ht hc hy
    rw [List.getElem?_map, Option.map_eq_some_iff] at ht
    obtain ⟨f, hf1, rfl⟩ := ht
    have hf2 : fs[i]? = some f := by rw [← Array.getElem?_toList]; exact hf1
    obtain ⟨o, k⟩ := hone_of hone i f hf2
    have h1 := hall i f hf2
    rw [o, k, hy] at h1
    rw [← h1]
    congr 1
    have hd : ([c0, c1, c2, c3, c4, c5, c6, c7].drop i).take 1 = [c] := by
      rw [List.take_one, List.head?_drop, hc]; rfl
    simpa [Value.cells] using hd.symm
  rw [hty] at key
  have h0 := key 0 _ _ _ rfl rfl rfl
  have h1 := key 1 _ _ _ rfl rfl rfl
  have h2 := key 2 _ _ _ rfl rfl rfl
  have h3 := key 3 _ _ _ rfl rfl rfl
  have h4 := key 4 _ _ _ rfl rfl rfl
  have h5 := key 5 _ _ _ rfl rfl rfl
  have h6 := key 6 _ _ _ rfl rfl rfl
  have h7 := key 7 _ _ _ rfl rfl rfl
  clear key hall
  obtain ⟨z0, e0, q0, w0⟩ := DataW.trod_int Try.underlying5 h0
  obtain ⟨s1, e1, q1, w1⟩ := DataW.trod_string Try.underlying9 h1
  obtain ⟨s2, e2, q2, w2⟩ := DataW.trod_string Try.underlying9 h2
  obtain ⟨s3, e3, q3, w3⟩ := DataW.trod_string Try.underlying9 h3
  obtain ⟨s4, e4, q4, w4⟩ := DataW.trod_string Try.underlying9 h4
  obtain ⟨s5, e5, q5, w5⟩ := DataW.trod_string Try.underlying9 h5
  obtain ⟨z6, e6, q6, w6⟩ := DataW.trod_int Try.underlying23 h6
  obtain ⟨z7, e7, q7, w7⟩ := DataW.trod_int Try.underlying3 h7
  simp only [List.cons.injEq, and_true] at e0 e1 e2 e3 e4 e5 e6 e7
  subst e0 e1 e2 e3 e4 e5 e6 e7
  obtain ⟨l0, u0⟩ := bounds_u8 w0
  obtain ⟨l6, u6⟩ := bounds_u64 w6
  obtain ⟨l7, u7⟩ := bounds_i64 w7
  obtain ⟨k, rfl⟩ := Int.eq_ofNat_of_zero_le l0
  obtain ⟨v, rfl⟩ := Int.eq_ofNat_of_zero_le l6
  refine ⟨⟨k, s1, s2, s3, s4, s5, v, z7⟩, rfl, ?_, by show k < _; omega, by show v < _; omega, l7, u7⟩
  simp only [Prod.mk.injEq] at hx
  rw [hx.1, q0, q1, q2, q3, q4, q5, q6, q7]
  rfl
theorem sized_str {H : Type} {P : Program} {ts : List TypeId} {ds : List (DataW H)} (h : (DataW.weightsEach P ts ds).all (· ≤ reachBytes) = true) {j k : Nat} {t tf : TypeId} {fs : Array Field} {parts : List (DataW H)} {s : ByteArray} (ht : ts[j]? = some t) (hd : ds[j]? = some (.agg parts)) (hs : P.underlying t = some (.struct fs)) (hf : (fs.toList.map (·.type))[k]? = some tf) (hk : parts[k]? = some (.lit (.string s.data.toList))) : s.size ≤ 140737488351232 := by
  have := List.all_eq_true.1 h _ (DataW.weights_mem_each ht hd s.data.toList.length (by simp only [DataW.weights, hs]; exact DataW.weights_mem_each hf hk _ (by simp [DataW.weights])))
  have h2 : s.data.toList.length ≤ reachBytes := by simpa using this
  have h3 : s.data.toList.length = s.size := by simp
  simp only [reachBytes] at h2
  omega
theorem el_sizes {H : Type} {ts : List TypeId} {ds : List (DataW H)} (h : (DataW.weightsEach Try.prog ts ds).all (· ≤ reachBytes) = true) {j : Nat} {x : Elm} (ht : ts[j]? = some 58) (hd : ds[j]? = some (inD x)) (hk : x.k < 256) (hv : x.v < 18446744073709551616) : x.ok := by
  obtain ⟨fs, hs, hsz8, hone, hty⟩ := fields8
  exact ⟨hk, sized_str h (k := 1) ht hd hs (by rw [hty]; rfl) rfl, sized_str h (k := 2) ht hd hs (by rw [hty]; rfl) rfl, sized_str h (k := 3) ht hd hs (by rw [hty]; rfl) rfl, sized_str h (k := 4) ht hd hs (by rw [hty]; rfl) rfl, sized_str h (k := 5) ht hd hs (by rw [hty]; rfl) rfl, hv⟩
theorem sized_s {H : Type} {P : Program} {ts : List TypeId} {ds : List (DataW H)} (h : (DataW.weightsEach P ts ds).all (· ≤ reachBytes) = true) {j : Nat} {t : TypeId} {s : ByteArray} (ht : ts[j]? = some t) (hd : ds[j]? = some (.lit (.string s.data.toList))) : s.size ≤ 140737488351232 := by
  have h2 := sized_string h ht hd
  have h3 : s.data.toList.length = s.size := by simp
  simp only [reachBytes] at h2
  omega
end Go.Proofs.Ytmhplaanpbpndaa

namespace Go.Proofs.Ytmhplaanpbpndaa
open Fl RowKit
set_option linter.unusedVariables false

/-- what is wrong with a frequency -/
def frI (o : Nat) : Int := if finB o = false then 5 else if posV o = false then 2 else 0
/-- what is wrong with a frequency or an element -/
def ckA (x : Elm) (o : Nat) : Int := if frI o = 0 then chkI x else frI o
def mW (o v : Nat) : Nat := (mulO o v).getD 0
def dW (p : Nat) : Nat := (divO 4607182418800017408 p).getD 0
abbrev Tr3 := Nat × Nat × Int
def toA (a b : Nat) : Tr3 := if (finB a && finB b) = true then (a, b, 0) else (0, 0, 6)
def prA (o v : Nat) : Tr3 := toA 0 (mW o v)
def ovA (o v : Nat) : Tr3 := if finB (mW o v) = true then toA 0 (ngW (dW (mW o v))) else (0, 0, 6)
def ofT (x : Elm) (o : Nat) : Tr3 := if ckA x o = 0 then (if x.k = 1 ∨ x.k = 8 then toA (dW x.v) 0 else if x.k = 3 then prA o x.v else if x.k = 2 then ovA o x.v else (0, 0, 2)) else (0, 0, ckA x o)
def imT (x : Elm) (o : Nat) : Tr3 := if ckA x o = 0 then (if x.k = 1 ∨ x.k = 8 then (x.v, 0, 0) else if x.k = 2 then prA o x.v else if x.k = 3 then ovA o x.v else (0, 0, 2)) else (0, 0, ckA x o)
def cjT (x : Elm) (o : Nat) : Tr3 := if (ofT x o).2.2 = 0 then ((ofT x o).1, ngW (ofT x o).2.1, 0) else (0, 0, (ofT x o).2.2)
def tV (t : Tr3) : Value := .tuple #[.complex .f64 t.1 t.2.1, .int .i64 t.2.2]
/-- the turn's angle -/
def tau : Nat := 4618760256179416344
def omT (h : Nat) : Nat × Int := if frI h = 0 then (if finB (mW tau h) = true then (mW tau h, 0) else (0, 6)) else (0, frI h)
def hzW (o : Nat) : Nat := (divO o tau).getD 0
def hzT (o : Nat) : Nat × Int := if frI o = 0 then (hzW o, 0) else (0, frI o)

theorem finB_iff {x : Nat} : finB x = true ↔ fin x := by unfold finB Fl.fin; simp
theorem fr_zero {o : Nat} (h : frI o = 0) : fin o ∧ posV o = true := by
  unfold frI at h
  by_cases h1 : finB o = false
  · rw [if_pos h1] at h; omega
  · rw [if_neg h1] at h
    by_cases h2 : posV o = false
    · rw [if_pos h2] at h; omega
    · exact ⟨finB_iff.1 (by simpa using h1), by simpa using h2⟩
theorem pos_ng {o : Nat} (h : posV o = true) : ng o = false ∧ 0 < mg o := by
  unfold posV plc sgn at h
  cases hn : ng o
  · rw [hn] at h; simp at h; exact ⟨rfl, h⟩
  · rw [hn] at h; simp at h; omega
theorem kd_fin2 {v : Nat} (h : ¬ 2 < kdB v) : fin v := by
  have hn := kd_fin h
  unfold kdB at h
  rw [hn] at h
  have := not_nan hn
  unfold Fl.fin
  by_cases q : mg v = 9218868437227405312
  · rw [if_neg (by simp), if_pos q] at h; omega
  · omega
theorem ck_zero {x : Elm} {o : Nat} (h : ckA x o = 0) : frI o = 0 ∧ chkI x = 0 := by
  unfold ckA at h
  by_cases h1 : frI o = 0
  · rw [if_pos h1] at h; exact ⟨h1, h⟩
  · rw [if_neg h1] at h; exact absurd h h1
theorem chk_zero {x : Elm} (h : chkI x = 0) : fin x.v ∧ (abv x.k = true → posV x.v = true) := by
  unfold chkI at h
  by_cases h1 : ltr x.k = 0
  · rw [if_pos h1] at h; omega
  · rw [if_neg h1] at h
    by_cases h2 : naF x = false
    · rw [if_pos h2] at h; omega
    · rw [if_neg h2] at h
      by_cases h3 : (x.a.toList == x.b.toList) = true ∨ spF x = false
      · rw [if_pos h3] at h; omega
      · rw [if_neg h3] at h
        by_cases h4 : 2 < kdB x.v
        · rw [if_pos h4] at h; omega
        · rw [if_neg h4] at h
          refine ⟨kd_fin2 h4, fun ha => ?_⟩
          by_cases h5 : abv x.k = true ∧ posV x.v = false
          · rw [if_pos h5] at h; omega
          · cases hp : posV x.v
            · exact absurd ⟨ha, hp⟩ h5
            · rfl
/-- products of finite numbers are told, and have no NaN -/
theorem mul_some {o v : Nat} (ho : fin o) (hv : fin v) : mulO o v = some (mW o v) := by
  unfold mW; rw [mul_gen ho hv]; rfl
theorem mW_ng {o v : Nat} (ho : fin o) (hv : fin v) (h1 : ng o = false) (h2 : ng v = false) : ng (mW o v) = false ∧ nan (mW o v) = false ∧ mW o v < 18446744073709551616 := by
  have h := mul_some ho hv
  have hb := mul_bd h
  refine ⟨?_, hb.2, hb.1⟩
  unfold mW; rw [mul_gen ho hv, h1, h2]
  exact word_ng _ (nr_bd _ _)
theorem div_some {p : Nat} (hn : nan p = false) : ∃ q, divO 4607182418800017408 p = some q := by
  rcases kinds p with h | h | h
  · by_cases h0 : sig (mg p) = 0
    · have hz : mg p = 0 := by
        unfold sig at h0; split at h0 <;> omega
      unfold divO Ieee.Format.div
      rw [read_fin p h, h0]
      exact ⟨_, rfl⟩
    · exact ⟨_, div_gen (x := 4607182418800017408) (finB_iff.1 (by decide)) h h0⟩
  · unfold divO Ieee.Format.div
    rw [read_inf p h]
    exact ⟨_, rfl⟩
  · rw [hn] at h; cases h
theorem dW_some {p : Nat} (hn : nan p = false) : divO 4607182418800017408 p = some (dW p) := by
  obtain ⟨q, hq⟩ := div_some hn
  unfold dW; rw [hq]; rfl
theorem dW_bd {p : Nat} (hn : nan p = false) : dW p < 18446744073709551616 ∧ nan (dW p) = false := div_bd (dW_some hn)
theorem divV_of {x y s : Nat} (h : divO x y = some s) (W : World) : divV W x y = s := by unfold divV fV; rw [h]
theorem fN_some {o : Option Nat} {s : Nat} (h : o = some s) : fN o = 0 := by rw [h]; rfl
theorem finB_ng {q : Nat} (h : q < 18446744073709551616) : finB (ngW q) = finB q := by unfold finB; rw [mg_ngW h]
theorem retT {t u : Tr3} (h : t = u) : Ending.returned (tV t) = .returned (tV u) := by rw [h]
theorem tau_fin : fin tau := finB_iff.1 (by decide)
theorem tau_some {h : Nat} (hf : fin h) : mulO tau h = some (mW tau h) := mul_some tau_fin hf
theorem hz_some {o : Nat} (hf : fin o) : divO o tau = some (hzW o) := by
  unfold hzW; rw [div_gen hf tau_fin (by decide)]; rfl
end Go.Proofs.Ytmhplaanpbpndaa

namespace Go.Proofs.Ytmhplaanpbpndaa
open Fl RowKit
set_option linter.unusedVariables false

theorem afin_any (x : Nat) (w : World) (hx : x < 18446744073709551616) :
    Calls Try.prog 102 #[.float .f64 x] w fun e w' => e = .returned (.bool (finB x)) ∧ w' = w := by
  have hk : (finB x && finB 0) = finB x := by rw [show finB 0 = true from by decide, Bool.and_true]
  have HK : Hid ((finB x && finB 0) = finB x) := hk
  clear hk
  go_enter Try.func102, Try.ntmps102
  go_wp2_with (first | (go_at_call 50; refine (fin_any x 0 _ hx (by decide)).mono ?_; rintro e w' ⟨rfl, rfl⟩))
  go_ret
  exact ⟨retb HK.out, rfl⟩
theorem fin_nan {x : Nat} (h : finB x = true) : nan x = false := fin_not_nan (finB_iff.1 h)
theorem leq_true {v : Nat} (h : nan v = false) (hp : posV v = false) : (FloatKind.f64.format.order v 0 == some .lt || FloatKind.f64.format.order v 0 == some .eq) = true := by rw [leq_zero h, hp]; rfl
theorem leq_false {v : Nat} (h : nan v = false) (hp : posV v = true) : (FloatKind.f64.format.order v 0 == some .lt || FloatKind.f64.format.order v 0 == some .eq) = false := by rw [leq_zero h, hp]; rfl
theorem freq_any (x : Nat) (w : World) (hx : x < 18446744073709551616) :
    Calls Try.prog 99 #[.float .f64 x] w fun e w' => e = .returned (.int .i64 (frI x)) ∧ w' = w := by
  cases hf : finB x
  · have hr : frI x = 5 := by unfold frI; rw [if_pos hf]
    rw [hr]
    have HF : Hid _ := hf
    clear hr hf
    go_enter Try.func99, Try.ntmps99
    go_wp2_with (first | (go_at_call 102; refine (afin_any x _ hx).mono ?_; rintro e w' ⟨rfl, rfl⟩; rw [HF.out]))
    go_ret
    exact ⟨rfl, rfl⟩
  · have hn := fin_nan hf
    cases hp : posV x
    · have hr : frI x = 2 := by unfold frI; rw [hf, hp]; rfl
      rw [hr]
      have HF : Hid _ := hf
      have h1 := (leq_iff hn).1 hp
      clear hr hf hp hn
      go_enter Try.func99, Try.ntmps99
      go_wp2_with (first | (go_at_call 102; refine (afin_any x _ hx).mono ?_; rintro e w' ⟨rfl, rfl⟩; rw [HF.out]))
      all_goals go_ret
      all_goals first | exact ⟨rfl, rfl⟩ | simp_all
    · have hr : frI x = 0 := by unfold frI; rw [hf, hp]; rfl
      rw [hr]
      have HF : Hid _ := hf
      have h1 : ¬ (FloatKind.f64.format.order x 0 = some .lt ∨ FloatKind.f64.format.order x 0 = some .eq) := fun q => by rw [(leq_iff hn).2 q] at hp; cases hp
      clear hr hf hp hn
      go_enter Try.func99, Try.ntmps99
      go_wp2_with (first | (go_at_call 102; refine (afin_any x _ hx).mono ?_; rintro e w' ⟨rfl, rfl⟩; rw [HF.out]))
      all_goals go_ret
      all_goals first | exact ⟨rfl, rfl⟩ | simp_all
theorem chk_wA (x : Elm) (w : World) (h : x.ok) : Calls Try.prog 18 #[.agg #[.int .u8 (x.k : Int), .string x.n, .string x.a, .string x.b, .string x.c, .string x.d, .float .f64 x.v, .int .i64 x.ph]] w fun e w' => e = .returned (.int .i64 (chkI x)) ∧ Below w.heap.size w w' := check_any x w h
theorem acheck_any (x : Elm) (o : Nat) (w : World) (h : x.ok) (ho : o < 18446744073709551616) :
    Calls Try.prog 88 #[elV x, .float .f64 o] w fun e w' => e = .returned (.int .i64 (ckA x o)) ∧ Below w.heap.size w w' := by
  have E0 : Hid (EC w (w.alloc (.cells (elA x) 55)) w.heap.size x) := ec_new w x
  by_cases hf : frI o = 0
  · have hr : ckA x o = chkI x := by unfold ckA; rw [if_pos hf]
    rw [hr]
    have HF : Hid _ := hf
    clear hr hf
    unfold elV
    go_enter Try.func88, Try.ntmps88
    go_wp2_with (first
      | (go_at_call 99; (with_reducible refine (freq_any o _ ho).mono ?_); rintro e w' ⟨rfl, rfl⟩; rw [HF.out]; (obtain ⟨l1, c10, c11, c12, c13, c14, c15, c16, c17⟩ := E0.out.f))
      | (go_at_call 18; (with_reducible refine (chk_wA x _ h).mono ?_); rintro e w1 ⟨rfl, hb⟩; (have E1 : Hid _ := E0.out.below hb); clear hb E0))
    go_ret
    exact ⟨rfl, E1.out.bel⟩
  · have hr : ckA x o = frI o := by unfold ckA; rw [if_neg hf]
    rw [hr]
    have hq : (frI o != 0) = true := by simp [hf]
    clear hr hf
    unfold elV
    go_enter Try.func88, Try.ntmps88
    go_wp2_with (first
      | (go_at_call 99; (with_reducible refine (freq_any o _ ho).mono ?_); rintro e w' ⟨rfl, rfl⟩))
    go_ret
    exact ⟨rfl, E0.out.bel⟩
theorem atold_any (a b : Nat) (w : World) (ha : a < 18446744073709551616) (hb : b < 18446744073709551616) :
    Calls Try.prog 89 #[.complex .f64 a b] w fun e w' => e = .returned (tV (toA a b)) ∧ w' = w := by
  unfold tV toA
  cases hf : (finB a && finB b)
  all_goals
    have HF : Hid _ := hf
    clear hf
    go_enter Try.func89, Try.ntmps89
    go_wp2_with (first
      | (go_at_call 50; (with_reducible refine (fin_any a b _ ha hb).mono ?_); rintro e w' ⟨rfl, rfl⟩; rw [HF.out]))
    go_ret2
    exact ⟨rfl, rfl⟩
theorem product_any (x : Elm) (o : Nat) (w : World) (ho : fin o) (hv : fin x.v) :
    Calls Try.prog 90 #[elV x, .float .f64 o] w fun e w' => e = .returned (tV (prA o x.v)) ∧ Below w.heap.size w w' := by
  have E0 : Hid (EC w (w.alloc (.cells (elA x) 55)) w.heap.size x) := ec_new w x
  have hm := mul_some ho hv
  have mv := mulV_of hm
  have mn := fN_some hm
  have hb := (mul_bd hm).1
  have HB : Hid _ := hb
  clear hm hb
  unfold prA
  unfold elV
  go_enter Try.func90, Try.ntmps90
  go_wp2_with (first
    | (go_at_call 89; (with_reducible refine (atold_any 0 (mW o x.v) _ (by decide) HB.out).mono ?_); rintro e w' ⟨rfl, rfl⟩; unfold tV))
  go_ret2
  exact ⟨rfl, E0.out.bel⟩
end Go.Proofs.Ytmhplaanpbpndaa

namespace Go.Proofs.Ytmhplaanpbpndaa
open Fl RowKit
set_option linter.unusedVariables false

theorem product_w (x : Elm) (o : Nat) (w : World) (ho : fin o) (hv : fin x.v) (u : Tr3) (hu : prA o x.v = u) :
    Calls Try.prog 90 #[.agg #[.int .u8 (x.k : Int), .string x.n, .string x.a, .string x.b, .string x.c, .string x.d, .float .f64 x.v, .int .i64 x.ph], .float .f64 o] w fun e w' => e = .returned (.tuple #[.complex .f64 u.1 u.2.1, .int .i64 u.2.2]) ∧ Below w.heap.size w w' := by subst hu; exact product_any x o w ho hv
theorem prA_ok {o v : Nat} (h : finB (mW o v) = true) : prA o v = (0, mW o v, 0) := by unfold prA toA; rw [h]; rfl
theorem prA_no {o v : Nat} (h : finB (mW o v) = false) : prA o v = (0, 0, 6) := by unfold prA toA; rw [h]; rfl
theorem neg_ngW {q : Nat} (h : q < 18446744073709551616) : Op.negFloat .f64 q = ngW q := by
  unfold ngW
  split
  · exact neg_of_pos ‹_›
  · exact neg_of_neg (by omega) h
theorem mW_nan {o v : Nat} (ho : fin o) (hv : fin v) : nan (mW o v) = false := (mul_bd (mul_some ho hv)).2
theorem aover_any (x : Elm) (o : Nat) (w : World) (ho : fin o) (hv : fin x.v) :
    Calls Try.prog 91 #[elV x, .float .f64 o] w fun e w' => e = .returned (tV (ovA o x.v)) ∧ Below w.heap.size w w' := by
  have E0 : Hid (EC w (w.alloc (.cells (elA x) 55)) w.heap.size x) := ec_new w x
  obtain ⟨l1, c10, c11, c12, c13, c14, c15, c16, c17⟩ := E0.out.f
  cases hf : finB (mW o x.v)
  · have HP : Hid _ := fun W => product_w x o W ho hv (0, 0, 6) (prA_no hf)
    have hr : ovA o x.v = (0, 0, 6) := by unfold ovA; rw [hf]; rfl
    rw [hr]
    clear hr hf
    unfold tV elV
    go_enter Try.func91, Try.ntmps91
    go_wp2_with (first
      | (go_at_call 90; (with_reducible refine (HP.out _).mono ?_); rintro e w1 ⟨rfl, hb⟩; (have E1 : Hid _ := E0.out.below hb); clear hb E0))
    go_ret2
    exact ⟨rfl, E1.out.bel⟩
  · have HP : Hid _ := fun W => product_w x o W ho hv (0, mW o x.v, 0) (prA_ok hf)
    have hr : ovA o x.v = toA 0 (ngW (dW (mW o x.v))) := by unfold ovA; rw [hf]; rfl
    rw [hr]
    have hn := mW_nan ho hv
    have hd := dW_some hn
    have hb := dW_bd hn
    have mv := divV_of hd
    have mn := fN_some hd
    have hng := neg_ngW hb.1
    have HB : Hid _ := ngW_lt hb.1
    clear hr hf hn hd hb
    unfold elV
    go_enter Try.func91, Try.ntmps91
    go_wp2_with (first
      | (go_at_call 90; (with_reducible refine (HP.out _).mono ?_); rintro e w1 ⟨rfl, hb⟩; (have E1 : Hid _ := E0.out.below hb); clear hb E0)
      | (go_at_call 89; (with_reducible refine (atold_any 0 (ngW (dW (mW o x.v))) _ (by decide) HB.out).mono ?_); rintro e w' ⟨rfl, rfl⟩; unfold tV))
    go_ret2
    exact ⟨rfl, E1.out.bel⟩
theorem acheck_w (x : Elm) (o : Nat) (w : World) (h : x.ok) (ho : o < 18446744073709551616) (u : Int) (hu : ckA x o = u) :
    Calls Try.prog 88 #[.agg #[.int .u8 (x.k : Int), .string x.n, .string x.a, .string x.b, .string x.c, .string x.d, .float .f64 x.v, .int .i64 x.ph], .float .f64 o] w fun e w' => e = .returned (.int .i64 u) ∧ Below w.heap.size w w' := by subst hu; exact acheck_any x o w h ho
theorem over_w (x : Elm) (o : Nat) (w : World) (ho : fin o) (hv : fin x.v) :
    Calls Try.prog 91 #[.agg #[.int .u8 (x.k : Int), .string x.n, .string x.a, .string x.b, .string x.c, .string x.d, .float .f64 x.v, .int .i64 x.ph], .float .f64 o] w fun e w' => e = .returned (.tuple #[.complex .f64 (ovA o x.v).1 (ovA o x.v).2.1, .int .i64 (ovA o x.v).2.2]) ∧ Below w.heap.size w w' := aover_any x o w ho hv
/-- the kinds -/
theorem kinds4 (k : Nat) : (k = 1 ∨ k = 8) ∨ k = 3 ∨ k = 2 ∨ (¬ k = 1 ∧ ¬ k = 8 ∧ ¬ k = 3 ∧ ¬ k = 2) := by omega
set_option maxRecDepth 100000 in
set_option maxHeartbeats 1000000 in
theorem aof_any (x : Elm) (o : Nat) (w : World) (h : x.ok) (ho : o < 18446744073709551616) :
    Calls Try.prog 74 #[elV x, .float .f64 o] w fun e w' => e = .returned (tV (ofT x o)) ∧ Below w.heap.size w w' := by
  have E0 : Hid (EC w (w.alloc (.cells (elA x) 55)) w.heap.size x) := ec_new w x
  obtain ⟨l1, c10, c11, c12, c13, c14, c15, c16, c17⟩ := E0.out.f
  by_cases hc : ckA x o = 0
  · have HC : Hid _ := fun W => acheck_w x o W h ho 0 hc
    have fo := (fr_zero (ck_zero hc).1).1
    have fv := (chk_zero (ck_zero hc).2).1
    have HFO : Hid (fin o) := fo
    have HFV : Hid (fin x.v) := fv
    have hn := fin_not_nan fv
    have hd := dW_some hn
    have mv := divV_of hd
    have mn := fN_some hd
    have HDB : Hid _ := (dW_bd hn).1
    have hr : ofT x o = if x.k = 1 ∨ x.k = 8 then toA (dW x.v) 0 else if x.k = 3 then prA o x.v else if x.k = 2 then ovA o x.v else (0, 0, 2) := by unfold ofT; rw [if_pos hc]
    rw [hr]
    clear hr hc fo fv hn hd
    rcases kinds4 x.k with hk | hk | hk | ⟨k1, k8, k3, k2⟩
    · rw [if_pos hk]
      have hb : ((x.k : Int) == 1) = true ∨ (((x.k : Int) == 1) = false ∧ ((x.k : Int) == 8) = true) := by
        rcases hk with hk | hk
        · left; rw [hk]; rfl
        · right; rw [hk]; exact ⟨rfl, rfl⟩
      clear hk
      unfold elV
      rcases hb with hb | ⟨hb, hb2⟩
      all_goals
        go_enter Try.func74, Try.ntmps74
        go_wp2_with (first
          | (go_at_call 88; (with_reducible refine (HC.out _).mono ?_); rintro e w1 ⟨rfl, hb⟩; (have E1 : Hid _ := E0.out.below hb); (obtain ⟨l1, c10, c11, c12, c13, c14, c15, c16, c17⟩ := E1.out.f); clear hb E0)
          | (go_at_call 89; (with_reducible refine (atold_any (dW x.v) 0 _ HDB.out (by decide)).mono ?_); rintro e w' ⟨rfl, rfl⟩; unfold tV))
        go_ret2
        exact ⟨rfl, E1.out.bel⟩
    · rw [if_neg (by omega), if_pos hk]
      have hb1 : ((x.k : Int) == 1) = false := by rw [hk]; rfl
      have hb2 : ((x.k : Int) == 8) = false := by rw [hk]; rfl
      have hb3 : ((x.k : Int) == 3) = true := by rw [hk]; rfl
      clear hk
      unfold elV
      go_enter Try.func74, Try.ntmps74
      go_wp2_with (first
        | (go_at_call 88; (with_reducible refine (HC.out _).mono ?_); rintro e w1 ⟨rfl, hb⟩; (have E1 : Hid _ := E0.out.below hb); (obtain ⟨l1, c10, c11, c12, c13, c14, c15, c16, c17⟩ := E1.out.f); clear hb E0)
        | (go_at_call 90; (with_reducible refine (product_w x o _ HFO.out HFV.out _ rfl).mono ?_); rintro e w' ⟨rfl, hb⟩; (have E2 : Hid _ := E1.out.below hb); clear hb E1))
      go_ret2
      exact ⟨rfl, E2.out.bel⟩
    · rw [if_neg (by omega), if_neg (by omega), if_pos hk]
      have hb1 : ((x.k : Int) == 1) = false := by rw [hk]; rfl
      have hb2 : ((x.k : Int) == 8) = false := by rw [hk]; rfl
      have hb3 : ((x.k : Int) == 3) = false := by rw [hk]; rfl
      have hb4 : ((x.k : Int) == 2) = true := by rw [hk]; rfl
      clear hk
      unfold elV
      go_enter Try.func74, Try.ntmps74
      go_wp2_with (first
        | (go_at_call 88; (with_reducible refine (HC.out _).mono ?_); rintro e w1 ⟨rfl, hb⟩; (have E1 : Hid _ := E0.out.below hb); (obtain ⟨l1, c10, c11, c12, c13, c14, c15, c16, c17⟩ := E1.out.f); clear hb E0)
        | (go_at_call 91; (with_reducible refine (over_w x o _ HFO.out HFV.out).mono ?_); rintro e w' ⟨rfl, hb⟩; (have E2 : Hid _ := E1.out.below hb); clear hb E1))
      go_ret2
      exact ⟨rfl, E2.out.bel⟩
    · rw [if_neg (by omega), if_neg k3, if_neg k2]
      have hb1 : ((x.k : Int) == 1) = false := by rw [beq_eq_false_iff_ne]; omega
      have hb2 : ((x.k : Int) == 8) = false := by rw [beq_eq_false_iff_ne]; omega
      have hb3 : ((x.k : Int) == 3) = false := by rw [beq_eq_false_iff_ne]; omega
      have hb4 : ((x.k : Int) == 2) = false := by rw [beq_eq_false_iff_ne]; omega
      clear k1 k8 k3 k2
      unfold elV
      go_enter Try.func74, Try.ntmps74
      go_wp2_with (first
        | (go_at_call 88; (with_reducible refine (HC.out _).mono ?_); rintro e w1 ⟨rfl, hb⟩; (have E1 : Hid _ := E0.out.below hb); (obtain ⟨l1, c10, c11, c12, c13, c14, c15, c16, c17⟩ := E1.out.f); clear hb E0))
      go_ret2
      exact ⟨rfl, E1.out.bel⟩
  · have HC : Hid _ := fun W => acheck_w x o W h ho _ rfl
    have hr : ofT x o = (0, 0, ckA x o) := by unfold ofT; rw [if_neg hc]
    rw [hr]
    have hq : (ckA x o != 0) = true := by simp [hc]
    clear hr hc
    unfold elV
    go_enter Try.func74, Try.ntmps74
    go_wp2_with (first
      | (go_at_call 88; (with_reducible refine (HC.out _).mono ?_); rintro e w1 ⟨rfl, hb⟩; (have E1 : Hid _ := E0.out.below hb); clear hb E0))
    go_ret2
    exact ⟨rfl, E1.out.bel⟩
end Go.Proofs.Ytmhplaanpbpndaa

namespace Go.Proofs.Ytmhplaanpbpndaa
open Fl RowKit
set_option linter.unusedVariables false

theorem kinds4b (k : Nat) : (k = 1 ∨ k = 8) ∨ k = 2 ∨ k = 3 ∨ (¬ k = 1 ∧ ¬ k = 8 ∧ ¬ k = 3 ∧ ¬ k = 2) := by omega
theorem aof_w (x : Elm) (o : Nat) (w : World) (h : x.ok) (ho : o < 18446744073709551616) (u : Tr3) (hu : ofT x o = u) :
    Calls Try.prog 74 #[.agg #[.int .u8 (x.k : Int), .string x.n, .string x.a, .string x.b, .string x.c, .string x.d, .float .f64 x.v, .int .i64 x.ph], .float .f64 o] w fun e w' => e = .returned (.tuple #[.complex .f64 u.1 u.2.1, .int .i64 u.2.2]) ∧ Below w.heap.size w w' := by subst hu; exact aof_any x o w h ho
theorem toA_bd {a b : Nat} (ha : a < 18446744073709551616) (hb : b < 18446744073709551616) : (toA a b).1 < 18446744073709551616 ∧ (toA a b).2.1 < 18446744073709551616 := by
  unfold toA; split
  · exact ⟨ha, hb⟩
  · exact ⟨by decide, by decide⟩
theorem prA_bd {o v : Nat} (ho : fin o) (hv : fin v) : (prA o v).1 < 18446744073709551616 ∧ (prA o v).2.1 < 18446744073709551616 :=
  toA_bd (by decide) (mul_bd (mul_some ho hv)).1
theorem ovA_bd {o v : Nat} (ho : fin o) (hv : fin v) : (ovA o v).1 < 18446744073709551616 ∧ (ovA o v).2.1 < 18446744073709551616 := by
  unfold ovA; split
  · exact toA_bd (by decide) (ngW_lt (dW_bd (mW_nan ho hv)).1)
  · exact ⟨by decide, by decide⟩
theorem ofT_bd {x : Elm} {o : Nat} : (ofT x o).1 < 18446744073709551616 ∧ (ofT x o).2.1 < 18446744073709551616 := by
  unfold ofT
  by_cases hc : ckA x o = 0
  · rw [if_pos hc]
    have fo := (fr_zero (ck_zero hc).1).1
    have fv := (chk_zero (ck_zero hc).2).1
    split
    · exact toA_bd (dW_bd (fin_not_nan fv)).1 (by decide)
    · split
      · exact prA_bd fo fv
      · split
        · exact ovA_bd fo fv
        · exact ⟨by decide, by decide⟩
  · rw [if_neg hc]; exact ⟨by show 0 < _; omega, by show 0 < _; omega⟩
def tW (t : Nat × Int) : Value := .tuple #[.float .f64 t.1, .int .i64 t.2]
theorem freq_w (x : Nat) (w : World) (hx : x < 18446744073709551616) (u : Int) (hu : frI x = u) :
    Calls Try.prog 99 #[.float .f64 x] w fun e w' => e = .returned (.int .i64 u) ∧ w' = w := by subst hu; exact freq_any x w hx
end Go.Proofs.Ytmhplaanpbpndaa

namespace Go.Proofs.Ytmhplaanpbpndaa
open Fl RowKit
set_option linter.unusedVariables false

theorem rang_any (x : Nat) (w : World) (hx : x < 18446744073709551616) :
    Calls Try.prog 31 #[.float .f64 x] w fun e w' => ∃ n, e = .returned (.int .i64 (frI x)) ∧ w' = w.drewN n := by
  cases hf : finB x
  · have hr : frI x = 5 := by unfold frI; rw [if_pos hf]
    rw [hr]
    have HF : Hid _ := hf
    clear hr hf
    go_enter Try.func31, Try.ntmps31
    go_wp2_with (first | (go_at_call 58; refine (rfinR_any x _).mono ?_; rintro e w' ⟨n, rfl, rfl⟩; rw [HF.out]))
    go_ret
    exact ⟨n, rfl, rfl⟩
  · have hn := fin_nan hf
    cases hp : posV x
    · have hr : frI x = 2 := by unfold frI; rw [hf, hp]; rfl
      rw [hr]
      have HF : Hid _ := hf
      have h1 : ¬ FloatKind.f64.format.order x 0 = some .gt := fun q => by rw [(gt_iff hn).2 q] at hp; cases hp
      clear hr hf hp hn
      go_enter Try.func31, Try.ntmps31
      go_wp2_with (first | (go_at_call 58; refine (rfinR_any x _).mono ?_; rintro e w' ⟨n, rfl, rfl⟩; rw [HF.out]))
      all_goals go_ret
      all_goals first | exact ⟨n, rfl, rfl⟩ | simp_all
    · have hr : frI x = 0 := by unfold frI; rw [hf, hp]; rfl
      rw [hr]
      have HF : Hid _ := hf
      have h1 := (gt_iff hn).1 hp
      clear hr hf hp hn
      go_enter Try.func31, Try.ntmps31
      go_wp2_with (first | (go_at_call 58; refine (rfinR_any x _).mono ?_; rintro e w' ⟨n, rfl, rfl⟩; rw [HF.out]))
      all_goals go_ret
      all_goals first | exact ⟨n, rfl, rfl⟩ | simp_all
theorem undrN {a b : World} {n : Nat} (h : Below (a.drewN n).heap.size (a.drewN n) b) : Below a.heap.size a b := by
  obtain ⟨h1, h2, h3, h4, h5⟩ := h
  exact ⟨h1, h2, h3, h4, h5⟩
theorem below_dN {m : Nat} {a b : World} (h : Below m a b) (n : Nat) : Below m a (b.drewN n) := by
  obtain ⟨h1, h2, h3, h4, h5⟩ := h
  exact ⟨h1, h2, h3, h4, h5⟩
theorem rcheck_w (x : Elm) (w : World) (h : x.ok) : Calls Try.prog 22 #[.agg #[.int .u8 (x.k : Int), .string x.n, .string x.a, .string x.b, .string x.c, .string x.d, .float .f64 x.v, .int .i64 x.ph]] w fun e w' => e = .returned (.int .i64 (chkI x)) ∧ Below w.heap.size w w' := vrcheck_any x w h
/-- P17.1 but for what is over -/
def mayI (x : Elm) (o : Nat) : Int := if ckA x o = 0 then (if x.k = 1 ∨ x.k = 8 ∨ x.k = 2 ∨ x.k = 3 then 0 else 2) else ckA x o
theorem EC.dN {w W : World} {p n : Nat} {x : Elm} (h : EC w W p x) : EC w (W.drewN n) p x := ⟨below_dN h.bel n, h.e⟩
theorem ne_beq {a b : Int} (h : (a == b) = true) : (a != b) = false := by rw [bne, h]; rfl
theorem ne_bne {a b : Int} (h : (a == b) = false) : (a != b) = true := by rw [bne, h]; rfl
set_option maxRecDepth 100000 in
set_option maxHeartbeats 2000000 in
theorem rmay_any (x : Elm) (o : Nat) (w : World) (h : x.ok) (ho : o < 18446744073709551616) :
    Calls Try.prog 81 #[elV x, .float .f64 o] w fun e w' => e = .returned (.int .i64 (mayI x o)) ∧ Below w.heap.size w w' := by
  have E0 : Hid (EC w (w.alloc (.cells (elA x) 55)) w.heap.size x) := ec_new w x
  by_cases hf : frI o = 0
  · have hr : mayI x o = if chkI x = 0 then (if x.k = 1 ∨ x.k = 8 ∨ x.k = 2 ∨ x.k = 3 then 0 else 2) else chkI x := by unfold mayI ckA; rw [if_pos hf]
    have HA : Hid (∀ W, Calls Try.prog 31 #[.float .f64 o] W fun e w' => ∃ n, e = .returned (.int .i64 0) ∧ w' = W.drewN n) := fun W => by have := rang_any o W ho; rwa [hf] at this
    rw [hr]
    clear hr hf
    by_cases hc : chkI x = 0
    · rw [if_pos hc]
      have HC : Hid (∀ W, Calls Try.prog 22 #[.agg #[.int .u8 (x.k : Int), .string x.n, .string x.a, .string x.b, .string x.c, .string x.d, .float .f64 x.v, .int .i64 x.ph]] W fun e w' => e = .returned (.int .i64 0) ∧ Below W.heap.size W w') := fun W => by have := rcheck_w x W h; rwa [hc] at this
      clear hc
      rcases kinds4b x.k with hk | hk | hk | ⟨k1, k8, k2, k3⟩
      · rw [if_pos (by omega)]
        rcases hk with hk | hk
        · have b1 : ((x.k : Int) != 1) = false := by rw [hk]; rfl
          clear hk
          unfold elV
          go_enter Try.func81, Try.ntmps81
          go_wp2_with (first
            | (go_at_call 31; (with_reducible refine (HA.out _).mono ?_); rintro e w1 ⟨n, rfl, rfl⟩; (have E1 : Hid (EC w _ w.heap.size x) := E0.out.dN (n := n)); (obtain ⟨l1, c10, c11, c12, c13, c14, c15, c16, c17⟩ := E1.out.f); clear E0)
            | (go_at_call 22; (with_reducible refine (HC.out _).mono ?_); rintro e w2 ⟨rfl, hb⟩; (have E2 : Hid _ := E1.out.below hb); (obtain ⟨l2, c20, c21, c22, c23, c24, c25, c26, c27⟩ := E2.out.f); clear hb E1 c10 c11 c12 c13 c14 c15 c16 c17))
          all_goals go_ret
          all_goals first | exact ⟨rfl, E2.out.bel⟩ | simp_all
        · have b1 : ((x.k : Int) != 1) = true := by rw [hk]; rfl
          have b2 : ((x.k : Int) != 8) = false := by rw [hk]; rfl
          clear hk
          unfold elV
          go_enter Try.func81, Try.ntmps81
          go_wp2_with (first
            | (go_at_call 31; (with_reducible refine (HA.out _).mono ?_); rintro e w1 ⟨n, rfl, rfl⟩; (have E1 : Hid (EC w _ w.heap.size x) := E0.out.dN (n := n)); (obtain ⟨l1, c10, c11, c12, c13, c14, c15, c16, c17⟩ := E1.out.f); clear E0)
            | (go_at_call 22; (with_reducible refine (HC.out _).mono ?_); rintro e w2 ⟨rfl, hb⟩; (have E2 : Hid _ := E1.out.below hb); (obtain ⟨l2, c20, c21, c22, c23, c24, c25, c26, c27⟩ := E2.out.f); clear hb E1 c10 c11 c12 c13 c14 c15 c16 c17))
          all_goals go_ret
          all_goals first | exact ⟨rfl, E2.out.bel⟩ | simp_all
      · rw [if_pos (by omega)]
        have b1 : ((x.k : Int) != 1) = true := by rw [hk]; rfl
        have b2 : ((x.k : Int) != 8) = true := by rw [hk]; rfl
        have b3 : ((x.k : Int) != 2) = false := by rw [hk]; rfl
        clear hk
        unfold elV
        go_enter Try.func81, Try.ntmps81
        go_wp2_with (first
          | (go_at_call 31; (with_reducible refine (HA.out _).mono ?_); rintro e w1 ⟨n, rfl, rfl⟩; (have E1 : Hid (EC w _ w.heap.size x) := E0.out.dN (n := n)); (obtain ⟨l1, c10, c11, c12, c13, c14, c15, c16, c17⟩ := E1.out.f); clear E0)
          | (go_at_call 22; (with_reducible refine (HC.out _).mono ?_); rintro e w2 ⟨rfl, hb⟩; (have E2 : Hid _ := E1.out.below hb); (obtain ⟨l2, c20, c21, c22, c23, c24, c25, c26, c27⟩ := E2.out.f); clear hb E1 c10 c11 c12 c13 c14 c15 c16 c17))
        all_goals go_ret
        all_goals first | exact ⟨rfl, E2.out.bel⟩ | simp_all
      · rw [if_pos (by omega)]
        have b1 : ((x.k : Int) != 1) = true := by rw [hk]; rfl
        have b2 : ((x.k : Int) != 8) = true := by rw [hk]; rfl
        have b3 : ((x.k : Int) != 2) = true := by rw [hk]; rfl
        have b4 : ((x.k : Int) != 3) = false := by rw [hk]; rfl
        clear hk
        unfold elV
        go_enter Try.func81, Try.ntmps81
        go_wp2_with (first
          | (go_at_call 31; (with_reducible refine (HA.out _).mono ?_); rintro e w1 ⟨n, rfl, rfl⟩; (have E1 : Hid (EC w _ w.heap.size x) := E0.out.dN (n := n)); (obtain ⟨l1, c10, c11, c12, c13, c14, c15, c16, c17⟩ := E1.out.f); clear E0)
          | (go_at_call 22; (with_reducible refine (HC.out _).mono ?_); rintro e w2 ⟨rfl, hb⟩; (have E2 : Hid _ := E1.out.below hb); (obtain ⟨l2, c20, c21, c22, c23, c24, c25, c26, c27⟩ := E2.out.f); clear hb E1 c10 c11 c12 c13 c14 c15 c16 c17))
        all_goals go_ret
        all_goals first | exact ⟨rfl, E2.out.bel⟩ | simp_all
      · rw [if_neg (by omega)]
        have b1 : ((x.k : Int) != 1) = true := by rw [bne_iff_ne]; omega
        have b2 : ((x.k : Int) != 8) = true := by rw [bne_iff_ne]; omega
        have b3 : ((x.k : Int) != 2) = true := by rw [bne_iff_ne]; omega
        have b4 : ((x.k : Int) != 3) = true := by rw [bne_iff_ne]; omega
        clear k1 k2 k3 k8
        unfold elV
        go_enter Try.func81, Try.ntmps81
        go_wp2_with (first
          | (go_at_call 31; (with_reducible refine (HA.out _).mono ?_); rintro e w1 ⟨n, rfl, rfl⟩; (have E1 : Hid (EC w _ w.heap.size x) := E0.out.dN (n := n)); (obtain ⟨l1, c10, c11, c12, c13, c14, c15, c16, c17⟩ := E1.out.f); clear E0)
          | (go_at_call 22; (with_reducible refine (HC.out _).mono ?_); rintro e w2 ⟨rfl, hb⟩; (have E2 : Hid _ := E1.out.below hb); (obtain ⟨l2, c20, c21, c22, c23, c24, c25, c26, c27⟩ := E2.out.f); clear hb E1 c10 c11 c12 c13 c14 c15 c16 c17))
        all_goals go_ret
        all_goals first | exact ⟨rfl, E2.out.bel⟩ | simp_all
    · rw [if_neg hc]
      have hq : (chkI x != 0) = true := by simp [hc]
      clear hc
      unfold elV
      go_enter Try.func81, Try.ntmps81
      go_wp2_with (first
        | (go_at_call 31; (with_reducible refine (HA.out _).mono ?_); rintro e w1 ⟨n, rfl, rfl⟩; (have E1 : Hid (EC w _ w.heap.size x) := E0.out.dN (n := n)); (obtain ⟨l1, c10, c11, c12, c13, c14, c15, c16, c17⟩ := E1.out.f); clear E0)
        | (go_at_call 22; (with_reducible refine (rcheck_w x _ h).mono ?_); rintro e w2 ⟨rfl, hb⟩; (have E2 : Hid _ := E1.out.below hb); clear hb E1 c10 c11 c12 c13 c14 c15 c16 c17))
      all_goals go_ret
      all_goals first | exact ⟨rfl, E2.out.bel⟩ | simp_all
  · have hr : mayI x o = frI o := by unfold mayI ckA; rw [if_neg hf, if_neg hf]
    rw [hr]
    have hq : (frI o != 0) = true := by simp [hf]
    clear hr hf
    unfold elV
    go_enter Try.func81, Try.ntmps81
    go_wp2_with (first
      | (go_at_call 31; (with_reducible refine (rang_any o _ ho).mono ?_); rintro e w1 ⟨n, rfl, rfl⟩))
    all_goals go_ret
    all_goals exact ⟨rfl, (E0.out.dN (n := n)).bel⟩
end Go.Proofs.Ytmhplaanpbpndaa

namespace Go.Proofs.Ytmhplaanpbpndaa
open Fl RowKit
set_option linter.unusedVariables false

def rtoT (r : Bool) (x : Nat) : Tr3 := if finB x = true then (if r then (0, x, 0) else (x, 0, 0)) else (0, 0, 6)
set_option maxRecDepth 100000 in
theorem rtold0_any (r : Bool) (x : Nat) (w : World) :
    Calls Try.prog 97 #[.bool r, .float .f64 x, .slice none 0 0] w fun e w' => e = .returned (tV (rtoT r x)) ∧ ∃ n, w' = w.drewN n := by
  unfold tV rtoT
  cases hf : finB x <;> cases r
  all_goals
    have HF : Hid _ := hf
    clear hf
    go_enter Try.func97, Try.ntmps97
    go_wp2
    go_loopw [8] (fun iv w' => iv = .int .i64 0 ∧ w' = w) (fun iv _ => 0)
    case atStart => exact ⟨rfl, rfl⟩
    case round =>
      obtain ⟨hi, hw⟩ := hrel
      subst hi hw
      go_wp2_with (first | (go_at_call 58; refine (rfinR_any x _).mono ?_; rintro e w' ⟨n, rfl, rfl⟩; rw [HF.out]))
      go_ret2
      exact ⟨rfl, n, rfl⟩
def rtoT1 (r : Bool) (x p : Nat) : Tr3 := if finB p = true then rtoT r x else (0, 0, 6)
theorem drN_add (w : World) (a b : Nat) : ∃ n, (w.drewN a).drewN b = w.drewN n := ⟨_, World.drewN_drewN _ _ _⟩
set_option maxRecDepth 100000 in
theorem rtold1_any (r : Bool) (x p g : Nat) (w : World) (hc : ∀ n, (w.drewN n).cell? ⟨g, 0, none⟩ = some (.float .f64 p)) :
    Calls Try.prog 97 #[.bool r, .float .f64 x, .slice (some ⟨g, 0, none⟩) 1 1] w fun e w' => e = .returned (tV (rtoT1 r x p)) ∧ ∃ n, w' = w.drewN n := by
  unfold tV rtoT1 rtoT
  cases hp : finB p
  · have HP : Hid _ := hp
    clear hp
    go_enter Try.func97, Try.ntmps97
    go_wp2
    go_loopw [8] (fun iv w' => iv = .int .i64 0 ∧ w' = w.drewN 0) (fun iv _ => 0)
    case atStart => exact ⟨rfl, (World.drewN_zero _).symm⟩
    case round =>
      obtain ⟨hi, hw⟩ := hrel
      subst hi hw
      go_wp2_with (first | (go_at_call 58; refine (rfinR_any p _).mono ?_; rintro e w' ⟨n, rfl, rfl⟩; rw [HP.out]))
      go_ret2
      exact ⟨rfl, _, rfl⟩
  · cases hf : finB x <;> cases r
    all_goals
      have HP : Hid _ := hp
      have HF : Hid _ := hf
      clear hf hp
      go_enter Try.func97, Try.ntmps97
      go_wp2
      go_loopw [8] (fun iv w' => (iv = .int .i64 0 ∧ w' = w.drewN 0) ∨ (iv = .int .i64 1 ∧ ∃ n, w' = w.drewN n)) (fun iv _ => (1 - intOf iv).toNat)
      case atStart => exact .inl ⟨rfl, (World.drewN_zero _).symm⟩
      case round =>
        rcases hrel with ⟨hi, hw⟩ | ⟨hi, m, hw⟩
        · subst hi hw
          go_wp2_with (first | (go_at_call 58; refine (rfinR_any p _).mono ?_; rintro e w' ⟨n, rfl, rfl⟩; rw [HP.out]))
          go_roundw
          case rel => exact .inr ⟨by go_num, _, rfl⟩
          case measure => simp [intOf]
        · subst hi hw
          go_wp2_with (first | (go_at_call 58; refine (rfinR_any x _).mono ?_; rintro e w' ⟨n, rfl, rfl⟩; rw [HF.out]))
          go_ret2
          exact ⟨rfl, _, rfl⟩
/-- what both answers -/
def boT (x : Elm) (o : Nat) (inv : Bool) : Tr3 := if x.k = 1 ∨ x.k = 8 then (if inv then toA (dW x.v) 0 else (x.v, 0, 0)) else if (inv == (x.k == 3)) = true then prA o x.v else ovA o x.v
theorem fin0 : finB 0 = true := by decide
theorem rto_0 (v : Nat) : rtoT false v = toA v 0 := by unfold rtoT toA; rw [fin0, Bool.and_true]; rfl
theorem rto_v {v : Nat} (h : fin v) : rtoT false v = (v, 0, 0) := by unfold rtoT; rw [finB_iff.2 h]; rfl
theorem rto_p (o v : Nat) : rtoT1 true (mW o v) (mW o v) = prA o v := by
  unfold rtoT1 rtoT prA toA; rw [fin0, Bool.true_and]
  cases finB (mW o v) <;> rfl
theorem rto_o (o v : Nat) : rtoT1 true (ngW (dW (mW o v))) (mW o v) = ovA o v := by
  unfold rtoT1 rtoT ovA toA; rw [fin0, Bool.true_and]
  cases finB (mW o v) <;> rfl
theorem told0_w (r : Bool) (x : Nat) (w : World) (u : Tr3) (hu : rtoT r x = u) :
    Calls Try.prog 97 #[.bool r, .float .f64 x, .slice none 0 0] w fun e w' => e = .returned (.tuple #[.complex .f64 u.1 u.2.1, .int .i64 u.2.2]) ∧ ∃ n, w' = w.drewN n := by subst hu; exact rtold0_any r x w
theorem told1_w (r : Bool) (x p g : Nat) (w : World) (hc : ∀ n, (w.drewN n).cell? ⟨g, 0, none⟩ = some (.float .f64 p)) (u : Tr3) (hu : rtoT1 r x p = u) :
    Calls Try.prog 97 #[.bool r, .float .f64 x, .slice (some ⟨g, 0, none⟩) 1 1] w fun e w' => e = .returned (.tuple #[.complex .f64 u.1 u.2.1, .int .i64 u.2.2]) ∧ ∃ n, w' = w.drewN n := by subst hu; exact rtold1_any r x p g w hc
theorem cell_new1 (W : World) (v : Value) (t : TypeId) (m : Nat) : ∀ n, (((W.alloc (.cells #[v] t)).drewN m).drewN n).cell? ⟨W.heap.size, 0, none⟩ = some v := by
  intro n
  have h := heap_alloc_new W (.cells #[v] t)
  have h2 : (W.alloc (.cells #[v] t)).cell? ⟨W.heap.size, 0, none⟩ = some v := by rw [cell_of_row _ _ _ _ _ (0, 0) h]; rfl
  exact h2
theorem cell_new2 (w : World) (o1 : Obj) (v : Value) (t : TypeId) (a : Nat) : ∀ n, ((((w.alloc o1).drewN a).alloc (.cells #[v] t)).drewN n).cell? ⟨w.heap.size + 1, 0, none⟩ = some v := by
  have h := cell_new1 ((w.alloc o1).drewN a) v t 0
  intro n
  have h2 := h n
  have h3 : ((w.alloc o1).drewN a).heap.size = w.heap.size + 1 := al_size w o1
  rw [h3] at h2
  exact h2
set_option maxRecDepth 100000 in
set_option maxHeartbeats 2000000 in
theorem rboth_any (x : Elm) (o : Nat) (inv : Bool) (w : World) (ho : fin o) (hv : fin x.v) :
    Calls Try.prog 82 #[elV x, .float .f64 o, .bool inv] w fun e w' => e = .returned (tV (boT x o inv)) ∧ Below w.heap.size w w' := by
  have E0 : Hid (EC w (w.alloc (.cells (elA x) 55)) w.heap.size x) := ec_new w x
  obtain ⟨l1, c10, c11, c12, c13, c14, c15, c16, c17⟩ := E0.out.f
  have hm := mul_some ho hv
  have m1 := mulV_of hm
  have m2 := fN_some hm
  have hd := dW_some (fin_not_nan hv)
  have d1 := divV_of hd
  have d2 := fN_some hd
  have hq := dW_some (mW_nan ho hv)
  have q1 := divV_of hq
  have q2 := fN_some hq
  have q3 := neg_ngW (dW_bd (mW_nan ho hv)).1
  have HV : Hid (fin x.v) := hv
  clear hm hd hq ho hv
  unfold tV
  by_cases hk : x.k = 1 ∨ x.k = 8
  · have hb : ((x.k : Int) == 1) = true ∨ (((x.k : Int) == 1) = false ∧ ((x.k : Int) == 8) = true) := by
      rcases hk with hk | hk
      · left; rw [hk]; rfl
      · right; rw [hk]; exact ⟨rfl, rfl⟩
    cases inv
    · have hr : boT x o false = (x.v, 0, 0) := by unfold boT; rw [if_pos hk]; rfl
      rw [hr]
      clear hk hr
      unfold elV
      rcases hb with hb | ⟨hb, hb2⟩
      all_goals
        go_enter Try.func82, Try.ntmps82
        go_wp2_with (first
          | (go_at_call 97; (with_reducible refine (told0_w false x.v _ _ (rto_v HV.out)).mono ?_); rintro e w' ⟨rfl, n, rfl⟩))
        go_ret2
        exact ⟨rfl, (E0.out.dN (n := n)).bel⟩
    · have hr : boT x o true = toA (dW x.v) 0 := by unfold boT; rw [if_pos hk]; rfl
      rw [hr]
      clear hk hr
      unfold elV
      rcases hb with hb | ⟨hb, hb2⟩
      all_goals
        go_enter Try.func82, Try.ntmps82
        go_wp2_with (first
          | (go_at_call 97; (with_reducible refine (told0_w false (dW x.v) _ _ (rto_0 _)).mono ?_); rintro e w' ⟨rfl, n, rfl⟩))
        go_ret2
        exact ⟨rfl, (E0.out.dN (n := n)).bel⟩
  · have hb1 : ((x.k : Int) == 1) = false := by rw [beq_eq_false_iff_ne]; omega
    have hb8 : ((x.k : Int) == 8) = false := by rw [beq_eq_false_iff_ne]; omega
    have hb3 : ((x.k : Int) == 3) = (x.k == 3) := by rw [Bool.eq_iff_iff]; simp; omega
    cases hq : (inv == (x.k == 3))
    · have hr : boT x o inv = ovA o x.v := by unfold boT; rw [if_neg hk, hq]; rfl
      rw [hr]
      clear hk hr
      unfold elV
      go_enter Try.func82, Try.ntmps82
      go_wp2_with (first
        | (go_at_call 97; (with_reducible refine (told1_w true (ngW (dW (mW o x.v))) (mW o x.v) _ _ (cell_new2 _ _ _ _ _) _ (rto_o _ _)).mono ?_); rintro e w' ⟨rfl, n, rfl⟩))
      go_ret2
      exact ⟨rfl, below_dN ((E0.out.dN (n := 0)).al _).bel n⟩
    · have hr : boT x o inv = prA o x.v := by unfold boT; rw [if_neg hk, hq]; rfl
      rw [hr]
      clear hk hr
      unfold elV
      go_enter Try.func82, Try.ntmps82
      go_wp2_with (first
        | (go_at_call 97; (with_reducible refine (told1_w true (mW o x.v) (mW o x.v) _ _ (cell_new2 _ _ _ _ _) _ (rto_p _ _)).mono ?_); rintro e w' ⟨rfl, n, rfl⟩))
      go_ret2
      exact ⟨rfl, below_dN ((E0.out.dN (n := 0)).al _).bel n⟩
end Go.Proofs.Ytmhplaanpbpndaa

namespace Go.Proofs.Ytmhplaanpbpndaa
open Fl RowKit
set_option linter.unusedVariables false

theorem may_not {x : Elm} {o : Nat} (h : ¬ mayI x o = 0) : ofT x o = (0, 0, mayI x o) ∧ imT x o = (0, 0, mayI x o) := by
  unfold mayI at h ⊢
  unfold ofT imT
  by_cases hc : ckA x o = 0
  · rw [if_pos hc] at h ⊢
    by_cases hk : x.k = 1 ∨ x.k = 8 ∨ x.k = 2 ∨ x.k = 3
    · rw [if_pos hk] at h; exact absurd rfl h
    · rw [if_pos hc, if_pos hc, if_neg hk, if_neg (by omega), if_neg (by omega), if_neg (by omega), if_neg (by omega), if_neg (by omega), if_neg (by omega)]
      exact ⟨rfl, rfl⟩
  · rw [if_neg hc, if_neg hc, if_neg hc]
    exact ⟨rfl, rfl⟩
theorem may_ok {x : Elm} {o : Nat} (h : mayI x o = 0) : ckA x o = 0 ∧ ofT x o = boT x o true ∧ imT x o = boT x o false ∧ fin o ∧ fin x.v := by
  unfold mayI at h
  by_cases hc : ckA x o = 0
  · rw [if_pos hc] at h
    have hk : x.k = 1 ∨ x.k = 8 ∨ x.k = 2 ∨ x.k = 3 := by
      by_cases hk : x.k = 1 ∨ x.k = 8 ∨ x.k = 2 ∨ x.k = 3
      · exact hk
      · rw [if_neg hk] at h; omega
    refine ⟨hc, ?_, ?_, (fr_zero (ck_zero hc).1).1, (chk_zero (ck_zero hc).2).1⟩
    · unfold ofT boT
      rw [if_pos hc]
      by_cases k1 : x.k = 1 ∨ x.k = 8
      · rw [if_pos k1, if_pos k1]; rfl
      · rw [if_neg k1, if_neg k1]
        rcases (show x.k = 2 ∨ x.k = 3 by omega) with q | q
        · rw [q]; rfl
        · rw [q]; rfl
    · unfold imT boT
      rw [if_pos hc]
      by_cases k1 : x.k = 1 ∨ x.k = 8
      · rw [if_pos k1, if_pos k1]; rfl
      · rw [if_neg k1, if_neg k1]
        rcases (show x.k = 2 ∨ x.k = 3 by omega) with q | q
        · rw [q]; rfl
        · rw [q]; rfl
  · rw [if_neg hc] at h; exact absurd h hc
theorem rmay_w (x : Elm) (o : Nat) (w : World) (h : x.ok) (ho : o < 18446744073709551616) (u : Int) (hu : mayI x o = u) :
    Calls Try.prog 81 #[.agg #[.int .u8 (x.k : Int), .string x.n, .string x.a, .string x.b, .string x.c, .string x.d, .float .f64 x.v, .int .i64 x.ph], .float .f64 o] w fun e w' => e = .returned (.int .i64 u) ∧ Below w.heap.size w w' := by subst hu; exact rmay_any x o w h ho
theorem rboth_w (x : Elm) (o : Nat) (inv : Bool) (w : World) (ho : fin o) (hv : fin x.v) (u : Tr3) (hu : boT x o inv = u) :
    Calls Try.prog 82 #[.agg #[.int .u8 (x.k : Int), .string x.n, .string x.a, .string x.b, .string x.c, .string x.d, .float .f64 x.v, .int .i64 x.ph], .float .f64 o, .bool inv] w fun e w' => e = .returned (.tuple #[.complex .f64 u.1 u.2.1, .int .i64 u.2.2]) ∧ Below w.heap.size w w' := by subst hu; exact rboth_any x o inv w ho hv
theorem rof_any17 (x : Elm) (o : Nat) (w : World) (h : x.ok) (ho : o < 18446744073709551616) :
    Calls Try.prog 61 #[elV x, .float .f64 o] w fun e w' => e = .returned (tV (ofT x o)) ∧ Below w.heap.size w w' := by
  have E0 : Hid (EC w (w.alloc (.cells (elA x) 55)) w.heap.size x) := ec_new w x
  obtain ⟨l1, c10, c11, c12, c13, c14, c15, c16, c17⟩ := E0.out.f
  by_cases hc : mayI x o = 0
  · obtain ⟨-, h1, -, fo, fv⟩ := may_ok hc
    have HC : Hid _ := fun W => rmay_w x o W h ho 0 hc
    have HB : Hid _ := fun W => rboth_w x o true W fo fv _ h1.symm
    clear hc h1 fo fv
    unfold tV elV
    go_enter Try.func61, Try.ntmps61
    go_wp2_with (first
      | (go_at_call 81; (with_reducible refine (HC.out _).mono ?_); rintro e w1 ⟨rfl, hb⟩; (have E1 : Hid _ := E0.out.below hb); (obtain ⟨l1, c10, c11, c12, c13, c14, c15, c16, c17⟩ := E1.out.f); clear hb E0)
      | (go_at_call 82; (with_reducible refine (HB.out _).mono ?_); rintro e w1 ⟨rfl, hb⟩; (have E2 : Hid _ := E1.out.below hb); clear hb E1))
    go_ret2
    exact ⟨rfl, E2.out.bel⟩
  · rw [(may_not hc).1]
    have hq : (mayI x o != 0) = true := by simp [hc]
    clear hc
    unfold tV elV
    go_enter Try.func61, Try.ntmps61
    go_wp2_with (first
      | (go_at_call 81; (with_reducible refine (rmay_w x o _ h ho _ rfl).mono ?_); rintro e w1 ⟨rfl, hb⟩; (have E1 : Hid _ := E0.out.below hb); clear hb E0))
    go_ret2
    exact ⟨rfl, E1.out.bel⟩
theorem rof_w (x : Elm) (o : Nat) (w : World) (h : x.ok) (ho : o < 18446744073709551616) (u : Tr3) (hu : ofT x o = u) :
    Calls Try.prog 61 #[.agg #[.int .u8 (x.k : Int), .string x.n, .string x.a, .string x.b, .string x.c, .string x.d, .float .f64 x.v, .int .i64 x.ph], .float .f64 o] w fun e w' => e = .returned (.tuple #[.complex .f64 u.1 u.2.1, .int .i64 u.2.2]) ∧ Below w.heap.size w w' := by subst hu; exact rof_any17 x o w h ho
theorem rang_w (x : Nat) (w : World) (hx : x < 18446744073709551616) (u : Int) (hu : frI x = u) :
    Calls Try.prog 31 #[.float .f64 x] w fun e w' => ∃ n, e = .returned (.int .i64 u) ∧ w' = w.drewN n := by subst hu; exact rang_any x w hx
end Go.Proofs.Ytmhplaanpbpndaa
