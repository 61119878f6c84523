/-
  Several texts in one: Plc Ela Elb Elc Eld.
-/
import Derived.Test.YtmpkcioeodlbcaaGreatDoorChecked
import Derived.Test.YtmpkcioeodlbcaaGreatDoorK14
import Derived.WalkKit
import Derived.WalkLawsBesides
import Derived.WalkSpells
namespace Go.Proofs.YtmpkcioeodlbcaaGreatDoor
open Fl
def kdB (x : Nat) : Int := if nan x then 4 else if mg x = 9218868437227405312 then 3 else if 4503599627370496 ≤ mg x then 2 else if 0 < mg x then 1 else 0
theorem and_pow (x : Nat) (hx : x < 18446744073709551616) : bits BinOp.and IntKind.u64 ((x : Int) / 4503599627370496) 2047 = ((mg x / 4503599627370496 : Nat) : Int) := by
  have h := u64_and_nat (x / 4503599627370496) 2047 (by omega) (by omega)
  rw [nat_mask11] at h
  have e : x / 4503599627370496 % 2048 = mg x / 4503599627370496 := by unfold mg; omega
  rw [e] at h; rw [← h]; congr 1
theorem and_frac (x : Nat) (hx : x < 18446744073709551616) : bits BinOp.and IntKind.u64 (x : Int) 4503599627370495 = ((mg x % 4503599627370496 : Nat) : Int) := by
  have h := u64_and_nat x 4503599627370495 hx (by omega)
  have h2 := Nat.and_two_pow_sub_one_eq_mod x 52
  rw [show (2 : Nat) ^ 52 - 1 = 4503599627370495 from rfl, show (2 : Nat) ^ 52 = 4503599627370496 from rfl] at h2
  rw [h2] at h
  have e : x % 4503599627370496 = mg x % 4503599627370496 := by unfold mg; omega
  rw [e] at h; exact h
theorem kd_4 {x : Nat} (h : nan x = true) : kdB x = 4 := by unfold kdB; rw [h]; rfl
theorem kd_3 {x : Nat} (hn : nan x = false) (h : mg x = 9218868437227405312) : kdB x = 3 := by unfold kdB; rw [hn, if_neg (by simp), if_pos h]
theorem kd_2 {x : Nat} (hn : nan x = false) (h : 4503599627370496 ≤ mg x) (h2 : mg x < 9218868437227405312) : kdB x = 2 := by unfold kdB; rw [hn, if_neg (by simp), if_neg (by omega), if_pos h]
theorem kd_1 {x : Nat} (hn : nan x = false) (h : 0 < mg x) (h2 : mg x < 4503599627370496) : kdB x = 1 := by unfold kdB; rw [hn, if_neg (by simp), if_neg (by omega), if_neg (by omega), if_pos h]
theorem kd_0 {x : Nat} (hn : nan x = false) (h : mg x = 0) : kdB x = 0 := by unfold kdB; rw [hn, if_neg (by simp), if_neg (by omega), if_neg (by omega), if_neg (by omega)]
theorem ret1 {a b : Int} (h : a = b) : Ending.returned (.int .i64 a) = .returned (.int .i64 b) := by rw [h]
theorem not_nan {x : Nat} (h : nan x = false) : mg x ≤ 9218868437227405312 := by unfold nan at h; simp at h; exact h
theorem kind_any (x : Nat) (w : World) (hx : x < 18446744073709551616) :
    Calls Tryz.prog 111 #[.float .f64 x] w fun e w' => e = .returned (.int .i64 (kdB x)) ∧ w' = w := by
  have hp := and_pow x hx
  have hf := and_frac x hx
  cases hn : nan x
  · have h0 := order_num hn
    have hl := not_nan hn
    rcases Nat.lt_or_ge (mg x) 9218868437227405312 with h1 | h1
    · rcases Nat.lt_or_ge (mg x) 4503599627370496 with h2 | h2
      · rcases Nat.eq_zero_or_pos (mg x) with h3 | h3
        · have t1 : (((mg x / 4503599627370496 : Nat) : Int) == 2047) = false := by simp; omega
          have t2 : (((mg x / 4503599627370496 : Nat) : Int) != 0) = false := by simp; omega
          have t3 : (((mg x % 4503599627370496 : Nat) : Int) != 0) = false := by simp; omega
          have e0 := kd_0 hn h3
          clear h1 h2 h3 hl
          go_enter Tryz.func111, Tryz.ntmps111
          go_wp2
          go_ret
          first | exact ⟨ret1 e0.symm, rfl⟩ | exact ⟨rfl, rfl⟩
        · have t1 : (((mg x / 4503599627370496 : Nat) : Int) == 2047) = false := by simp; omega
          have t2 : (((mg x / 4503599627370496 : Nat) : Int) != 0) = false := by simp; omega
          have t3 : (((mg x % 4503599627370496 : Nat) : Int) != 0) = true := by simp; omega
          have e0 := kd_1 hn h3 h2
          clear h1 h2 h3 hl
          go_enter Tryz.func111, Tryz.ntmps111
          go_wp2
          go_ret
          first | exact ⟨ret1 e0.symm, rfl⟩ | exact ⟨rfl, rfl⟩
      · have t1 : (((mg x / 4503599627370496 : Nat) : Int) == 2047) = false := by simp; omega
        have t2 : (((mg x / 4503599627370496 : Nat) : Int) != 0) = true := by simp; omega
        have e0 := kd_2 hn h2 h1
        clear h1 h2 hl
        go_enter Tryz.func111, Tryz.ntmps111
        go_wp2
        go_ret
        first | exact ⟨ret1 e0.symm, rfl⟩ | exact ⟨rfl, rfl⟩
    · have t1 : (((mg x / 4503599627370496 : Nat) : Int) == 2047) = true := by simp; omega
      have e0 := kd_3 hn (by omega)
      clear h1 hl
      go_enter Tryz.func111, Tryz.ntmps111
      go_wp2
      go_ret
      first | exact ⟨ret1 e0.symm, rfl⟩ | exact ⟨rfl, rfl⟩
  · have h0 := order_nan hn
    have e0 := kd_4 hn
    go_enter Tryz.func111, Tryz.ntmps111
    go_wp2
    go_ret
    first | exact ⟨ret1 e0.symm, rfl⟩ | exact ⟨rfl, rfl⟩
end Go.Proofs.YtmpkcioeodlbcaaGreatDoor
namespace Go.Proofs.YtmpkcioeodlbcaaGreatDoor
open Fl RowKit
/-- a byte of a text (0 outside it) -/
def byt (s : ByteArray) (i : Nat) : Nat := (s.data.getD i 0).toNat
theorem byt_get {s : ByteArray} {i : Nat} (h : i < s.size) : (s[i]'h).toNat = byt s i := by
  have h2 : i < s.data.size := h
  show (s.data[i]'h2).toNat = (s.data.getD i 0).toNat
  rw [Array.getD_eq_getD_getElem?, Array.getElem?_eq_getElem h2]; rfl
theorem byt_lt (s : ByteArray) (i : Nat) : byt s i < 256 := UInt8.toNat_lt _
/-- a byte of which nodes are made -/
def chB (c : Nat) : Bool := decide (97 ≤ c ∧ c ≤ 122 ∨ 48 ≤ c ∧ c ≤ 57 ∨ c = 95)
theorem chB_yes {c : Nat} (h : 97 ≤ c ∧ c ≤ 122 ∨ 48 ≤ c ∧ c ≤ 57 ∨ c = 95) : chB c = true := decide_eq_true h
theorem chB_no {c : Nat} (h : ¬ (97 ≤ c ∧ c ≤ 122 ∨ 48 ≤ c ∧ c ≤ 57 ∨ c = 95)) : chB c = false := decide_eq_false h
/-- are all bytes from a place on such? -/
def plF (s : ByteArray) (k : Nat) : Bool := decide (∀ i, i < s.size → k ≤ i → chB (byt s i) = true)
theorem plF_no {s : ByteArray} {k i : Nat} (hi : i < s.size) (hk : k ≤ i) (h : chB (byt s i) = false) : plF s k = false :=
  decide_eq_false (fun q => by rw [q i hi hk] at h; cases h)
theorem plF_yes {s : ByteArray} {k : Nat} (h : ∀ i, i < s.size → k ≤ i → chB (byt s i) = true) : plF s k = true := decide_eq_true h

set_option maxRecDepth 1000000 in
theorem plain_any (s : ByteArray) (w : World) :
    Calls Tryz.prog 198 #[.string s] w fun e w' => e = .returned (.bool (plF s 0)) ∧ Below w.heap.size w w' := by
  have HB : Hid (∀ pos, Below w.heap.size w (w.iter s pos)) := fun pos => (Below.refl _ _).alloc (Nat.le_refl _) _
  go_enter Tryz.func198, Tryz.ntmps198
  go_wp2
  go_loopw [4] (fun _ w' => ∃ pos : Nat, w' = w.iter s pos ∧ pos ≤ s.size ∧ ∀ i, i < pos → chB (byt s i) = true) (fun _ w' => s.size - w'.iterPos w.heap.size)
  case atStart => exact ⟨0, rfl, Nat.zero_le _, fun i hi => absurd hi (by omega)⟩
  case round =>
    obtain ⟨pos, rfl, hle, hall⟩ := hrel
    have HA : Hid (∀ i, i < pos → chB (byt s i) = true) := hall
    clear hall
    by_cases hp : pos < s.size
    · by_cases ha : (s[pos]'hp).toNat < 128
      · have hnx : ∀ ty, (Instr.next (.pointer (some ⟨w.heap.size, 0, none⟩)) true ty).run Tryz.prog (w.iter s pos) = _ := fun ty => run_next_ascii w s pos ty hp ha
        have hg := byt_get hp
        obtain ⟨c, hc⟩ : ∃ c, c = byt s pos := ⟨_, rfl⟩
        rw [hg] at hnx ha
        rw [← hc] at hnx ha
        have HC : Hid (c = byt s pos) := hc
        clear hc hg
        rcases (show (97 ≤ c ∧ c ≤ 122) ∨ (48 ≤ c ∧ c ≤ 57) ∨ c = 95 ∨ c < 48 ∨ (57 < c ∧ c < 95) ∨ c = 96 ∨ 122 < c from by omega) with hU | hU | hU | hU | hU | hU | hU
        · obtain ⟨h1, h2⟩ := hU
          go_wp2
          go_roundw
          case rel =>
            refine ⟨pos + 1, rfl, by omega, fun i hi => ?_⟩
            rcases Nat.lt_succ_iff_lt_or_eq.1 hi with h | rfl
            · exact HA.out i h
            · rw [← HC.out]; exact chB_yes (by omega)
          case measure => simp; omega
        · obtain ⟨h1, h2⟩ := hU
          go_wp2
          go_roundw
          case rel =>
            refine ⟨pos + 1, rfl, by omega, fun i hi => ?_⟩
            rcases Nat.lt_succ_iff_lt_or_eq.1 hi with h | rfl
            · exact HA.out i h
            · rw [← HC.out]; exact chB_yes (by omega)
          case measure => simp; omega
        · subst hU
          go_wp2
          go_roundw
          case rel =>
            refine ⟨pos + 1, rfl, by omega, fun i hi => ?_⟩
            rcases Nat.lt_succ_iff_lt_or_eq.1 hi with h | rfl
            · exact HA.out i h
            · rw [← HC.out]; exact chB_yes (by omega)
          case measure => simp; omega
        · have hne : ((c : Int) == 95) = false := by simp; omega
          go_wp2
          go_ret
          exact ⟨retb (plF_no hp (Nat.zero_le _) (by rw [← HC.out]; exact chB_no (by omega))).symm, HB.out _⟩
        · have hne : ((c : Int) == 95) = false := by simp; omega
          obtain ⟨h1, h2⟩ := hU
          go_wp2
          go_ret
          exact ⟨retb (plF_no hp (Nat.zero_le _) (by rw [← HC.out]; exact chB_no (by omega))).symm, HB.out _⟩
        · subst hU
          go_wp2
          go_ret
          exact ⟨retb (plF_no hp (Nat.zero_le _) (by rw [← HC.out]; exact chB_no (by omega))).symm, HB.out _⟩
        · have hne : ((c : Int) == 95) = false := by simp; omega
          go_wp2
          go_ret
          exact ⟨retb (plF_no hp (Nat.zero_le _) (by rw [← HC.out]; exact chB_no (by omega))).symm, HB.out _⟩
      · have hnx : ∀ ty, (Instr.next (.pointer (some ⟨w.heap.size, 0, none⟩)) true ty).run Tryz.prog (w.iter s pos) = _ := fun ty => run_next_any w s pos ty hp
        have hhi := (decode_high s pos hp (by omega)).1
        obtain ⟨c, hc⟩ : ∃ c, c = (Utf8.decode s pos).1 := ⟨_, rfl⟩
        rw [← hc] at hnx hhi
        clear hc
        have hne : ((c : Int) == 95) = false := by simp; omega
        have HC : Hid (¬ byt s pos < 128) := by rw [← byt_get hp]; exact ha
        clear ha
        go_wp2
        go_ret
        exact ⟨retb (plF_no hp (Nat.zero_le _) (chB_no (by have := HC.out; omega))).symm, HB.out _⟩
    · have hnx : ∀ ty, (Instr.next (.pointer (some ⟨w.heap.size, 0, none⟩)) true ty).run Tryz.prog (w.iter s pos) = _ := fun ty => run_next_end w s pos ty hp
      go_wp2
      go_ret
      exact ⟨retb (plF_yes (fun i hi _ => HA.out i (by omega))).symm, HB.out _⟩

/-- is a text a node? -/
def ndF (s : ByteArray) : Bool := decide (0 < s.size ∧ s.size ≤ 16) && plF s 0
theorem nd_in {s : ByteArray} (h1 : 0 < s.size) (h2 : s.size ≤ 16) : ndF s = plF s 0 := by unfold ndF; rw [decide_eq_true ⟨h1, h2⟩]; rfl
theorem nd_out {s : ByteArray} (h : ¬ (0 < s.size ∧ s.size ≤ 16)) : ndF s = false := by unfold ndF; rw [decide_eq_false h]; rfl
theorem node_any (s : ByteArray) (w : World) (hs : s.size ≤ 140737488351232) :
    Calls Tryz.prog 156 #[.string s] w fun e w' => e = .returned (.bool (ndF s)) ∧ Below w.heap.size w w' := by
  rcases (show s.size = 0 ∨ (0 < s.size ∧ s.size ≤ 16) ∨ 16 < s.size from by omega) with h | h | h
  · go_enter Tryz.func156, Tryz.ntmps156
    go_wp2_with fail
    go_ret
    exact ⟨retb (nd_out (by omega)).symm, Below.refl _ _⟩
  · obtain ⟨h1, h2⟩ := h
    rw [nd_in h1 h2]
    go_enter Tryz.func156, Tryz.ntmps156
    go_wp2_with (first | (go_at_call 198; (with_reducible refine (plain_any _ _).mono ?_); rintro e w' ⟨rfl, hb⟩; (have HB : Hid (Below w.heap.size w w') := hb); clear hb))
    go_ret
    exact ⟨rfl, HB.out⟩
  · go_enter Tryz.func156, Tryz.ntmps156
    go_wp2_with fail
    go_ret
    exact ⟨retb (nd_out (by omega)).symm, Below.refl _ _⟩
end Go.Proofs.YtmpkcioeodlbcaaGreatDoor
namespace Go.Proofs.YtmpkcioeodlbcaaGreatDoor
open Fl RowKit
set_option linter.unusedVariables false
/-- the table: letter, unit, above, phase, four -/
def ltr : Nat → Nat
  | 1 => 82 | 2 => 76 | 3 => 67 | 4 => 73 | 5 => 86 | 6 => 71 | 7 => 69 | 8 => 80 | _ => 0
def unS : Nat → ByteArray
  | 1 => ⟨#[111, 104, 109]⟩ | 2 => ⟨#[104, 101, 110, 114, 121]⟩ | 3 => ⟨#[102, 97, 114, 97, 100]⟩ | 4 => ⟨#[97, 109, 112, 101, 114, 101]⟩ | 5 => ⟨#[118, 111, 108, 116]⟩ | 6 => ⟨#[115, 105, 101, 109, 101, 110, 115]⟩ | 7 => ⟨#[]⟩ | 8 => ⟨#[111, 104, 109]⟩ | _ => ⟨#[]⟩
def abv : Nat → Bool
  | 1 => true | 2 => true | 3 => true | 8 => true | _ => false
def phs : Nat → Bool
  | 4 => true | 5 => true | _ => false
def fou : Nat → Bool
  | 6 => true | 7 => true | _ => false
def natV (k : Nat) : Value := .agg #[.int .u8 (ltr k : Nat), .string (unS k), .bool (abv k), .bool (phs k), .bool (fou k)]
theorem nat_none {k : Nat} (h : k = 0 ∨ 8 < k) : ltr k = 0 ∧ unS k = ⟨#[]⟩ ∧ abv k = false ∧ phs k = false ∧ fou k = false := by
  rcases h with rfl | h
  · exact ⟨rfl, rfl, rfl, rfl, rfl⟩
  · match k, h with
    | n + 9, _ => exact ⟨rfl, rfl, rfl, rfl, rfl⟩
set_option maxRecDepth 100000 in
set_option maxHeartbeats 2000000 in
theorem nature_any (k : Nat) (w : World) :
    Calls Tryz.prog 108 #[.int .u8 (k : Int)] w fun e w' => e = .returned (natV k) ∧ Below w.heap.size w w' := by
  have HB : Hid (∀ a b c d e t, Below w.heap.size w (w.alloc (.cells #[a, b, c, d, e] t))) := fun a b c d e t => (Below.refl _ _).alloc (Nat.le_refl _) _
  rcases (show k = 1 ∨ k = 2 ∨ k = 3 ∨ k = 4 ∨ k = 5 ∨ k = 6 ∨ k = 7 ∨ k = 8 ∨ (k = 0 ∨ 8 < k) from by omega) with rfl | rfl | rfl | rfl | rfl | rfl | rfl | rfl | h
  case inr.inr.inr.inr.inr.inr.inr.inr =>
    have h1 : ((k : Int) == 1) = false := by simp; omega
    have h2 : ((k : Int) == 2) = false := by simp; omega
    have h3 : ((k : Int) == 3) = false := by simp; omega
    have h4 : ((k : Int) == 4) = false := by simp; omega
    have h5 : ((k : Int) == 5) = false := by simp; omega
    have h6 : ((k : Int) == 6) = false := by simp; omega
    have h7 : ((k : Int) == 7) = false := by simp; omega
    have h8 : ((k : Int) == 8) = false := by simp; omega
    obtain ⟨e1, e2, e3, e4, e5⟩ := nat_none h
    unfold natV
    rw [e1, e2, e3, e4, e5]
    clear h e1 e2 e3 e4 e5
    go_enter Tryz.func108, Tryz.ntmps108
    go_wp2_with fail
    refine bodyPost_ret (by simp [results, Tryz.results108, go_sem]; try rfl) rfl ?_
    exact ⟨rfl, HB.out _ _ _ _ _ _⟩
  all_goals
    go_enter Tryz.func108, Tryz.ntmps108
    go_wp2_with fail
    refine bodyPost_ret (by simp [results, Tryz.results108, go_sem]; try rfl) rfl ?_
    exact ⟨rfl, HB.out _ _ _ _ _ _⟩

@[go_sem] theorem run_fieldL (a b c d e : Value) (w : World) : Sem.run Tryz.prog (Instr.field 166 (.agg #[a, b, c, d, e]) 0) w = .ok a w := by kernel_rfl
@[go_sem] theorem run_fieldU (a b c d e : Value) (w : World) : Sem.run Tryz.prog (Instr.field 166 (.agg #[a, b, c, d, e]) 1) w = .ok b w := by kernel_rfl
/-- the kind of a letter; 0: none -/
def ofK (c : Nat) : Nat := if c = 82 then 1 else if c = 76 then 2 else if c = 67 then 3 else if c = 73 then 4 else if c = 86 then 5 else if c = 71 then 6 else if c = 69 then 7 else if c = 80 then 8 else 0
theorem of_ltr {k : Nat} (h1 : 1 ≤ k) (h8 : k ≤ 8) : ofK (ltr k) = k := by
  rcases (show k = 1 ∨ k = 2 ∨ k = 3 ∨ k = 4 ∨ k = 5 ∨ k = 6 ∨ k = 7 ∨ k = 8 from by omega) with rfl | rfl | rfl | rfl | rfl | rfl | rfl | rfl <;> rfl
theorem of_none {c : Nat} (h : ∀ j, 1 ≤ j → j < 9 → ltr j ≠ c) : ofK c = 0 := by
  have h1 : 82 ≠ c := h 1 (by omega) (by omega)
  have h2 : 76 ≠ c := h 2 (by omega) (by omega)
  have h3 : 67 ≠ c := h 3 (by omega) (by omega)
  have h4 : 73 ≠ c := h 4 (by omega) (by omega)
  have h5 : 86 ≠ c := h 5 (by omega) (by omega)
  have h6 : 71 ≠ c := h 6 (by omega) (by omega)
  have h7 : 69 ≠ c := h 7 (by omega) (by omega)
  have h8 : 80 ≠ c := h 8 (by omega) (by omega)
  unfold ofK
  rw [if_neg (Ne.symm h1), if_neg (Ne.symm h2), if_neg (Ne.symm h3), if_neg (Ne.symm h4), if_neg (Ne.symm h5), if_neg (Ne.symm h6), if_neg (Ne.symm h7), if_neg (Ne.symm h8)]
theorem ltr_lt (k : Nat) : ltr k < 256 := by unfold ltr; split <;> omega
set_option maxRecDepth 100000 in
theorem kof_any (c : Nat) (w : World) (hc : c < 256) :
    Calls Tryz.prog 153 #[.int .u8 (c : Int)] w fun e w' => e = .returned (.tuple #[.int .u8 (ofK c : Nat), .bool (ofK c != 0)]) ∧ Below w.heap.size w w' := by
  go_enter Tryz.func153, Tryz.ntmps153
  go_wp2_with fail
  go_loopw [4] (fun kv wr => ∃ k : Nat, kv = .int .u8 k ∧ 1 ≤ k ∧ k ≤ 9 ∧ (∀ j, 1 ≤ j → j < k → ltr j ≠ c) ∧ Below w.heap.size w wr) (fun kv _ => 9 - (intOf kv).toNat)
  case atStart => exact ⟨1, rfl, by omega, by omega, fun j h1 h2 => absurd h2 (by omega), Below.refl _ _⟩
  case round =>
    obtain ⟨k, rfl, hk1, hk9, hno, hbel⟩ := hrel
    have HN : Hid (∀ j, 1 ≤ j → j < k → ltr j ≠ c) := hno
    have HB : Hid (Below w.heap.size w wr) := hbel
    clear hno hbel
    by_cases hk : k ≤ 8
    · have hl := ltr_lt k
      by_cases he : ltr k = c
      · have he2 : (((ltr k : Nat) : Int) == (c : Int)) = true := by rw [he]; simp
        go_wp2_with (first | (go_at_call 108; (with_reducible refine (nature_any k _).mono ?_); rintro e w' ⟨rfl, hb⟩; (have HB2 : Hid (Below wr.heap.size wr w') := hb); clear hb; unfold natV))
        go_ret2
        have h3 : ofK c = k := by rw [← he]; exact of_ltr hk1 hk
        refine ⟨?_, HB.out.trans (HB2.out.mono HB.out.size)⟩
        rw [h3, show (k != 0) = true from by simp; omega]
        rfl
      · have he2 : (((ltr k : Nat) : Int) == (c : Int)) = false := by simp; omega
        have hw : IntKind.u8.wrap ((k : Int) + 1) = ((k + 1 : Nat) : Int) := by rw [IntKind.wrap_u8]; omega
        go_wp2_with (first | (go_at_call 108; (with_reducible refine (nature_any k _).mono ?_); rintro e w' ⟨rfl, hb⟩; (have HB2 : Hid (Below wr.heap.size wr w') := hb); clear hb; unfold natV))
        go_roundw
        case rel =>
          refine ⟨k + 1, by go_num, by omega, by omega, fun j h1 h2 => ?_, HB.out.trans (HB2.out.mono HB.out.size)⟩
          rcases Nat.lt_succ_iff_lt_or_eq.1 h2 with h | rfl
          · exact HN.out j h1 h
          · exact he
        case measure => simp [intOf]; omega
    · have e : k = 9 := by omega
      subst e
      have h0 := of_none HN.out
      have H0 : Hid (ofK c = 0) := h0
      clear h0
      go_wp2_with fail
      go_ret2
      exact ⟨by rw [H0.out]; rfl, HB.out⟩
end Go.Proofs.YtmpkcioeodlbcaaGreatDoor
namespace Go.Proofs.YtmpkcioeodlbcaaGreatDoor
open Fl RowKit
set_option linter.unusedVariables false
theorem ext_size {s : ByteArray} (h : 1 ≤ s.size) : (s.extract 1 s.size).size = s.size - 1 := by simp
theorem ext_byt {s : ByteArray} {i : Nat} (h : i < s.size - 1) : byt (s.extract 1 s.size) i = byt s (i + 1) := by
  have h1 : i < (s.extract 1 s.size).size := by simp; omega
  have h2 : i + 1 < s.size := by omega
  rw [← byt_get h1, ← byt_get h2, ByteArray.getElem_extract]
  congr 2
  omega
theorem ext_plF {s : ByteArray} (h : 1 ≤ s.size) : plF (s.extract 1 s.size) 0 = plF s 1 := by
  rw [Bool.eq_iff_iff]
  unfold plF
  rw [decide_eq_true_iff, decide_eq_true_iff]
  constructor
  · intro q i hi h1
    have := q (i - 1) (by rw [ext_size h]; omega) (Nat.zero_le _)
    rwa [ext_byt (by omega), Nat.sub_add_cancel h1] at this
  · intro q i hi _
    rw [ext_size h] at hi
    rw [ext_byt hi]
    exact q (i + 1) (by omega) (by omega)
/-- the kind of which a text is a name; 0: none -/
def nmK (s : ByteArray) : Nat := if (2 ≤ s.size ∧ s.size ≤ 16) ∧ plF s 1 = true then ofK (byt s 0) else 0
theorem nm_out {s : ByteArray} (h : ¬ (2 ≤ s.size ∧ s.size ≤ 16)) : nmK s = 0 := if_neg (fun q => h q.1)
theorem nm_in {s : ByteArray} (h1 : 2 ≤ s.size) (h2 : s.size ≤ 16) (h : plF s 1 = true) : nmK s = ofK (byt s 0) := if_pos ⟨⟨h1, h2⟩, h⟩
theorem ndx {s : ByteArray} (h1 : 1 ≤ s.size) (h2 : s.size ≤ 16) : ndF (s.extract 1 s.size) = (decide (2 ≤ s.size) && plF s 1) := by
  unfold ndF
  rw [ext_plF h1, ext_size h1]
  congr 1
  rw [decide_eq_decide]; omega
set_option maxRecDepth 100000 in
theorem name_any (s : ByteArray) (w : World) (hs : s.size ≤ 140737488351232) :
    Calls Tryz.prog 155 #[.string s] w fun e w' => e = .returned (.tuple #[.int .u8 (nmK s : Nat), .bool (nmK s != 0)]) ∧ Below w.heap.size w w' := by
  rcases (show s.size = 0 ∨ 16 < s.size ∨ (1 ≤ s.size ∧ s.size ≤ 16) from by omega) with h | h | h
  · rw [nm_out (by omega)]
    go_enter Tryz.func155, Tryz.ntmps155
    go_wp2_with fail
    go_ret2
    exact ⟨rfl, Below.refl _ _⟩
  · rw [nm_out (by omega)]
    have h0 : ((s.size : Int) == 0) = false := by rw [beq_eq_false_iff_ne]; omega
    go_enter Tryz.func155, Tryz.ntmps155
    go_wp2_with fail
    go_ret2
    exact ⟨rfl, Below.refl _ _⟩
  · obtain ⟨h1, h2⟩ := h
    have h0 : ((s.size : Int) == 0) = false := by rw [beq_eq_false_iff_ne]; omega
    have hpos : 0 < s.size := h1
    have hg := byt_get hpos
    have hlt := byt_lt s 0
    have hx := ndx h1 h2
    have hxs : (s.extract 1 s.size).size ≤ 140737488351232 := by rw [ext_size h1]; omega
    obtain ⟨c, hc⟩ : ∃ c, c = byt s 0 := ⟨_, rfl⟩
    rw [← hc] at hg hlt
    have HC : Hid (c = byt s 0) := hc
    clear hc
    cases hk : (ofK c != 0)
    · have hn : nmK s = 0 := by
        have hc0 : ofK c = 0 := by simpa using hk
        unfold nmK; split
        · rw [← HC.out]; exact hc0
        · rfl
      rw [hn]
      clear hn hx hxs
      go_enter Tryz.func155, Tryz.ntmps155
      go_wp2_with (first
        | (go_at_call 153; (try rw [hg]); (with_reducible refine (kof_any c _ hlt).mono ?_); rintro e w' ⟨rfl, hb⟩; (have HB : Hid (Below w.heap.size w w') := hb); clear hb; rw [hk]))
      go_ret2
      exact ⟨rfl, HB.out⟩
    · cases hd : ndF (s.extract 1 s.size)
      · have hn : nmK s = 0 := by
          rw [hx] at hd
          unfold nmK; split
          · next q => rw [q.2] at hd; simp at hd; omega
          · rfl
        rw [hn]
        clear hn hx
        go_enter Tryz.func155, Tryz.ntmps155
        go_wp2_with (first
          | (go_at_call 153; (try rw [hg]); (with_reducible refine (kof_any c _ hlt).mono ?_); rintro e w' ⟨rfl, hb⟩; (have HB : Hid (Below w.heap.size w w') := hb); clear hb; rw [hk])
          | (go_at_call 156; (with_reducible refine (node_any _ _ hxs).mono ?_); rintro e w2 ⟨rfl, hb⟩; (have HB2 : Hid (Below w'.heap.size w' w2) := hb); clear hb; rw [hd]))
        go_ret2
        exact ⟨rfl, HB.out.trans (HB2.out.mono HB.out.size)⟩
      · have hn : nmK s = ofK c := by
          rw [hx] at hd
          simp at hd
          rw [HC.out]
          exact nm_in hd.1 h2 hd.2
        rw [hn, hk]
        clear hn hx
        go_enter Tryz.func155, Tryz.ntmps155
        go_wp2_with (first
          | (go_at_call 153; (try rw [hg]); (with_reducible refine (kof_any c _ hlt).mono ?_); rintro e w' ⟨rfl, hb⟩; (have HB : Hid (Below w.heap.size w w') := hb); clear hb; rw [hk])
          | (go_at_call 156; (with_reducible refine (node_any _ _ hxs).mono ?_); rintro e w2 ⟨rfl, hb⟩; (have HB2 : Hid (Below w'.heap.size w' w2) := hb); clear hb; rw [hd]))
        go_ret2
        exact ⟨rfl, HB.out.trans (HB2.out.mono HB.out.size)⟩
end Go.Proofs.YtmpkcioeodlbcaaGreatDoor
namespace Go.Proofs.YtmpkcioeodlbcaaGreatDoor
open Fl RowKit
set_option linter.unusedVariables false
theorem al_size (w : World) (o : Obj) : (w.alloc o).heap.size = w.heap.size + 1 := by simp
/-- the document's row of a kind -/
def rk (k : Nat) : Nat := if ltr k = 0 then 0 else k
end Go.Proofs.YtmpkcioeodlbcaaGreatDoor
