/-
  Several texts in one: Qx Qy Qxp Qpf Qdc Qbt Qpa.
-/
import Derived.Test.YtjoncbfaajcioaaGreatDoorBqc
import Derived.Test.YtjoncbfaajcioaaGreatDoorBqe
import Derived.Test.YtjoncbfaajcioaaGreatDoorBqd
namespace Go.Proofs.YtjoncbfaajcioaaGreatDoor
open RowKit

/-- a byte of a text (0 outside it) -/
def qbyt (s : ByteArray) (i : Nat) : Nat := (s.data.getD i 0).toNat
/-- a reader in memory: its text and how far it has come -/
structure Rdr (w : World) (p : Nat) (s : ByteArray) (i : Nat) : Prop where
  blk : w.heap[p]? = some (.cells #[.string s, .int .i64 (i : Int)] 125 (0, 0))
  le : i ≤ s.size
  sz : s.size ≤ 64
theorem Rdr.c0 {w : World} {p i : Nat} {s : ByteArray} (h : Rdr w p s i) : w.cell? ⟨p, 0, none⟩ = some (.string s) := by
  rw [cell_of_row w p 0 _ _ (0, 0) h.blk]; rfl
theorem Rdr.c1 {w : World} {p i : Nat} {s : ByteArray} (h : Rdr w p s i) : w.cell? ⟨p, 1, none⟩ = some (.int .i64 (i : Int)) := by
  rw [cell_of_row w p 1 _ _ (0, 0) h.blk]; rfl
theorem Rdr.fz {w : World} {p i : Nat} {s : ByteArray} (h : Rdr w p s i) : w.frozen? ⟨p, 1, none⟩ = false := frozen_of_row w p 1 _ _ h.blk
theorem Rdr.plt {w : World} {p i : Nat} {s : ByteArray} (h : Rdr w p s i) : p < w.heap.size := (Array.getElem?_eq_some_iff.1 h.blk).1
theorem Rdr.step {w : World} {p i : Nat} {s : ByteArray} (h : Rdr w p s i) (hi : i < s.size) (n : Nat) : Rdr ((w.drewN n).setCell ⟨p, 1, none⟩ (.int .i64 ((i + 1 : Nat) : Int))) p s (i + 1) ∧ Only (fun k => k = p) w ((w.drewN n).setCell ⟨p, 1, none⟩ (.int .i64 ((i + 1 : Nat) : Int))) :=
  ⟨⟨heap_setCell_same _ p 1 _ _ _ h.blk, hi, h.sz⟩, ((Only.refl _ w).drewN n).set _ _ (.inl rfl)⟩
theorem Rdr.only {w w' : World} {p i : Nat} {s : ByteArray} (h : Rdr w p s i) {S : Nat → Prop} (ho : Only S w w') (hp : ¬ S p) : Rdr w' p s i := ⟨by rw [ho.block p h.plt hp]; exact h.blk, h.le, h.sz⟩
theorem qbyt_get {s : ByteArray} {i : Nat} (h : i < s.size) : (s[i]'h).toNat = qbyt s i := by
  have h2 : i < s.data.size := h
  show (s.data[i]'h2).toNat = (s.data.getD i 0).toNat
  rw [Array.getD_eq_getD_getElem?, Array.getElem?_eq_getElem h2]; rfl
theorem qbyt_lt (s : ByteArray) (i : Nat) : qbyt s i < 256 := UInt8.toNat_lt _
/-- how far it has come behind take -/
def tk (s : ByteArray) (i c : Nat) : Nat := if i < s.size ∧ qbyt s i = c then i + 1 else i
def tkb (s : ByteArray) (i c : Nat) : Bool := decide (i < s.size ∧ qbyt s i = c)
theorem Rdr.drewN {w : World} {p i : Nat} {s : ByteArray} (h : Rdr w p s i) (n : Nat) : Rdr (w.drewN n) p s i := ⟨h.blk, h.le, h.sz⟩
set_option maxRecDepth 10000 in
set_option maxHeartbeats 1000000 in
theorem take_any {w : World} {p i : Nat} {s : ByteArray} (c : Nat) {C : Int} (h : Rdr w p s i) (hC : C = ((c : Nat) : Int)) :
    Calls Tryz.prog 71 #[.pointer (some ⟨p, 0, none⟩), .int .u8 C] w fun e w' => e = .returned (.bool (tkb s i c)) ∧ Rdr w' p s (tk s i c) ∧ Only (fun k => k = p) w w' := by
  subst hC
  have c0 := h.c0
  have c1 := h.c1
  have fz := h.fz
  have hl := h.le
  have hs := h.sz
  by_cases hi : i < s.size
  · have hne : ((i : Int) == (s.size : Int)) = false := by simp; omega
    by_cases hbc : qbyt s i = c
    · have e1 : tkb s i c = true := decide_eq_true ⟨hi, hbc⟩
      have e2 : tk s i c = i + 1 := if_pos ⟨hi, hbc⟩
      rw [e1, e2]
      clear e1 e2
      go_enter Tryz.func71, Tryz.ntmps71
      go_wp2_with fail
      go_quiet (fail)
      rw [qbyt_get hi, hbc]
      go_wp2
      go_ret
      obtain ⟨R, O⟩ := h.step hi nq
      exact ⟨rfl, R, O⟩
    · have e1 : tkb s i c = false := decide_eq_false (fun q => hbc q.2)
      have e2 : tk s i c = i := if_neg (fun q => hbc q.2)
      have hb2 : ((qbyt s i : Int) != (c : Int)) = true := by simp; omega
      rw [e1, e2]
      clear e1 e2
      go_enter Tryz.func71, Tryz.ntmps71
      go_wp2_with fail
      go_quiet (fail)
      rw [qbyt_get hi, hb2]
      go_wp2
      go_ret
      exact ⟨rfl, h.drewN nq, (Only.refl _ w).drewN nq⟩
  · have e1 : tkb s i c = false := decide_eq_false (fun q => hi q.1)
    have e2 : tk s i c = i := if_neg (fun q => hi q.1)
    have e : i = s.size := by omega
    rw [e1, e2]
    clear e1 e2
    subst e
    go_enter Tryz.func71, Tryz.ntmps71
    go_wp2_with fail
    go_quiet (fail)
    go_wp2
    go_ret
    exact ⟨rfl, h.drewN nq, (Only.refl _ w).drewN nq⟩
/-- is a digit next? -/
def dgb (s : ByteArray) (i : Nat) : Bool := decide (i < s.size ∧ 48 ≤ qbyt s i ∧ qbyt s i ≤ 57)
set_option maxRecDepth 10000 in
set_option maxHeartbeats 1000000 in
theorem digit_yes {w : World} {p i : Nat} {s : ByteArray} (h : Rdr w p s i) (hd : dgb s i = true) :
    Calls Tryz.prog 100 #[.pointer (some ⟨p, 0, none⟩)] w fun e w' => e = .returned (.tuple #[.int .u64 ((qbyt s i - 48 : Nat) : Int), .bool true]) ∧ Rdr w' p s (i + 1) ∧ Only (fun k => k = p) w w' := by
  obtain ⟨hi, h48, h57⟩ := of_decide_eq_true hd
  have c0 := h.c0
  have c1 := h.c1
  have fz := h.fz
  have hl := h.le
  have hs := h.sz
  have hne : ((i : Int) == (s.size : Int)) = false := by simp; omega
  have hg := qbyt_get hi
  obtain ⟨b, hb⟩ : ∃ b, b = qbyt s i := ⟨_, rfl⟩
  rw [← hb] at h48 h57 hg ⊢
  obtain ⟨m, hm⟩ : ∃ m, b = m + 48 := ⟨b - 48, by omega⟩
  subst hm
  have HB : Hid (m + 48 = qbyt s i) := hb
  have h1 : ¬ ((m : Int) + 48) < 48 := by omega
  have h2 : ¬ 57 < ((m : Int) + 48) := by omega
  have hi2 : wrap64 ((i : Int) + 1 - 1) = (i : Int) := by unfold wrap64; omega
  rw [Nat.add_sub_cancel]
  clear hb hd
  go_enter Tryz.func100, Tryz.ntmps100
  go_wp2_with fail
  go_quiet (fail)
  try rw [hg]
  obtain ⟨R, O⟩ := h.step hi nq
  have k0 : ((w.drewN nq).setCell ⟨p, 1, none⟩ (.int .i64 ((i : Int) + 1))).cell? ⟨p, 0, none⟩ = some (.string s) := R.c0
  have k1 : ((w.drewN nq).setCell ⟨p, 1, none⟩ (.int .i64 ((i : Int) + 1))).cell? ⟨p, 1, none⟩ = some (.int .i64 ((i : Int) + 1)) := R.c1
  have HR : Hid (Rdr ((w.drewN nq).setCell ⟨p, 1, none⟩ (.int .i64 ((i : Int) + 1))) p s (i + 1) ∧ Only (fun k => k = p) w ((w.drewN nq).setCell ⟨p, 1, none⟩ (.int .i64 ((i : Int) + 1)))) := ⟨R, O⟩
  clear R O
  go_wp2_with fail
  obtain ⟨W, hW⟩ : ∃ W, W = (w.drewN nq).setCell ⟨p, 1, none⟩ (.int .i64 ((i : Int) + 1)) := ⟨_, rfl⟩
  rw [← hW] at k0 k1 HR ⊢
  clear hW c0 c1 fz
  go_quiet (fail)
  try rw [hg]
  go_wp2
  go_ret2
  exact ⟨rfl, HR.out.1.drewN _, HR.out.2.drewN _⟩
set_option maxRecDepth 10000 in
set_option maxHeartbeats 1000000 in
theorem digit_no {w : World} {p i : Nat} {s : ByteArray} (h : Rdr w p s i) (hd : dgb s i = false) :
    Calls Tryz.prog 100 #[.pointer (some ⟨p, 0, none⟩)] w fun e w' => e = .returned (.tuple #[.int .u64 0, .bool false]) ∧ Rdr w' p s i ∧ Only (fun k => k = p) w w' := by
  have hq := of_decide_eq_false hd
  have c0 := h.c0
  have c1 := h.c1
  have fz := h.fz
  have hl := h.le
  have hs := h.sz
  clear hd
  by_cases hi : i < s.size
  · have hne : ((i : Int) == (s.size : Int)) = false := by simp; omega
    have hg := qbyt_get hi
    obtain ⟨b, hb⟩ : ∃ b, b = qbyt s i := ⟨_, rfl⟩
    rw [← hb] at hg hq
    clear hb
    by_cases h48 : b < 48
    · have h1 : (b : Int) < 48 := by omega
      clear hq
      go_enter Tryz.func100, Tryz.ntmps100
      go_wp2_with fail
      go_quiet (fail)
      try rw [hg]
      go_wp2
      go_ret2
      exact ⟨rfl, h.drewN nq, (Only.refl _ w).drewN nq⟩
    · have h1 : ¬ (b : Int) < 48 := by omega
      have h2 : 57 < (b : Int) := by omega
      clear hq
      go_enter Tryz.func100, Tryz.ntmps100
      go_wp2_with fail
      go_quiet (fail)
      try rw [hg]
      go_wp2
      go_ret2
      exact ⟨rfl, h.drewN nq, (Only.refl _ w).drewN nq⟩
  · have e : i = s.size := by omega
    subst e
    clear hq
    go_enter Tryz.func100, Tryz.ntmps100
    go_wp2_with fail
    go_quiet (fail)
    go_wp2
    go_ret2
    exact ⟨rfl, h.drewN nq, (Only.refl _ w).drewN nq⟩

end Go.Proofs.YtjoncbfaajcioaaGreatDoor

namespace Go.Proofs.YtjoncbfaajcioaaGreatDoor
open RowKit

/-- how many digits are next -/
def dN (s : ByteArray) : Nat → Nat → Nat
  | 0, _ => 0
  | f + 1, i => if dgb s i = true then dN s f (i + 1) + 1 else 0
/-- a whole number with the digits that are next behind it -/
def dV (s : ByteArray) : Nat → Nat → Nat → Nat
  | 0, _, z => z
  | f + 1, i, z => if dgb s i = true then dV s f (i + 1) (z * 10 + (qbyt s i - 48)) else z
theorem dN_yes {s : ByteArray} {i f : Nat} (h : dgb s i = true) : dN s (f + 1) i = dN s f (i + 1) + 1 := if_pos h
theorem dN_no {s : ByteArray} {i f : Nat} (h : dgb s i = false) : dN s (f + 1) i = 0 := if_neg (by rw [h]; decide)
theorem dV_yes {s : ByteArray} {i f z : Nat} (h : dgb s i = true) : dV s (f + 1) i z = dV s f (i + 1) (z * 10 + (qbyt s i - 48)) := if_pos h
theorem dV_no {s : ByteArray} {i f z : Nat} (h : dgb s i = false) : dV s (f + 1) i z = z := if_neg (by rw [h]; decide)
def atOf (w : World) (p : Nat) : Nat := match w.cell? ⟨p, 1, none⟩ with | some (.int _ q) => q.toNat | _ => 0
theorem Rdr.at {w : World} {p i : Nat} {s : ByteArray} (h : Rdr w p s i) : atOf w p = i := by unfold atOf; rw [h.c1]; simp
theorem dgb_lt {s : ByteArray} {i : Nat} (h : dgb s i = true) : i < s.size ∧ qbyt s i - 48 ≤ 9 := by
  obtain ⟨h1, h2, h3⟩ := of_decide_eq_true h
  exact ⟨h1, by omega⟩
set_option maxRecDepth 10000 in
set_option maxHeartbeats 1000000 in
theorem digits_any {w : World} {p i base z L : Nat} {s : ByteArray} {v : Value} (h : Rdr w p s i) (hv : Wh w base v z L) (hpv : ¬ Ob v p) (hL : L ≤ 1000) (hbase : base ≤ w.heap.size) :
    Calls Tryz.prog 82 #[.pointer (some ⟨p, 0, none⟩), v] w fun e w' => ∃ v' : Value, e = .returned (.tuple #[v', .int .i64 ((dN s 65 i : Nat) : Int)]) ∧ Wh w' base v' (dV s 65 i z) (L + 64) ∧ Rdr w' p s (i + dN s 65 i) ∧ Only (fun k => Ob v k ∨ k = p) w w' ∧ (∀ k, Ob v' k → Ob v k ∨ w.heap.size ≤ k) := by
  have c1 := h.c1
  have hplt := h.plt
  go_enter Tryz.func82, Tryz.ntmps82
  go_wp2_with fail
  go_loopw [1] (fun vv wr => ∃ (j z0 : Nat) (v0 : Value), v0 = vv ∧ j ≤ 64 ∧ Rdr wr p s (i + j) ∧ Wh wr base v0 z0 (L + j) ∧ dN s (65 - j) (i + j) + j = dN s 65 i ∧ dV s (65 - j) (i + j) z0 = dV s 65 i z ∧ Only (fun k => Ob v k ∨ k = p) w wr ∧ (∀ k, Ob v0 k → Ob v k ∨ w.heap.size ≤ k)) (fun _ wr => 100 - atOf wr p)
  case atStart => exact ⟨0, z, v, rfl, by omega, h, hv, rfl, rfl, Only.refl _ _, fun k hk => .inl hk⟩
  case round =>
    clear hv c1
    obtain ⟨j, z0, v0, rfl, hj, R, hv, hN, hV, hO, hF⟩ := hrel
    have hsz := hO.size
    have hbs : base ≤ wr.heap.size := by omega
    have hle := R.le
    have hs64 := R.sz
    have hpv0 : ¬ Ob v0 p := fun hk => by
      rcases hF p hk with h1 | h1
      · exact hpv h1
      · omega
    obtain ⟨f, hf⟩ : ∃ f, 65 - j = f + 1 := ⟨64 - j, by omega⟩
    rw [hf] at hN hV
    by_cases hd : dgb s (i + j) = true
    · obtain ⟨hlt, hb9⟩ := dgb_lt hd
      rw [dN_yes hd] at hN
      rw [dV_yes hd] at hV
      obtain ⟨m, hm⟩ : ∃ m, m = qbyt s (i + j) - 48 := ⟨_, rfl⟩
      rw [← hm] at hV hb9
      have HM : Hid (m = qbyt s (i + j) - 48) := hm
      have hat := R.at
      have HN : Hid (dN s f (i + j + 1) + 1 + j = dN s 65 i) := hN
      have HV : Hid (dV s f (i + j + 1) (z0 * 10 + m) = dV s 65 i z) := hV
      have HO : Hid (Only (fun k => Ob v k ∨ k = p) w wr) := hO
      have HF : Hid (∀ k, Ob v0 k → Ob v k ∨ w.heap.size ≤ k) := hF
      clear hm hN hV hO hF
      go_wp2_with (first
        | (go_at_call 100; (with_reducible refine (digit_yes R hd).mono ?_); rintro e1 w1 ⟨rfl, k1, k2⟩; rw [← HM.out]; have k3 := k2.size; have hv1 := hv.only k2 (fun k hk hk2 => hpv0 (hk2 ▸ hk)))
        | (go_at_call 101; (with_reducible refine (qtimesI 10 m hv1 (by omega) rfl (by omega) (by omega) (by omega) (by omega) (by omega)).mono ?_); rintro e2 w2 ⟨v2, rfl, q1, q2, q3⟩))
      have R2 := k1.only q2 hpv0
      have O2 : Only (fun k => Ob v k ∨ k = p) w w2 := (HO.out.next k2 (fun i hi => .inl (.inr hi))).next q2 (fun i hi => (HF.out i hi).imp .inl id)
      go_roundw
      case rel =>
        refine ⟨j + 1, z0 * 10 + m, v2, rfl, by omega, R2, q1, ?_, ?_, O2, fun k hk => ?_⟩
        · rw [show 65 - (j + 1) = f by omega]; have := HN.out; show dN s f (i + j + 1) + (j + 1) = _; omega
        · rw [show 65 - (j + 1) = f by omega]; exact HV.out
        · rcases q3 k hk with h1 | h1
          · exact HF.out k h1
          · exact .inr (by omega)
      case measure =>
        rw [hat, R2.at]; omega
    · have hd0 : dgb s (i + j) = false := by simpa using hd
      rw [dN_no hd0] at hN
      rw [dV_no hd0] at hV
      have HN : Hid (j = dN s 65 i) := by show _ = _; omega
      have HV : Hid (z0 = dV s 65 i z) := hV
      have HO : Hid (Only (fun k => Ob v k ∨ k = p) w wr) := hO
      clear hN hV hO
      go_wp2_with (go_at_call 100; (with_reducible refine (digit_no R hd0).mono ?_); rintro e1 w1 ⟨rfl, k1, k2⟩; have c1 := k1.c1)
      go_quiet (fail)
      go_wp2
      go_ret2
      have hv1 := (hv.only k2 (fun k hk hk2 => hpv0 (hk2 ▸ hk))).mono (L' := L + 64) (by omega)
      rw [HV.out] at hv1
      have hr : i + j = i + dN s 65 i := by rw [← HN.out]
      rw [hr] at k1
      refine ⟨_, ?_, hv1, k1.drewN _, (HO.out.next k2 (fun i hi => .inl (.inr hi))).drewN _, hF⟩
      show Ending.returned (Value.tuple #[v0, Value.int IntKind.i64 ((i : Int) + (j : Int) - (i : Int))]) = _
      rw [show (i : Int) + (j : Int) - (i : Int) = ((dN s 65 i : Nat) : Int) by have := HN.out; omega]

end Go.Proofs.YtjoncbfaajcioaaGreatDoor

namespace Go.Proofs.YtjoncbfaajcioaaGreatDoor
open RowKit

def xS (s : ByteArray) (i : Nat) : Bool := tkb s i 101 || tkb s i 69
def xB (s : ByteArray) (i : Nat) : Bool := tkb s (i + 1) 45
def x3 (s : ByteArray) (i : Nat) : Nat := if xB s i = true then i + 2 else tk s (i + 1) 43
def xP (s : ByteArray) (i : Nat) : Int := if xS s i = true then (if xB s i = true then -(dV s 4 (x3 s i) 0 : Nat) else (dV s 4 (x3 s i) 0 : Nat)) else 0
def xO (s : ByteArray) (i : Nat) : Bool := if xS s i = true then decide (0 < dN s 4 (x3 s i)) else true
def xA (s : ByteArray) (i : Nat) : Nat := if xS s i = true then x3 s i + dN s 4 (x3 s i) else i
theorem dV_bound {s : ByteArray} : ∀ (f i z : Nat), dV s f i z < (z + 1) * 10 ^ f := by
  intro f
  induction f with
  | zero => intro i z; show z < (z + 1) * 1; omega
  | succ f ih =>
    intro i z
    by_cases h : dgb s i = true
    · rw [dV_yes h]
      have h1 := ih (i + 1) (z * 10 + (qbyt s i - 48))
      have h2 := (dgb_lt h).2
      have h3 : (z * 10 + (qbyt s i - 48) + 1) * 10 ^ f ≤ ((z + 1) * 10) * 10 ^ f := Nat.mul_le_mul_right _ (by omega)
      rw [Nat.pow_succ, Nat.mul_comm (10 ^ f), ← Nat.mul_assoc]
      omega
    · rw [dV_no (by simpa using h)]
      have : (z + 1) * 1 ≤ (z + 1) * 10 ^ (f + 1) := Nat.mul_le_mul_left _ (Nat.pow_pos (by decide))
      omega
theorem dN_le {s : ByteArray} : ∀ (f i : Nat), dN s f i ≤ f := by
  intro f
  induction f with
  | zero => intro i; exact Nat.le_refl _
  | succ f ih =>
    intro i
    by_cases h : dgb s i = true
    · rw [dN_yes h]; have := ih (i + 1); omega
    · rw [dN_no (by simpa using h)]; omega
theorem tk_yes {s : ByteArray} {i c : Nat} (h : tkb s i c = true) : tk s i c = i + 1 := if_pos (of_decide_eq_true h)
theorem tk_no {s : ByteArray} {i c : Nat} (h : tkb s i c = false) : tk s i c = i := if_neg (of_decide_eq_false h)
theorem exp_fin {P Q : Int} {b c : Bool} (h1 : P = Q) (h2 : b = c) : Ending.returned (Value.tuple #[.int .i64 P, .bool b]) = .returned (.tuple #[.int .i64 Q, .bool c]) := by rw [h1, h2]
set_option maxRecDepth 10000 in
set_option maxHeartbeats 2000000 in
theorem exp_any {w : World} {p i : Nat} {s : ByteArray} (h : Rdr w p s i) :
    Calls Tryz.prog 83 #[.pointer (some ⟨p, 0, none⟩)] w fun e w' => e = .returned (.tuple #[.int .i64 (xP s i), .bool (xO s i)]) ∧ Rdr w' p s (xA s i) ∧ Only (fun k => k = p) w w' := by
  by_cases hs : xS s i = true
  · have e1 : xP s i = if xB s i = true then -((dV s 4 (x3 s i) 0 : Nat) : Int) else ((dV s 4 (x3 s i) 0 : Nat) : Int) := if_pos hs
    have e2 : xO s i = decide (0 < dN s 4 (x3 s i)) := if_pos hs
    have e3 : xA s i = x3 s i + dN s 4 (x3 s i) := if_pos hs
    rw [e1, e2, e3]
    obtain ⟨a, ha⟩ : ∃ a, x3 s i = a := ⟨_, rfl⟩
    have HA : Hid (x3 s i = a) := ha
    obtain ⟨neg, hneg⟩ : ∃ neg, xB s i = neg := ⟨_, rfl⟩
    have HG : Hid (xB s i = neg) := hneg
    rw [ha, hneg]
    clear e1 e2 e3
    -- the two ways to the sign
    have hse : tkb s i 101 = true ∨ (tkb s i 101 = false ∧ tkb s i 69 = true) := by
      unfold xS at hs
      cases h1 : tkb s i 101
      · rw [h1] at hs; exact .inr ⟨rfl, by simpa using hs⟩
      · exact .inl rfl
    clear hs
    rcases hse with h1' | ⟨h1', h2'⟩
    · have h1 : Hid (tkb s i 101 = true) := h1'
      clear h1'
      cases neg
      · have hB : Hid (tkb s (i + 1) 45 = false) := HG.out
        have HA : Hid (tk s (i + 1) 43 = a) := by
          show _ = _
          have := HA.out
          unfold x3 at this
          rw [HG.out] at this
          exact this
        clear ha hneg
        go_enter Tryz.func83, Tryz.ntmps83
        go_wp2_with (first
          | (go_at_call 71; (with_reducible refine (take_any 101 h (by omega)).mono ?_); rintro e1 w1 ⟨rfl, k1, k2⟩; rw [h1.out]; rw [tk_yes h1.out] at k1)
          | (go_at_call 71; (with_reducible refine (take_any 45 k1 (by omega)).mono ?_); rintro e3 w3 ⟨rfl, q1, q2⟩; rw [hB.out]; rw [tk_no hB.out] at q1)
          | (go_at_call 71; (with_reducible refine (take_any 43 q1 (by omega)).mono ?_); rintro e4 w4 ⟨rfl, q3, q4⟩; rw [HA.out] at q3))
        have R0 : Rdr _ p s a := q3
        have O0 := (k2.trans q2).trans q4
        have d1 := R0.c1
        go_quiet (fail)
        go_wp2_with fail
        go_loopw [5] (fun pv wr => ∃ j z0 : Nat, pv = .int .i64 z0 ∧ j ≤ 4 ∧ z0 < 10 ^ j ∧ Rdr wr p s (a + j) ∧ dN s (4 - j) (a + j) + j = dN s 4 a ∧ dV s (4 - j) (a + j) z0 = dV s 4 a 0 ∧ Only (fun k => k = p) w wr) (fun _ wr => 100 - atOf wr p)
        case atStart => exact ⟨0, 0, rfl, by omega, by decide, R0.drewN _, rfl, rfl, O0.drewN _⟩
        case round =>
          clear d1 R0 O0
          obtain ⟨j, z0, rfl, hj, hz0, R, hN, hV, hO⟩ := hrel
          have hle := R.le
          have hs64 := R.sz
          have hat := R.at
          have d1 := R.c1
          have hz4 : z0 < 10000 := Nat.lt_of_lt_of_le hz0 (Nat.le_trans (Nat.pow_le_pow_right (by decide) hj) (by decide))
          by_cases hj4 : j < 4
          · have hjI : (a : Int) + (j : Int) < (a : Int) + 4 := by omega
            obtain ⟨f, hf⟩ : ∃ f, 4 - j = f + 1 := ⟨3 - j, by omega⟩
            rw [hf] at hN hV
            by_cases hd : dgb s (a + j) = true
            · obtain ⟨hlt, hb9⟩ := dgb_lt hd
              rw [dN_yes hd] at hN
              rw [dV_yes hd] at hV
              obtain ⟨m, hm⟩ : ∃ m, m = qbyt s (a + j) - 48 := ⟨_, rfl⟩
              rw [← hm] at hV hb9
              have HM : Hid (m = qbyt s (a + j) - 48) := hm
              have HN : Hid (dN s f (a + j + 1) + 1 + j = dN s 4 a) := hN
              have HV : Hid (dV s f (a + j + 1) (z0 * 10 + m) = dV s 4 a 0) := hV
              have HZ : Hid (z0 < 10 ^ j) := hz0
              have HO : Hid (Only (fun k => k = p) w wr) := hO
              clear hm hN hV hO hz0
              go_wp2_with (go_at_call 100; (with_reducible refine (digit_yes R hd).mono ?_); rintro e5 w5 ⟨rfl, j1, j2⟩; rw [← HM.out])
              go_roundw
              case rel =>
                refine ⟨j + 1, z0 * 10 + m, congrArg (Value.int .i64) (by omega), by omega, ?_, j1, ?_, ?_, HO.out.trans j2⟩
                · have := HZ.out; rw [Nat.pow_succ]; omega
                · rw [show 4 - (j + 1) = f by omega]; have := HN.out; show dN s f (a + j + 1) + (j + 1) = _; omega
                · rw [show 4 - (j + 1) = f by omega]; exact HV.out
              case measure => rw [hat, j1.at]; omega
            · have hd0 : dgb s (a + j) = false := by simpa using hd
              rw [dN_no hd0] at hN
              rw [dV_no hd0] at hV
              have HN : Hid (dN s 4 a = j) := by show _ = _; omega
              have HV : Hid (dV s 4 a 0 = z0) := hV.symm
              have HO : Hid (Only (fun k => k = p) w wr) := hO
              clear hN hV hO hz0 hj4
              go_wp2_with (go_at_call 100; (with_reducible refine (digit_no R hd0).mono ?_); rintro e5 w5 ⟨rfl, j1, j2⟩; have g1 := j1.c1)
              go_quiet (fail)
              go_wp2
              go_ret2
              rw [HN.out, HV.out]
              exact ⟨exp_fin (by first | rfl | omega | (simp; omega) | simp) (decide_eq_decide.2 (by omega)), j1.drewN _, (HO.out.trans j2).drewN _⟩
          · have e4 : j = 4 := by omega
            subst e4
            have hjI : ¬ (a : Int) + ((4 : Nat) : Int) < (a : Int) + 4 := by omega
            have HN : Hid (dN s 4 a = 4) := by show _ = _; have : dN s (4 - 4) (a + 4) = 0 := rfl; omega
            have HV : Hid (dV s 4 a 0 = z0) := by show _ = _; rw [← hV]; rfl
            have HO : Hid (Only (fun k => k = p) w wr) := hO
            clear hN hV hO hz0
            go_wp2_with fail
            go_quiet (fail)
            go_wp2
            go_ret2
            rw [HN.out, HV.out]
            exact ⟨exp_fin (by first | rfl | omega | (simp; omega) | simp) (decide_eq_decide.2 (by omega)), R.drewN _, HO.out.drewN _⟩
      · have hB : Hid (tkb s (i + 1) 45 = true) := HG.out
        have HA : Hid (i + 2 = a) := by
          show _ = _
          have := HA.out
          unfold x3 at this
          rw [HG.out] at this
          exact this
        clear ha hneg
        go_enter Tryz.func83, Tryz.ntmps83
        go_wp2_with (first
          | (go_at_call 71; (with_reducible refine (take_any 101 h (by omega)).mono ?_); rintro e1 w1 ⟨rfl, k1, k2⟩; rw [h1.out]; rw [tk_yes h1.out] at k1)
          | (go_at_call 71; (with_reducible refine (take_any 45 k1 (by omega)).mono ?_); rintro e3 w3 ⟨rfl, q1, q2⟩; rw [hB.out]; rw [tk_yes hB.out] at q1))
        have R0 : Rdr _ p s a := HA.out ▸ q1
        have O0 := k2.trans q2
        have d1 := R0.c1
        go_quiet (fail)
        go_wp2_with fail
        go_loopw [5] (fun pv wr => ∃ j z0 : Nat, pv = .int .i64 z0 ∧ j ≤ 4 ∧ z0 < 10 ^ j ∧ Rdr wr p s (a + j) ∧ dN s (4 - j) (a + j) + j = dN s 4 a ∧ dV s (4 - j) (a + j) z0 = dV s 4 a 0 ∧ Only (fun k => k = p) w wr) (fun _ wr => 100 - atOf wr p)
        case atStart => exact ⟨0, 0, rfl, by omega, by decide, R0.drewN _, rfl, rfl, O0.drewN _⟩
        case round =>
          clear d1 R0 O0
          obtain ⟨j, z0, rfl, hj, hz0, R, hN, hV, hO⟩ := hrel
          have hle := R.le
          have hs64 := R.sz
          have hat := R.at
          have d1 := R.c1
          have hz4 : z0 < 10000 := Nat.lt_of_lt_of_le hz0 (Nat.le_trans (Nat.pow_le_pow_right (by decide) hj) (by decide))
          by_cases hj4 : j < 4
          · have hjI : (a : Int) + (j : Int) < (a : Int) + 4 := by omega
            obtain ⟨f, hf⟩ : ∃ f, 4 - j = f + 1 := ⟨3 - j, by omega⟩
            rw [hf] at hN hV
            by_cases hd : dgb s (a + j) = true
            · obtain ⟨hlt, hb9⟩ := dgb_lt hd
              rw [dN_yes hd] at hN
              rw [dV_yes hd] at hV
              obtain ⟨m, hm⟩ : ∃ m, m = qbyt s (a + j) - 48 := ⟨_, rfl⟩
              rw [← hm] at hV hb9
              have HM : Hid (m = qbyt s (a + j) - 48) := hm
              have HN : Hid (dN s f (a + j + 1) + 1 + j = dN s 4 a) := hN
              have HV : Hid (dV s f (a + j + 1) (z0 * 10 + m) = dV s 4 a 0) := hV
              have HZ : Hid (z0 < 10 ^ j) := hz0
              have HO : Hid (Only (fun k => k = p) w wr) := hO
              clear hm hN hV hO hz0
              go_wp2_with (go_at_call 100; (with_reducible refine (digit_yes R hd).mono ?_); rintro e5 w5 ⟨rfl, j1, j2⟩; rw [← HM.out])
              go_roundw
              case rel =>
                refine ⟨j + 1, z0 * 10 + m, congrArg (Value.int .i64) (by omega), by omega, ?_, j1, ?_, ?_, HO.out.trans j2⟩
                · have := HZ.out; rw [Nat.pow_succ]; omega
                · rw [show 4 - (j + 1) = f by omega]; have := HN.out; show dN s f (a + j + 1) + (j + 1) = _; omega
                · rw [show 4 - (j + 1) = f by omega]; exact HV.out
              case measure => rw [hat, j1.at]; omega
            · have hd0 : dgb s (a + j) = false := by simpa using hd
              rw [dN_no hd0] at hN
              rw [dV_no hd0] at hV
              have HN : Hid (dN s 4 a = j) := by show _ = _; omega
              have HV : Hid (dV s 4 a 0 = z0) := hV.symm
              have HO : Hid (Only (fun k => k = p) w wr) := hO
              clear hN hV hO hz0 hj4
              go_wp2_with (go_at_call 100; (with_reducible refine (digit_no R hd0).mono ?_); rintro e5 w5 ⟨rfl, j1, j2⟩; have g1 := j1.c1)
              go_quiet (fail)
              go_wp2
              go_ret2
              rw [HN.out, HV.out]
              exact ⟨exp_fin (by first | rfl | omega | (simp; omega) | simp) (decide_eq_decide.2 (by omega)), j1.drewN _, (HO.out.trans j2).drewN _⟩
          · have e4 : j = 4 := by omega
            subst e4
            have hjI : ¬ (a : Int) + ((4 : Nat) : Int) < (a : Int) + 4 := by omega
            have HN : Hid (dN s 4 a = 4) := by show _ = _; have : dN s (4 - 4) (a + 4) = 0 := rfl; omega
            have HV : Hid (dV s 4 a 0 = z0) := by show _ = _; rw [← hV]; rfl
            have HO : Hid (Only (fun k => k = p) w wr) := hO
            clear hN hV hO hz0
            go_wp2_with fail
            go_quiet (fail)
            go_wp2
            go_ret2
            rw [HN.out, HV.out]
            exact ⟨exp_fin (by first | rfl | omega | (simp; omega) | simp) (decide_eq_decide.2 (by omega)), R.drewN _, HO.out.drewN _⟩
    · have h1 : Hid (tkb s i 101 = false) := h1'
      have h2 : Hid (tkb s i 69 = true) := h2'
      clear h1' h2'
      cases neg
      · have hB : Hid (tkb s (i + 1) 45 = false) := HG.out
        have HA : Hid (tk s (i + 1) 43 = a) := by
          show _ = _
          have := HA.out
          unfold x3 at this
          rw [HG.out] at this
          exact this
        clear ha hneg
        go_enter Tryz.func83, Tryz.ntmps83
        go_wp2_with (first
          | (go_at_call 71; (with_reducible refine (take_any 101 h (by omega)).mono ?_); rintro e1 w1 ⟨rfl, k1, k2⟩; rw [h1.out]; rw [tk_no h1.out] at k1)
          | (go_at_call 71; (with_reducible refine (take_any 69 k1 (by omega)).mono ?_); rintro e2 w2 ⟨rfl, k3, k4⟩; rw [h2.out]; rw [tk_yes h2.out] at k3)
          | (go_at_call 71; (with_reducible refine (take_any 45 k3 (by omega)).mono ?_); rintro e3 w3 ⟨rfl, q1, q2⟩; rw [hB.out]; rw [tk_no hB.out] at q1)
          | (go_at_call 71; (with_reducible refine (take_any 43 q1 (by omega)).mono ?_); rintro e4 w4 ⟨rfl, q3, q4⟩; rw [HA.out] at q3))
        have R0 : Rdr _ p s a := q3
        have O0 := ((k2.trans k4).trans q2).trans q4
        have d1 := R0.c1
        go_quiet (fail)
        go_wp2_with fail
        go_loopw [5] (fun pv wr => ∃ j z0 : Nat, pv = .int .i64 z0 ∧ j ≤ 4 ∧ z0 < 10 ^ j ∧ Rdr wr p s (a + j) ∧ dN s (4 - j) (a + j) + j = dN s 4 a ∧ dV s (4 - j) (a + j) z0 = dV s 4 a 0 ∧ Only (fun k => k = p) w wr) (fun _ wr => 100 - atOf wr p)
        case atStart => exact ⟨0, 0, rfl, by omega, by decide, R0.drewN _, rfl, rfl, O0.drewN _⟩
        case round =>
          clear d1 R0 O0
          obtain ⟨j, z0, rfl, hj, hz0, R, hN, hV, hO⟩ := hrel
          have hle := R.le
          have hs64 := R.sz
          have hat := R.at
          have d1 := R.c1
          have hz4 : z0 < 10000 := Nat.lt_of_lt_of_le hz0 (Nat.le_trans (Nat.pow_le_pow_right (by decide) hj) (by decide))
          by_cases hj4 : j < 4
          · have hjI : (a : Int) + (j : Int) < (a : Int) + 4 := by omega
            obtain ⟨f, hf⟩ : ∃ f, 4 - j = f + 1 := ⟨3 - j, by omega⟩
            rw [hf] at hN hV
            by_cases hd : dgb s (a + j) = true
            · obtain ⟨hlt, hb9⟩ := dgb_lt hd
              rw [dN_yes hd] at hN
              rw [dV_yes hd] at hV
              obtain ⟨m, hm⟩ : ∃ m, m = qbyt s (a + j) - 48 := ⟨_, rfl⟩
              rw [← hm] at hV hb9
              have HM : Hid (m = qbyt s (a + j) - 48) := hm
              have HN : Hid (dN s f (a + j + 1) + 1 + j = dN s 4 a) := hN
              have HV : Hid (dV s f (a + j + 1) (z0 * 10 + m) = dV s 4 a 0) := hV
              have HZ : Hid (z0 < 10 ^ j) := hz0
              have HO : Hid (Only (fun k => k = p) w wr) := hO
              clear hm hN hV hO hz0
              go_wp2_with (go_at_call 100; (with_reducible refine (digit_yes R hd).mono ?_); rintro e5 w5 ⟨rfl, j1, j2⟩; rw [← HM.out])
              go_roundw
              case rel =>
                refine ⟨j + 1, z0 * 10 + m, congrArg (Value.int .i64) (by omega), by omega, ?_, j1, ?_, ?_, HO.out.trans j2⟩
                · have := HZ.out; rw [Nat.pow_succ]; omega
                · rw [show 4 - (j + 1) = f by omega]; have := HN.out; show dN s f (a + j + 1) + (j + 1) = _; omega
                · rw [show 4 - (j + 1) = f by omega]; exact HV.out
              case measure => rw [hat, j1.at]; omega
            · have hd0 : dgb s (a + j) = false := by simpa using hd
              rw [dN_no hd0] at hN
              rw [dV_no hd0] at hV
              have HN : Hid (dN s 4 a = j) := by show _ = _; omega
              have HV : Hid (dV s 4 a 0 = z0) := hV.symm
              have HO : Hid (Only (fun k => k = p) w wr) := hO
              clear hN hV hO hz0 hj4
              go_wp2_with (go_at_call 100; (with_reducible refine (digit_no R hd0).mono ?_); rintro e5 w5 ⟨rfl, j1, j2⟩; have g1 := j1.c1)
              go_quiet (fail)
              go_wp2
              go_ret2
              rw [HN.out, HV.out]
              exact ⟨exp_fin (by first | rfl | omega | (simp; omega) | simp) (decide_eq_decide.2 (by omega)), j1.drewN _, (HO.out.trans j2).drewN _⟩
          · have e4 : j = 4 := by omega
            subst e4
            have hjI : ¬ (a : Int) + ((4 : Nat) : Int) < (a : Int) + 4 := by omega
            have HN : Hid (dN s 4 a = 4) := by show _ = _; have : dN s (4 - 4) (a + 4) = 0 := rfl; omega
            have HV : Hid (dV s 4 a 0 = z0) := by show _ = _; rw [← hV]; rfl
            have HO : Hid (Only (fun k => k = p) w wr) := hO
            clear hN hV hO hz0
            go_wp2_with fail
            go_quiet (fail)
            go_wp2
            go_ret2
            rw [HN.out, HV.out]
            exact ⟨exp_fin (by first | rfl | omega | (simp; omega) | simp) (decide_eq_decide.2 (by omega)), R.drewN _, HO.out.drewN _⟩
      · have hB : Hid (tkb s (i + 1) 45 = true) := HG.out
        have HA : Hid (i + 2 = a) := by
          show _ = _
          have := HA.out
          unfold x3 at this
          rw [HG.out] at this
          exact this
        clear ha hneg
        go_enter Tryz.func83, Tryz.ntmps83
        go_wp2_with (first
          | (go_at_call 71; (with_reducible refine (take_any 101 h (by omega)).mono ?_); rintro e1 w1 ⟨rfl, k1, k2⟩; rw [h1.out]; rw [tk_no h1.out] at k1)
          | (go_at_call 71; (with_reducible refine (take_any 69 k1 (by omega)).mono ?_); rintro e2 w2 ⟨rfl, k3, k4⟩; rw [h2.out]; rw [tk_yes h2.out] at k3)
          | (go_at_call 71; (with_reducible refine (take_any 45 k3 (by omega)).mono ?_); rintro e3 w3 ⟨rfl, q1, q2⟩; rw [hB.out]; rw [tk_yes hB.out] at q1))
        have R0 : Rdr _ p s a := HA.out ▸ q1
        have O0 := (k2.trans k4).trans q2
        have d1 := R0.c1
        go_quiet (fail)
        go_wp2_with fail
        go_loopw [5] (fun pv wr => ∃ j z0 : Nat, pv = .int .i64 z0 ∧ j ≤ 4 ∧ z0 < 10 ^ j ∧ Rdr wr p s (a + j) ∧ dN s (4 - j) (a + j) + j = dN s 4 a ∧ dV s (4 - j) (a + j) z0 = dV s 4 a 0 ∧ Only (fun k => k = p) w wr) (fun _ wr => 100 - atOf wr p)
        case atStart => exact ⟨0, 0, rfl, by omega, by decide, R0.drewN _, rfl, rfl, O0.drewN _⟩
        case round =>
          clear d1 R0 O0
          obtain ⟨j, z0, rfl, hj, hz0, R, hN, hV, hO⟩ := hrel
          have hle := R.le
          have hs64 := R.sz
          have hat := R.at
          have d1 := R.c1
          have hz4 : z0 < 10000 := Nat.lt_of_lt_of_le hz0 (Nat.le_trans (Nat.pow_le_pow_right (by decide) hj) (by decide))
          by_cases hj4 : j < 4
          · have hjI : (a : Int) + (j : Int) < (a : Int) + 4 := by omega
            obtain ⟨f, hf⟩ : ∃ f, 4 - j = f + 1 := ⟨3 - j, by omega⟩
            rw [hf] at hN hV
            by_cases hd : dgb s (a + j) = true
            · obtain ⟨hlt, hb9⟩ := dgb_lt hd
              rw [dN_yes hd] at hN
              rw [dV_yes hd] at hV
              obtain ⟨m, hm⟩ : ∃ m, m = qbyt s (a + j) - 48 := ⟨_, rfl⟩
              rw [← hm] at hV hb9
              have HM : Hid (m = qbyt s (a + j) - 48) := hm
              have HN : Hid (dN s f (a + j + 1) + 1 + j = dN s 4 a) := hN
              have HV : Hid (dV s f (a + j + 1) (z0 * 10 + m) = dV s 4 a 0) := hV
              have HZ : Hid (z0 < 10 ^ j) := hz0
              have HO : Hid (Only (fun k => k = p) w wr) := hO
              clear hm hN hV hO hz0
              go_wp2_with (go_at_call 100; (with_reducible refine (digit_yes R hd).mono ?_); rintro e5 w5 ⟨rfl, j1, j2⟩; rw [← HM.out])
              go_roundw
              case rel =>
                refine ⟨j + 1, z0 * 10 + m, congrArg (Value.int .i64) (by omega), by omega, ?_, j1, ?_, ?_, HO.out.trans j2⟩
                · have := HZ.out; rw [Nat.pow_succ]; omega
                · rw [show 4 - (j + 1) = f by omega]; have := HN.out; show dN s f (a + j + 1) + (j + 1) = _; omega
                · rw [show 4 - (j + 1) = f by omega]; exact HV.out
              case measure => rw [hat, j1.at]; omega
            · have hd0 : dgb s (a + j) = false := by simpa using hd
              rw [dN_no hd0] at hN
              rw [dV_no hd0] at hV
              have HN : Hid (dN s 4 a = j) := by show _ = _; omega
              have HV : Hid (dV s 4 a 0 = z0) := hV.symm
              have HO : Hid (Only (fun k => k = p) w wr) := hO
              clear hN hV hO hz0 hj4
              go_wp2_with (go_at_call 100; (with_reducible refine (digit_no R hd0).mono ?_); rintro e5 w5 ⟨rfl, j1, j2⟩; have g1 := j1.c1)
              go_quiet (fail)
              go_wp2
              go_ret2
              rw [HN.out, HV.out]
              exact ⟨exp_fin (by first | rfl | omega | (simp; omega) | simp) (decide_eq_decide.2 (by omega)), j1.drewN _, (HO.out.trans j2).drewN _⟩
          · have e4 : j = 4 := by omega
            subst e4
            have hjI : ¬ (a : Int) + ((4 : Nat) : Int) < (a : Int) + 4 := by omega
            have HN : Hid (dN s 4 a = 4) := by show _ = _; have : dN s (4 - 4) (a + 4) = 0 := rfl; omega
            have HV : Hid (dV s 4 a 0 = z0) := by show _ = _; rw [← hV]; rfl
            have HO : Hid (Only (fun k => k = p) w wr) := hO
            clear hN hV hO hz0
            go_wp2_with fail
            go_quiet (fail)
            go_wp2
            go_ret2
            rw [HN.out, HV.out]
            exact ⟨exp_fin (by first | rfl | omega | (simp; omega) | simp) (decide_eq_decide.2 (by omega)), R.drewN _, HO.out.drewN _⟩
  · have hs0 : xS s i = false := by simpa using hs
    have e1 : xP s i = 0 := if_neg hs
    have e2 : xO s i = true := if_neg hs
    have e3 : xA s i = i := if_neg hs
    rw [e1, e2, e3]
    unfold xS at hs0
    have h1 : Hid (tkb s i 101 = false) := (Bool.or_eq_false_iff.1 hs0).1
    have h2 : Hid (tkb s i 69 = false) := (Bool.or_eq_false_iff.1 hs0).2
    clear e1 e2 e3 hs hs0
    go_enter Tryz.func83, Tryz.ntmps83
    go_wp2_with (first
      | (go_at_call 71; (with_reducible refine (take_any 101 h (by omega)).mono ?_); rintro e1 w1 ⟨rfl, k1, k2⟩; rw [h1.out]; rw [tk_no h1.out] at k1)
      | (go_at_call 71; (with_reducible refine (take_any 69 k1 (by omega)).mono ?_); rintro e2 w2 ⟨rfl, q1, q2⟩; rw [h2.out]; rw [tk_no h2.out] at q1))
    go_ret2
    exact ⟨rfl, q1, k2.trans q2⟩

end Go.Proofs.YtjoncbfaajcioaaGreatDoor

namespace Go.Proofs.YtjoncbfaajcioaaGreatDoor
open RowKit

def pfV (c : Nat) : Int := if c = 102 then (-15) else if c = 112 then (-12) else if c = 110 then (-9) else if c = 117 then (-6) else if c = 109 then (-3) else if c = 107 then 3 else if c = 77 then 6 else if c = 71 then 9 else if c = 84 then 12 else 0
def pfB (c : Nat) : Bool := c == 102 || c == 112 || c == 110 || c == 117 || c == 109 || c == 107 || c == 77 || c == 71 || c == 84
theorem pf_bound (c : Nat) : -15 ≤ pfV c ∧ pfV c ≤ 12 := by
  unfold pfV
  repeat' split
  all_goals omega
set_option maxRecDepth 10000 in
set_option maxHeartbeats 1000000 in
theorem Prefix_any (c : Nat) (w : World) : Calls Tryz.prog 102 #[.int .u8 c] w fun e w' => e = .returned (.tuple #[.int .i64 (pfV c), .bool (pfB c)]) ∧ w' = w := by
  by_cases h0 : c = 102
  · subst h0
    go_enter Tryz.func102, Tryz.ntmps102
    go_wp2
    go_ret2
    exact ⟨rfl, rfl⟩
  by_cases h1 : c = 112
  · subst h1
    go_enter Tryz.func102, Tryz.ntmps102
    go_wp2
    go_ret2
    exact ⟨rfl, rfl⟩
  by_cases h2 : c = 110
  · subst h2
    go_enter Tryz.func102, Tryz.ntmps102
    go_wp2
    go_ret2
    exact ⟨rfl, rfl⟩
  by_cases h3 : c = 117
  · subst h3
    go_enter Tryz.func102, Tryz.ntmps102
    go_wp2
    go_ret2
    exact ⟨rfl, rfl⟩
  by_cases h4 : c = 109
  · subst h4
    go_enter Tryz.func102, Tryz.ntmps102
    go_wp2
    go_ret2
    exact ⟨rfl, rfl⟩
  by_cases h5 : c = 107
  · subst h5
    go_enter Tryz.func102, Tryz.ntmps102
    go_wp2
    go_ret2
    exact ⟨rfl, rfl⟩
  by_cases h6 : c = 77
  · subst h6
    go_enter Tryz.func102, Tryz.ntmps102
    go_wp2
    go_ret2
    exact ⟨rfl, rfl⟩
  by_cases h7 : c = 71
  · subst h7
    go_enter Tryz.func102, Tryz.ntmps102
    go_wp2
    go_ret2
    exact ⟨rfl, rfl⟩
  by_cases h8 : c = 84
  · subst h8
    go_enter Tryz.func102, Tryz.ntmps102
    go_wp2
    go_ret2
    exact ⟨rfl, rfl⟩
  have g0 : ((c : Int) == 102) = false := by simp; omega
  have g1 : ((c : Int) == 112) = false := by simp; omega
  have g2 : ((c : Int) == 110) = false := by simp; omega
  have g3 : ((c : Int) == 117) = false := by simp; omega
  have g4 : ((c : Int) == 109) = false := by simp; omega
  have g5 : ((c : Int) == 107) = false := by simp; omega
  have g6 : ((c : Int) == 77) = false := by simp; omega
  have g7 : ((c : Int) == 71) = false := by simp; omega
  have g8 : ((c : Int) == 84) = false := by simp; omega
  have e1 : pfV c = 0 := by unfold pfV; rw [if_neg h0, if_neg h1, if_neg h2, if_neg h3, if_neg h4, if_neg h5, if_neg h6, if_neg h7, if_neg h8]
  have e2 : pfB c = false := by simp [pfB, h0, h1, h2, h3, h4, h5, h6, h7, h8]
  rw [e1, e2]
  clear e1 e2
  go_enter Tryz.func102, Tryz.ntmps102
  go_wp2
  go_ret2
  exact ⟨rfl, rfl⟩
/-- what prefix reads -/
def pxB (s : ByteArray) (i : Nat) : Bool := decide (i < s.size) && pfB (qbyt s i)
def pxV (s : ByteArray) (i : Nat) : Int := if i < s.size then pfV (qbyt s i) else 0
def pxA (s : ByteArray) (i : Nat) : Nat := if pxB s i = true then i + 1 else i
set_option maxRecDepth 10000 in
set_option maxHeartbeats 1000000 in
theorem prefix_any {w : World} {p i : Nat} {s : ByteArray} (h : Rdr w p s i) :
    Calls Tryz.prog 84 #[.pointer (some ⟨p, 0, none⟩)] w fun e w' => e = .returned (.int .i64 (pxV s i)) ∧ Rdr w' p s (pxA s i) ∧ Only (fun k => k = p) w w' := by
  have c0 := h.c0
  have c1 := h.c1
  have fz := h.fz
  have hl := h.le
  have hs := h.sz
  by_cases hi : i < s.size
  · have hne : ((i : Int) == (s.size : Int)) = false := by simp; omega
    have hg := qbyt_get hi
    have e1 : pxV s i = pfV (qbyt s i) := if_pos hi
    rw [e1]
    have HP : Hid (pxB s i = pfB (qbyt s i)) := by show _ = _; unfold pxB; rw [decide_eq_true hi, Bool.true_and]
    obtain ⟨b, hb⟩ : ∃ b, b = qbyt s i := ⟨_, rfl⟩
    rw [← hb] at hg HP ⊢
    clear e1 hb
    obtain ⟨pv, hpv⟩ : ∃ pv, pfV b = pv := ⟨_, rfl⟩
    have HV : Hid (pfV b = pv) := hpv
    rw [hpv]
    clear hpv
    cases hpb : pfB b
    · have HB : Hid (pfB b = false) := hpb
      have e2 : pxA s i = i := if_neg (by rw [HP.out, hpb]; decide)
      rw [e2]
      clear hpb e2
      go_enter Tryz.func84, Tryz.ntmps84
      go_wp2_with fail
      go_quiet (fail)
      go_wp2_with fail
      go_region_with (go_at_call 102; (with_reducible refine (Prefix_any b _).mono ?_); rintro e1 w1 ⟨rfl, rfl⟩; rw [HV.out, HB.out])
      all_goals
        go_wp2
        go_ret
        exact ⟨rfl, h.drewN (nq + 1), (Only.refl _ w).drewN (nq + 1)⟩
    · have HB : Hid (pfB b = true) := hpb
      have e2 : pxA s i = i + 1 := if_pos (by rw [HP.out, hpb])
      rw [e2]
      clear hpb e2
      go_enter Tryz.func84, Tryz.ntmps84
      go_wp2_with fail
      go_quiet (fail)
      go_wp2_with fail
      go_region_with (go_at_call 102; (with_reducible refine (Prefix_any b _).mono ?_); rintro e1 w1 ⟨rfl, rfl⟩; rw [HV.out, HB.out])
      all_goals
        go_wp2
        go_ret
        obtain ⟨R, O⟩ := h.step hi (nq + 1)
        exact ⟨rfl, R, O⟩
  · have e1 : pxV s i = 0 := if_neg hi
    have e2 : pxA s i = i := if_neg (by unfold pxB; rw [decide_eq_false hi, Bool.false_and]; decide)
    have e : i = s.size := by omega
    rw [e1, e2]
    clear e1 e2
    subst e
    go_enter Tryz.func84, Tryz.ntmps84
    go_wp2_with fail
    go_quiet (fail)
    go_wp2
    go_ret
    exact ⟨rfl, h.drewN nq, (Only.refl _ w).drewN nq⟩

end Go.Proofs.YtjoncbfaajcioaaGreatDoor

namespace Go.Proofs.YtjoncbfaajcioaaGreatDoor
open RowKit

def cT (s : ByteArray) (i : Nat) : Bool := tkb s (i + dN s 65 i) 46
def cI2 (s : ByteArray) (i : Nat) : Nat := tk s (i + dN s 65 i) 46
def cB (s : ByteArray) (i : Nat) : Nat := if cT s i = true then dN s 65 (cI2 s i) else 0
def cZ (s : ByteArray) (i : Nat) : Nat := if cT s i = true then dV s 65 (cI2 s i) (dV s 65 i 0) else dV s 65 i 0
def cI3 (s : ByteArray) (i : Nat) : Nat := cI2 s i + cB s i
def cSome (s : ByteArray) (i : Nat) : Bool := decide (dN s 65 i + cB s i ≠ 0)
def cOk (s : ByteArray) (i : Nat) : Bool := cSome s i && xO s (cI3 s i)
def cEnd (s : ByteArray) (i : Nat) : Nat := if cSome s i = true then (if xO s (cI3 s i) = true then pxA s (xA s (cI3 s i)) else xA s (cI3 s i)) else cI3 s i
def cP (s : ByteArray) (i : Nat) : Int := xP s (cI3 s i) + pxV s (xA s (cI3 s i)) - (cB s i : Int)
theorem xP_bound (s : ByteArray) (i : Nat) : -10000 < xP s i ∧ xP s i < 10000 := by
  have h := dV_bound (s := s) 4 (x3 s i) 0
  rw [show (0 + 1) * 10 ^ 4 = 10000 by decide] at h
  unfold xP
  repeat' split
  all_goals omega
theorem px_bound (s : ByteArray) (i : Nat) : -15 ≤ pxV s i ∧ pxV s i ≤ 12 := by
  have := pf_bound (qbyt s i)
  unfold pxV
  split <;> omega
theorem dec_fin {v v' : Value} {P Q : Int} {b c : Bool} (h0 : v = v') (h1 : P = Q) (h2 : b = c) : Ending.returned (Value.tuple #[v, .int .i64 P, .bool b]) = .returned (.tuple #[v', .int .i64 Q, .bool c]) := by rw [h0, h1, h2]
theorem nob_nil {p : Nat} : ¬ Ob (.slice none 0 0) p := fun hk => by simp [Ob, Value.ownBlock] at hk
theorem only_nil {w w' : World} {p : Nat} (h : Only (fun k => Ob (.slice none 0 0) k ∨ k = p) w w') : Only (fun k => k = p) w w' := h.mono (fun _ _ hi => hi.elim (fun q => absurd q nob_nil) id)
theorem fresh_nil {v : Value} {n : Nat} (h : ∀ k, Ob v k → Ob (.slice none 0 0) k ∨ n ≤ k) : ∀ k, Ob v k → n ≤ k := fun k hk => (h k hk).elim (fun q => absurd q nob_nil) id
set_option maxRecDepth 10000 in
set_option maxHeartbeats 2000000 in
theorem dec_any {w : World} {p i : Nat} {s : ByteArray} (h : Rdr w p s i) :
    Calls Tryz.prog 72 #[.pointer (some ⟨p, 0, none⟩)] w fun e w' => ∃ (v' : Value) (P : Int), e = .returned (.tuple #[v', .int .i64 P, .bool (cOk s i)]) ∧ (cOk s i = true → Wh w' w.heap.size v' (cZ s i) 200 ∧ P = cP s i) ∧ Rdr w' p s (cEnd s i) ∧ Only (fun k => k = p) w w' := by
  obtain ⟨n1, hn1⟩ : ∃ n, dN s 65 i = n := ⟨_, rfl⟩
  have HN1 : Hid (dN s 65 i = n1) := hn1
  have hplt := h.plt
  have hnil : Wh w w.heap.size (.slice none 0 0) 0 0 := Wh.nil _ _ _
  have hn65 : n1 ≤ 65 := by rw [← hn1]; exact dN_le _ _
  cases ht : cT s i
  · have HT : Hid (tkb s (i + dN s 65 i) 46 = false) := ht
    have HCB : Hid (cB s i = 0) := if_neg (by rw [ht]; decide)
    have EZ : Hid (cZ s i = dV s 65 i 0) := if_neg (by rw [ht]; decide)
    have E3 : Hid (cI3 s i = tk s (i + dN s 65 i) 46) := by show cI2 s i + cB s i = _; rw [HCB.out]; rfl
    clear ht hn1
    by_cases hz : n1 = 0
    · have ec : cSome s i = false := decide_eq_false (by rw [HN1.out, HCB.out]; omega)
      have eo : cOk s i = false := by unfold cOk; rw [ec]; rfl
      have ee : cEnd s i = cI3 s i := if_neg (by rw [ec]; decide)
      rw [eo, ee]
      clear eo ee ec
      have z1 : n1 = 0 := by omega
      subst z1
      go_enter Tryz.func72, Tryz.ntmps72
      go_wp2_with (first
        | (go_at_call 82; (with_reducible refine (digits_any h hnil nob_nil (by omega) (Nat.le_refl _)).mono ?_); rintro e1 w1 ⟨v1, rfl, k1, k2, k3, k4⟩; rw [HN1.out]; have O1 := only_nil k3; have F1 := fresh_nil k4; clear k3 k4)
        | (go_at_call 71; (with_reducible refine (take_any 46 k2 (by omega)).mono ?_); rintro e2 w2 ⟨rfl, q1, q2⟩; rw [HT.out]; have W2 := k1.only q2 (fun k hk hk2 => by have := F1 k hk; omega); have s2 := O1.size; have s3 := q2.size; have Q1 := q1; rw [← E3.out] at Q1))
      go_ret3
      exact ⟨_, _, rfl, fun hk => absurd hk (by decide), Q1, (O1.trans q2)⟩
    · have hneI : ((n1 : Int) == 0) = false := by simp; omega
      have ec : cSome s i = true := decide_eq_true (by rw [HN1.out, HCB.out]; omega)
      obtain ⟨xp, hxp⟩ : ∃ xp, xP s (cI3 s i) = xp := ⟨_, rfl⟩
      have HXP : Hid (xP s (cI3 s i) = xp) := hxp
      have bx := xP_bound s (cI3 s i)
      rw [hxp] at bx
      obtain ⟨bx1, bx2⟩ := bx
      clear hxp
      cases hx : xO s (cI3 s i)
      · have HX : Hid (xO s (cI3 s i) = false) := hx
        have eo : cOk s i = false := by unfold cOk; rw [ec, hx]; rfl
        have ee : cEnd s i = xA s (cI3 s i) := by unfold cEnd; rw [if_pos ec, if_neg (by rw [hx]; decide)]
        rw [eo, ee]
        clear eo ee ec hx
        go_enter Tryz.func72, Tryz.ntmps72
        go_wp2_with (first
          | (go_at_call 82; (with_reducible refine (digits_any h hnil nob_nil (by omega) (Nat.le_refl _)).mono ?_); rintro e1 w1 ⟨v1, rfl, k1, k2, k3, k4⟩; rw [HN1.out]; have O1 := only_nil k3; have F1 := fresh_nil k4; clear k3 k4)
          | (go_at_call 71; (with_reducible refine (take_any 46 k2 (by omega)).mono ?_); rintro e2 w2 ⟨rfl, q1, q2⟩; rw [HT.out]; have W2 := k1.only q2 (fun k hk hk2 => by have := F1 k hk; omega); have s2 := O1.size; have s3 := q2.size; have Q1 := q1; rw [← E3.out] at Q1)
          | (go_at_call 83; (with_reducible refine (exp_any Q1).mono ?_); rintro e4 w4 ⟨rfl, x1, x2⟩; rw [HXP.out, HX.out]))
        go_ret3
        exact ⟨_, _, rfl, fun hk => absurd hk (by decide), x1, (O1.trans q2).trans x2⟩
      · have HX : Hid (xO s (cI3 s i) = true) := hx
        have eo : cOk s i = true := by unfold cOk; rw [ec, hx]; rfl
        have ee : cEnd s i = pxA s (xA s (cI3 s i)) := by unfold cEnd; rw [if_pos ec, if_pos hx]
        rw [eo, ee]
        clear eo ee ec hx
        obtain ⟨pv, hpv⟩ : ∃ pv, pxV s (xA s (cI3 s i)) = pv := ⟨_, rfl⟩
        have HPV : Hid (pxV s (xA s (cI3 s i)) = pv) := hpv
        have bp := px_bound s (xA s (cI3 s i))
        rw [hpv] at bp
        obtain ⟨bp1, bp2⟩ := bp
        clear hpv
        go_enter Tryz.func72, Tryz.ntmps72
        go_wp2_with (first
          | (go_at_call 82; (with_reducible refine (digits_any h hnil nob_nil (by omega) (Nat.le_refl _)).mono ?_); rintro e1 w1 ⟨v1, rfl, k1, k2, k3, k4⟩; rw [HN1.out]; have O1 := only_nil k3; have F1 := fresh_nil k4; clear k3 k4)
          | (go_at_call 71; (with_reducible refine (take_any 46 k2 (by omega)).mono ?_); rintro e2 w2 ⟨rfl, q1, q2⟩; rw [HT.out]; have W2 := k1.only q2 (fun k hk hk2 => by have := F1 k hk; omega); have s2 := O1.size; have s3 := q2.size; have Q1 := q1; rw [← E3.out] at Q1)
          | (go_at_call 83; (with_reducible refine (exp_any Q1).mono ?_); rintro e4 w4 ⟨rfl, x1, x2⟩; rw [HXP.out, HX.out])
          | (go_at_call 84; (with_reducible refine (prefix_any x1).mono ?_); rintro e5 w5 ⟨rfl, y1, y2⟩; rw [HPV.out]))
        go_ret3
        refine ⟨_, _, dec_fin rfl rfl rfl, fun _ => ⟨?_, ?_⟩, y1, ((O1.trans q2).trans x2).trans y2⟩
        · rw [EZ.out]
          refine ((W2.only x2 (fun k hk hk2 => ?_)).only y2 (fun k hk hk2 => ?_)).mono (by omega)
          all_goals
            have := F1 k hk
            omega
        · unfold cP
          rw [HXP.out, HPV.out, HCB.out]
          try (first | rfl | omega | (unfold wrap64; omega))
  · have HT : Hid (tkb s (i + dN s 65 i) 46 = true) := ht
    obtain ⟨n2, hn2⟩ : ∃ n, dN s 65 (tk s (i + dN s 65 i) 46) = n := ⟨_, rfl⟩
    have HN2 : Hid (dN s 65 (tk s (i + dN s 65 i) 46) = n2) := hn2
    have hn2b : n2 ≤ 65 := by rw [← hn2]; exact dN_le _ _
    have HCB : Hid (cB s i = n2) := by show _ = _; rw [← hn2]; exact if_pos ht
    have EZ : Hid (cZ s i = dV s 65 (tk s (i + dN s 65 i) 46) (dV s 65 i 0)) := if_pos ht
    have E3 : Hid (cI3 s i = tk s (i + dN s 65 i) 46 + dN s 65 (tk s (i + dN s 65 i) 46)) := by show cI2 s i + cB s i = _; rw [HCB.out, ← hn2]; rfl
    clear ht hn1 hn2
    by_cases hz : n1 + n2 = 0
    · have ec : cSome s i = false := decide_eq_false (by rw [HN1.out, HCB.out]; omega)
      have eo : cOk s i = false := by unfold cOk; rw [ec]; rfl
      have ee : cEnd s i = cI3 s i := if_neg (by rw [ec]; decide)
      rw [eo, ee]
      clear eo ee ec
      have z1 : n1 = 0 := by omega
      have z2 : n2 = 0 := by omega
      subst z2
      subst z1
      go_enter Tryz.func72, Tryz.ntmps72
      go_wp2_with (first
        | (go_at_call 82; (with_reducible refine (digits_any h hnil nob_nil (by omega) (Nat.le_refl _)).mono ?_); rintro e1 w1 ⟨v1, rfl, k1, k2, k3, k4⟩; rw [HN1.out]; have O1 := only_nil k3; have F1 := fresh_nil k4; clear k3 k4)
        | (go_at_call 71; (with_reducible refine (take_any 46 k2 (by omega)).mono ?_); rintro e2 w2 ⟨rfl, q1, q2⟩; rw [HT.out]; have W2 := k1.only q2 (fun k hk hk2 => by have := F1 k hk; omega); have s2 := O1.size; have s3 := q2.size)
        | (go_at_call 82; (with_reducible refine (digits_any q1 W2 (fun hk => by have := F1 p hk; omega) (by omega) (by omega)).mono ?_); rintro e3 w3 ⟨v3, rfl, j1, j2, j3, j4⟩; rw [HN2.out]; have O3 : Only (fun k => k = p) w w3 := (O1.trans q2).next j3 (fun i hi => by rcases hi with hi | hi; exact .inr (F1 i hi); exact .inl hi); have F3 : ∀ k, Ob v3 k → w.heap.size ≤ k := (fun k hk => by rcases j4 k hk with hi | hi; exact F1 k hi; omega); rw [← E3.out] at j2))
      go_ret3
      exact ⟨_, _, rfl, fun hk => absurd hk (by decide), j2, O3⟩
    · have hneI : (((n1 : Int) + (n2 : Int)) == 0) = false := by simp; omega
      have ec : cSome s i = true := decide_eq_true (by rw [HN1.out, HCB.out]; omega)
      obtain ⟨xp, hxp⟩ : ∃ xp, xP s (cI3 s i) = xp := ⟨_, rfl⟩
      have HXP : Hid (xP s (cI3 s i) = xp) := hxp
      have bx := xP_bound s (cI3 s i)
      rw [hxp] at bx
      obtain ⟨bx1, bx2⟩ := bx
      clear hxp
      cases hx : xO s (cI3 s i)
      · have HX : Hid (xO s (cI3 s i) = false) := hx
        have eo : cOk s i = false := by unfold cOk; rw [ec, hx]; rfl
        have ee : cEnd s i = xA s (cI3 s i) := by unfold cEnd; rw [if_pos ec, if_neg (by rw [hx]; decide)]
        rw [eo, ee]
        clear eo ee ec hx
        go_enter Tryz.func72, Tryz.ntmps72
        go_wp2_with (first
          | (go_at_call 82; (with_reducible refine (digits_any h hnil nob_nil (by omega) (Nat.le_refl _)).mono ?_); rintro e1 w1 ⟨v1, rfl, k1, k2, k3, k4⟩; rw [HN1.out]; have O1 := only_nil k3; have F1 := fresh_nil k4; clear k3 k4)
          | (go_at_call 71; (with_reducible refine (take_any 46 k2 (by omega)).mono ?_); rintro e2 w2 ⟨rfl, q1, q2⟩; rw [HT.out]; have W2 := k1.only q2 (fun k hk hk2 => by have := F1 k hk; omega); have s2 := O1.size; have s3 := q2.size)
          | (go_at_call 82; (with_reducible refine (digits_any q1 W2 (fun hk => by have := F1 p hk; omega) (by omega) (by omega)).mono ?_); rintro e3 w3 ⟨v3, rfl, j1, j2, j3, j4⟩; rw [HN2.out]; have O3 : Only (fun k => k = p) w w3 := (O1.trans q2).next j3 (fun i hi => by rcases hi with hi | hi; exact .inr (F1 i hi); exact .inl hi); have F3 : ∀ k, Ob v3 k → w.heap.size ≤ k := (fun k hk => by rcases j4 k hk with hi | hi; exact F1 k hi; omega); rw [← E3.out] at j2)
          | (go_at_call 83; (with_reducible refine (exp_any j2).mono ?_); rintro e4 w4 ⟨rfl, x1, x2⟩; rw [HXP.out, HX.out]))
        go_ret3
        exact ⟨_, _, rfl, fun hk => absurd hk (by decide), x1, O3.trans x2⟩
      · have HX : Hid (xO s (cI3 s i) = true) := hx
        have eo : cOk s i = true := by unfold cOk; rw [ec, hx]; rfl
        have ee : cEnd s i = pxA s (xA s (cI3 s i)) := by unfold cEnd; rw [if_pos ec, if_pos hx]
        rw [eo, ee]
        clear eo ee ec hx
        obtain ⟨pv, hpv⟩ : ∃ pv, pxV s (xA s (cI3 s i)) = pv := ⟨_, rfl⟩
        have HPV : Hid (pxV s (xA s (cI3 s i)) = pv) := hpv
        have bp := px_bound s (xA s (cI3 s i))
        rw [hpv] at bp
        obtain ⟨bp1, bp2⟩ := bp
        clear hpv
        go_enter Tryz.func72, Tryz.ntmps72
        go_wp2_with (first
          | (go_at_call 82; (with_reducible refine (digits_any h hnil nob_nil (by omega) (Nat.le_refl _)).mono ?_); rintro e1 w1 ⟨v1, rfl, k1, k2, k3, k4⟩; rw [HN1.out]; have O1 := only_nil k3; have F1 := fresh_nil k4; clear k3 k4)
          | (go_at_call 71; (with_reducible refine (take_any 46 k2 (by omega)).mono ?_); rintro e2 w2 ⟨rfl, q1, q2⟩; rw [HT.out]; have W2 := k1.only q2 (fun k hk hk2 => by have := F1 k hk; omega); have s2 := O1.size; have s3 := q2.size)
          | (go_at_call 82; (with_reducible refine (digits_any q1 W2 (fun hk => by have := F1 p hk; omega) (by omega) (by omega)).mono ?_); rintro e3 w3 ⟨v3, rfl, j1, j2, j3, j4⟩; rw [HN2.out]; have O3 : Only (fun k => k = p) w w3 := (O1.trans q2).next j3 (fun i hi => by rcases hi with hi | hi; exact .inr (F1 i hi); exact .inl hi); have F3 : ∀ k, Ob v3 k → w.heap.size ≤ k := (fun k hk => by rcases j4 k hk with hi | hi; exact F1 k hi; omega); rw [← E3.out] at j2)
          | (go_at_call 83; (with_reducible refine (exp_any j2).mono ?_); rintro e4 w4 ⟨rfl, x1, x2⟩; rw [HXP.out, HX.out])
          | (go_at_call 84; (with_reducible refine (prefix_any x1).mono ?_); rintro e5 w5 ⟨rfl, y1, y2⟩; rw [HPV.out]))
        go_ret3
        refine ⟨_, _, dec_fin rfl rfl rfl, fun _ => ⟨?_, ?_⟩, y1, (O3.trans x2).trans y2⟩
        · rw [EZ.out]
          refine ((j1.only x2 (fun k hk hk2 => ?_)).only y2 (fun k hk hk2 => ?_)).mono (by omega)
          all_goals
            have := F3 k hk
            omega
        · unfold cP
          rw [HXP.out, HPV.out, HCB.out]
          try (first | rfl | omega | (unfold wrap64; omega))

end Go.Proofs.YtjoncbfaajcioaaGreatDoor

namespace Go.Proofs.YtjoncbfaajcioaaGreatDoor
open Fl

def K130 : Nat := 130
def K530 : Nat := 530
def K400 : Nat := 400
theorem ten_two (n : Nat) : 10 ^ n ≤ 2 ^ (4 * n) := by
  rw [Nat.pow_mul]; exact Nat.pow_le_pow_left (by decide) n
theorem cZ_lt (s : ByteArray) (i : Nat) : cZ s i < 10 ^ K130 := by
  have h1 := dV_bound (s := s) 65 i 0
  have h2 := dV_bound (s := s) 65 (cI2 s i) (dV s 65 i 0)
  have e : (10 : Nat) ^ K130 = 10 ^ 65 * 10 ^ 65 := by rw [← Nat.pow_add]; exact congrArg (fun k => (10 : Nat) ^ k) (show K130 = 65 + 65 from rfl)
  rw [e]
  rw [Nat.zero_add, Nat.one_mul] at h1
  have hp : 0 < (10 : Nat) ^ 65 := Nat.pow_pos (by decide)
  generalize (10 : Nat) ^ 65 = T at *
  have h3 : (dV s 65 i 0 + 1) * T ≤ T * T := Nat.mul_le_mul_right _ h1
  have h4 : T * 1 ≤ T * T := Nat.mul_le_mul_left _ hp
  unfold cZ
  split <;> omega
theorem pP_nbits {z : Nat} {c : Int} (hz : z < 10 ^ K130) (hc : c ≤ 400) : nbits (pP z c) ≤ 4 * K530 := by
  apply nbits_le
  refine Nat.lt_of_lt_of_le ?_ (ten_two K530)
  have h1 : 10 ^ c.toNat ≤ 10 ^ K400 := Nat.pow_le_pow_right (by decide) (show c.toNat ≤ 400 by omega)
  have e : (10 : Nat) ^ K530 = 10 ^ K130 * 10 ^ K400 := by rw [← Nat.pow_add]; exact congrArg (fun k => (10 : Nat) ^ k) (show K530 = K130 + K400 from rfl)
  unfold pP
  rw [e]
  have hp : 0 < (10 : Nat) ^ c.toNat := Nat.pow_pos (by decide)
  exact Nat.lt_of_lt_of_le (Nat.mul_lt_mul_of_pos_right hz hp) (Nat.mul_le_mul_left _ h1)
theorem nD_small {P Q : Nat} (h : nbits P ≤ 4 * K530) : nD P Q ≤ 3200 := by
  have e : 4 * K530 = 2120 := rfl
  unfold nD nU
  split <;> omega
theorem nR_small {P Q : Nat} (hP : 0 < P) (hQ : 0 < Q) : nR P Q ≤ 9007199254740992 := by
  obtain ⟨h, _⟩ := nD_props hP hQ
  unfold nR
  split <;> omega
/-- the float of z times ten to the power c, by its bits; from the infinity's on there is none -/
def flt (z : Nat) (c : Int) : Nat := if z = 0 then 0 else ldW (nD (pP z c) (pQ c)) (nR (pP z c) (pQ c))
theorem near_bits {z bw r o D : Nat} {c : Int} (hz : 0 < z) (hzb : z < 10 ^ K130) (hc : c ≤ 400) (h : Good (pP z c) (pQ c) r o D) (hb : bw = ((D * 4503599627370496) % 18446744073709551616 + fr53 r o) % 18446744073709551616) :
    bw < 18446744073709551616 ∧ (bw < 9218868437227405312 → flt z c = bw) ∧ (9218868437227405312 ≤ bw → flt z c = 9218868437227405312) := by
  have hP : 0 < pP z c := Nat.mul_pos hz (Nat.pow_pos (by decide))
  have hQ : 0 < pQ c := Nat.pow_pos (by decide)
  obtain ⟨e1, e2⟩ := good_near h hP hQ
  have b1 := nD_small (Q := pQ c) (pP_nbits hzb hc)
  have b2 := nR_small hP hQ
  have ef : flt z c = ldW (nD (pP z c) (pQ c)) (nR (pP z c) (pQ c)) := if_neg (by omega)
  rw [e1] at b1
  rw [e2] at b2
  rw [ef, e1, e2]
  unfold ldW
  generalize fr53 r o = y at *
  refine ⟨by omega, fun hlt => ?_, fun hge => ?_⟩
  · rw [if_pos (by omega)]; omega
  · rw [if_neg (by omega)]

end Go.Proofs.YtjoncbfaajcioaaGreatDoor

namespace Go.Proofs.YtjoncbfaajcioaaGreatDoor
open RowKit

/-- where the digits begin -/
def pI (s : ByteArray) : Nat := tk s 0 45
def pBad (s : ByteArray) : Bool := !cOk s (pI s) || decide (cEnd s (pI s) < s.size)
def pF (s : ByteArray) : Nat := flt (cZ s (pI s)) (clp (cP s (pI s)))
/-- the float's bits, the error, the place -/
def paW (s : ByteArray) : Nat := if 64 < s.size then 0 else if pBad s = true then 0 else if 9218868437227405312 ≤ pF s then 0 else if tkb s 0 45 = true then pF s + 9223372036854775808 else pF s
def paE (s : ByteArray) : Int := if 64 < s.size then 3 else if pBad s = true then 150 else if 9218868437227405312 ≤ pF s then 6 else 0
def paA (s : ByteArray) : Int := if 64 < s.size then -1 else if pBad s = true then (cEnd s (pI s) : Int) else if 9218868437227405312 ≤ pF s then -1 else 0
theorem qor_sign {b : Nat} (h : b < 9223372036854775808) : bits .or .u64 (b : Int) 9223372036854775808 = ((b + 9223372036854775808 : Nat) : Int) := by
  have e := bits_or_u64_nat b 9223372036854775808 (by omega) (by omega)
  have e2 : b ||| 9223372036854775808 = b + 9223372036854775808 := by
    have := Nat.two_pow_add_eq_or_of_lt (i := 63) (b := b) (by omega) 1
    rw [Nat.mul_one] at this
    rw [Nat.or_comm, Nat.add_comm]; exact this.symm
  rw [e2] at e
  exact e
/-- the fault's cells -/
structure Flc (w : World) (f : Nat) (a b : Value) : Prop where
  c0 : w.cell? ⟨f, 0, none⟩ = some a
  c1 : w.cell? ⟨f, 1, none⟩ = some b
  z0 : w.frozen? ⟨f, 0, none⟩ = false
  z1 : w.frozen? ⟨f, 1, none⟩ = false
theorem Flc.later {w w' : World} {f B : Nat} {a b : Value} (h : Flc w f a b) (hb : Below B w w') (hf : f < B) : Flc w' f a b :=
  ⟨(hb.cell (by exact hf)).trans h.c0, (hb.cell (by exact hf)).trans h.c1, (hb.frozen (by exact hf)).trans h.z0, (hb.frozen (by exact hf)).trans h.z1⟩
theorem Flc.only {w w' : World} {f p : Nat} {a b : Value} (h : Flc w f a b) (hb : Only (fun k => k = p) w w') (hf : f ≠ p) (hl : f < w.heap.size) : Flc w' f a b :=
  ⟨(World.cell?_of_block (hb.block f hl hf)).trans h.c0, (World.cell?_of_block (hb.block f hl hf)).trans h.c1, (World.frozen?_of_block (hb.block f hl hf)).trans h.z0, (World.frozen?_of_block (hb.block f hl hf)).trans h.z1⟩
theorem flc_new (w : World) (a b : Value) (c : Obj) : Flc ((w.alloc (.cells #[a, b] 25)).alloc c) w.heap.size a b := by
  refine ⟨?_, ?_, ?_, ?_⟩
  · rw [World.cell?_alloc_lt _ _ _ (by simp)]; exact World.cell?_alloc_new w _ _ 0
  · rw [World.cell?_alloc_lt _ _ _ (by simp)]; exact World.cell?_alloc_new w _ _ 1
  · simp
  · simp
theorem Flc.put {w : World} {f : Nat} {a b : Value} (h : Flc w f a b) (x y : Value) : ((w.setCell ⟨f, 0, none⟩ x).setCell ⟨f, 1, none⟩ y).cell? ⟨f, 0, none⟩ = some x ∧ ((w.setCell ⟨f, 0, none⟩ x).setCell ⟨f, 1, none⟩ y).cell? ⟨f, 1, none⟩ = some y := by
  refine ⟨?_, ?_⟩
  · rw [other_cell _ (by simp) _]; exact World.cell?_setCell_same _ _ _ h.c0
  · exact World.cell?_setCell_same _ _ _ (u := b) (by rw [other_cell _ (by simp) _]; exact h.c1)
theorem below_put {w w' : World} {f n : Nat} (h : Below n w w') (hf : n ≤ f) (x y : Value) : Below n w ((w'.setCell ⟨f, 0, none⟩ x).setCell ⟨f, 1, none⟩ y) :=
  (h.setCell (p := ⟨f, 0, none⟩) hf _).setCell (p := ⟨f, 1, none⟩) hf _
theorem Wh.by {w : World} {base z L k : Nat} {v : Value} (h : Wh w base v z L) (hz : z < 18446744073709551616 ^ k) : Wh w base v z k := by
  obtain ⟨ws, h1, h2, h3, h4, h5⟩ := h
  refine ⟨ws, h1, h2, h3, h4, ?_⟩
  rcases Nat.lt_or_ge k ws.length with hl | hl
  · exfalso
    have h6 := qn_ge h3 (by omega)
    have h7 : 18446744073709551616 ^ k ≤ 18446744073709551616 ^ (ws.length - 1) := Nat.pow_le_pow_right (by decide) (by omega)
    omega
  · exact hl
def K9 : Nat := 9
theorem cZ_nine (s : ByteArray) (i : Nat) : cZ s i < 18446744073709551616 ^ K9 := by
  refine Nat.lt_of_lt_of_le (cZ_lt s i) (Nat.le_trans (ten_two K130) ?_)
  rw [pow64]
  exact Nat.pow_le_pow_right (by decide) (show 4 * K130 ≤ 64 * K9 by decide)
set_option maxRecDepth 10000 in
set_option maxHeartbeats 2000000 in
theorem Parse_any (s : ByteArray) (w : World) :
    Calls Tryz.prog 61 #[.string s] w fun e w' => e = .returned (.tuple #[.float .f64 (paW s), .agg #[.int .i64 (paE s), .int .i64 (paA s)]]) ∧ Below w.heap.size w w' := by
  by_cases h64 : 64 < s.size
  · have e1 : paW s = 0 := if_pos h64
    have e2 : paE s = 3 := if_pos h64
    have e3 : paA s = -1 := if_pos h64
    have hI : (64 : Int) < s.size := by omega
    rw [e1, e2, e3]
    clear e1 e2 e3
    go_enter Tryz.func61, Tryz.ntmps61
    go_wp2
    refine bodyPost_ret (by simp [results, Tryz.results61, go_sem]; try rfl) rfl ?_
    exact ⟨rfl, (Below.refl _ w).alloc (Nat.le_refl _) _⟩
  · have hI : ¬ (64 : Int) < s.size := by omega
    obtain ⟨W0, hW0⟩ : ∃ W0, W0 = (w.alloc (.cells #[.int .i64 0, .int .i64 0] 25)).alloc (.cells #[.string s, .int .i64 0] 125) := ⟨_, rfl⟩
    have F0 : Flc W0 w.heap.size (.int .i64 0) (.int .i64 0) := by rw [hW0]; exact flc_new _ _ _ _
    have B0 : Below w.heap.size w W0 := by rw [hW0]; exact ((Below.refl w.heap.size w).alloc (Nat.le_refl _) _).alloc (by simp) _
    have S0 : W0.heap.size = w.heap.size + 1 + 1 := by rw [hW0]; simp
    have R0 : Rdr W0 (w.heap.size + 1) s 0 := by
      rw [hW0]
      refine ⟨?_, Nat.zero_le _, by omega⟩
      have := heap_alloc_new (w.alloc (.cells #[.int .i64 0, .int .i64 0] 25)) (.cells #[.string s, .int .i64 0] 125)
      simpa using this
    obtain ⟨neg, hneg⟩ : ∃ neg, tkb s 0 45 = neg := ⟨_, rfl⟩
    have HT : Hid (tkb s 0 45 = neg) := hneg
    by_cases hbad : pBad s = true
    · have e1 : paW s = 0 := by unfold paW; rw [if_neg h64, if_pos hbad]
      have e2 : paE s = 150 := by unfold paE; rw [if_neg h64, if_pos hbad]
      have e3 : paA s = (cEnd s (pI s) : Int) := by unfold paA; rw [if_neg h64, if_pos hbad]
      rw [e1, e2, e3]
      clear e1 e2 e3
      cases hO : cOk s (pI s)
      · have HO : Hid (cOk s (tk s 0 45) = false) := hO
        clear hO hbad hneg
        go_enter Tryz.func61, Tryz.ntmps61
        go_wp2_with fail
        rw [← hW0]
        clear hW0
        go_wp2_with (first
          | (go_at_call 71; (with_reducible refine (take_any 45 R0 (by omega)).mono ?_); rintro e1 w1 ⟨rfl, k1, k2⟩; rw [HT.out]; have F1 := F0.only k2 (by omega) (by omega); have s1 := k2.size)
          | (go_at_call 72; (with_reducible refine (dec_any k1).mono ?_); rintro e2 w2 ⟨v2, P2, rfl, hok2, R2, O2⟩; rw [HO.out]; have F2 := F1.only O2 (by omega) (by omega); have c1 := R2.c1; have f0 := F2.c0; have f1 := F2.c1; have g0 := F2.z0; have g1 := F2.z1))
        go_region
        all_goals
          have B2 : Below w.heap.size w w2 := (B0.trans (k2.below _ B0.size (fun i hi => by omega))).trans (O2.below _ (by omega) (fun i hi => by omega))
          obtain ⟨P0, P1⟩ := F2.put (.int .i64 150) (.int .i64 (cEnd s (tk s 0 45) : Int))
          have P0' : ((w2.setCell ⟨w.heap.size, 0, none⟩ (.int .i64 150)).setCell ⟨w.heap.size, 1, none⟩ (.int .i64 (cEnd s (tk s 0 45) : Int))).drew.cell? ⟨w.heap.size, 0, none⟩ = some (.int .i64 150) := P0
          have P1' : ((w2.setCell ⟨w.heap.size, 0, none⟩ (.int .i64 150)).setCell ⟨w.heap.size, 1, none⟩ (.int .i64 (cEnd s (tk s 0 45) : Int))).drew.cell? ⟨w.heap.size, 1, none⟩ = some (.int .i64 (cEnd s (tk s 0 45) : Int)) := P1
          go_wp2
          refine bodyPost_ret (by simp [results, Tryz.results61, go_sem, P0', P1']; try rfl) rfl ?_
          exact ⟨rfl, (below_put B2 (Nat.le_refl _) _ _).drew⟩
      · have HO : Hid (cOk s (tk s 0 45) = true) := hO
        have hE : ((cEnd s (tk s 0 45) : Nat) : Int) < s.size := by
          have h1 : cEnd s (pI s) < s.size := by
            unfold pBad at hbad
            rw [hO] at hbad
            simpa using hbad
          have h2 : cEnd s (tk s 0 45) < s.size := h1
          omega
        clear hO hbad hneg
        go_enter Tryz.func61, Tryz.ntmps61
        go_wp2_with fail
        rw [← hW0]
        clear hW0
        go_wp2_with (first
          | (go_at_call 71; (with_reducible refine (take_any 45 R0 (by omega)).mono ?_); rintro e1 w1 ⟨rfl, k1, k2⟩; rw [HT.out]; have F1 := F0.only k2 (by omega) (by omega); have s1 := k2.size)
          | (go_at_call 72; (with_reducible refine (dec_any k1).mono ?_); rintro e2 w2 ⟨v2, P2, rfl, hok2, R2, O2⟩; rw [HO.out]; have F2 := F1.only O2 (by omega) (by omega); have c1 := R2.c1; have f0 := F2.c0; have f1 := F2.c1; have g0 := F2.z0; have g1 := F2.z1))
        go_region
        all_goals
          have B2 : Below w.heap.size w w2 := (B0.trans (k2.below _ B0.size (fun i hi => by omega))).trans (O2.below _ (by omega) (fun i hi => by omega))
          obtain ⟨P0, P1⟩ := F2.put (.int .i64 150) (.int .i64 (cEnd s (tk s 0 45) : Int))
          have P0' : ((w2.setCell ⟨w.heap.size, 0, none⟩ (.int .i64 150)).setCell ⟨w.heap.size, 1, none⟩ (.int .i64 (cEnd s (tk s 0 45) : Int))).drew.cell? ⟨w.heap.size, 0, none⟩ = some (.int .i64 150) := P0
          have P1' : ((w2.setCell ⟨w.heap.size, 0, none⟩ (.int .i64 150)).setCell ⟨w.heap.size, 1, none⟩ (.int .i64 (cEnd s (tk s 0 45) : Int))).drew.cell? ⟨w.heap.size, 1, none⟩ = some (.int .i64 (cEnd s (tk s 0 45) : Int)) := P1
          go_wp2
          refine bodyPost_ret (by simp [results, Tryz.results61, go_sem, P0', P1']; try rfl) rfl ?_
          exact ⟨rfl, (below_put B2 (Nat.le_refl _) _ _).drew⟩
    · have hO : cOk s (pI s) = true := by
        unfold pBad at hbad
        cases h : cOk s (pI s)
        · rw [h] at hbad; simp at hbad
        · rfl
      have HO : Hid (cOk s (tk s 0 45) = true) := hO
      have hE : ¬ ((cEnd s (tk s 0 45) : Nat) : Int) < s.size := by
        intro h1
        apply hbad
        unfold pBad
        have h2 : cEnd s (pI s) < s.size := by
          have : cEnd s (tk s 0 45) < s.size := by omega
          exact this
        rw [decide_eq_true h2]; simp
      have HF : Hid (pF s = flt (cZ s (tk s 0 45)) (clp (cP s (tk s 0 45)))) := rfl
      have HW : Hid (paW s = if 9218868437227405312 ≤ pF s then 0 else if neg = true then pF s + 9223372036854775808 else pF s) := by
        show _ = _
        unfold paW
        rw [if_neg h64, if_neg hbad, hneg]
      have HE : Hid (paE s = if 9218868437227405312 ≤ pF s then 6 else 0) := by
        show _ = _
        unfold paE
        rw [if_neg h64, if_neg hbad]
      have HA : Hid (paA s = if 9218868437227405312 ≤ pF s then -1 else 0) := by
        show _ = _
        unfold paA
        rw [if_neg h64, if_neg hbad]
      clear hO hbad hneg
      by_cases hz : cZ s (tk s 0 45) = 0
      · have HZ : Hid (cZ s (tk s 0 45) = 0) := hz
        have hf0 : pF s = 0 := by rw [HF.out, hz]; rfl
        have eW : Hid (paW s = if neg = true then 9223372036854775808 else 0) := by show _ = _; rw [HW.out, hf0, if_neg (by decide)]
        have eE : paE s = 0 := by rw [HE.out, hf0, if_neg (by decide)]
        have eA : paA s = 0 := by rw [HA.out, hf0, if_neg (by decide)]
        have hor0 : bits .or .u64 0 9223372036854775808 = 9223372036854775808 := qor_sign (b := 0) (by decide)
        rw [eE, eA]
        clear hz hf0 eE eA
        cases neg
        all_goals
          go_enter Tryz.func61, Tryz.ntmps61
          go_wp2_with fail
          rw [← hW0]
          clear hW0
          go_wp2_with (first
            | (go_at_call 71; (with_reducible refine (take_any 45 R0 (by omega)).mono ?_); rintro e1 w1 ⟨rfl, k1, k2⟩; rw [HT.out]; have F1 := F0.only k2 (by omega) (by omega); have s1 := k2.size)
            | (go_at_call 72; (with_reducible refine (dec_any k1).mono ?_); rintro e2 w2 ⟨v2, P2, rfl, hok2, R2, O2⟩; rw [HO.out]; have F2 := F1.only O2 (by omega) (by omega); have c1 := R2.c1; have f0 := F2.c0; have f1 := F2.c1; have g0 := F2.z0; have g1 := F2.z1)
            | (go_at_call 73; (with_reducible refine (qnear_zero w1.heap.size 200 v2 P2 w2 (HZ.out ▸ (hok2 HO.out).1)).mono ?_); rintro e3 w3 ⟨rfl, rfl⟩))
          have B2 := (B0.trans (k2.below w.heap.size B0.size (fun i hi => by omega))).trans (O2.below w.heap.size (by omega) (fun i hi => by omega))
          obtain ⟨P0, P1⟩ := F2.put (.int .i64 0) (.int .i64 0)
          refine bodyPost_ret (by simp [results, Tryz.results61, go_sem, P0, P1]; try rfl) rfl ⟨?_, below_put B2 (Nat.le_refl _) _ _⟩
          rw [eW.out]
          rfl
      · have HZ : Hid (0 < cZ s (tk s 0 45)) := Nat.pos_of_ne_zero hz
        clear hz
        cases neg
        all_goals
          go_enter Tryz.func61, Tryz.ntmps61
          go_wp2_with fail
          rw [← hW0]
          clear hW0
          go_wp2_with (first
            | (go_at_call 71; (with_reducible refine (take_any 45 R0 (by omega)).mono ?_); rintro e1 w1 ⟨rfl, k1, k2⟩; rw [HT.out]; have F1 := F0.only k2 (by omega) (by omega); have s1 := k2.size)
            | (go_at_call 72; (with_reducible refine (dec_any k1).mono ?_); rintro e2 w2 ⟨v2, P2, rfl, hok2, R2, O2⟩; rw [HO.out]; have F2 := F1.only O2 (by omega) (by omega); have c1 := R2.c1; have f0 := F2.c0; have f1 := F2.c1; have g0 := F2.z0; have g1 := F2.z1))
          refine (qnear_any w1.heap.size (cZ s (tk s 0 45)) K9 v2 P2 w2 ((hok2 HO.out).1.by (cZ_nine _ _)) HZ.out (by decide) (by decide) O2.size).mono ?_
          rintro e3 w3 ⟨bw, D, r', o', rfl, hG, hbw, B3⟩
          rw [(hok2 HO.out).2] at hG
          have NB : Hid (bw < 18446744073709551616 ∧ (bw < 9218868437227405312 → flt (cZ s (tk s 0 45)) (clp (cP s (tk s 0 45))) = bw) ∧ (9218868437227405312 ≤ bw → flt (cZ s (tk s 0 45)) (clp (cP s (tk s 0 45))) = 9218868437227405312)) := near_bits HZ.out (cZ_lt _ _) (clp_le _).2 hG (Int.ofNat_inj.1 hbw)
          have B2 := ((B0.trans (k2.below w.heap.size B0.size (fun i hi => by omega))).trans (O2.below w.heap.size (by omega) (fun i hi => by omega)))
          have B3' : Below w.heap.size w2 w3 := ⟨B3.os, B3.tape, B3.output, B3.size, fun k hk => B3.block k (by omega)⟩
          have F3 := F2.later B3 (by omega)
          clear hG hbw f0 f1 g0 g1
          have f0 := F3.c0
          have f1 := F3.c1
          have g0 := F3.z0
          have g1 := F3.z1
          by_cases hov : 9218868437227405312 ≤ bw
          · have hd : decide ((9218868437227405312 : Int) ≤ (bw : Int)) = true := decide_eq_true (by omega)
            have HV : Hid (9218868437227405312 ≤ bw) := hov
            clear hov
            go_wp2
            obtain ⟨P0, P1⟩ := F3.put (.int .i64 6) (.int .i64 (-1))
            have hp : pF s = 9218868437227405312 := HF.out.trans (NB.out.2.2 HV.out)
            have eW : paW s = 0 := by rw [HW.out, hp]; rfl
            have eE : paE s = 6 := by rw [HE.out, hp]; rfl
            have eA : paA s = -1 := by rw [HA.out, hp]; rfl
            refine bodyPost_ret (by simp [results, Tryz.results61, go_sem, P0, P1]; try rfl) rfl ⟨?_, below_put (B2.trans B3') (Nat.le_refl _) _ _⟩
            rw [eW, eE, eA]
          · have hd : decide ((9218868437227405312 : Int) ≤ (bw : Int)) = false := decide_eq_false (by omega)
            have HV : Hid (¬ 9218868437227405312 ≤ bw) := hov
            clear hov
            go_wp2
            obtain ⟨P0, P1⟩ := F3.put (.int .i64 0) (.int .i64 0)
            have hp : pF s = bw := HF.out.trans (NB.out.2.1 (Nat.lt_of_not_le HV.out))
            have eE : paE s = 0 := by rw [HE.out, hp, if_neg HV.out]
            have eA : paA s = 0 := by rw [HA.out, hp, if_neg HV.out]
            have eW := HW.out
            rw [hp, if_neg HV.out] at eW
            have hb63 : bw < 9223372036854775808 := Nat.lt_trans (Nat.lt_of_not_le HV.out) (by decide)
            try rw [qor_sign hb63]
            refine bodyPost_ret (by simp [results, Tryz.results61, go_sem, P0, P1]; try rfl) rfl ⟨?_, below_put (B2.trans B3') (Nat.le_refl _) _ _⟩
            rw [eW, eE, eA]
            rfl

end Go.Proofs.YtjoncbfaajcioaaGreatDoor
