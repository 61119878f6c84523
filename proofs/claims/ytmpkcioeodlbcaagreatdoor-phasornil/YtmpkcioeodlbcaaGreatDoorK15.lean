/-
  Several texts in one: Qz Qx Qy.
-/
import Derived.Test.YtmpkcioeodlbcaaGreatDoorK11
import Derived.Test.YtmpkcioeodlbcaaGreatDoorK14
namespace Go.Proofs.YtmpkcioeodlbcaaGreatDoor
open Fl
theorem K74_split : (2 : Nat) ^ K74 = 2 ^ E21 * 9007199254740992 := by
  rw [show (9007199254740992 : Nat) = 2 ^ 53 by decide, ← Nat.pow_add]
  exact congrArg (fun k => (2 : Nat) ^ k) (show K74 = E21 + 53 from rfl)
theorem good_scale {P Q r o D : Nat} (h : Good P Q r o D) : P * 2 ^ K74 * o = r * 9007199254740992 * (Q * 2 ^ D) := by
  have e := h.2.2.1
  rw [K74_split]
  generalize 2 ^ E21 = y at *
  generalize 2 ^ D = x at *
  generalize (9007199254740992 : Nat) = k
  calc P * (y * k) * o = (P * o * y) * k := by simp only [Nat.mul_comm, Nat.mul_left_comm]
    _ = (r * Q * x) * k := by rw [← e]
    _ = r * k * (Q * x) := by simp only [Nat.mul_comm, Nat.mul_left_comm]
theorem good_near {P Q r o D : Nat} (h : Good P Q r o D) (hP : 0 < P) (hQ : 0 < Q) : nD P Q = D ∧ nR P Q = fr53 r o := by
  have hro := h.1
  have ho : 0 < o := by omega
  have hc : 0 < Q * 2 ^ D := Nat.mul_pos hQ (Nat.two_pow_pos D)
  have hs := good_scale h
  have e1 : nN P Q D = r * 9007199254740992 / o := by
    unfold nN
    rw [← Nat.mul_div_mul_right _ _ ho, hs, Nat.mul_comm (Q * 2 ^ D) o, Nat.mul_div_mul_right _ _ hc]
  have e2 : rdQ (P * 2 ^ K74) (Q * 2 ^ D) = rdQ (r * 9007199254740992) o := by
    rw [← rdQ_up (P * 2 ^ K74) (Q * 2 ^ D) o ho, hs, Nat.mul_comm (Q * 2 ^ D) o, rdQ_up _ _ _ hc]
  have p1 : nN P Q D < 9007199254740992 := by
    rw [e1, Nat.div_lt_iff_lt_mul ho, Nat.mul_comm]
    exact Nat.mul_lt_mul_of_pos_left hro (by decide)
  have p2 : 4503599627370496 ≤ nN P Q D ∨ D = 0 := by
    rcases h.2.1 with h1 | h1
    · left
      rw [e1, Nat.le_div_iff_mul_le ho]
      have : 4503599627370496 * o ≤ 4503599627370496 * (2 * r) := Nat.mul_le_mul_left _ h1
      omega
    · exact .inr h1
  obtain ⟨p3, p4⟩ := nD_props hP hQ
  have hD : nD P Q = D := unit_one p3 p4 p1 p2
  refine ⟨hD, ?_⟩
  rw [nR_rdQ, hD, e2]
  unfold rdQ fr53 rUp
  generalize r * 9007199254740992 = A
  by_cases hc : o < 2 * (A % o) ∨ o = 2 * (A % o) ∧ A / o % 2 = 1
  · rw [if_pos hc, decide_eq_true hc]; rfl
  · rw [if_neg hc, decide_eq_false hc]; rfl

end Go.Proofs.YtmpkcioeodlbcaaGreatDoor
namespace Go.Proofs.YtmpkcioeodlbcaaGreatDoor
open RowKit
/-- a byte of a text (0 outside it) -/
def qbyt (s : ByteArray) (i : Nat) : Nat := (s.data.getD i 0).toNat
/-- a reader in memory: its text and how far it has come -/
structure Rdr (w : World) (p : Nat) (s : ByteArray) (i : Nat) : Prop where
  blk : w.heap[p]? = some (.cells #[.string s, .int .i64 (i : Int)] 285 (0, 0))
  le : i ≤ s.size
  sz : s.size ≤ 64
theorem Rdr.c0 {w : World} {p i : Nat} {s : ByteArray} (h : Rdr w p s i) : w.cell? ⟨p, 0, none⟩ = some (.string s) := by
  rw [cell_of_row w p 0 _ _ (0, 0) h.blk]; rfl
theorem Rdr.c1 {w : World} {p i : Nat} {s : ByteArray} (h : Rdr w p s i) : w.cell? ⟨p, 1, none⟩ = some (.int .i64 (i : Int)) := by
  rw [cell_of_row w p 1 _ _ (0, 0) h.blk]; rfl
theorem Rdr.fz {w : World} {p i : Nat} {s : ByteArray} (h : Rdr w p s i) : w.frozen? ⟨p, 1, none⟩ = false := frozen_of_row w p 1 _ _ h.blk
theorem Rdr.plt {w : World} {p i : Nat} {s : ByteArray} (h : Rdr w p s i) : p < w.heap.size := (Array.getElem?_eq_some_iff.1 h.blk).1
theorem Rdr.step {w : World} {p i : Nat} {s : ByteArray} (h : Rdr w p s i) (hi : i < s.size) (n : Nat) : Rdr ((w.drewN n).setCell ⟨p, 1, none⟩ (.int .i64 ((i + 1 : Nat) : Int))) p s (i + 1) ∧ Only (fun k => k = p) w ((w.drewN n).setCell ⟨p, 1, none⟩ (.int .i64 ((i + 1 : Nat) : Int))) :=
  ⟨⟨heap_setCell_same _ p 1 _ _ _ h.blk, hi, h.sz⟩, ((Only.refl _ w).drewN n).set _ _ (.inl rfl)⟩
theorem Rdr.only {w w' : World} {p i : Nat} {s : ByteArray} (h : Rdr w p s i) {S : Nat → Prop} (ho : Only S w w') (hp : ¬ S p) : Rdr w' p s i := ⟨by rw [ho.block p h.plt hp]; exact h.blk, h.le, h.sz⟩
theorem qbyt_get {s : ByteArray} {i : Nat} (h : i < s.size) : (s[i]'h).toNat = qbyt s i := by
  have h2 : i < s.data.size := h
  show (s.data[i]'h2).toNat = (s.data.getD i 0).toNat
  rw [Array.getD_eq_getD_getElem?, Array.getElem?_eq_getElem h2]; rfl
/-- how far it has come behind take -/
def tk (s : ByteArray) (i c : Nat) : Nat := if i < s.size ∧ qbyt s i = c then i + 1 else i
def tkb (s : ByteArray) (i c : Nat) : Bool := decide (i < s.size ∧ qbyt s i = c)
theorem Rdr.drewN {w : World} {p i : Nat} {s : ByteArray} (h : Rdr w p s i) (n : Nat) : Rdr (w.drewN n) p s i := ⟨h.blk, h.le, h.sz⟩
set_option maxRecDepth 10000 in
set_option maxHeartbeats 1000000 in
theorem take_any {w : World} {p i : Nat} {s : ByteArray} (c : Nat) {C : Int} (h : Rdr w p s i) (hC : C = ((c : Nat) : Int)) :
    Calls Tryz.prog 218 #[.pointer (some ⟨p, 0, none⟩), .int .u8 C] w fun e w' => e = .returned (.bool (tkb s i c)) ∧ Rdr w' p s (tk s i c) ∧ Only (fun k => k = p) w w' := by
  subst hC
  have c0 := h.c0
  have c1 := h.c1
  have fz := h.fz
  have hl := h.le
  have hs := h.sz
  by_cases hi : i < s.size
  · have hne : ((i : Int) == (s.size : Int)) = false := by simp; omega
    by_cases hbc : qbyt s i = c
    · have e1 : tkb s i c = true := decide_eq_true ⟨hi, hbc⟩
      have e2 : tk s i c = i + 1 := if_pos ⟨hi, hbc⟩
      rw [e1, e2]
      clear e1 e2
      go_enter Tryz.func218, Tryz.ntmps218
      go_wp2_with fail
      go_quiet (fail)
      rw [qbyt_get hi, hbc]
      go_wp2
      go_ret
      obtain ⟨R, O⟩ := h.step hi nq
      exact ⟨rfl, R, O⟩
    · have e1 : tkb s i c = false := decide_eq_false (fun q => hbc q.2)
      have e2 : tk s i c = i := if_neg (fun q => hbc q.2)
      have hb2 : ((qbyt s i : Int) != (c : Int)) = true := by simp; omega
      rw [e1, e2]
      clear e1 e2
      go_enter Tryz.func218, Tryz.ntmps218
      go_wp2_with fail
      go_quiet (fail)
      rw [qbyt_get hi, hb2]
      go_wp2
      go_ret
      exact ⟨rfl, h.drewN nq, (Only.refl _ w).drewN nq⟩
  · have e1 : tkb s i c = false := decide_eq_false (fun q => hi q.1)
    have e2 : tk s i c = i := if_neg (fun q => hi q.1)
    have e : i = s.size := by omega
    rw [e1, e2]
    clear e1 e2
    subst e
    go_enter Tryz.func218, Tryz.ntmps218
    go_wp2_with fail
    go_quiet (fail)
    go_wp2
    go_ret
    exact ⟨rfl, h.drewN nq, (Only.refl _ w).drewN nq⟩
/-- is a digit next? -/
def dgb (s : ByteArray) (i : Nat) : Bool := decide (i < s.size ∧ 48 ≤ qbyt s i ∧ qbyt s i ≤ 57)
set_option maxRecDepth 10000 in
set_option maxHeartbeats 1000000 in
theorem digit_yes {w : World} {p i : Nat} {s : ByteArray} (h : Rdr w p s i) (hd : dgb s i = true) :
    Calls Tryz.prog 260 #[.pointer (some ⟨p, 0, none⟩)] w fun e w' => e = .returned (.tuple #[.int .u64 ((qbyt s i - 48 : Nat) : Int), .bool true]) ∧ Rdr w' p s (i + 1) ∧ Only (fun k => k = p) w w' := by
  obtain ⟨hi, h48, h57⟩ := of_decide_eq_true hd
  have c0 := h.c0
  have c1 := h.c1
  have fz := h.fz
  have hl := h.le
  have hs := h.sz
  have hne : ((i : Int) == (s.size : Int)) = false := by simp; omega
  have hg := qbyt_get hi
  obtain ⟨b, hb⟩ : ∃ b, b = qbyt s i := ⟨_, rfl⟩
  rw [← hb] at h48 h57 hg ⊢
  obtain ⟨m, hm⟩ : ∃ m, b = m + 48 := ⟨b - 48, by omega⟩
  subst hm
  have HB : Hid (m + 48 = qbyt s i) := hb
  have h1 : ¬ ((m : Int) + 48) < 48 := by omega
  have h2 : ¬ 57 < ((m : Int) + 48) := by omega
  have hi2 : wrap64 ((i : Int) + 1 - 1) = (i : Int) := by unfold wrap64; omega
  rw [Nat.add_sub_cancel]
  clear hb hd
  go_enter Tryz.func260, Tryz.ntmps260
  go_wp2_with fail
  go_quiet (fail)
  try rw [hg]
  obtain ⟨R, O⟩ := h.step hi nq
  have k0 : ((w.drewN nq).setCell ⟨p, 1, none⟩ (.int .i64 ((i : Int) + 1))).cell? ⟨p, 0, none⟩ = some (.string s) := R.c0
  have k1 : ((w.drewN nq).setCell ⟨p, 1, none⟩ (.int .i64 ((i : Int) + 1))).cell? ⟨p, 1, none⟩ = some (.int .i64 ((i : Int) + 1)) := R.c1
  have HR : Hid (Rdr ((w.drewN nq).setCell ⟨p, 1, none⟩ (.int .i64 ((i : Int) + 1))) p s (i + 1) ∧ Only (fun k => k = p) w ((w.drewN nq).setCell ⟨p, 1, none⟩ (.int .i64 ((i : Int) + 1)))) := ⟨R, O⟩
  clear R O
  go_wp2_with fail
  obtain ⟨W, hW⟩ : ∃ W, W = (w.drewN nq).setCell ⟨p, 1, none⟩ (.int .i64 ((i : Int) + 1)) := ⟨_, rfl⟩
  rw [← hW] at k0 k1 HR ⊢
  clear hW c0 c1 fz
  go_quiet (fail)
  try rw [hg]
  go_wp2
  go_ret2
  exact ⟨rfl, HR.out.1.drewN _, HR.out.2.drewN _⟩
set_option maxRecDepth 10000 in
set_option maxHeartbeats 1000000 in
theorem digit_no {w : World} {p i : Nat} {s : ByteArray} (h : Rdr w p s i) (hd : dgb s i = false) :
    Calls Tryz.prog 260 #[.pointer (some ⟨p, 0, none⟩)] w fun e w' => e = .returned (.tuple #[.int .u64 0, .bool false]) ∧ Rdr w' p s i ∧ Only (fun k => k = p) w w' := by
  have hq := of_decide_eq_false hd
  have c0 := h.c0
  have c1 := h.c1
  have fz := h.fz
  have hl := h.le
  have hs := h.sz
  clear hd
  by_cases hi : i < s.size
  · have hne : ((i : Int) == (s.size : Int)) = false := by simp; omega
    have hg := qbyt_get hi
    obtain ⟨b, hb⟩ : ∃ b, b = qbyt s i := ⟨_, rfl⟩
    rw [← hb] at hg hq
    clear hb
    by_cases h48 : b < 48
    · have h1 : (b : Int) < 48 := by omega
      clear hq
      go_enter Tryz.func260, Tryz.ntmps260
      go_wp2_with fail
      go_quiet (fail)
      try rw [hg]
      go_wp2
      go_ret2
      exact ⟨rfl, h.drewN nq, (Only.refl _ w).drewN nq⟩
    · have h1 : ¬ (b : Int) < 48 := by omega
      have h2 : 57 < (b : Int) := by omega
      clear hq
      go_enter Tryz.func260, Tryz.ntmps260
      go_wp2_with fail
      go_quiet (fail)
      try rw [hg]
      go_wp2
      go_ret2
      exact ⟨rfl, h.drewN nq, (Only.refl _ w).drewN nq⟩
  · have e : i = s.size := by omega
    subst e
    clear hq
    go_enter Tryz.func260, Tryz.ntmps260
    go_wp2_with fail
    go_quiet (fail)
    go_wp2
    go_ret2
    exact ⟨rfl, h.drewN nq, (Only.refl _ w).drewN nq⟩

end Go.Proofs.YtmpkcioeodlbcaaGreatDoor
namespace Go.Proofs.YtmpkcioeodlbcaaGreatDoor
open RowKit
/-- how many digits are next -/
def dN (s : ByteArray) : Nat → Nat → Nat
  | 0, _ => 0
  | f + 1, i => if dgb s i = true then dN s f (i + 1) + 1 else 0
/-- a whole number with the digits that are next behind it -/
def dV (s : ByteArray) : Nat → Nat → Nat → Nat
  | 0, _, z => z
  | f + 1, i, z => if dgb s i = true then dV s f (i + 1) (z * 10 + (qbyt s i - 48)) else z
theorem dN_yes {s : ByteArray} {i f : Nat} (h : dgb s i = true) : dN s (f + 1) i = dN s f (i + 1) + 1 := if_pos h
theorem dN_no {s : ByteArray} {i f : Nat} (h : dgb s i = false) : dN s (f + 1) i = 0 := if_neg (by rw [h]; decide)
theorem dV_yes {s : ByteArray} {i f z : Nat} (h : dgb s i = true) : dV s (f + 1) i z = dV s f (i + 1) (z * 10 + (qbyt s i - 48)) := if_pos h
theorem dV_no {s : ByteArray} {i f z : Nat} (h : dgb s i = false) : dV s (f + 1) i z = z := if_neg (by rw [h]; decide)
def atOf (w : World) (p : Nat) : Nat := match w.cell? ⟨p, 1, none⟩ with | some (.int _ q) => q.toNat | _ => 0
theorem Rdr.at {w : World} {p i : Nat} {s : ByteArray} (h : Rdr w p s i) : atOf w p = i := by unfold atOf; rw [h.c1]; simp
theorem dgb_lt {s : ByteArray} {i : Nat} (h : dgb s i = true) : i < s.size ∧ qbyt s i - 48 ≤ 9 := by
  obtain ⟨h1, h2, h3⟩ := of_decide_eq_true h
  exact ⟨h1, by omega⟩
set_option maxRecDepth 10000 in
set_option maxHeartbeats 1000000 in
theorem digits_any {w : World} {p i base z L : Nat} {s : ByteArray} {v : Value} (h : Rdr w p s i) (hv : Wh w base v z L) (hpv : ¬ Ob v p) (hL : L ≤ 1000) (hbase : base ≤ w.heap.size) :
    Calls Tryz.prog 239 #[.pointer (some ⟨p, 0, none⟩), v] w fun e w' => ∃ v' : Value, e = .returned (.tuple #[v', .int .i64 ((dN s 65 i : Nat) : Int)]) ∧ Wh w' base v' (dV s 65 i z) (L + 64) ∧ Rdr w' p s (i + dN s 65 i) ∧ Only (fun k => Ob v k ∨ k = p) w w' ∧ (∀ k, Ob v' k → Ob v k ∨ w.heap.size ≤ k) := by
  have c1 := h.c1
  have hplt := h.plt
  go_enter Tryz.func239, Tryz.ntmps239
  go_wp2_with fail
  go_loopw [1] (fun vv wr => ∃ (j z0 : Nat) (v0 : Value), v0 = vv ∧ j ≤ 64 ∧ Rdr wr p s (i + j) ∧ Wh wr base v0 z0 (L + j) ∧ dN s (65 - j) (i + j) + j = dN s 65 i ∧ dV s (65 - j) (i + j) z0 = dV s 65 i z ∧ Only (fun k => Ob v k ∨ k = p) w wr ∧ (∀ k, Ob v0 k → Ob v k ∨ w.heap.size ≤ k)) (fun _ wr => 100 - atOf wr p)
  case atStart => exact ⟨0, z, v, rfl, by omega, h, hv, rfl, rfl, Only.refl _ _, fun k hk => .inl hk⟩
  case round =>
    clear hv c1
    obtain ⟨j, z0, v0, rfl, hj, R, hv, hN, hV, hO, hF⟩ := hrel
    have hsz := hO.size
    have hbs : base ≤ wr.heap.size := by omega
    have hle := R.le
    have hs64 := R.sz
    have hpv0 : ¬ Ob v0 p := fun hk => by
      rcases hF p hk with h1 | h1
      · exact hpv h1
      · omega
    obtain ⟨f, hf⟩ : ∃ f, 65 - j = f + 1 := ⟨64 - j, by omega⟩
    rw [hf] at hN hV
    by_cases hd : dgb s (i + j) = true
    · obtain ⟨hlt, hb9⟩ := dgb_lt hd
      rw [dN_yes hd] at hN
      rw [dV_yes hd] at hV
      obtain ⟨m, hm⟩ : ∃ m, m = qbyt s (i + j) - 48 := ⟨_, rfl⟩
      rw [← hm] at hV hb9
      have HM : Hid (m = qbyt s (i + j) - 48) := hm
      have hat := R.at
      have HN : Hid (dN s f (i + j + 1) + 1 + j = dN s 65 i) := hN
      have HV : Hid (dV s f (i + j + 1) (z0 * 10 + m) = dV s 65 i z) := hV
      have HO : Hid (Only (fun k => Ob v k ∨ k = p) w wr) := hO
      have HF : Hid (∀ k, Ob v0 k → Ob v k ∨ w.heap.size ≤ k) := hF
      clear hm hN hV hO hF
      go_wp2_with (first
        | (go_at_call 260; (with_reducible refine (digit_yes R hd).mono ?_); rintro e1 w1 ⟨rfl, k1, k2⟩; rw [← HM.out]; have k3 := k2.size; have hv1 := hv.only k2 (fun k hk hk2 => hpv0 (hk2 ▸ hk)))
        | (go_at_call 261; (with_reducible refine (qtimesI 10 m hv1 (by omega) rfl (by omega) (by omega) (by omega) (by omega) (by omega)).mono ?_); rintro e2 w2 ⟨v2, rfl, q1, q2, q3⟩))
      have R2 := k1.only q2 hpv0
      have O2 : Only (fun k => Ob v k ∨ k = p) w w2 := (HO.out.next k2 (fun i hi => .inl (.inr hi))).next q2 (fun i hi => (HF.out i hi).imp .inl id)
      go_roundw
      case rel =>
        refine ⟨j + 1, z0 * 10 + m, v2, rfl, by omega, R2, q1, ?_, ?_, O2, fun k hk => ?_⟩
        · rw [show 65 - (j + 1) = f by omega]; have := HN.out; show dN s f (i + j + 1) + (j + 1) = _; omega
        · rw [show 65 - (j + 1) = f by omega]; exact HV.out
        · rcases q3 k hk with h1 | h1
          · exact HF.out k h1
          · exact .inr (by omega)
      case measure =>
        rw [hat, R2.at]; omega
    · have hd0 : dgb s (i + j) = false := by simpa using hd
      rw [dN_no hd0] at hN
      rw [dV_no hd0] at hV
      have HN : Hid (j = dN s 65 i) := by show _ = _; omega
      have HV : Hid (z0 = dV s 65 i z) := hV
      have HO : Hid (Only (fun k => Ob v k ∨ k = p) w wr) := hO
      clear hN hV hO
      go_wp2_with (go_at_call 260; (with_reducible refine (digit_no R hd0).mono ?_); rintro e1 w1 ⟨rfl, k1, k2⟩; have c1 := k1.c1)
      go_quiet (fail)
      go_wp2
      go_ret2
      have hv1 := (hv.only k2 (fun k hk hk2 => hpv0 (hk2 ▸ hk))).mono (L' := L + 64) (by omega)
      rw [HV.out] at hv1
      have hr : i + j = i + dN s 65 i := by rw [← HN.out]
      rw [hr] at k1
      refine ⟨_, ?_, hv1, k1.drewN _, (HO.out.next k2 (fun i hi => .inl (.inr hi))).drewN _, hF⟩
      show Ending.returned (Value.tuple #[v0, Value.int IntKind.i64 ((i : Int) + (j : Int) - (i : Int))]) = _
      rw [show (i : Int) + (j : Int) - (i : Int) = ((dN s 65 i : Nat) : Int) by have := HN.out; omega]

end Go.Proofs.YtmpkcioeodlbcaaGreatDoor
