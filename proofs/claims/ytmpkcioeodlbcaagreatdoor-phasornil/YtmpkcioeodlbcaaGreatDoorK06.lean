/-
  Several texts in one: Shk Qfu Npb Gn Qn Gc Gs Qa.
-/
import Derived.Test.YtmpkcioeodlbcaaGreatDoorProg
import Derived.Shelf.Strconv.Itoa3
import Derived.BigCall
import Derived.BigGuard
import Derived.Lib.AppendIntMem
import Derived.Test.YtmpkcioeodlbcaaGreatDoorK05
import Derived.Test.YtmpkcioeodlbcaaGreatDoorChecked
import Derived.WalkKit
import Derived.WalkLawsBesides
import Derived.Deep.QuietTactic
import Derived.BigQuiet
import Derived.Laws.AppendOwn
import Derived.Laws.OwnMore
import Derived.Lib.Mul64
import Derived.Laws.Bits64b
import Derived.Laws.Externs
namespace Go.Proofs.YtmpkcioeodlbcaaGreatDoor
open Go.Shelf Go.Proofs
def skR : Ren := ⟨fun | 129 => 290 | 171 => 196 | 243 => 223 | 246 => 252 | 283 => 278 | 284 => 279 | 285 => 280 | 286 => 281 | 317 => 312 | 318 => 313 | 319 => 314 | 320 => 315 | 337 => 328 | 338 => 329 | n => n, fun | 0 => 0 | 2 => 2 | 3 => 3 | 4 => 4 | 5 => 5 | 9 => 9 | 20 => 20 | 37 => 298 | 46 => 227 | 51 => 303 | 53 => 47 | 171 => 355 | 173 => 358 | 212 => 386 | 213 => 387 | 232 => 404 | 233 => 405 | n => n, fun | 17 => 4 | 18 => 7 | 19 => 8 | n => n⟩
theorem sk171 : Lays.n171 Tryz.prog skR := {
  mixed := by kernel_rfl
  f129 := Tryz.func290.trans (congrArg some (by kernel_rfl))
  f171 := Tryz.func196.trans (congrArg some (by kernel_rfl))
  f243 := Tryz.func223.trans (congrArg some (by kernel_rfl))
  f246 := Tryz.func252.trans (congrArg some (by kernel_rfl))
  f283 := Tryz.func278.trans (congrArg some (by kernel_rfl))
  f284 := Tryz.func279.trans (congrArg some (by kernel_rfl))
  f285 := Tryz.func280.trans (congrArg some (by kernel_rfl))
  f286 := Tryz.func281.trans (congrArg some (by kernel_rfl))
  f317 := Tryz.func312.trans (congrArg some (by kernel_rfl))
  f318 := Tryz.func313.trans (congrArg some (by kernel_rfl))
  f319 := Tryz.func314.trans (congrArg some (by kernel_rfl))
  f320 := Tryz.func315.trans (congrArg some (by kernel_rfl))
  f337 := Tryz.func328.trans (congrArg some (by kernel_rfl))
  f338 := Tryz.func329.trans (congrArg some (by kernel_rfl))
  t0 := Tryz.underlying0
  a0 := Tryz.isAgg0
  z0 := Tryz.sizeOf0
  v0 := Tryz.zeroValue0
  t2 := Tryz.underlying2
  a2 := Tryz.isAgg2
  z2 := Tryz.sizeOf2
  v2 := Tryz.zeroValue2
  t3 := Tryz.underlying3
  a3 := Tryz.isAgg3
  z3 := Tryz.sizeOf3
  v3 := Tryz.zeroValue3
  t4 := Tryz.underlying4
  a4 := Tryz.isAgg4
  z4 := Tryz.sizeOf4
  v4 := Tryz.zeroValue4
  t5 := Tryz.underlying5
  a5 := Tryz.isAgg5
  z5 := Tryz.sizeOf5
  v5 := Tryz.zeroValue5
  t9 := Tryz.underlying9
  a9 := Tryz.isAgg9
  z9 := Tryz.sizeOf9
  v9 := Tryz.zeroValue9
  t20 := Tryz.underlying20
  a20 := Tryz.isAgg20
  z20 := Tryz.sizeOf20
  v20 := Tryz.zeroValue20
  t37 := Tryz.underlying298
  a37 := Tryz.isAgg298
  z37 := Tryz.sizeOf298
  v37 := Tryz.zeroValue298
  t46 := Tryz.underlying227
  a46 := Tryz.isAgg227
  z46 := Tryz.sizeOf227
  v46 := Tryz.zeroValue227
  t51 := Tryz.underlying303
  a51 := Tryz.isAgg303
  z51 := Tryz.sizeOf303
  v51 := Tryz.zeroValue303
  t53 := Tryz.underlying47
  a53 := Tryz.isAgg47
  z53 := Tryz.sizeOf47
  v53 := Tryz.zeroValue47
  t171 := Tryz.underlying355
  a171 := Tryz.isAgg355
  z171 := Tryz.sizeOf355
  v171 := Tryz.zeroValue355
  t173 := Tryz.underlying358
  a173 := Tryz.isAgg358
  z173 := Tryz.sizeOf358
  v173 := Tryz.zeroValue358
  t212 := Tryz.underlying386
  a212 := Tryz.isAgg386
  z212 := Tryz.sizeOf386
  v212 := Tryz.zeroValue386
  t213 := Tryz.underlying387
  a213 := Tryz.isAgg387
  z213 := Tryz.sizeOf387
  t232 := Tryz.underlying404
  a232 := Tryz.isAgg404
  z232 := Tryz.sizeOf404
  v232 := Tryz.zeroValue404
  t233 := Tryz.underlying405
  a233 := Tryz.isAgg405
  z233 := Tryz.sizeOf405
  v233 := Tryz.zeroValue405
  g17 := by kernel_rfl
  g18 := by kernel_rfl
  g19 := by kernel_rfl }
theorem skM171 : LaysM.n171 Tryz.prog skR := { sk171 with
  i0 := by kernel_rfl
  i2 := by kernel_rfl
  i3 := by kernel_rfl
  i4 := by kernel_rfl
  i5 := by kernel_rfl
  i9 := by kernel_rfl
  i20 := by kernel_rfl
  i37 := by kernel_rfl
  i46 := by kernel_rfl
  i51 := by kernel_rfl
  i53 := by kernel_rfl
  i171 := by kernel_rfl
  i173 := by kernel_rfl
  i212 := by kernel_rfl
  i232 := by kernel_rfl
  i233 := by kernel_rfl
  m17 := by kernel_rfl
  m18 := by kernel_rfl
  m19 := by kernel_rfl }
end Go.Proofs.YtmpkcioeodlbcaaGreatDoor
namespace Go.Proofs.YtmpkcioeodlbcaaGreatDoor
open Go.Shelf Go.RowKit Go.Sort Go.Lib
/-- the table of powers of ten that the library lays -/
def Pw (w : World) : Prop := Lib.TabIs Tryz.prog w "internal/strconv.uint64pow10" .u64 Lib.pow10Tab

theorem Pw.kept {w w' : World} (h : Pw w) (hb : Below w.heap.size w w') : Pw w' := by
  unfold Pw Lib.TabIs World.var? at *
  cases hg : Tryz.prog.globalNamed "internal/strconv.uint64pow10" with
  | none => simp [hg] at h
  | some g =>
    simp only [hg, Option.bind_some] at h ⊢
    have hlt : g < w.heap.size := by
      rcases Nat.lt_or_ge g w.heap.size with h' | h'
      · exact h'
      · rw [Array.getElem?_eq_none h'] at h; simp at h
    rw [hb.block g hlt]
    exact h
theorem itoa_any (n : Int) (h0 : -9223372036854775808 ≤ n) (h1 : n ≤ 9223372036854775807) (w : World) (htab : Pw w) :
    Calls Tryz.prog 196 #[.int .i64 n] w fun e w' => e = .returned (.string ⟨(Lib.itoa n).toArray⟩) ∧ Below w.heap.size w w' := by
  refine (Any.strconv_Itoa (ρ := skR) skM171 n h0 h1 w htab).mono ?_
  rintro e w' ⟨rfl, k, os, rfl⟩
  exact ⟨rfl, Lib.below_grow _ w (Nat.le_refl _) k os⟩

end Go.Proofs.YtmpkcioeodlbcaaGreatDoor
namespace Go.Proofs.YtmpkcioeodlbcaaGreatDoor
open Go.Maps Go.RowKit Joins Deep
set_option linter.unusedVariables false
set_option maxRecDepth 100000
/-- the library's variables on the road -/
structure Wow (w : World) : Prop where
  mln : Mln w
  syn : ∃ ev, w.cell? ⟨2, 0, none⟩ = some ev ∧ (ev = .nilIface ∨ ∃ te pe, ev = .iface te pe)
  rng : ∃ ev, w.cell? ⟨3, 0, none⟩ = some ev ∧ (ev = .nilIface ∨ ∃ te pe, ev = .iface te pe)
  pw : Pw w
theorem Wow.kept {w w' : World} (h : Wow w) (hb : Below w.heap.size w w') : Wow w' := by
  obtain ⟨e1, h1, h2⟩ := h.syn
  obtain ⟨e2, h3, h4⟩ := h.rng
  exact ⟨h.mln.kept hb, ⟨e1, (hb.cell (World.block_lt_of_cell? w _ h1)).trans h1, h2⟩, ⟨e2, (hb.cell (World.block_lt_of_cell? w _ h3)).trans h3, h4⟩, h.pw.kept hb⟩
/-- what a text says as a number of steps, and whether it may stand -/
def phI (s : ByteArray) : Int := match Go.Lib.atoiAll s.data.toList with | .ok v => v | _ => 0
def phO (s : ByteArray) : Bool := match Go.Lib.atoiAll s.data.toList with | .ok v => Go.Lib.itoa v == s.data.toList | _ => false
theorem below_bytes {w w' : World} {t : TypeId} (h : w' = w ∨ ∃ u, w' = Go.Lib.bytesWorld w t u) : Below w.heap.size w w' := by
  rcases h with rfl | ⟨u, rfl⟩
  · exact Below.refl _ _
  · exact Go.Lib.bytesWorld_below _ _ _
theorem ret_ib {a b : Int} {c d : Bool} (h : a = b) (h2 : c = d) : Ending.returned (.tuple #[.int .i64 a, .bool c]) = .returned (.tuple #[.int .i64 b, .bool d]) := by rw [h, h2]
set_option maxHeartbeats 2000000 in
theorem phase_any (s : ByteArray) (w : World) (hw : Wow w) (hs : s.size ≤ 65536) :
    Calls Tryz.prog 195 #[.string s] w fun e w' => ∃ x, e = .returned (.tuple #[.int .i64 x, .bool (phO s)]) ∧ (phO s = true → x = phI s) ∧ Below w.heap.size w w' := by
  cases hA : Go.Lib.atoiAll s.data.toList with
  | ok v =>
    have hb := Go.Lib.atoiAll_bounds hA
    have h1 : Hid (phI s = v ∧ phO s = (Go.Lib.itoa v == s.data.toList)) := by
      refine ⟨?_, ?_⟩
      · unfold phI; rw [hA]
      · unfold phO; rw [hA]
    have hC : Hid (∀ W : World, Calls Tryz.prog 222 #[.string s] W fun e w' => e = .returned (.tuple #[.int .i64 v, .nilIface]) ∧ Below W.heap.size W w') := fun W => (Any.strconv_Atoi_ok saC172 s (by omega) v hA W).mono fun e w' h => ⟨h.1, below_bytes h.2⟩
    have hI : Hid (∀ W : World, Wow W → Calls Tryz.prog 196 #[.int .i64 v] W fun e w' => e = .returned (.string ⟨(Go.Lib.itoa v).toArray⟩) ∧ Below W.heap.size W w') := fun W h => itoa_any v hb.1 (by omega) W h.pw
    have HW : Hid (Wow w) := hw
    clear hA hb hw
    go_enter Tryz.func195, Tryz.ntmps195
    go_wp2_with (first
      | (go_at_call 222; (with_reducible refine (hC.out _).mono ?_); rintro e w1 ⟨rfl, hb⟩; (have B1 : Hid (Below w.heap.size w w1) := hb); clear hb)
      | (go_at_call 196; (with_reducible refine (hI.out _ (HW.out.kept B1.out)).mono ?_); rintro e w2 ⟨rfl, hb⟩; (have B2 : Hid (Below w.heap.size w w2) := B1.out.trans (hb.mono B1.out.size)); clear hb))
    go_ret2
    exact ⟨v, ret_ib rfl (by rw [h1.out.2, ByteArray.toList_eq]), fun _ => h1.out.1.symm, B2.out⟩
  | «syntax» =>
    obtain ⟨ev, he1, he2⟩ := hw.syn
    have h1 : phO s = false := by unfold phO; rw [hA]
    have hC : Hid (Calls Tryz.prog 222 #[.string s] w fun e w' => ∃ t N, e = .returned (.tuple #[.int .i64 0, .iface t (.pointer (some ⟨N, 0, none⟩))]) ∧ Below w.heap.size w w') := (Any.strconv_Atoi_syntax saC172 s (by omega) hA ev w he1 he2).mono fun e w' ⟨N, h, _, _, hb⟩ => ⟨_, N, h, hb⟩
    rw [h1]
    clear hA he1 he2 hw h1
    go_enter Tryz.func195, Tryz.ntmps195
    go_wp2_with (first
      | (go_at_call 222; (with_reducible refine (hC.out).mono ?_); rintro e w1 ⟨t, N, rfl, hb⟩; (have B1 : Hid (Below w.heap.size w w1) := hb); clear hb))
    go_ret2
    exact ⟨_, rfl, (fun h => by cases h), B1.out⟩
  | range =>
    obtain ⟨ev, he1, he2⟩ := hw.rng
    have h1 : phO s = false := by unfold phO; rw [hA]
    have hC : Hid (Calls Tryz.prog 222 #[.string s] w fun e w' => ∃ t N x, e = .returned (.tuple #[.int .i64 x, .iface t (.pointer (some ⟨N, 0, none⟩))]) ∧ Below w.heap.size w w') := (Any.strconv_Atoi_range saC172 s (by omega) hA ev w he1 he2).mono fun e w' ⟨N, h, _, _, hb⟩ => ⟨_, N, _, h, hb⟩
    rw [h1]
    clear hA he1 he2 hw h1
    go_enter Tryz.func195, Tryz.ntmps195
    go_wp2_with (first
      | (go_at_call 222; (with_reducible refine (hC.out).mono ?_); rintro e w1 ⟨t, N, x, rfl, hb⟩; (have B1 : Hid (Below w.heap.size w w1) := hb); clear hb))
    go_ret2
    exact ⟨_, rfl, (fun h => by cases h), B1.out⟩
end Go.Proofs.YtmpkcioeodlbcaaGreatDoor
namespace Go.Proofs.YtmpkcioeodlbcaaGreatDoor
/-- how two numbers stand -/
def cmI (a b : Nat) : Int := if a < b then -1 else if a = b then 0 else 1
end Go.Proofs.YtmpkcioeodlbcaaGreatDoor
namespace Go.Proofs.YtmpkcioeodlbcaaGreatDoor
/-- the number that words are, the lowest first -/
def qn : List Nat → Nat
  | [] => 0
  | x :: l => x + 18446744073709551616 * qn l
def okQ (ws : List Nat) : Prop := ∀ x ∈ ws, x < 18446744073709551616
theorem qn_cons (x : Nat) (l : List Nat) : qn (x :: l) = x + 18446744073709551616 * qn l := rfl
theorem qn_append (a b : List Nat) : qn (a ++ b) = qn a + 18446744073709551616 ^ a.length * qn b := by
  induction a with
  | nil => simp [qn]
  | cons x l ih =>
    rw [List.cons_append, qn_cons, qn_cons, ih, List.length_cons, Nat.pow_succ, Nat.mul_add, ← Nat.add_assoc]
    congr 1
    rw [← Nat.mul_assoc, Nat.mul_comm 18446744073709551616]
theorem qn_lt {ws : List Nat} (h : okQ ws) : qn ws < 18446744073709551616 ^ ws.length := by
  induction ws with
  | nil => simp [qn]
  | cons x l ih =>
    have h1 := h x (List.mem_cons_self ..)
    have h2 := ih (fun y hy => h y (List.mem_cons_of_mem _ hy))
    rw [qn_cons, List.length_cons, Nat.pow_succ, Nat.mul_comm _ 18446744073709551616]
    omega
theorem okQ_take {ws : List Nat} (h : okQ ws) (k : Nat) : okQ (ws.take k) := fun x hx => h x (List.mem_of_mem_take hx)
theorem okQ_append {a b : List Nat} (ha : okQ a) (hb : okQ b) : okQ (a ++ b) := fun x hx => (List.mem_append.1 hx).elim (ha x) (hb x)
theorem okQ_getD {ws : List Nat} (h : okQ ws) (k : Nat) : ws.getD k 0 < 18446744073709551616 := by
  rw [List.getD_eq_getElem?_getD]
  cases hk : ws[k]? with
  | none => simp
  | some x => simp only [Option.getD_some]; exact h x (List.mem_of_getElem? hk)
theorem qn_zero {ws : List Nat} (h : ∀ j, ws.getD j 0 = 0) : qn ws = 0 := by
  induction ws with
  | nil => rfl
  | cons x l ih =>
    have h0 : x = 0 := h 0
    have h1 := ih (fun j => h (j + 1))
    rw [qn_cons, h0, h1]
theorem qn_take_of {ws : List Nat} {m : Nat} (h : ∀ j, m ≤ j → ws.getD j 0 = 0) : qn (ws.take m) = qn ws := by
  have h1 : qn (ws.drop m) = 0 := qn_zero (fun j => by
    rw [List.getD_eq_getElem?_getD, List.getElem?_drop, ← List.getD_eq_getElem?_getD]; exact h (m + j) (by omega))
  have h2 := qn_append (ws.take m) (ws.drop m)
  rw [List.take_append_drop, h1, Nat.mul_zero, Nat.add_zero] at h2
  exact h2.symm
theorem qn_split (ws : List Nat) (k : Nat) (hk : k < ws.length) : qn ws = qn (ws.take k) + 18446744073709551616 ^ k * (ws.getD k 0 + 18446744073709551616 * qn (ws.drop (k + 1))) := by
  have h2 := qn_append (ws.take k) (ws.drop k)
  rw [List.take_append_drop, List.length_take, Nat.min_eq_left (by omega), List.drop_eq_getElem_cons hk, qn_cons] at h2
  rw [h2]
  congr 3
  simp [List.getD_eq_getElem?_getD, hk]
theorem qn_take_succ (ws : List Nat) (k : Nat) (hk : k < ws.length) : qn (ws.take (k + 1)) = qn (ws.take k) + 18446744073709551616 ^ k * ws.getD k 0 := by
  rw [List.take_succ_eq_append_getElem hk, qn_append, List.length_take, Nat.min_eq_left (by omega)]
  congr 2
  simp [qn, List.getD_eq_getElem?_getD, hk]
/-- no nought at the end -/
def trimQ (ws : List Nat) : Prop := 0 < ws.length → ws.getD (ws.length - 1) 0 ≠ 0
theorem qn_ge {ws : List Nat} (ht : trimQ ws) (h0 : 0 < ws.length) : 18446744073709551616 ^ (ws.length - 1) ≤ qn ws := by
  have h := qn_split ws (ws.length - 1) (by omega)
  have h1 := ht h0
  have h2 : 1 ≤ ws.getD (ws.length - 1) 0 := by omega
  rw [h]
  have : 18446744073709551616 ^ (ws.length - 1) * 1 ≤ 18446744073709551616 ^ (ws.length - 1) * (ws.getD (ws.length - 1) 0 + 18446744073709551616 * qn (ws.drop (ws.length - 1 + 1))) := Nat.mul_le_mul_left _ (by omega)
  omega
theorem qn_pos {ws : List Nat} (ht : trimQ ws) : qn ws = 0 ↔ ws.length = 0 := by
  constructor
  · intro h
    rcases Nat.eq_zero_or_pos ws.length with h0 | h0
    · exact h0
    · have := qn_ge ht h0
      have := Nat.pow_pos (n := ws.length - 1) (show 0 < 18446744073709551616 by omega)
      omega
  · intro h
    rw [List.length_eq_zero_iff.1 h]; rfl
theorem cmq_len {a b : List Nat} (ha : okQ a) (htb : trimQ b) (h : a.length < b.length) : qn a < qn b := by
  have h1 := qn_lt ha
  have h2 := qn_ge htb (by omega)
  have h3 : 18446744073709551616 ^ a.length ≤ 18446744073709551616 ^ (b.length - 1) := Nat.pow_le_pow_right (by omega) (by omega)
  omega
theorem cmq_at {a b : List Nat} (ha : okQ a) (hl : a.length = b.length) {i : Nat} (hi : i < a.length) (hd : a.drop (i + 1) = b.drop (i + 1)) (h : a.getD i 0 < b.getD i 0) : qn a < qn b := by
  have h1 := qn_split a i hi
  have h2 := qn_split b i (by omega)
  have h3 := qn_lt (okQ_take ha i)
  rw [List.length_take, Nat.min_eq_left (by omega)] at h3
  rw [h1, h2, hd]
  generalize qn (b.drop (i + 1)) = t at *
  generalize a.getD i 0 = x at *
  generalize b.getD i 0 = y at *
  have h4 : 18446744073709551616 ^ i * (x + 18446744073709551616 * t) + 18446744073709551616 ^ i ≤ 18446744073709551616 ^ i * (y + 18446744073709551616 * t) := by
    rw [← Nat.mul_succ]; exact Nat.mul_le_mul_left _ (by omega)
  omega

end Go.Proofs.YtmpkcioeodlbcaaGreatDoor
namespace Go.Proofs.YtmpkcioeodlbcaaGreatDoor
open RowKit
theorem ret1i {a b : Int} (h : a = b) : Ending.returned (.int .i64 a) = .returned (.int .i64 b) := by rw [h]
end Go.Proofs.YtmpkcioeodlbcaaGreatDoor
namespace Go.Proofs.YtmpkcioeodlbcaaGreatDoor
open RowKit
theorem info_parts3 {P : Program} {e : TypeId} {z : Value} {s b : Nat} (h : (P.info? e).map (fun i => (i.zero, i.size, i.bytes)) = some (some z, s, b)) : ∃ i, P.info? e = some i ∧ i.zero = some z ∧ i.size = s ∧ i.bytes = b := by
  obtain ⟨i, h1, h2⟩ := Option.map_eq_some_iff.1 h
  simp only [Prod.mk.injEq] at h2
  exact ⟨i, h1, h2.1, h2.2.1, h2.2.2⟩
theorem below_drewN' {n : Nat} {w w' : World} (h : Below n w w') (k : Nat) : Below n w (w'.drewN k) := by
  obtain ⟨h1, h2, h3, h4, h5⟩ := h
  exact ⟨h1, h2, h3, h4, h5⟩
end Go.Proofs.YtmpkcioeodlbcaaGreatDoor
namespace Go.Proofs.YtmpkcioeodlbcaaGreatDoor
open RowKit
theorem Tryz.info64 : (Tryz.prog.info? 47).map (fun i => (i.zero, i.size, i.bytes)) = some (some (.int .u64 0), 1, 8) := by kernel_rfl
/-- all blocks but those of S are as they were -/
structure Only (S : Nat → Prop) (w w' : World) : Prop where
  os : w'.os = w.os
  tape : w'.tape = w.tape
  output : w'.output = w.output
  size : w.heap.size ≤ w'.heap.size
  block : ∀ k, k < w.heap.size → ¬ S k → w'.heap[k]? = w.heap[k]?
theorem Only.refl (S : Nat → Prop) (w : World) : Only S w w := ⟨rfl, rfl, rfl, Nat.le_refl _, fun _ _ _ => rfl⟩
theorem Only.trans {S : Nat → Prop} {a b c : World} (h : Only S a b) (k : Only S b c) : Only S a c :=
  ⟨k.os.trans h.os, k.tape.trans h.tape, k.output.trans h.output, Nat.le_trans h.size k.size, fun i hi hs => (k.block i (Nat.lt_of_lt_of_le hi h.size) hs).trans (h.block i hi hs)⟩
/-- what is turned behind may be new -/
theorem Only.next {S T : Nat → Prop} {a b c : World} (h : Only S a b) (k : Only T b c) (ht : ∀ i, T i → S i ∨ a.heap.size ≤ i) : Only S a c :=
  ⟨k.os.trans h.os, k.tape.trans h.tape, k.output.trans h.output, Nat.le_trans h.size k.size, fun i hi hs => (k.block i (Nat.lt_of_lt_of_le hi h.size) (fun x => (ht i x).elim hs (fun y => by omega))).trans (h.block i hi hs)⟩
theorem Only.mono {S T : Nat → Prop} {a b : World} (h : Only S a b) (ht : ∀ i, i < a.heap.size → S i → T i) : Only T a b :=
  ⟨h.os, h.tape, h.output, h.size, fun i hi hs => h.block i hi (fun x => hs (ht i hi x))⟩
theorem Only.alloc {S : Nat → Prop} {a b : World} (h : Only S a b) (c : Obj) : Only S a (b.alloc c) :=
  ⟨h.os, h.tape, h.output, Nat.le_trans h.size (by simp), fun i hi hs => by rw [← h.block i hi hs]; exact Below.heap_alloc _ _ _ (Nat.lt_of_lt_of_le hi h.size)⟩
theorem Only.drewN {S : Nat → Prop} {a b : World} (h : Only S a b) (n : Nat) : Only S a (b.drewN n) := ⟨h.os, h.tape, h.output, h.size, h.block⟩
theorem Only.set {S : Nat → Prop} {a b : World} (h : Only S a b) (p : Addr) (x : Value) (hp : S p.block ∨ a.heap.size ≤ p.block) : Only S a (b.setCell p x) :=
  ⟨h.os, h.tape, h.output, by simpa using h.size, fun i hi hs => by rw [← h.block i hi hs]; exact Below.heap_setCell _ _ _ _ (fun e => by subst e; rcases hp with y | y; exact hs y; omega)⟩
theorem Only.below {S : Nat → Prop} {a b : World} (h : Only S a b) (B : Nat) (hB : B ≤ a.heap.size) (hs : ∀ i, S i → B ≤ i) : Below B a b :=
  ⟨h.os, h.tape, h.output, h.size, fun i hi => h.block i (by omega) (fun x => by have := hs i x; omega)⟩
theorem Only.of_below {S : Nat → Prop} {a b : World} (h : Below a.heap.size a b) : Only S a b :=
  ⟨h.os, h.tape, h.output, h.size, fun i hi _ => h.block i hi⟩
theorem Only.grown {S : Nat → Prop} {a b c : World} {r : Option Nat} (h : Only S a b) (k : b.grownBy c r) (hr : ∀ i, r = some i → S i ∨ a.heap.size ≤ i) : Only S a c :=
  ⟨k.os.trans h.os, k.tape.trans h.tape, k.output.trans h.output, Nat.le_trans h.size k.size, fun i hi hs => (k.block i (Nat.lt_of_lt_of_le hi h.size) (fun e => by rcases hr i e.symm with y | y; exact hs y; omega)).trans (h.block i hi hs)⟩
/-- words as values -/
def qv (ws : List Nat) : List Value := ws.map fun x => .int .u64 ((x : Nat) : Int)
theorem qv_len (ws : List Nat) : (qv ws).length = ws.length := by simp [qv]
theorem qv_get (ws : List Nat) (j : Nat) (hj : j < ws.length) : (qv ws)[j]? = some (.int .u64 ((ws.getD j 0 : Nat) : Int)) := by
  unfold qv; rw [List.getElem?_map]; simp [List.getD_eq_getElem?_getD, hj]
theorem qv_set (ws : List Nat) (j x : Nat) : (qv ws).set j (.int .u64 ((x : Nat) : Int)) = qv (ws.set j x) := by
  unfold qv; rw [List.map_set]
theorem qv_snoc (os : List Nat) (x : Nat) : qv os ++ [.int .u64 ((x : Nat) : Int)] = qv (os ++ [x]) := by simp [qv]
/-- a whole number in memory of its own -/
def Wh (w : World) (base : Nat) (v : Value) (z L : Nat) : Prop := ∃ ws, w.ownsRow base 47 1 v ws.length (qv ws) ∧ okQ ws ∧ trimQ ws ∧ qn ws = z ∧ ws.length ≤ L
def Ob (v : Value) : Nat → Prop := fun k => v.ownBlock = some k
theorem ownsRow_only {w w' : World} {base n : Nat} {e : TypeId} {size : Nat} {v : Value} {xs : List Value} (h : w.ownsRow base e size v n xs) {S : Nat → Prop} (ho : Only S w w') (hs : ∀ k, Ob v k → ¬ S k) : w'.ownsRow base e size v n xs := by
  refine ⟨h.1, ?_⟩
  rcases h.2 with h1 | ⟨g, cap, cur, hv, hb, hg, h3⟩
  · exact .inl h1
  · refine .inr ⟨g, cap, cur, hv, hb, ?_, h3⟩
    rw [ho.block g (Array.getElem?_eq_some_iff.1 hg).1 (hs g (by subst hv; rfl))]; exact hg
theorem Wh.only {w w' : World} {base z L : Nat} {v : Value} (h : Wh w base v z L) {S : Nat → Prop} (ho : Only S w w') (hs : ∀ k, Ob v k → ¬ S k) : Wh w' base v z L := by
  obtain ⟨ws, h1, h2⟩ := h
  exact ⟨ws, ownsRow_only h1 ho hs, h2⟩
theorem Wh.mono {w : World} {base z L L' : Nat} {v : Value} (h : Wh w base v z L) (hl : L ≤ L') : Wh w base v z L' := by
  obtain ⟨ws, h1, h2, h3, h4, h5⟩ := h
  exact ⟨ws, h1, h2, h3, h4, by omega⟩
theorem Wh.lt {w : World} {base z L k : Nat} {v : Value} (h : Wh w base v z L) (hk : Ob v k) : k < w.heap.size ∧ base ≤ k := by
  obtain ⟨ws, h1, _⟩ := h
  rcases h1.2 with ⟨hv, _⟩ | ⟨g, cap, cur, hv, hb, hg, _⟩
  · subst hv; simp [Ob, Value.ownBlock] at hk
  · subst hv; simp [Ob, Value.ownBlock] at hk; subst hk; exact ⟨(Array.getElem?_eq_some_iff.1 hg).1, hb⟩
theorem Wh.nil (w : World) (base L : Nat) : Wh w base (.slice none 0 0) 0 L := ⟨[], World.ownsRow_nil _ _ _ _, fun x hx => by simp at hx, fun h => by simp at h, rfl, Nat.zero_le _⟩

theorem maskN (a : Nat) (ha : a < 18446744073709551616) : bits .and .u64 (a : Int) 4294967295 = ((a % 4294967296 : Nat) : Int) := by
  have h := bits_and_u64_nat a 4294967295 ha (by omega)
  have e : a &&& 4294967295 = a % 4294967296 := Nat.and_two_pow_sub_one_eq_mod a 32
  rw [e] at h
  exact h
theorem divN (a : Nat) : (a : Int) / 4294967296 = ((a / 4294967296 : Nat) : Int) := by omega
theorem mulN (a b : Nat) : (a : Int) * (b : Int) = ((a * b : Nat) : Int) := (Int.natCast_mul a b).symm
theorem addN (a b : Nat) : (a : Int) + (b : Int) = ((a + b : Nat) : Int) := (Int.natCast_add a b).symm
theorem wrapN (a : Nat) (ha : a < 18446744073709551616) : IntKind.u64.wrap (a : Int) = (a : Int) := by rw [IntKind.wrap_u64]; omega
theorem wrapM (a : Nat) : IntKind.u64.wrap (a : Int) = ((a % 18446744073709551616 : Nat) : Int) := by rw [IntKind.wrap_u64]; omega
set_option maxHeartbeats 1000000 in
theorem mul64_any (x y : Nat) (hx : x < 18446744073709551616) (hy : y < 18446744073709551616) (w : World) :
    Calls Tryz.prog 230 #[.int .u64 x, .int .u64 y] w fun e w' => e = .returned (.tuple #[.int .u64 ((x * y / 18446744073709551616 : Nat) : Int), .int .u64 ((x * y % 18446744073709551616 : Nat) : Int)]) ∧ w' = w := by
  obtain ⟨bd, bt, bw, hhi⟩ := Lib.mul64_hi x y hx hy
  have ba := Lib.half_mul_le (a := x / 4294967296) (b := y / 4294967296) (by omega) (by omega)
  have bb := Lib.half_mul_le (a := x / 4294967296) (b := y % 4294967296) (by omega) (by omega)
  have bc := Lib.half_mul_le (a := x % 4294967296) (b := y / 4294967296) (by omega) (by omega)
  have ba' : x / 4294967296 * (y / 4294967296) < 18446744073709551616 := by omega
  have bb' : x / 4294967296 * (y % 4294967296) < 18446744073709551616 := by omega
  have bc' : x % 4294967296 * (y / 4294967296) < 18446744073709551616 := by omega
  have bh1 : x / 4294967296 * (y / 4294967296) + (x / 4294967296 * (y % 4294967296) + x % 4294967296 * (y % 4294967296) / 4294967296) / 4294967296 < 18446744073709551616 := by omega
  have bh : x / 4294967296 * (y / 4294967296) + (x / 4294967296 * (y % 4294967296) + x % 4294967296 * (y % 4294967296) / 4294967296) / 4294967296 + ((x / 4294967296 * (y % 4294967296) + x % 4294967296 * (y % 4294967296) / 4294967296) % 4294967296 + x % 4294967296 * (y / 4294967296)) / 4294967296 < 18446744073709551616 := by omega
  go_enter Tryz.func230, Tryz.ntmps230
  go_wp2
  simp only [maskN x hx, maskN y hy, divN, mulN, addN, wrapN _ bd, wrapN _ bb', wrapN _ bt, maskN _ bt, wrapN _ bc', wrapN _ bw, wrapN _ ba', wrapN _ bh1, wrapN _ bh, wrapM (x * y)]
  rw [hhi]
  go_ret2
  exact ⟨rfl, rfl⟩
theorem add64_any (x y : Nat) (w : World) : (callFunc 289 #[.int .u64 x, .int .u64 y, .int .u64 0]).run Tryz.prog w =
    .ok (.value (.tuple #[.int .u64 (((x + y) % 18446744073709551616 : Nat) : Int), .int .u64 (((x + y) / 18446744073709551616 : Nat) : Int)])) w := by
  rw [run_callFunc_extern Tryz.func289 (by kernel_rfl) (by kernel_rfl) (by kernel_rfl) (e := add64Entry) (by kernel_rfl), run_add64 x y 0 (by omega) (by omega) (by omega) (by omega)]
  simp only [Result.andThen]
  congr 5 <;> omega
def sub64E : Array Value → Sem Value := fun args => do
  let (x, y, b) ← Extern.MathBitsCarry.three "Sub64" args
  pure (Extern.MathBitsCarry.pair ((x + Extern.MathBitsCarry.m64 - y - b) % Extern.MathBitsCarry.m64) (if x < y + b then 1 else 0))
theorem run_sub64E {P : Program} (x y b : Nat) (hb : b ≤ 1) (w : World) :
    (sub64E #[.int .u64 x, .int .u64 y, .int .u64 b]).run P w =
      .ok (.tuple #[.int .u64 (((x + 18446744073709551616 - y - b) % 18446744073709551616 : Nat) : Int), .int .u64 ((if x < y + b then 1 else 0 : Nat) : Int)]) w := by
  have : b = 0 ∨ b = 1 := by omega
  rcases this with rfl | rfl <;> rfl
/-- the borrow -/
def bro (x y b : Nat) : Nat := if x < y + b then 1 else 0
theorem sub64_any (x y b : Nat) (hb : b ≤ 1) (w : World) : (callFunc 293 #[.int .u64 x, .int .u64 y, .int .u64 b]).run Tryz.prog w =
    .ok (.value (.tuple #[.int .u64 (((x + 18446744073709551616 - y - b) % 18446744073709551616 : Nat) : Int), .int .u64 ((bro x y b : Nat) : Int)])) w := by
  rw [run_callFunc_extern Tryz.func293 (by kernel_rfl) (by kernel_rfl) (by kernel_rfl) (e := sub64E) (by kernel_rfl), run_sub64E x y b hb]
  rfl

end Go.Proofs.YtmpkcioeodlbcaaGreatDoor
