/-
  Several texts in one: Qs Qt Qu Qv Qw Qx Qy Qxp Qpf Qdc.
-/
import Derived.Test.YtmpkcioeodlbcaaGreatDoorK15
import Derived.Laws.Cover3
namespace Go.Proofs.YtmpkcioeodlbcaaGreatDoor
open RowKit
theorem run_nil64 (a : Addr) (n c : Nat) (w : World) : (binOp BinOp.eql 288 (Value.slice (some a) n c) (Value.slice none 0 0)).run Tryz.prog w = .ok (.bool false) w := by
  simp [binOp, run_equal_slice_nil w 288 47 (some a) n c Tryz.underlying288]
set_option maxRecDepth 20000 in
set_option maxHeartbeats 1000000 in
theorem qclone_any {v : Value} {base z L : Nat} (w : World) (hv : Wh w base v z L) (hz : 0 < z) (hL : L ≤ 200000) :
    Calls Tryz.prog 294 #[v] w fun e w' => ∃ v', e = .returned v' ∧ Wh w' w.heap.size v' z L ∧ Below w.heap.size w w' := by
  obtain ⟨i0, hi0, hz0, hz1, hz2⟩ := info_parts3 Tryz.info64
  obtain ⟨ws, hoa, ka, ta, nu, hla⟩ := hv
  subst nu
  obtain ⟨ao, ca, rfl, hc, hca, hsh⟩ := own_rd hoa
  have hne : ws.length ≠ 0 := fun h => by have := (qn_pos ta).2 h; omega
  obtain ⟨g, rfl⟩ : ∃ g, ao = some ⟨g, 0, none⟩ := by
    rcases hsh with h | h
    · omega
    · exact h
  have hl0 : (w.alloc (.cells #[] 47)).ownsRow w.heap.size 47 1 (.slice (some ⟨w.heap.size, 0, none⟩) 0 0) 0 [] := World.ownsRow_lit w #[] 0 (Nat.le_refl _) (by unfold maxLen; omega) rfl
  have hnil := run_nil64 ⟨g, 0, none⟩ ws.length ca
  go_enter Tryz.func294, Tryz.ntmps294
  go_wp2_with (at_builtin; refine wpList_append_new _ rfl _ _ 288 rfl w.heap.size 47 i0 (.int .u64 0) 8 Tryz.underlying288 hi0 hz0 hz1 hz2 rfl _ 0 [] rfl hl0 ⟨g, 0, none⟩ ws.length ca (qv ws) rfl (by rw [qv_len, Nat.mul_one]) ((hoa.alloc _).cells (g := g) rfl) ?c2 (by unfold maxLen; omega) (by omega) (by simp) ?_)
  case c2 =>
    intro u hu
    unfold qv at hu
    obtain ⟨y, _, rfl⟩ := List.mem_map.1 hu
    rfl
  · intro v' w1 hown1 hgrow hfr
    have B : Below w.heap.size w w1 := ((Below.refl _ w).alloc (Nat.le_refl _) _).grown hgrow (by simp) (fun j hj => by simp [Value.ownBlock] at hj; omega)
    have R : w1.ownsRow w.heap.size 47 1 v' ws.length (qv ws) := by simpa using hown1
    clear hown1 hgrow hfr
    go_wp2
    go_ret
    exact ⟨_, rfl, ⟨ws, R, ka, ta, rfl, hla⟩, B⟩
theorem undrewB {n : Nat} {w w' : World} (h : Below n w.drew w') : Below n w w' := ⟨h.os, h.tape, h.output, h.size, h.block⟩
theorem lack_ap {w w1 : World} {base r L L' z : Nat} {v1 vr : Value} (k1 : Wh w1 w.heap.size v1 z L') (h : Wh w base vr r L) : ∀ k, Ob v1 k → ¬ Ob vr k := fun k hk hk2 => by
  have q1 := (k1.lt hk).2
  have q2 := (h.lt hk2).1
  omega
theorem lack_wr {w w1 : World} {base r L : Nat} {vr : Value} (k2 : Below w.heap.size w w1) (h : Wh w base vr r L) : Wh w1 base vr r L := h.only (Only.of_below (S := fun _ => False) k2) (fun _ _ => id)
set_option maxRecDepth 10000 in
set_option maxHeartbeats 1000000 in
theorem qlack_any {w : World} {p base r o L : Nat} {e : TypeId} {cur : Array Value} {vr vo : Value} (h : Rt w p e cur base vr vo r o L) (hr : r ≤ o) (ho : 0 < o) (hL : L ≤ 200000) :
    Calls Tryz.prog 267 #[.pointer (some ⟨p, 0, none⟩)] w fun e' w' => ∃ v', e' = .returned v' ∧ Wh w' w.heap.size v' (o - r) L ∧ Below w.heap.size w w' := by
  have c0 := h.cell0
  have c1 := h.cell1
  have hp := h.plt
  go_enter Tryz.func267, Tryz.ntmps267
  go_wp2_with fail
  go_region_held_law (fun W => W.cell? ⟨p, 0, none⟩ = some vr ∧ W.cell? ⟨p, 1, none⟩ = some vo)
    (first | with_reducible exact D1 | with_reducible exact D2 | go_keep)
    (first
    | (go_at_call 294; (with_reducible refine (qclone_any _ (h.wo.hp (hp_drew _)) ho hL).mono ?_); rintro e1 w1 ⟨v1, rfl, k1, k2⟩; have k2 := undrewB k2; have W1 := lack_wr k2 h.wr; have AP := lack_ap k1 h.wr; have D1 : w1.cell? ⟨p, 0, none⟩ = some vr ∧ w1.cell? ⟨p, 1, none⟩ = some vo := ⟨(k2.cell (by exact hp)).trans c0, (k2.cell (by exact hp)).trans c1⟩)
    | (go_at_call 266; (with_reducible refine (qminus_any w1 k1 W1 hr AP hL).mono ?_); rintro e2 w2 ⟨v2, rfl, j1, j2, j3⟩; have B2 : Below w.heap.size w w2 := k2.trans (j2.below _ k2.size (fun i hi => (k1.lt hi).2)); have D2 : w2.cell? ⟨p, 0, none⟩ = some vr ∧ w2.cell? ⟨p, 1, none⟩ = some vo := ⟨(B2.cell (by exact hp)).trans c0, (B2.cell (by exact hp)).trans c1⟩))
  go_wp2
  go_ret
  exact ⟨_, rfl, j1, B2⟩

end Go.Proofs.YtmpkcioeodlbcaaGreatDoor
namespace Go.Proofs.YtmpkcioeodlbcaaGreatDoor
open RowKit
theorem Rt.hp {w w' : World} {p base r o L : Nat} {e : TypeId} {cur : Array Value} {vr vo : Value} (h : Rt w p e cur base vr vo r o L) (hh : w'.heap = w.heap) : Rt w' p e cur base vr vo r o L := ⟨hh ▸ h.blk, h.c0, h.c1, h.wr.hp hh, h.wo.hp hh, h.ap, h.pr, h.po, hh ▸ h.bs⟩
/-- is 1 nearer, or as near, the digit ahead being odd? -/
def rUp (r o d : Nat) : Bool := decide (o < 2 * r ∨ (o = 2 * r ∧ d % 2 = 1))
theorem cm_cases {r o : Nat} (hr : r ≤ o) : (o < 2 * r ∧ cmI r (o - r) = 1) ∨ (o = 2 * r ∧ cmI r (o - r) = 0) ∨ (2 * r < o ∧ cmI r (o - r) = -1) := by
  unfold cmI
  rcases Nat.lt_trichotomy o (2 * r) with h | h | h
  · exact .inl ⟨h, by rw [if_neg (by omega), if_neg (by omega)]⟩
  · exact .inr (.inl ⟨h, by rw [if_neg (by omega), if_pos (by omega)]⟩)
  · exact .inr (.inr ⟨h, by rw [if_pos (by omega)]⟩)
set_option maxRecDepth 10000 in
set_option maxHeartbeats 1000000 in
theorem qround_any {w : World} {p base r o L d : Nat} {e : TypeId} {cur : Array Value} {vr vo : Value} (h : Rt w p e cur base vr vo r o L) (hr : r ≤ o) (ho : 0 < o) (hL : L ≤ 200000) (hd : d < 18446744073709551616) :
    Calls Tryz.prog 245 #[.pointer (some ⟨p, 0, none⟩), .int .u64 d] w fun e' w' => e' = .returned (.bool (rUp r o d)) ∧ Below w.heap.size w w' := by
  have c0 := h.cell0
  have hp := h.plt
  obtain ⟨x, hx⟩ : ∃ x, x = cmI r (o - r) := ⟨_, rfl⟩
  have HX : Hid (cmI r (o - r) = x) := hx.symm
  have hcs := cm_cases hr
  rw [← hx] at hcs
  clear hx
  have hm2 : (d : Int).tmod 2 = ((d % 2 : Nat) : Int) := by rw [Int.tmod_eq_emod_of_nonneg (by omega)]; omega
  obtain ⟨m, hm⟩ : ∃ m, m = d % 2 := ⟨_, rfl⟩
  rw [← hm] at hm2
  have HM : Hid (m = d % 2) := hm
  have hm1 : m < 2 := by omega
  clear hm
  rcases hcs with ⟨q, rfl⟩ | ⟨q, rfl⟩ | ⟨q, rfl⟩
  all_goals
    go_enter Tryz.func245, Tryz.ntmps245
    go_wp2_with fail
    go_region_held_law (fun W => W.cell? ⟨p, 0, none⟩ = some vr)
      (first | with_reducible exact D1 | with_reducible exact D2 | go_keep)
      (first
      | (go_at_call 267; (with_reducible refine (qlack_any (h.hp (hp_drew _)) hr ho hL).mono ?_); rintro e1 w1 ⟨v1, rfl, k1, k2⟩; have k2 := undrewB k2; have W1 := lack_wr k2 h.wr; have D1 : w1.cell? ⟨p, 0, none⟩ = some vr := (k2.cell (by exact hp)).trans c0)
      | (go_at_call 265; (with_reducible refine (qcmp_any w1 W1 k1 hL hL).mono ?_); rintro e2 w2 ⟨n2, rfl, rfl⟩; rw [HX.out]; have D2 : (w1.drewN n2).cell? ⟨p, 0, none⟩ = some vr := D1))
    go_wp2
  · go_ret
    exact ⟨congrArg Ending.returned (congrArg Value.bool (by unfold rUp; rw [decide_eq_true (.inl q)])), below_drewN' k2 _⟩
  · go_ret
    refine ⟨congrArg Ending.returned (congrArg Value.bool ?_), below_drewN' k2 _⟩
    have hm := HM.out
    unfold rUp
    rcases (by omega : m = 0 ∨ m = 1) with h0 | h0
    · rw [h0, decide_eq_false (by omega)]; rfl
    · rw [h0, decide_eq_true (.inr ⟨q, by omega⟩)]; rfl
  · go_ret
    exact ⟨congrArg Ending.returned (congrArg Value.bool (by unfold rUp; rw [decide_eq_false (by omega)])), below_drewN' k2 _⟩

end Go.Proofs.YtmpkcioeodlbcaaGreatDoor
namespace Go.Proofs.YtmpkcioeodlbcaaGreatDoor
open RowKit
def E21 : Nat := 1021
/-- r' by o' is r by o, divided by two to the power D - 1021; it is below 1, and from a half on, unless D is 0 -/
def Good (r o r' o' D : Nat) : Prop := r' < o' ∧ (o' ≤ 2 * r' ∨ D = 0) ∧ r' * o * 2 ^ D = r * o' * 2 ^ E21 ∧ 0 < r'
theorem nb_mul {r n : Nat} (h : 0 < r) : nbits (r * 2 ^ n) = nbits r + n := by
  have a := nbits_lt r
  have b := nbits_ge h
  apply nbits_eq
  · rw [Nat.pow_add, ← Nat.mul_assoc]; exact Nat.mul_le_mul_right _ b
  · rw [Nat.pow_add]; exact Nat.mul_lt_mul_of_pos_right a (Nat.two_pow_pos n)
theorem nb_near {a b : Nat} (ha : 0 < a) (hb : 0 < b) (h : nbits a = nbits b) : a < 2 * b ∧ b < 2 * a := by
  have a1 := nbits_lt a
  have a2 := nbits_ge ha
  have b1 := nbits_lt b
  have b2 := nbits_ge hb
  rw [h] at a1 a2
  omega
theorem nb_less {a b : Nat} (h : nbits a < nbits b) : a < b := by
  have a1 := nbits_lt a
  have hb : 0 < b := by
    rcases Nat.eq_zero_or_pos b with h0 | h0
    · subst h0; rw [nbits_zero] at h; omega
    · exact h0
  have b2 := nbits_ge hb
  have : 2 ^ (nbits a + 1) ≤ 2 ^ nbits b := Nat.pow_le_pow_right (by decide) h
  rw [Nat.pow_succ] at this
  omega
theorem bl_A {r o n : Nat} (hr : 0 < r) (ho : 0 < o) (hn : n = min (nbits o - nbits r) 1021) (hlt : nbits r < nbits o) :
    (r * 2 ^ n < o → Good r o (r * 2 ^ n) o (1021 - n)) ∧ (o ≤ r * 2 ^ n → Good r o (r * 2 ^ n) (o * 2 + 0) (1021 - n + 1)) := by
  have h1 := nb_mul (n := n) hr
  have hp : 0 < r * 2 ^ n := Nat.mul_pos hr (Nat.two_pow_pos n)
  have hn2 : n ≤ 1021 := by omega
  have e1 : 2 ^ n * 2 ^ (1021 - n) = 2 ^ E21 := by rw [← Nat.pow_add]; congr 1; unfold E21; omega
  rcases Nat.lt_or_ge 1021 (nbits o - nbits r) with h2 | h2
  · have h3 : r * 2 ^ n < o := nb_less (by rw [h1]; omega)
    have h4 : n = 1021 := by omega
    refine ⟨fun _ => ⟨h3, .inr (by omega), ?_, hp⟩, fun h => absurd h (by omega)⟩
    rw [← e1, Nat.mul_right_comm r (2 ^ n), Nat.mul_assoc (r * o)]
  · obtain ⟨h3, h4⟩ := nb_near hp ho (by rw [h1]; omega)
    refine ⟨fun h => ⟨h, .inl (by omega), ?_, hp⟩, fun h => ⟨by omega, .inl (by omega), ?_, hp⟩⟩
    · rw [← e1, Nat.mul_right_comm r (2 ^ n), Nat.mul_assoc (r * o)]
    · rw [← e1, Nat.pow_succ, Nat.add_zero]
      generalize 2 ^ (1021 - n) = y
      generalize 2 ^ n = x
      simp only [Nat.mul_comm, Nat.mul_left_comm, Nat.mul_assoc]
theorem bl_B {r o n : Nat} (hr : 0 < r) (ho : 0 < o) (hn : n = nbits r - nbits o) (hle : nbits o ≤ nbits r) :
    (r < o * 2 ^ n → Good r o r (o * 2 ^ n) (1021 + n)) ∧ (o * 2 ^ n ≤ r → Good r o r (o * 2 ^ n * 2 + 0) (1021 + n + 1)) := by
  have h1 := nb_mul (n := n) ho
  have hp : 0 < o * 2 ^ n := Nat.mul_pos ho (Nat.two_pow_pos n)
  obtain ⟨h3, h4⟩ := nb_near hp hr (by rw [h1]; omega)
  have e1 : 2 ^ (1021 + n) = 2 ^ n * 2 ^ E21 := by rw [← Nat.pow_add, Nat.add_comm]; rfl
  refine ⟨fun h => ⟨h, .inl (by omega), ?_, hr⟩, fun h => ⟨by omega, .inl (by omega), ?_, hr⟩⟩
  · rw [e1, ← Nat.mul_assoc, Nat.mul_assoc r]
  · rw [Nat.pow_succ, e1, Nat.add_zero]
    generalize 2 ^ E21 = y
    generalize 2 ^ n = x
    simp only [Nat.mul_comm, Nat.mul_left_comm, Nat.mul_assoc]
/-- the one is turned: all else is as it was -/
theorem Rt.put1 {w w1 : World} {p base r o L o' L' : Nat} {e : TypeId} {cur : Array Value} {vr vo vo' : Value} (h : Rt w p e cur base vr vo r o L) (ho : Only (Ob vo) w w1) (hv : Wh w1 base vo' o' L') (hf : ∀ k, Ob vo' k → Ob vo k ∨ w.heap.size ≤ k) (hL : L ≤ L') :
    Rt (w1.setCell ⟨p, 1, none⟩ vo') p e (cur.setIfInBounds 1 vo') base vr vo' r o' L' ∧ Only (fun k => Ob vo k ∨ k = p) w (w1.setCell ⟨p, 1, none⟩ vo') := by
  have hb1 : w1.heap[p]? = some (.cells cur e (0, 0)) := by rw [ho.block p h.plt h.po]; exact h.blk
  have hpr' : ¬ Ob vo' p := fun hk => by
    rcases hf p hk with h1 | h1
    · exact h.po h1
    · have := h.plt; omega
  have os : Only (fun k => k = p) w1 (w1.setCell ⟨p, 1, none⟩ vo') := (Only.refl _ _).set _ _ (.inl rfl)
  refine ⟨⟨heap_setCell_same w1 p 1 cur e vo' hb1, ?_, ?_, ((h.wr.only ho (fun k hk hk2 => h.ap k hk hk2)).only os (fun k hk hk2 => h.pr (hk2 ▸ hk))).mono hL, hv.only os (fun k hk hk2 => hpr' (hk2 ▸ hk)), fun k hk hk2 => ?_, h.pr, hpr', ?_⟩, (ho.mono (fun i _ hi => .inl hi)).next os (fun i hi => .inl (.inr hi))⟩
  · rw [Array.getElem?_setIfInBounds, if_neg (by decide)]; exact h.c0
  · have hs : 1 < cur.size := (Array.getElem?_eq_some_iff.1 h.c1).1
    simp [hs]
  · rcases hf k hk2 with h1 | h1
    · exact h.ap k hk h1
    · have := (h.wr.lt hk).1; omega
  · have := ho.size
    have := h.bs
    simp; omega

end Go.Proofs.YtmpkcioeodlbcaaGreatDoor
namespace Go.Proofs.YtmpkcioeodlbcaaGreatDoor
open RowKit
theorem Rt.cells {w w1 : World} {p base r o L : Nat} {e : TypeId} {cur : Array Value} {vr vo : Value} (h : Rt w p e cur base vr vo r o L) {S : Nat → Prop} (ho : Only S w w1) (hp : ¬ S p) : w1.cell? ⟨p, 0, none⟩ = some vr ∧ w1.cell? ⟨p, 1, none⟩ = some vo ∧ w1.frozen? ⟨p, 0, none⟩ = false ∧ w1.frozen? ⟨p, 1, none⟩ = false := by
  have hb1 : w1.heap[p]? = some (.cells cur e (0, 0)) := by rw [ho.block p h.plt hp]; exact h.blk
  exact ⟨by rw [cell_of_row w1 p 0 cur e (0, 0) hb1]; exact h.c0, by rw [cell_of_row w1 p 1 cur e (0, 0) hb1]; exact h.c1, frozen_of_row w1 p 0 cur e hb1, frozen_of_row w1 p 1 cur e hb1⟩
theorem Rt.mono' {w : World} {p base r o L L' : Nat} {e : TypeId} {cur : Array Value} {vr vo : Value} (h : Rt w p e cur base vr vo r o L) (hl : L ≤ L') : Rt w p e cur base vr vo r o L' := ⟨h.blk, h.c0, h.c1, h.wr.mono hl, h.wo.mono hl, h.ap, h.pr, h.po, h.bs⟩
set_option maxRecDepth 10000 in
set_option maxHeartbeats 2000000 in
theorem qbelow_any {w : World} {p base r o L : Nat} {e : TypeId} {cur : Array Value} {vr vo : Value} (h : Rt w p e cur base vr vo r o L) (hr : 0 < r) (ho : 0 < o) (hL : L ≤ 1000) :
    Calls Tryz.prog 243 #[.pointer (some ⟨p, 0, none⟩)] w fun e' w' => ∃ D : Nat, e' = .returned (.int .i64 ((D : Int) - 1021)) ∧ D ≤ 1100000 ∧ ∃ cur' vr' vo' r' o', Good r o r' o' D ∧ Rt w' p e cur' base vr' vo' r' o' (2 * L + 20) ∧ Only (fun k => Ob vr k ∨ Ob vo k ∨ k = p) w w' := by
  have c0 := h.cell0
  have c1 := h.cell1
  obtain ⟨lr, hlr⟩ : ∃ lr, lr = nbits r := ⟨_, rfl⟩
  obtain ⟨lo, hlo⟩ : ∃ lo, lo = nbits o := ⟨_, rfl⟩
  have HLR : Hid (nbits r = lr) := hlr.symm
  have HLO : Hid (nbits o = lo) := hlo.symm
  have blr : lr ≤ 64 * L := by
    obtain ⟨ws, _, k, _, hn, hl⟩ := h.wr
    rw [hlr]
    apply nbits_le
    have := qn_lt k
    rw [pow64, hn] at this
    exact Nat.lt_of_lt_of_le this (Nat.pow_le_pow_right (by decide) (by omega))
  have blo : lo ≤ 64 * L := by
    obtain ⟨ws, _, k, _, hn, hl⟩ := h.wo
    rw [hlo]
    apply nbits_le
    have := qn_lt k
    rw [pow64, hn] at this
    exact Nat.lt_of_lt_of_le this (Nat.pow_le_pow_right (by decide) (by omega))
  by_cases hlt : lr < lo
  · obtain ⟨n, hn⟩ : ∃ n, n = min (lo - lr) 1021 := ⟨_, rfl⟩
    have hmax : max ((lr : Int) - (lo : Int)) (-1021) = -(n : Int) := by omega
    have HA : Hid ((r * 2 ^ n < o → Good r o (r * 2 ^ n) o (1021 - n)) ∧ (o ≤ r * 2 ^ n → Good r o (r * 2 ^ n) (o * 2 + 0) (1021 - n + 1))) := bl_A hr ho (by rw [← hlr, ← hlo]; exact hn) (by rw [← hlr, ← hlo]; exact hlt)
    have hn1 : n ≤ 1021 := by omega
    have hn0 : 0 < n := by omega
    clear hlr hlo hn
    go_enter Tryz.func243, Tryz.ntmps243
    go_wp2_with fail
    go_region_held_law (fun W => W.cell? ⟨p, 0, none⟩ = some vr ∧ W.cell? ⟨p, 1, none⟩ = some vo)
      (first | with_reducible exact D1 | with_reducible exact D2 | go_keep)
      (first
      | (go_at_call 263; (with_reducible refine (qlen_any _ (h.wr.hp (by first | exact hp_drew _ | exact hp_drewN _ _)) hr (by omega)).mono ?_); rintro e1 w1 ⟨m1, rfl, rfl⟩; rw [HLR.out])
      | (go_at_call 263; (with_reducible refine (qlen_any _ (h.wo.hp (by first | exact hp_drew _ | exact hp_drewN _ _)) ho (by omega)).mono ?_); rintro e2 w2 ⟨m2, rfl, rfl⟩; rw [HLO.out]))
    have hif : (if IntKind.i64.wrap ((lr : Int) - (lo : Int)) < -1021 then -1021 else IntKind.i64.wrap ((lr : Int) - (lo : Int))) = -(n : Int) := by rw [IntKind.wrap_i64]; split <;> omega
    simp only [hif]
    go_wp2_with (go_at_call 264; (with_reducible refine (qtwos_any _ base _ L n _ (h.wr.hp (by first | exact hp_drew _ | exact hp_drewN _ _)) hr (by omega) (by omega) (by rw [hp_drewN]; exact h.bs)).mono ?_); rintro e5 w1 ⟨v1, rfl, k1, k2, k3⟩; obtain ⟨kc0, kc1, kf0, kf1⟩ := h.cells (k2.hp rfl rfl rfl rfl) h.pr; obtain ⟨sa, sn, sc, rfl⟩ := k1.sl)
    obtain ⟨R1, O1⟩ := h.put (k2.hp rfl rfl rfl rfl) k1 (fun k hk => .inr (k3 k hk)) (by omega)
    have R1 := R1.mono' (L' := 2 * L + 19) (by omega)
    obtain ⟨W, hW⟩ : ∃ W, W = w1.setCell ⟨p, 0, none⟩ (.slice sa sn sc) := ⟨_, rfl⟩
    rw [← hW] at R1 O1 ⊢
    have O2 : Only (fun k => Ob vr k ∨ Ob vo k ∨ k = p) w W := O1.mono (fun i _ hi => by rcases hi with hi | hi; exact .inl hi; exact .inr (.inr hi))
    have d0 := R1.cell0
    have d1 := R1.cell1
    clear hW c0 c1 kc0 kc1 kf0 kf1 O1
    obtain ⟨x, hx⟩ : ∃ x, cmI (r * 2 ^ n) (o) = x := ⟨_, rfl⟩
    have HX : Hid (cmI (r * 2 ^ n) (o) = x) := hx
    by_cases hge : o ≤ r * 2 ^ n
    · have hx0 : 0 ≤ x := by rw [← hx]; exact cmI_ge.2 hge
      have HG := HA.out.2 hge
      clear hx HA
      go_wp2_with fail
      go_region_held_law (fun V => V.cell? ⟨p, 0, none⟩ = some (Value.slice sa sn sc) ∧ V.cell? ⟨p, 1, none⟩ = some vo)
        (first | go_keep)
        (first
        | (go_at_call 265; (with_reducible refine (qcmp_any _ (R1.wr.hp (by first | exact hp_drew _ | exact hp_drewN _ _)) (R1.wo.hp (by first | exact hp_drew _ | exact hp_drewN _ _)) (by omega) (by omega)).mono ?_); rintro e3 w3 ⟨m3, rfl, rfl⟩; rw [HX.out]))
      go_wp2_with (go_at_call 261; (with_reducible refine (qtimesI 2 0 (R1.wo.hp (by first | exact hp_drew _ | exact hp_drewN _ _)) (by omega) (by omega) (by omega) (by omega) (by omega) (by omega) (by rw [hp_drewN]; exact R1.bs)).mono ?_); rintro e4 w4 ⟨v4, rfl, q1, q2, q3⟩; obtain ⟨qc0, qc1, qf0, qf1⟩ := R1.cells (q2.hp rfl rfl rfl rfl) R1.po; obtain ⟨a4, n4, c4, rfl⟩ := q1.sl)
      go_ret
      obtain ⟨R5, O5⟩ := R1.put1 (q2.hp rfl rfl rfl rfl) q1 q3 (Nat.le_succ _)
      refine ⟨1021 - n + 1, congrArg Ending.returned (congrArg (Value.int .i64) (by omega)), by omega, _, _, _, _, _, HG, R5.mono' (by omega), O2.next O5 (fun i hi => ?_)⟩
      rcases hi with hi | hi
      · exact .inl (.inr (.inl hi))
      · exact .inl (.inr (.inr hi))
    · have hx0 : ¬ 0 ≤ x := by rw [← hx]; exact fun h => hge (cmI_ge.1 h)
      have HG := HA.out.1 (by omega)
      clear hx HA
      go_wp2_with fail
      go_region_held_law (fun V => V.cell? ⟨p, 0, none⟩ = some (Value.slice sa sn sc) ∧ V.cell? ⟨p, 1, none⟩ = some vo)
        (first | go_keep)
        (first
        | (go_at_call 265; (with_reducible refine (qcmp_any _ (R1.wr.hp (by first | exact hp_drew _ | exact hp_drewN _ _)) (R1.wo.hp (by first | exact hp_drew _ | exact hp_drewN _ _)) (by omega) (by omega)).mono ?_); rintro e3 w3 ⟨m3, rfl, rfl⟩; rw [HX.out]))
      go_wp2
      go_ret
      exact ⟨1021 - n, congrArg Ending.returned (congrArg (Value.int .i64) (by omega)), by omega, _, _, _, _, _, HG, (R1.mono' (by omega)).drewN _, O2.drewN _⟩
  · obtain ⟨n, hn⟩ : ∃ n, n = lr - lo := ⟨_, rfl⟩
    have HA : Hid ((r < o * 2 ^ n → Good r o r (o * 2 ^ n) (1021 + n)) ∧ (o * 2 ^ n ≤ r → Good r o r (o * 2 ^ n * 2 + 0) (1021 + n + 1))) := bl_B hr ho (by rw [← hlr, ← hlo]; exact hn) (by rw [← hlr, ← hlo]; omega)
    have hn1 : n ≤ 64 * L := by omega
    have HNI : Hid ((lr : Int) - (lo : Int) = n) := by show _ = _; omega
    have hn0 : ¬ (n : Int) < 0 := by omega
    clear hlr hlo hn
    go_enter Tryz.func243, Tryz.ntmps243
    go_wp2_with fail
    go_region_held_law (fun W => W.cell? ⟨p, 0, none⟩ = some vr ∧ W.cell? ⟨p, 1, none⟩ = some vo)
      (first | with_reducible exact D1 | with_reducible exact D2 | go_keep)
      (first
      | (go_at_call 263; (with_reducible refine (qlen_any _ (h.wr.hp (by first | exact hp_drew _ | exact hp_drewN _ _)) hr (by omega)).mono ?_); rintro e1 w1 ⟨m1, rfl, rfl⟩; rw [HLR.out])
      | (go_at_call 263; (with_reducible refine (qlen_any _ (h.wo.hp (by first | exact hp_drew _ | exact hp_drewN _ _)) ho (by omega)).mono ?_); rintro e2 w2 ⟨m2, rfl, rfl⟩; rw [HLO.out]))
    have hif : (if IntKind.i64.wrap ((lr : Int) - (lo : Int)) < -1021 then -1021 else IntKind.i64.wrap ((lr : Int) - (lo : Int))) = (n : Int) := by have := HNI.out; rw [IntKind.wrap_i64]; split <;> omega
    simp only [hif]
    go_wp2_with (go_at_call 264; (with_reducible refine (qtwos_any _ base _ L n _ (h.wo.hp (by first | exact hp_drew _ | exact hp_drewN _ _)) ho (by omega) (by omega) (by rw [hp_drewN]; exact h.bs)).mono ?_); rintro e5 w1 ⟨v1, rfl, k1, k2, k3⟩; obtain ⟨kc0, kc1, kf0, kf1⟩ := h.cells (k2.hp rfl rfl rfl rfl) h.po; obtain ⟨sa, sn, sc, rfl⟩ := k1.sl)
    obtain ⟨R1, O1⟩ := h.put1 (k2.hp rfl rfl rfl rfl) k1 (fun k hk => .inr (k3 k hk)) (by omega)
    have R1 := R1.mono' (L' := 2 * L + 19) (by omega)
    obtain ⟨W, hW⟩ : ∃ W, W = w1.setCell ⟨p, 1, none⟩ (.slice sa sn sc) := ⟨_, rfl⟩
    rw [← hW] at R1 O1 ⊢
    have O2 : Only (fun k => Ob vr k ∨ Ob vo k ∨ k = p) w W := O1.mono (fun i _ hi => by rcases hi with hi | hi; exact .inr (.inl hi); exact .inr (.inr hi))
    have d0 := R1.cell0
    have d1 := R1.cell1
    clear hW c0 c1 kc0 kc1 kf0 kf1 O1
    obtain ⟨x, hx⟩ : ∃ x, cmI (r) (o * 2 ^ n) = x := ⟨_, rfl⟩
    have HX : Hid (cmI (r) (o * 2 ^ n) = x) := hx
    by_cases hge : o * 2 ^ n ≤ r
    · have hx0 : 0 ≤ x := by rw [← hx]; exact cmI_ge.2 hge
      have HG := HA.out.2 hge
      clear hx HA
      go_wp2_with fail
      go_region_held_law (fun V => V.cell? ⟨p, 0, none⟩ = some vr ∧ V.cell? ⟨p, 1, none⟩ = some (Value.slice sa sn sc))
        (first | go_keep)
        (first
        | (go_at_call 265; (with_reducible refine (qcmp_any _ (R1.wr.hp (by first | exact hp_drew _ | exact hp_drewN _ _)) (R1.wo.hp (by first | exact hp_drew _ | exact hp_drewN _ _)) (by omega) (by omega)).mono ?_); rintro e3 w3 ⟨m3, rfl, rfl⟩; rw [HX.out]))
      go_wp2_with (go_at_call 261; (with_reducible refine (qtimesI 2 0 (R1.wo.hp (by first | exact hp_drew _ | exact hp_drewN _ _)) (by omega) (by omega) (by omega) (by omega) (by omega) (by omega) (by rw [hp_drewN]; exact R1.bs)).mono ?_); rintro e4 w4 ⟨v4, rfl, q1, q2, q3⟩; obtain ⟨qc0, qc1, qf0, qf1⟩ := R1.cells (q2.hp rfl rfl rfl rfl) R1.po; obtain ⟨a4, n4, c4, rfl⟩ := q1.sl)
      go_ret
      obtain ⟨R5, O5⟩ := R1.put1 (q2.hp rfl rfl rfl rfl) q1 q3 (Nat.le_succ _)
      refine ⟨1021 + n + 1, congrArg Ending.returned (congrArg (Value.int .i64) (by omega)), by omega, _, _, _, _, _, HG, R5.mono' (by omega), O2.next O5 (fun i hi => ?_)⟩
      rcases hi with hi | hi
      · exact .inr (k3 i hi)
      · exact .inl (.inr (.inr hi))
    · have hx0 : ¬ 0 ≤ x := by rw [← hx]; exact fun h => hge (cmI_ge.1 h)
      have HG := HA.out.1 (by omega)
      clear hx HA
      go_wp2_with fail
      go_region_held_law (fun V => V.cell? ⟨p, 0, none⟩ = some vr ∧ V.cell? ⟨p, 1, none⟩ = some (Value.slice sa sn sc))
        (first | go_keep)
        (first
        | (go_at_call 265; (with_reducible refine (qcmp_any _ (R1.wr.hp (by first | exact hp_drew _ | exact hp_drewN _ _)) (R1.wo.hp (by first | exact hp_drew _ | exact hp_drewN _ _)) (by omega) (by omega)).mono ?_); rintro e3 w3 ⟨m3, rfl, rfl⟩; rw [HX.out]))
      go_wp2
      go_ret
      exact ⟨1021 + n, congrArg Ending.returned (congrArg (Value.int .i64) (by omega)), by omega, _, _, _, _, _, HG, (R1.mono' (by omega)).drewN _, O2.drewN _⟩

end Go.Proofs.YtmpkcioeodlbcaaGreatDoor
namespace Go.Proofs.YtmpkcioeodlbcaaGreatDoor
open RowKit
/-- 53 digits of a ratio below 1, rounded -/
def fr53 (r o : Nat) : Nat := r * 9007199254740992 / o + (rUp (r * 9007199254740992 % o) o (r * 9007199254740992 / o)).toNat
theorem dig_step (A o : Nat) : A * 2 / o = 2 * (A / o) + A % o * 2 / o ∧ A * 2 % o = A % o * 2 % o := by
  have e : A * 2 = A % o * 2 + 2 * (A / o) * o := by
    have := Nat.div_add_mod A o
    have h2 : 2 * (A / o) * o = 2 * (o * (A / o)) := by rw [Nat.mul_assoc, Nat.mul_comm (A / o)]
    omega
  rcases Nat.eq_zero_or_pos o with h | h
  · subst h; simp
  · constructor
    · rw [e, Nat.add_mul_div_right _ _ h, Nat.add_comm]
    · rw [e, Nat.add_mul_mod_self_right]
theorem dig_lt {r o i : Nat} (h : r < o) (hi : i ≤ 53) : r * 2 ^ i / o < 9007199254740992 := by
  have h1 : r * 2 ^ i / o < 2 ^ i := by
    rw [Nat.div_lt_iff_lt_mul (by omega), Nat.mul_comm]
    exact Nat.mul_lt_mul_of_pos_left h (Nat.two_pow_pos i)
  have h2 : 2 ^ i ≤ 2 ^ 53 := Nat.pow_le_pow_right (by decide) hi
  have h3 : (2 : Nat) ^ 53 = 9007199254740992 := by decide
  omega
theorem wh_one (w : World) (base x L : Nat) (hb : base ≤ w.heap.size) (hx : 0 < x) (hx2 : x < 18446744073709551616) (hL : 1 ≤ L) : Wh (w.alloc (.cells #[.int .u64 (x : Int)] 47)) base (.slice (some ⟨w.heap.size, 0, none⟩) 1 1) x L :=
  ⟨[x], World.ownsRow_lit w _ 1 hb (by unfold maxLen; omega) rfl, fun y hy => by simp at hy; omega, fun _ => by simp; omega, by simp [qn], hL⟩
/-- a power of ten, as it is taken -/
def clp (pw : Int) : Int := if pw < -400 then -400 else if 400 < pw then 400 else pw
theorem clp_le (pw : Int) : -400 ≤ clp pw ∧ clp pw ≤ 400 := by unfold clp; split <;> (try split) <;> omega
def pP (z : Nat) (c : Int) : Nat := z * 10 ^ c.toNat
def pQ (c : Int) : Nat := 10 ^ (-c).toNat
theorem qnear_zero (base L : Nat) (v : Value) (pw : Int) (w : World) (hv : Wh w base v 0 L) : Calls Tryz.prog 220 #[v, .int .i64 pw] w fun e w' => e = .returned (.int .u64 0) ∧ w' = w := by
  obtain ⟨ws, h1, h2, h3, h4, h5⟩ := hv
  have hl := (qn_pos h3).1 h4
  obtain ⟨ao, ca, rfl, _⟩ := own_rd h1
  rw [hl]
  go_enter Tryz.func220, Tryz.ntmps220
  go_wp2
  go_ret
  exact ⟨rfl, rfl⟩
theorem qtensI {v : Value} {base z L : Nat} (n : Nat) {N : Int} {w : World} (hv : Wh w base v z L) (hN : N = ((n : Nat) : Int)) (hL : L + n ≤ 100000) (hbase : base ≤ w.heap.size) :
    Calls Tryz.prog 242 #[v, .int .i64 N] w fun e w' => ∃ v', e = .returned v' ∧ Wh w' base v' (z * 10 ^ n) (L + n) ∧ Only (Ob v) w w' ∧ (∀ k, Ob v' k → Ob v k ∨ w.heap.size ≤ k) := by
  subst hN
  exact qtens_any v base z L n w hv hL hbase
set_option maxRecDepth 10000 in
set_option maxHeartbeats 2000000 in
theorem qnear_any (base z L : Nat) (v : Value) (pw : Int) (w : World) (hv : Wh w base v z L) (hz : 0 < z) (hL1 : 1 ≤ L) (hL : L ≤ 100) (hbase : base ≤ w.heap.size) :
    Calls Tryz.prog 220 #[v, .int .i64 pw] w fun e w' => ∃ bw D r' o' : Nat, e = .returned (.int .u64 bw) ∧ Good (pP z (clp pw)) (pQ (clp pw)) r' o' D ∧ (bw : Int) = (((D * 4503599627370496) % 18446744073709551616 + fr53 r' o') % 18446744073709551616 : Nat) ∧ Below base w w' := by
  have hlt : ∀ k, Ob v k → k < w.heap.size := fun k hk => (hv.lt hk).1
  obtain ⟨sa, sn, sc, rfl⟩ := hv.sl
  have hsn : sn ≠ 0 := by
    intro h0
    obtain ⟨ws, h1, h2, h3, h4, h5⟩ := hv
    obtain ⟨ao, ca, he, _⟩ := own_rd h1
    simp only [Value.slice.injEq] at he
    have := (qn_pos h3).2 (by omega)
    omega
  have hsI : ((sn : Int) == 0) = false := by simp; omega
  obtain ⟨c, hc⟩ : ∃ c, c = clp pw := ⟨_, rfl⟩
  have hcb := clp_le pw
  rw [← hc] at hcb ⊢
  obtain ⟨W0, hW0⟩ : ∃ W0, W0 = (w.alloc (.cells #[.int .u64 1] 47)).alloc (.cells #[.slice sa sn sc, .slice (some ⟨w.heap.size, 0, none⟩) 1 1] 318) := ⟨_, rfl⟩
  have OW : Below base w W0 := by rw [hW0]; exact ((Below.refl base w).alloc hbase _).alloc (by simp; omega) _
  have R0 : Rt W0 (w.heap.size + 1) 318 #[.slice sa sn sc, .slice (some ⟨w.heap.size, 0, none⟩) 1 1] base (.slice sa sn sc) (.slice (some ⟨w.heap.size, 0, none⟩) 1 1) z 1 L := by
    rw [hW0]
    refine ⟨?_, rfl, rfl, wh_alloc (wh_alloc hv _) _, wh_alloc (wh_one w base 1 L hbase (by omega) (by omega) hL1) _, fun k hk hk2 => ?_, fun hk => ?_, fun hk => ?_, ?_⟩
    · have := heap_alloc_new (w.alloc (.cells #[.int .u64 1] 47)) (.cells #[.slice sa sn sc, .slice (some ⟨w.heap.size, 0, none⟩) 1 1] 318)
      simpa using this
    · have := hlt k hk; simp [Ob, Value.ownBlock] at hk2; omega
    · have := hlt _ hk; omega
    · simp [Ob, Value.ownBlock] at hk
    · simp; omega
  have c0 := R0.cell0
  have c1 := R0.cell1
  rcases (by omega : pw < -400 ∨ (-400 ≤ pw ∧ pw < 0) ∨ (0 ≤ pw ∧ pw ≤ 400) ∨ 400 < pw) with h1 | h1 | h1 | h1
  · obtain ⟨n, hn⟩ : ∃ n : Nat, n = 400 := ⟨_, rfl⟩
    have hc' : Hid (c = -(n : Int)) := by show _ = _; rw [hc, hn]; unfold clp; rw [if_pos h1]; rfl
    have hn4 : n ≤ 400 := by omega
    have h1I : ¬ (400 : Int) < -400 := by decide
    go_enter Tryz.func220, Tryz.ntmps220
    go_wp2_with fail
    rw [← hW0]
    clear hW0
    go_wp2_with (first
      | (go_at_call 242; (with_reducible refine (qtensI n R0.wo (by omega) (by omega) R0.bs).mono ?_); rintro e1 w1 ⟨v1, rfl, k1, k2, k3⟩; obtain ⟨kc0, kc1, kf0, kf1⟩ := R0.cells k2 R0.po; obtain ⟨s1, s2, s3, rfl⟩ := k1.sl))
    obtain ⟨R1, O1⟩ := R0.put1 k2 k1 k3 (by omega)
    have B1 := OW.trans (O1.below base R0.bs (fun i hi => by rcases hi with hi | hi; exact (R0.wo.lt hi).2; omega))
    obtain ⟨W1, hW1⟩ : ∃ W1, W1 = w1.setCell ⟨w.heap.size + 1, 1, none⟩ (.slice s1 s2 s3) := ⟨_, rfl⟩
    rw [← hW1] at R1 B1 ⊢
    clear hW1 kc0 kc1 kf0 kf1 O1 k1 k2 k3 c0 c1 R0 OW
    go_wp2_with (go_at_call 243; (with_reducible refine (qbelow_any R1 hz (Nat.mul_pos (by omega) (Nat.pow_pos (by omega))) (by omega)).mono ?_); rintro e2 w2 ⟨D, rfl, hD, cur2, vr2, vo2, r2, o2, HG, R2, O2⟩)
    have B2 := B1.trans (O2.below base R1.bs (fun i hi => by rcases hi with hi | hi | hi; exact (R1.wr.lt hi).2; exact (R1.wo.lt hi).2; omega))
    have HG' : Hid (Good (z) (1 * 10 ^ n) r2 o2 D) := HG
    have hro : r2 < o2 := HG.1
    clear HG O2 B1 R1
    go_loopw [7, 32] (fun fv iv wq => ∃ (i f : Nat) (vr : Value) (cur : Array Value), fv = .int .u64 f ∧ iv = .int .i64 i ∧ i ≤ 53 ∧ f = r2 * 2 ^ i / o2 ∧ Rt wq (w.heap.size + 1) 318 cur base vr vo2 (r2 * 2 ^ i % o2) o2 2000 ∧ Below base w wq) (fun _ iv _ => 53 - (intOf iv).toNat)
    case atStart => exact ⟨0, 0, vr2, cur2, rfl, rfl, by omega, by rw [Nat.pow_zero, Nat.mul_one, Nat.div_eq_of_lt hro], by rw [Nat.pow_zero, Nat.mul_one, Nat.mod_eq_of_lt hro]; exact R2.mono' (by omega), B2⟩
    case round =>
      clear R2 B2
      obtain ⟨i, f, vr, cur, rfl, rfl, hi, hf, R, B⟩ := hrel
      have hfl := dig_lt hro hi
      rw [← hf] at hfl
      have HF : Hid (f = r2 * 2 ^ i / o2) := hf
      have hrl : r2 * 2 ^ i % o2 < o2 := Nat.mod_lt _ (by omega)
      have HB : Hid (Below base w wr) := B
      clear hf B
      by_cases hi3 : i < 53
      · have hiI : (i : Int) < 53 := by omega
        go_wp2_with (go_at_call 244; (with_reducible refine (qnext_any R hrl (b := 2) (by omega) (by omega) (by omega) (by omega)).mono ?_); rintro e3 w3 ⟨dd, rfl, hdd', v3, R3, O3, F3⟩; have hdd : Hid (dd = r2 * 2 ^ i % o2 * 2 / o2) := hdd'; clear hdd')
        have B3 := HB.out.trans (O3.below base R.bs (fun i hi => by rcases hi with hi | hi; exact (R.wr.lt hi).2; omega))
        obtain ⟨E1, E2⟩ := dig_step (r2 * 2 ^ i) o2
        have hd2 : dd < 2 := by rw [hdd.out]; exact next_lt hrl (Nat.div_mul_le_self _ _) (by omega)
        rw [Nat.mul_assoc, ← Nat.pow_succ] at E1 E2
        rw [← E2] at R3
        go_roundw
        case rel =>
          refine ⟨i + 1, 2 * f + dd, v3, _, ?_, by go_num, by omega, by rw [E1, HF.out, hdd.out], R3, B3⟩
          first | rfl | (refine congrArg (Value.int .u64) ?_; rw [IntKind.wrap_u64]; omega) | (refine congrArg (Value.int .u64) ?_; omega)
        case measure => simp [intOf]; omega
      · have e53 : i = 53 := by omega
        subst e53
        have hiI : ¬ ((53 : Nat) : Int) < 53 := by omega
        have ho2 : 0 < o2 := by omega
        obtain ⟨up, hup⟩ : ∃ up, up = rUp (r2 * 2 ^ 53 % o2) o2 f := ⟨_, rfl⟩
        have HU : Hid (rUp (r2 * 2 ^ 53 % o2) o2 f = up) := hup.symm
        clear hup
        cases up
        all_goals
          go_wp2_with (go_at_call 245; (with_reducible refine (qround_any R (Nat.le_of_lt hrl) ho2 (by omega) (by omega)).mono ?_); rintro e4 w4 ⟨rfl, B4⟩; rw [HU.out])
          go_ret
          have B5 := HB.out.trans (⟨B4.os, B4.tape, B4.output, B4.size, fun k hk => B4.block k (Nat.lt_of_lt_of_le hk R.bs)⟩ : Below base wr w4)
          have HF' := HF.out
          have HU' := HU.out
          rw [show (2 : Nat) ^ 53 = 9007199254740992 by decide] at HF' HU'
          refine ⟨((D * 4503599627370496) % 18446744073709551616 + fr53 r2 o2) % 18446744073709551616, D, r2, o2, congrArg Ending.returned (congrArg (Value.int .u64) ?_), ?_, rfl, B5⟩
          · unfold fr53
            rw [← HF', HU', IntKind.wrap_u64, IntKind.wrap_u64]
            simp only [Bool.toNat_false, Bool.toNat_true]
            omega
          · rw [hc'.out]
            unfold pP pQ
            have := HG'.out
            simpa using this
  · obtain ⟨n, hn⟩ : ∃ n : Nat, pw = -(n : Int) := ⟨(-pw).toNat, by omega⟩
    subst hn
    have hc' : Hid (c = -(n : Int)) := by show _ = _; rw [hc]; unfold clp; rw [if_neg (by omega), if_neg (by omega)]
    have hn4 : n ≤ 400 := by omega
    have h2 : ¬ -(n : Int) < -400 := by omega
    have h3 : ¬ 400 < -(n : Int) := by omega
    have h4 : -(n : Int) < 0 := by omega
    go_enter Tryz.func220, Tryz.ntmps220
    go_wp2_with fail
    rw [← hW0]
    clear hW0
    go_wp2_with (first
      | (go_at_call 242; (with_reducible refine (qtensI n R0.wo (by omega) (by omega) R0.bs).mono ?_); rintro e1 w1 ⟨v1, rfl, k1, k2, k3⟩; obtain ⟨kc0, kc1, kf0, kf1⟩ := R0.cells k2 R0.po; obtain ⟨s1, s2, s3, rfl⟩ := k1.sl))
    obtain ⟨R1, O1⟩ := R0.put1 k2 k1 k3 (by omega)
    have B1 := OW.trans (O1.below base R0.bs (fun i hi => by rcases hi with hi | hi; exact (R0.wo.lt hi).2; omega))
    obtain ⟨W1, hW1⟩ : ∃ W1, W1 = w1.setCell ⟨w.heap.size + 1, 1, none⟩ (.slice s1 s2 s3) := ⟨_, rfl⟩
    rw [← hW1] at R1 B1 ⊢
    clear hW1 kc0 kc1 kf0 kf1 O1 k1 k2 k3 c0 c1 R0 OW
    go_wp2_with (go_at_call 243; (with_reducible refine (qbelow_any R1 hz (Nat.mul_pos (by omega) (Nat.pow_pos (by omega))) (by omega)).mono ?_); rintro e2 w2 ⟨D, rfl, hD, cur2, vr2, vo2, r2, o2, HG, R2, O2⟩)
    have B2 := B1.trans (O2.below base R1.bs (fun i hi => by rcases hi with hi | hi | hi; exact (R1.wr.lt hi).2; exact (R1.wo.lt hi).2; omega))
    have HG' : Hid (Good (z) (1 * 10 ^ n) r2 o2 D) := HG
    have hro : r2 < o2 := HG.1
    clear HG O2 B1 R1
    go_loopw [7, 32] (fun fv iv wq => ∃ (i f : Nat) (vr : Value) (cur : Array Value), fv = .int .u64 f ∧ iv = .int .i64 i ∧ i ≤ 53 ∧ f = r2 * 2 ^ i / o2 ∧ Rt wq (w.heap.size + 1) 318 cur base vr vo2 (r2 * 2 ^ i % o2) o2 2000 ∧ Below base w wq) (fun _ iv _ => 53 - (intOf iv).toNat)
    case atStart => exact ⟨0, 0, vr2, cur2, rfl, rfl, by omega, by rw [Nat.pow_zero, Nat.mul_one, Nat.div_eq_of_lt hro], by rw [Nat.pow_zero, Nat.mul_one, Nat.mod_eq_of_lt hro]; exact R2.mono' (by omega), B2⟩
    case round =>
      clear R2 B2
      obtain ⟨i, f, vr, cur, rfl, rfl, hi, hf, R, B⟩ := hrel
      have hfl := dig_lt hro hi
      rw [← hf] at hfl
      have HF : Hid (f = r2 * 2 ^ i / o2) := hf
      have hrl : r2 * 2 ^ i % o2 < o2 := Nat.mod_lt _ (by omega)
      have HB : Hid (Below base w wr) := B
      clear hf B
      by_cases hi3 : i < 53
      · have hiI : (i : Int) < 53 := by omega
        go_wp2_with (go_at_call 244; (with_reducible refine (qnext_any R hrl (b := 2) (by omega) (by omega) (by omega) (by omega)).mono ?_); rintro e3 w3 ⟨dd, rfl, hdd', v3, R3, O3, F3⟩; have hdd : Hid (dd = r2 * 2 ^ i % o2 * 2 / o2) := hdd'; clear hdd')
        have B3 := HB.out.trans (O3.below base R.bs (fun i hi => by rcases hi with hi | hi; exact (R.wr.lt hi).2; omega))
        obtain ⟨E1, E2⟩ := dig_step (r2 * 2 ^ i) o2
        have hd2 : dd < 2 := by rw [hdd.out]; exact next_lt hrl (Nat.div_mul_le_self _ _) (by omega)
        rw [Nat.mul_assoc, ← Nat.pow_succ] at E1 E2
        rw [← E2] at R3
        go_roundw
        case rel =>
          refine ⟨i + 1, 2 * f + dd, v3, _, ?_, by go_num, by omega, by rw [E1, HF.out, hdd.out], R3, B3⟩
          first | rfl | (refine congrArg (Value.int .u64) ?_; rw [IntKind.wrap_u64]; omega) | (refine congrArg (Value.int .u64) ?_; omega)
        case measure => simp [intOf]; omega
      · have e53 : i = 53 := by omega
        subst e53
        have hiI : ¬ ((53 : Nat) : Int) < 53 := by omega
        have ho2 : 0 < o2 := by omega
        obtain ⟨up, hup⟩ : ∃ up, up = rUp (r2 * 2 ^ 53 % o2) o2 f := ⟨_, rfl⟩
        have HU : Hid (rUp (r2 * 2 ^ 53 % o2) o2 f = up) := hup.symm
        clear hup
        cases up
        all_goals
          go_wp2_with (go_at_call 245; (with_reducible refine (qround_any R (Nat.le_of_lt hrl) ho2 (by omega) (by omega)).mono ?_); rintro e4 w4 ⟨rfl, B4⟩; rw [HU.out])
          go_ret
          have B5 := HB.out.trans (⟨B4.os, B4.tape, B4.output, B4.size, fun k hk => B4.block k (Nat.lt_of_lt_of_le hk R.bs)⟩ : Below base wr w4)
          have HF' := HF.out
          have HU' := HU.out
          rw [show (2 : Nat) ^ 53 = 9007199254740992 by decide] at HF' HU'
          refine ⟨((D * 4503599627370496) % 18446744073709551616 + fr53 r2 o2) % 18446744073709551616, D, r2, o2, congrArg Ending.returned (congrArg (Value.int .u64) ?_), ?_, rfl, B5⟩
          · unfold fr53
            rw [← HF', HU', IntKind.wrap_u64, IntKind.wrap_u64]
            simp only [Bool.toNat_false, Bool.toNat_true]
            omega
          · rw [hc'.out]
            unfold pP pQ
            have := HG'.out
            simpa using this
  · obtain ⟨n, hn⟩ : ∃ n : Nat, pw = (n : Int) := ⟨pw.toNat, by omega⟩
    subst hn
    have hc' : Hid (c = (n : Int)) := by show _ = _; rw [hc]; unfold clp; rw [if_neg (by omega), if_neg (by omega)]
    have hn4 : n ≤ 400 := by omega
    have h2 : ¬ (n : Int) < -400 := by omega
    have h3 : ¬ 400 < (n : Int) := by omega
    have h4 : ¬ (n : Int) < 0 := by omega
    go_enter Tryz.func220, Tryz.ntmps220
    go_wp2_with fail
    rw [← hW0]
    clear hW0
    go_wp2_with (first
      | (go_at_call 242; (with_reducible refine (qtensI n R0.wr (by omega) (by omega) R0.bs).mono ?_); rintro e1 w1 ⟨v1, rfl, k1, k2, k3⟩; obtain ⟨kc0, kc1, kf0, kf1⟩ := R0.cells k2 R0.pr; obtain ⟨s1, s2, s3, rfl⟩ := k1.sl))
    obtain ⟨R1, O1⟩ := R0.put k2 k1 k3 (by omega)
    have B1 := OW.trans (O1.below base R0.bs (fun i hi => by rcases hi with hi | hi; exact (R0.wr.lt hi).2; omega))
    obtain ⟨W1, hW1⟩ : ∃ W1, W1 = w1.setCell ⟨w.heap.size + 1, 0, none⟩ (.slice s1 s2 s3) := ⟨_, rfl⟩
    rw [← hW1] at R1 B1 ⊢
    clear hW1 kc0 kc1 kf0 kf1 O1 k1 k2 k3 c0 c1 R0 OW
    go_wp2_with (go_at_call 243; (with_reducible refine (qbelow_any R1 (Nat.mul_pos hz (Nat.pow_pos (by omega))) (by omega) (by omega)).mono ?_); rintro e2 w2 ⟨D, rfl, hD, cur2, vr2, vo2, r2, o2, HG, R2, O2⟩)
    have B2 := B1.trans (O2.below base R1.bs (fun i hi => by rcases hi with hi | hi | hi; exact (R1.wr.lt hi).2; exact (R1.wo.lt hi).2; omega))
    have HG' : Hid (Good (z * 10 ^ n) (1) r2 o2 D) := HG
    have hro : r2 < o2 := HG.1
    clear HG O2 B1 R1
    go_loopw [7, 32] (fun fv iv wq => ∃ (i f : Nat) (vr : Value) (cur : Array Value), fv = .int .u64 f ∧ iv = .int .i64 i ∧ i ≤ 53 ∧ f = r2 * 2 ^ i / o2 ∧ Rt wq (w.heap.size + 1) 318 cur base vr vo2 (r2 * 2 ^ i % o2) o2 2000 ∧ Below base w wq) (fun _ iv _ => 53 - (intOf iv).toNat)
    case atStart => exact ⟨0, 0, vr2, cur2, rfl, rfl, by omega, by rw [Nat.pow_zero, Nat.mul_one, Nat.div_eq_of_lt hro], by rw [Nat.pow_zero, Nat.mul_one, Nat.mod_eq_of_lt hro]; exact R2.mono' (by omega), B2⟩
    case round =>
      clear R2 B2
      obtain ⟨i, f, vr, cur, rfl, rfl, hi, hf, R, B⟩ := hrel
      have hfl := dig_lt hro hi
      rw [← hf] at hfl
      have HF : Hid (f = r2 * 2 ^ i / o2) := hf
      have hrl : r2 * 2 ^ i % o2 < o2 := Nat.mod_lt _ (by omega)
      have HB : Hid (Below base w wr) := B
      clear hf B
      by_cases hi3 : i < 53
      · have hiI : (i : Int) < 53 := by omega
        go_wp2_with (go_at_call 244; (with_reducible refine (qnext_any R hrl (b := 2) (by omega) (by omega) (by omega) (by omega)).mono ?_); rintro e3 w3 ⟨dd, rfl, hdd', v3, R3, O3, F3⟩; have hdd : Hid (dd = r2 * 2 ^ i % o2 * 2 / o2) := hdd'; clear hdd')
        have B3 := HB.out.trans (O3.below base R.bs (fun i hi => by rcases hi with hi | hi; exact (R.wr.lt hi).2; omega))
        obtain ⟨E1, E2⟩ := dig_step (r2 * 2 ^ i) o2
        have hd2 : dd < 2 := by rw [hdd.out]; exact next_lt hrl (Nat.div_mul_le_self _ _) (by omega)
        rw [Nat.mul_assoc, ← Nat.pow_succ] at E1 E2
        rw [← E2] at R3
        go_roundw
        case rel =>
          refine ⟨i + 1, 2 * f + dd, v3, _, ?_, by go_num, by omega, by rw [E1, HF.out, hdd.out], R3, B3⟩
          first | rfl | (refine congrArg (Value.int .u64) ?_; rw [IntKind.wrap_u64]; omega) | (refine congrArg (Value.int .u64) ?_; omega)
        case measure => simp [intOf]; omega
      · have e53 : i = 53 := by omega
        subst e53
        have hiI : ¬ ((53 : Nat) : Int) < 53 := by omega
        have ho2 : 0 < o2 := by omega
        obtain ⟨up, hup⟩ : ∃ up, up = rUp (r2 * 2 ^ 53 % o2) o2 f := ⟨_, rfl⟩
        have HU : Hid (rUp (r2 * 2 ^ 53 % o2) o2 f = up) := hup.symm
        clear hup
        cases up
        all_goals
          go_wp2_with (go_at_call 245; (with_reducible refine (qround_any R (Nat.le_of_lt hrl) ho2 (by omega) (by omega)).mono ?_); rintro e4 w4 ⟨rfl, B4⟩; rw [HU.out])
          go_ret
          have B5 := HB.out.trans (⟨B4.os, B4.tape, B4.output, B4.size, fun k hk => B4.block k (Nat.lt_of_lt_of_le hk R.bs)⟩ : Below base wr w4)
          have HF' := HF.out
          have HU' := HU.out
          rw [show (2 : Nat) ^ 53 = 9007199254740992 by decide] at HF' HU'
          refine ⟨((D * 4503599627370496) % 18446744073709551616 + fr53 r2 o2) % 18446744073709551616, D, r2, o2, congrArg Ending.returned (congrArg (Value.int .u64) ?_), ?_, rfl, B5⟩
          · unfold fr53
            rw [← HF', HU', IntKind.wrap_u64, IntKind.wrap_u64]
            simp only [Bool.toNat_false, Bool.toNat_true]
            omega
          · rw [hc'.out]
            unfold pP pQ
            have := HG'.out
            simpa using this
  · obtain ⟨n, hn⟩ : ∃ n : Nat, n = 400 := ⟨_, rfl⟩
    have hc' : Hid (c = (n : Int)) := by show _ = _; rw [hc, hn]; unfold clp; rw [if_neg (by omega), if_pos h1]; rfl
    have hn4 : n ≤ 400 := by omega
    have h2 : ¬ pw < -400 := by omega
    go_enter Tryz.func220, Tryz.ntmps220
    go_wp2_with fail
    rw [← hW0]
    clear hW0
    go_wp2_with (first
      | (go_at_call 242; (with_reducible refine (qtensI n R0.wr (by omega) (by omega) R0.bs).mono ?_); rintro e1 w1 ⟨v1, rfl, k1, k2, k3⟩; obtain ⟨kc0, kc1, kf0, kf1⟩ := R0.cells k2 R0.pr; obtain ⟨s1, s2, s3, rfl⟩ := k1.sl))
    obtain ⟨R1, O1⟩ := R0.put k2 k1 k3 (by omega)
    have B1 := OW.trans (O1.below base R0.bs (fun i hi => by rcases hi with hi | hi; exact (R0.wr.lt hi).2; omega))
    obtain ⟨W1, hW1⟩ : ∃ W1, W1 = w1.setCell ⟨w.heap.size + 1, 0, none⟩ (.slice s1 s2 s3) := ⟨_, rfl⟩
    rw [← hW1] at R1 B1 ⊢
    clear hW1 kc0 kc1 kf0 kf1 O1 k1 k2 k3 c0 c1 R0 OW
    go_wp2_with (go_at_call 243; (with_reducible refine (qbelow_any R1 (Nat.mul_pos hz (Nat.pow_pos (by omega))) (by omega) (by omega)).mono ?_); rintro e2 w2 ⟨D, rfl, hD, cur2, vr2, vo2, r2, o2, HG, R2, O2⟩)
    have B2 := B1.trans (O2.below base R1.bs (fun i hi => by rcases hi with hi | hi | hi; exact (R1.wr.lt hi).2; exact (R1.wo.lt hi).2; omega))
    have HG' : Hid (Good (z * 10 ^ n) (1) r2 o2 D) := HG
    have hro : r2 < o2 := HG.1
    clear HG O2 B1 R1
    go_loopw [7, 32] (fun fv iv wq => ∃ (i f : Nat) (vr : Value) (cur : Array Value), fv = .int .u64 f ∧ iv = .int .i64 i ∧ i ≤ 53 ∧ f = r2 * 2 ^ i / o2 ∧ Rt wq (w.heap.size + 1) 318 cur base vr vo2 (r2 * 2 ^ i % o2) o2 2000 ∧ Below base w wq) (fun _ iv _ => 53 - (intOf iv).toNat)
    case atStart => exact ⟨0, 0, vr2, cur2, rfl, rfl, by omega, by rw [Nat.pow_zero, Nat.mul_one, Nat.div_eq_of_lt hro], by rw [Nat.pow_zero, Nat.mul_one, Nat.mod_eq_of_lt hro]; exact R2.mono' (by omega), B2⟩
    case round =>
      clear R2 B2
      obtain ⟨i, f, vr, cur, rfl, rfl, hi, hf, R, B⟩ := hrel
      have hfl := dig_lt hro hi
      rw [← hf] at hfl
      have HF : Hid (f = r2 * 2 ^ i / o2) := hf
      have hrl : r2 * 2 ^ i % o2 < o2 := Nat.mod_lt _ (by omega)
      have HB : Hid (Below base w wr) := B
      clear hf B
      by_cases hi3 : i < 53
      · have hiI : (i : Int) < 53 := by omega
        go_wp2_with (go_at_call 244; (with_reducible refine (qnext_any R hrl (b := 2) (by omega) (by omega) (by omega) (by omega)).mono ?_); rintro e3 w3 ⟨dd, rfl, hdd', v3, R3, O3, F3⟩; have hdd : Hid (dd = r2 * 2 ^ i % o2 * 2 / o2) := hdd'; clear hdd')
        have B3 := HB.out.trans (O3.below base R.bs (fun i hi => by rcases hi with hi | hi; exact (R.wr.lt hi).2; omega))
        obtain ⟨E1, E2⟩ := dig_step (r2 * 2 ^ i) o2
        have hd2 : dd < 2 := by rw [hdd.out]; exact next_lt hrl (Nat.div_mul_le_self _ _) (by omega)
        rw [Nat.mul_assoc, ← Nat.pow_succ] at E1 E2
        rw [← E2] at R3
        go_roundw
        case rel =>
          refine ⟨i + 1, 2 * f + dd, v3, _, ?_, by go_num, by omega, by rw [E1, HF.out, hdd.out], R3, B3⟩
          first | rfl | (refine congrArg (Value.int .u64) ?_; rw [IntKind.wrap_u64]; omega) | (refine congrArg (Value.int .u64) ?_; omega)
        case measure => simp [intOf]; omega
      · have e53 : i = 53 := by omega
        subst e53
        have hiI : ¬ ((53 : Nat) : Int) < 53 := by omega
        have ho2 : 0 < o2 := by omega
        obtain ⟨up, hup⟩ : ∃ up, up = rUp (r2 * 2 ^ 53 % o2) o2 f := ⟨_, rfl⟩
        have HU : Hid (rUp (r2 * 2 ^ 53 % o2) o2 f = up) := hup.symm
        clear hup
        cases up
        all_goals
          go_wp2_with (go_at_call 245; (with_reducible refine (qround_any R (Nat.le_of_lt hrl) ho2 (by omega) (by omega)).mono ?_); rintro e4 w4 ⟨rfl, B4⟩; rw [HU.out])
          go_ret
          have B5 := HB.out.trans (⟨B4.os, B4.tape, B4.output, B4.size, fun k hk => B4.block k (Nat.lt_of_lt_of_le hk R.bs)⟩ : Below base wr w4)
          have HF' := HF.out
          have HU' := HU.out
          rw [show (2 : Nat) ^ 53 = 9007199254740992 by decide] at HF' HU'
          refine ⟨((D * 4503599627370496) % 18446744073709551616 + fr53 r2 o2) % 18446744073709551616, D, r2, o2, congrArg Ending.returned (congrArg (Value.int .u64) ?_), ?_, rfl, B5⟩
          · unfold fr53
            rw [← HF', HU', IntKind.wrap_u64, IntKind.wrap_u64]
            simp only [Bool.toNat_false, Bool.toNat_true]
            omega
          · rw [hc'.out]
            unfold pP pQ
            have := HG'.out
            simpa using this

end Go.Proofs.YtmpkcioeodlbcaaGreatDoor
namespace Go.Proofs.YtmpkcioeodlbcaaGreatDoor
open RowKit
/-- a byte of a text (0 outside it) -/
def qbyt (s : ByteArray) (i : Nat) : Nat := (s.data.getD i 0).toNat
/-- a reader in memory: its text and how far it has come -/
structure Rdr (w : World) (p : Nat) (s : ByteArray) (i : Nat) : Prop where
  blk : w.heap[p]? = some (.cells #[.string s, .int .i64 (i : Int)] 285 (0, 0))
  le : i ≤ s.size
  sz : s.size ≤ 64
theorem Rdr.c0 {w : World} {p i : Nat} {s : ByteArray} (h : Rdr w p s i) : w.cell? ⟨p, 0, none⟩ = some (.string s) := by
  rw [cell_of_row w p 0 _ _ (0, 0) h.blk]; rfl
theorem Rdr.c1 {w : World} {p i : Nat} {s : ByteArray} (h : Rdr w p s i) : w.cell? ⟨p, 1, none⟩ = some (.int .i64 (i : Int)) := by
  rw [cell_of_row w p 1 _ _ (0, 0) h.blk]; rfl
theorem Rdr.fz {w : World} {p i : Nat} {s : ByteArray} (h : Rdr w p s i) : w.frozen? ⟨p, 1, none⟩ = false := frozen_of_row w p 1 _ _ h.blk
theorem Rdr.plt {w : World} {p i : Nat} {s : ByteArray} (h : Rdr w p s i) : p < w.heap.size := (Array.getElem?_eq_some_iff.1 h.blk).1
theorem Rdr.step {w : World} {p i : Nat} {s : ByteArray} (h : Rdr w p s i) (hi : i < s.size) (n : Nat) : Rdr ((w.drewN n).setCell ⟨p, 1, none⟩ (.int .i64 ((i + 1 : Nat) : Int))) p s (i + 1) ∧ Only (fun k => k = p) w ((w.drewN n).setCell ⟨p, 1, none⟩ (.int .i64 ((i + 1 : Nat) : Int))) :=
  ⟨⟨heap_setCell_same _ p 1 _ _ _ h.blk, hi, h.sz⟩, ((Only.refl _ w).drewN n).set _ _ (.inl rfl)⟩
theorem Rdr.only {w w' : World} {p i : Nat} {s : ByteArray} (h : Rdr w p s i) {S : Nat → Prop} (ho : Only S w w') (hp : ¬ S p) : Rdr w' p s i := ⟨by rw [ho.block p h.plt hp]; exact h.blk, h.le, h.sz⟩
theorem qbyt_get {s : ByteArray} {i : Nat} (h : i < s.size) : (s[i]'h).toNat = qbyt s i := by
  have h2 : i < s.data.size := h
  show (s.data[i]'h2).toNat = (s.data.getD i 0).toNat
  rw [Array.getD_eq_getD_getElem?, Array.getElem?_eq_getElem h2]; rfl
/-- how far it has come behind take -/
def tk (s : ByteArray) (i c : Nat) : Nat := if i < s.size ∧ qbyt s i = c then i + 1 else i
def tkb (s : ByteArray) (i c : Nat) : Bool := decide (i < s.size ∧ qbyt s i = c)
theorem Rdr.drewN {w : World} {p i : Nat} {s : ByteArray} (h : Rdr w p s i) (n : Nat) : Rdr (w.drewN n) p s i := ⟨h.blk, h.le, h.sz⟩
set_option maxRecDepth 10000 in
set_option maxHeartbeats 1000000 in
theorem take_any {w : World} {p i : Nat} {s : ByteArray} (c : Nat) {C : Int} (h : Rdr w p s i) (hC : C = ((c : Nat) : Int)) :
    Calls Tryz.prog 218 #[.pointer (some ⟨p, 0, none⟩), .int .u8 C] w fun e w' => e = .returned (.bool (tkb s i c)) ∧ Rdr w' p s (tk s i c) ∧ Only (fun k => k = p) w w' := by
  subst hC
  have c0 := h.c0
  have c1 := h.c1
  have fz := h.fz
  have hl := h.le
  have hs := h.sz
  by_cases hi : i < s.size
  · have hne : ((i : Int) == (s.size : Int)) = false := by simp; omega
    by_cases hbc : qbyt s i = c
    · have e1 : tkb s i c = true := decide_eq_true ⟨hi, hbc⟩
      have e2 : tk s i c = i + 1 := if_pos ⟨hi, hbc⟩
      rw [e1, e2]
      clear e1 e2
      go_enter Tryz.func218, Tryz.ntmps218
      go_wp2_with fail
      go_quiet (fail)
      rw [qbyt_get hi, hbc]
      go_wp2
      go_ret
      obtain ⟨R, O⟩ := h.step hi nq
      exact ⟨rfl, R, O⟩
    · have e1 : tkb s i c = false := decide_eq_false (fun q => hbc q.2)
      have e2 : tk s i c = i := if_neg (fun q => hbc q.2)
      have hb2 : ((qbyt s i : Int) != (c : Int)) = true := by simp; omega
      rw [e1, e2]
      clear e1 e2
      go_enter Tryz.func218, Tryz.ntmps218
      go_wp2_with fail
      go_quiet (fail)
      rw [qbyt_get hi, hb2]
      go_wp2
      go_ret
      exact ⟨rfl, h.drewN nq, (Only.refl _ w).drewN nq⟩
  · have e1 : tkb s i c = false := decide_eq_false (fun q => hi q.1)
    have e2 : tk s i c = i := if_neg (fun q => hi q.1)
    have e : i = s.size := by omega
    rw [e1, e2]
    clear e1 e2
    subst e
    go_enter Tryz.func218, Tryz.ntmps218
    go_wp2_with fail
    go_quiet (fail)
    go_wp2
    go_ret
    exact ⟨rfl, h.drewN nq, (Only.refl _ w).drewN nq⟩
/-- is a digit next? -/
def dgb (s : ByteArray) (i : Nat) : Bool := decide (i < s.size ∧ 48 ≤ qbyt s i ∧ qbyt s i ≤ 57)
set_option maxRecDepth 10000 in
set_option maxHeartbeats 1000000 in
theorem digit_yes {w : World} {p i : Nat} {s : ByteArray} (h : Rdr w p s i) (hd : dgb s i = true) :
    Calls Tryz.prog 260 #[.pointer (some ⟨p, 0, none⟩)] w fun e w' => e = .returned (.tuple #[.int .u64 ((qbyt s i - 48 : Nat) : Int), .bool true]) ∧ Rdr w' p s (i + 1) ∧ Only (fun k => k = p) w w' := by
  obtain ⟨hi, h48, h57⟩ := of_decide_eq_true hd
  have c0 := h.c0
  have c1 := h.c1
  have fz := h.fz
  have hl := h.le
  have hs := h.sz
  have hne : ((i : Int) == (s.size : Int)) = false := by simp; omega
  have hg := qbyt_get hi
  obtain ⟨b, hb⟩ : ∃ b, b = qbyt s i := ⟨_, rfl⟩
  rw [← hb] at h48 h57 hg ⊢
  obtain ⟨m, hm⟩ : ∃ m, b = m + 48 := ⟨b - 48, by omega⟩
  subst hm
  have HB : Hid (m + 48 = qbyt s i) := hb
  have h1 : ¬ ((m : Int) + 48) < 48 := by omega
  have h2 : ¬ 57 < ((m : Int) + 48) := by omega
  have hi2 : wrap64 ((i : Int) + 1 - 1) = (i : Int) := by unfold wrap64; omega
  rw [Nat.add_sub_cancel]
  clear hb hd
  go_enter Tryz.func260, Tryz.ntmps260
  go_wp2_with fail
  go_quiet (fail)
  try rw [hg]
  obtain ⟨R, O⟩ := h.step hi nq
  have k0 : ((w.drewN nq).setCell ⟨p, 1, none⟩ (.int .i64 ((i : Int) + 1))).cell? ⟨p, 0, none⟩ = some (.string s) := R.c0
  have k1 : ((w.drewN nq).setCell ⟨p, 1, none⟩ (.int .i64 ((i : Int) + 1))).cell? ⟨p, 1, none⟩ = some (.int .i64 ((i : Int) + 1)) := R.c1
  have HR : Hid (Rdr ((w.drewN nq).setCell ⟨p, 1, none⟩ (.int .i64 ((i : Int) + 1))) p s (i + 1) ∧ Only (fun k => k = p) w ((w.drewN nq).setCell ⟨p, 1, none⟩ (.int .i64 ((i : Int) + 1)))) := ⟨R, O⟩
  clear R O
  go_wp2_with fail
  obtain ⟨W, hW⟩ : ∃ W, W = (w.drewN nq).setCell ⟨p, 1, none⟩ (.int .i64 ((i : Int) + 1)) := ⟨_, rfl⟩
  rw [← hW] at k0 k1 HR ⊢
  clear hW c0 c1 fz
  go_quiet (fail)
  try rw [hg]
  go_wp2
  go_ret2
  exact ⟨rfl, HR.out.1.drewN _, HR.out.2.drewN _⟩
set_option maxRecDepth 10000 in
set_option maxHeartbeats 1000000 in
theorem digit_no {w : World} {p i : Nat} {s : ByteArray} (h : Rdr w p s i) (hd : dgb s i = false) :
    Calls Tryz.prog 260 #[.pointer (some ⟨p, 0, none⟩)] w fun e w' => e = .returned (.tuple #[.int .u64 0, .bool false]) ∧ Rdr w' p s i ∧ Only (fun k => k = p) w w' := by
  have hq := of_decide_eq_false hd
  have c0 := h.c0
  have c1 := h.c1
  have fz := h.fz
  have hl := h.le
  have hs := h.sz
  clear hd
  by_cases hi : i < s.size
  · have hne : ((i : Int) == (s.size : Int)) = false := by simp; omega
    have hg := qbyt_get hi
    obtain ⟨b, hb⟩ : ∃ b, b = qbyt s i := ⟨_, rfl⟩
    rw [← hb] at hg hq
    clear hb
    by_cases h48 : b < 48
    · have h1 : (b : Int) < 48 := by omega
      clear hq
      go_enter Tryz.func260, Tryz.ntmps260
      go_wp2_with fail
      go_quiet (fail)
      try rw [hg]
      go_wp2
      go_ret2
      exact ⟨rfl, h.drewN nq, (Only.refl _ w).drewN nq⟩
    · have h1 : ¬ (b : Int) < 48 := by omega
      have h2 : 57 < (b : Int) := by omega
      clear hq
      go_enter Tryz.func260, Tryz.ntmps260
      go_wp2_with fail
      go_quiet (fail)
      try rw [hg]
      go_wp2
      go_ret2
      exact ⟨rfl, h.drewN nq, (Only.refl _ w).drewN nq⟩
  · have e : i = s.size := by omega
    subst e
    clear hq
    go_enter Tryz.func260, Tryz.ntmps260
    go_wp2_with fail
    go_quiet (fail)
    go_wp2
    go_ret2
    exact ⟨rfl, h.drewN nq, (Only.refl _ w).drewN nq⟩

end Go.Proofs.YtmpkcioeodlbcaaGreatDoor
namespace Go.Proofs.YtmpkcioeodlbcaaGreatDoor
open RowKit
/-- how many digits are next -/
def dN (s : ByteArray) : Nat → Nat → Nat
  | 0, _ => 0
  | f + 1, i => if dgb s i = true then dN s f (i + 1) + 1 else 0
/-- a whole number with the digits that are next behind it -/
def dV (s : ByteArray) : Nat → Nat → Nat → Nat
  | 0, _, z => z
  | f + 1, i, z => if dgb s i = true then dV s f (i + 1) (z * 10 + (qbyt s i - 48)) else z
theorem dN_yes {s : ByteArray} {i f : Nat} (h : dgb s i = true) : dN s (f + 1) i = dN s f (i + 1) + 1 := if_pos h
theorem dN_no {s : ByteArray} {i f : Nat} (h : dgb s i = false) : dN s (f + 1) i = 0 := if_neg (by rw [h]; decide)
theorem dV_yes {s : ByteArray} {i f z : Nat} (h : dgb s i = true) : dV s (f + 1) i z = dV s f (i + 1) (z * 10 + (qbyt s i - 48)) := if_pos h
theorem dV_no {s : ByteArray} {i f z : Nat} (h : dgb s i = false) : dV s (f + 1) i z = z := if_neg (by rw [h]; decide)
def atOf (w : World) (p : Nat) : Nat := match w.cell? ⟨p, 1, none⟩ with | some (.int _ q) => q.toNat | _ => 0
theorem Rdr.at {w : World} {p i : Nat} {s : ByteArray} (h : Rdr w p s i) : atOf w p = i := by unfold atOf; rw [h.c1]; simp
theorem dgb_lt {s : ByteArray} {i : Nat} (h : dgb s i = true) : i < s.size ∧ qbyt s i - 48 ≤ 9 := by
  obtain ⟨h1, h2, h3⟩ := of_decide_eq_true h
  exact ⟨h1, by omega⟩
set_option maxRecDepth 10000 in
set_option maxHeartbeats 1000000 in
theorem digits_any {w : World} {p i base z L : Nat} {s : ByteArray} {v : Value} (h : Rdr w p s i) (hv : Wh w base v z L) (hpv : ¬ Ob v p) (hL : L ≤ 1000) (hbase : base ≤ w.heap.size) :
    Calls Tryz.prog 239 #[.pointer (some ⟨p, 0, none⟩), v] w fun e w' => ∃ v' : Value, e = .returned (.tuple #[v', .int .i64 ((dN s 65 i : Nat) : Int)]) ∧ Wh w' base v' (dV s 65 i z) (L + 64) ∧ Rdr w' p s (i + dN s 65 i) ∧ Only (fun k => Ob v k ∨ k = p) w w' ∧ (∀ k, Ob v' k → Ob v k ∨ w.heap.size ≤ k) := by
  have c1 := h.c1
  have hplt := h.plt
  go_enter Tryz.func239, Tryz.ntmps239
  go_wp2_with fail
  go_loopw [1] (fun vv wr => ∃ (j z0 : Nat) (v0 : Value), v0 = vv ∧ j ≤ 64 ∧ Rdr wr p s (i + j) ∧ Wh wr base v0 z0 (L + j) ∧ dN s (65 - j) (i + j) + j = dN s 65 i ∧ dV s (65 - j) (i + j) z0 = dV s 65 i z ∧ Only (fun k => Ob v k ∨ k = p) w wr ∧ (∀ k, Ob v0 k → Ob v k ∨ w.heap.size ≤ k)) (fun _ wr => 100 - atOf wr p)
  case atStart => exact ⟨0, z, v, rfl, by omega, h, hv, rfl, rfl, Only.refl _ _, fun k hk => .inl hk⟩
  case round =>
    clear hv c1
    obtain ⟨j, z0, v0, rfl, hj, R, hv, hN, hV, hO, hF⟩ := hrel
    have hsz := hO.size
    have hbs : base ≤ wr.heap.size := by omega
    have hle := R.le
    have hs64 := R.sz
    have hpv0 : ¬ Ob v0 p := fun hk => by
      rcases hF p hk with h1 | h1
      · exact hpv h1
      · omega
    obtain ⟨f, hf⟩ : ∃ f, 65 - j = f + 1 := ⟨64 - j, by omega⟩
    rw [hf] at hN hV
    by_cases hd : dgb s (i + j) = true
    · obtain ⟨hlt, hb9⟩ := dgb_lt hd
      rw [dN_yes hd] at hN
      rw [dV_yes hd] at hV
      obtain ⟨m, hm⟩ : ∃ m, m = qbyt s (i + j) - 48 := ⟨_, rfl⟩
      rw [← hm] at hV hb9
      have HM : Hid (m = qbyt s (i + j) - 48) := hm
      have hat := R.at
      have HN : Hid (dN s f (i + j + 1) + 1 + j = dN s 65 i) := hN
      have HV : Hid (dV s f (i + j + 1) (z0 * 10 + m) = dV s 65 i z) := hV
      have HO : Hid (Only (fun k => Ob v k ∨ k = p) w wr) := hO
      have HF : Hid (∀ k, Ob v0 k → Ob v k ∨ w.heap.size ≤ k) := hF
      clear hm hN hV hO hF
      go_wp2_with (first
        | (go_at_call 260; (with_reducible refine (digit_yes R hd).mono ?_); rintro e1 w1 ⟨rfl, k1, k2⟩; rw [← HM.out]; have k3 := k2.size; have hv1 := hv.only k2 (fun k hk hk2 => hpv0 (hk2 ▸ hk)))
        | (go_at_call 261; (with_reducible refine (qtimesI 10 m hv1 (by omega) rfl (by omega) (by omega) (by omega) (by omega) (by omega)).mono ?_); rintro e2 w2 ⟨v2, rfl, q1, q2, q3⟩))
      have R2 := k1.only q2 hpv0
      have O2 : Only (fun k => Ob v k ∨ k = p) w w2 := (HO.out.next k2 (fun i hi => .inl (.inr hi))).next q2 (fun i hi => (HF.out i hi).imp .inl id)
      go_roundw
      case rel =>
        refine ⟨j + 1, z0 * 10 + m, v2, rfl, by omega, R2, q1, ?_, ?_, O2, fun k hk => ?_⟩
        · rw [show 65 - (j + 1) = f by omega]; have := HN.out; show dN s f (i + j + 1) + (j + 1) = _; omega
        · rw [show 65 - (j + 1) = f by omega]; exact HV.out
        · rcases q3 k hk with h1 | h1
          · exact HF.out k h1
          · exact .inr (by omega)
      case measure =>
        rw [hat, R2.at]; omega
    · have hd0 : dgb s (i + j) = false := by simpa using hd
      rw [dN_no hd0] at hN
      rw [dV_no hd0] at hV
      have HN : Hid (j = dN s 65 i) := by show _ = _; omega
      have HV : Hid (z0 = dV s 65 i z) := hV
      have HO : Hid (Only (fun k => Ob v k ∨ k = p) w wr) := hO
      clear hN hV hO
      go_wp2_with (go_at_call 260; (with_reducible refine (digit_no R hd0).mono ?_); rintro e1 w1 ⟨rfl, k1, k2⟩; have c1 := k1.c1)
      go_quiet (fail)
      go_wp2
      go_ret2
      have hv1 := (hv.only k2 (fun k hk hk2 => hpv0 (hk2 ▸ hk))).mono (L' := L + 64) (by omega)
      rw [HV.out] at hv1
      have hr : i + j = i + dN s 65 i := by rw [← HN.out]
      rw [hr] at k1
      refine ⟨_, ?_, hv1, k1.drewN _, (HO.out.next k2 (fun i hi => .inl (.inr hi))).drewN _, hF⟩
      show Ending.returned (Value.tuple #[v0, Value.int IntKind.i64 ((i : Int) + (j : Int) - (i : Int))]) = _
      rw [show (i : Int) + (j : Int) - (i : Int) = ((dN s 65 i : Nat) : Int) by have := HN.out; omega]

end Go.Proofs.YtmpkcioeodlbcaaGreatDoor
namespace Go.Proofs.YtmpkcioeodlbcaaGreatDoor
open RowKit
def xS (s : ByteArray) (i : Nat) : Bool := tkb s i 101 || tkb s i 69
def xB (s : ByteArray) (i : Nat) : Bool := tkb s (i + 1) 45
def x3_Qxp (s : ByteArray) (i : Nat) : Nat := if xB s i = true then i + 2 else tk s (i + 1) 43
def xP (s : ByteArray) (i : Nat) : Int := if xS s i = true then (if xB s i = true then -(dV s 4 (x3_Qxp s i) 0 : Nat) else (dV s 4 (x3_Qxp s i) 0 : Nat)) else 0
def xO (s : ByteArray) (i : Nat) : Bool := if xS s i = true then decide (0 < dN s 4 (x3_Qxp s i)) else true
def xA (s : ByteArray) (i : Nat) : Nat := if xS s i = true then x3_Qxp s i + dN s 4 (x3_Qxp s i) else i
theorem dV_bound {s : ByteArray} : ∀ (f i z : Nat), dV s f i z < (z + 1) * 10 ^ f := by
  intro f
  induction f with
  | zero => intro i z; show z < (z + 1) * 1; omega
  | succ f ih =>
    intro i z
    by_cases h : dgb s i = true
    · rw [dV_yes h]
      have h1 := ih (i + 1) (z * 10 + (qbyt s i - 48))
      have h2 := (dgb_lt h).2
      have h3 : (z * 10 + (qbyt s i - 48) + 1) * 10 ^ f ≤ ((z + 1) * 10) * 10 ^ f := Nat.mul_le_mul_right _ (by omega)
      rw [Nat.pow_succ, Nat.mul_comm (10 ^ f), ← Nat.mul_assoc]
      omega
    · rw [dV_no (by simpa using h)]
      have : (z + 1) * 1 ≤ (z + 1) * 10 ^ (f + 1) := Nat.mul_le_mul_left _ (Nat.pow_pos (by decide))
      omega
theorem dN_le {s : ByteArray} : ∀ (f i : Nat), dN s f i ≤ f := by
  intro f
  induction f with
  | zero => intro i; exact Nat.le_refl _
  | succ f ih =>
    intro i
    by_cases h : dgb s i = true
    · rw [dN_yes h]; have := ih (i + 1); omega
    · rw [dN_no (by simpa using h)]; omega
theorem tk_yes {s : ByteArray} {i c : Nat} (h : tkb s i c = true) : tk s i c = i + 1 := if_pos (of_decide_eq_true h)
theorem tk_no {s : ByteArray} {i c : Nat} (h : tkb s i c = false) : tk s i c = i := if_neg (of_decide_eq_false h)
theorem exp_fin {P Q : Int} {b c : Bool} (h1 : P = Q) (h2 : b = c) : Ending.returned (Value.tuple #[.int .i64 P, .bool b]) = .returned (.tuple #[.int .i64 Q, .bool c]) := by rw [h1, h2]
set_option maxRecDepth 10000 in
set_option maxHeartbeats 2000000 in
theorem exp_any {w : World} {p i : Nat} {s : ByteArray} (h : Rdr w p s i) :
    Calls Tryz.prog 240 #[.pointer (some ⟨p, 0, none⟩)] w fun e w' => e = .returned (.tuple #[.int .i64 (xP s i), .bool (xO s i)]) ∧ Rdr w' p s (xA s i) ∧ Only (fun k => k = p) w w' := by
  by_cases hs : xS s i = true
  · have e1 : xP s i = if xB s i = true then -((dV s 4 (x3_Qxp s i) 0 : Nat) : Int) else ((dV s 4 (x3_Qxp s i) 0 : Nat) : Int) := if_pos hs
    have e2 : xO s i = decide (0 < dN s 4 (x3_Qxp s i)) := if_pos hs
    have e3 : xA s i = x3_Qxp s i + dN s 4 (x3_Qxp s i) := if_pos hs
    rw [e1, e2, e3]
    obtain ⟨a, ha⟩ : ∃ a, x3_Qxp s i = a := ⟨_, rfl⟩
    have HA : Hid (x3_Qxp s i = a) := ha
    obtain ⟨neg, hneg⟩ : ∃ neg, xB s i = neg := ⟨_, rfl⟩
    have HG : Hid (xB s i = neg) := hneg
    rw [ha, hneg]
    clear e1 e2 e3
    -- the two ways to the sign
    have hse : tkb s i 101 = true ∨ (tkb s i 101 = false ∧ tkb s i 69 = true) := by
      unfold xS at hs
      cases h1 : tkb s i 101
      · rw [h1] at hs; exact .inr ⟨rfl, by simpa using hs⟩
      · exact .inl rfl
    clear hs
    rcases hse with h1' | ⟨h1', h2'⟩
    · have h1 : Hid (tkb s i 101 = true) := h1'
      clear h1'
      cases neg
      · have hB : Hid (tkb s (i + 1) 45 = false) := HG.out
        have HA : Hid (tk s (i + 1) 43 = a) := by
          show _ = _
          have := HA.out
          unfold x3_Qxp at this
          rw [HG.out] at this
          exact this
        clear ha hneg
        go_enter Tryz.func240, Tryz.ntmps240
        go_wp2_with (first
          | (go_at_call 218; (with_reducible refine (take_any 101 h (by omega)).mono ?_); rintro e1 w1 ⟨rfl, k1, k2⟩; rw [h1.out]; rw [tk_yes h1.out] at k1)
          | (go_at_call 218; (with_reducible refine (take_any 45 k1 (by omega)).mono ?_); rintro e3 w3 ⟨rfl, q1, q2⟩; rw [hB.out]; rw [tk_no hB.out] at q1)
          | (go_at_call 218; (with_reducible refine (take_any 43 q1 (by omega)).mono ?_); rintro e4 w4 ⟨rfl, q3, q4⟩; rw [HA.out] at q3))
        have R0 : Rdr _ p s a := q3
        have O0 := (k2.trans q2).trans q4
        have d1 := R0.c1
        go_quiet (fail)
        go_wp2_with fail
        go_loopw [5] (fun pv wr => ∃ j z0 : Nat, pv = .int .i64 z0 ∧ j ≤ 4 ∧ z0 < 10 ^ j ∧ Rdr wr p s (a + j) ∧ dN s (4 - j) (a + j) + j = dN s 4 a ∧ dV s (4 - j) (a + j) z0 = dV s 4 a 0 ∧ Only (fun k => k = p) w wr) (fun _ wr => 100 - atOf wr p)
        case atStart => exact ⟨0, 0, rfl, by omega, by decide, R0.drewN _, rfl, rfl, O0.drewN _⟩
        case round =>
          clear d1 R0 O0
          obtain ⟨j, z0, rfl, hj, hz0, R, hN, hV, hO⟩ := hrel
          have hle := R.le
          have hs64 := R.sz
          have hat := R.at
          have d1 := R.c1
          have hz4 : z0 < 10000 := Nat.lt_of_lt_of_le hz0 (Nat.le_trans (Nat.pow_le_pow_right (by decide) hj) (by decide))
          by_cases hj4 : j < 4
          · have hjI : (a : Int) + (j : Int) < (a : Int) + 4 := by omega
            obtain ⟨f, hf⟩ : ∃ f, 4 - j = f + 1 := ⟨3 - j, by omega⟩
            rw [hf] at hN hV
            by_cases hd : dgb s (a + j) = true
            · obtain ⟨hlt, hb9⟩ := dgb_lt hd
              rw [dN_yes hd] at hN
              rw [dV_yes hd] at hV
              obtain ⟨m, hm⟩ : ∃ m, m = qbyt s (a + j) - 48 := ⟨_, rfl⟩
              rw [← hm] at hV hb9
              have HM : Hid (m = qbyt s (a + j) - 48) := hm
              have HN : Hid (dN s f (a + j + 1) + 1 + j = dN s 4 a) := hN
              have HV : Hid (dV s f (a + j + 1) (z0 * 10 + m) = dV s 4 a 0) := hV
              have HZ : Hid (z0 < 10 ^ j) := hz0
              have HO : Hid (Only (fun k => k = p) w wr) := hO
              clear hm hN hV hO hz0
              go_wp2_with (go_at_call 260; (with_reducible refine (digit_yes R hd).mono ?_); rintro e5 w5 ⟨rfl, j1, j2⟩; rw [← HM.out])
              go_roundw
              case rel =>
                refine ⟨j + 1, z0 * 10 + m, congrArg (Value.int .i64) (by omega), by omega, ?_, j1, ?_, ?_, HO.out.trans j2⟩
                · have := HZ.out; rw [Nat.pow_succ]; omega
                · rw [show 4 - (j + 1) = f by omega]; have := HN.out; show dN s f (a + j + 1) + (j + 1) = _; omega
                · rw [show 4 - (j + 1) = f by omega]; exact HV.out
              case measure => rw [hat, j1.at]; omega
            · have hd0 : dgb s (a + j) = false := by simpa using hd
              rw [dN_no hd0] at hN
              rw [dV_no hd0] at hV
              have HN : Hid (dN s 4 a = j) := by show _ = _; omega
              have HV : Hid (dV s 4 a 0 = z0) := hV.symm
              have HO : Hid (Only (fun k => k = p) w wr) := hO
              clear hN hV hO hz0 hj4
              go_wp2_with (go_at_call 260; (with_reducible refine (digit_no R hd0).mono ?_); rintro e5 w5 ⟨rfl, j1, j2⟩; have g1 := j1.c1)
              go_quiet (fail)
              go_wp2
              go_ret2
              rw [HN.out, HV.out]
              exact ⟨exp_fin (by first | rfl | omega | (simp; omega) | simp) (decide_eq_decide.2 (by omega)), j1.drewN _, (HO.out.trans j2).drewN _⟩
          · have e4 : j = 4 := by omega
            subst e4
            have hjI : ¬ (a : Int) + ((4 : Nat) : Int) < (a : Int) + 4 := by omega
            have HN : Hid (dN s 4 a = 4) := by show _ = _; have : dN s (4 - 4) (a + 4) = 0 := rfl; omega
            have HV : Hid (dV s 4 a 0 = z0) := by show _ = _; rw [← hV]; rfl
            have HO : Hid (Only (fun k => k = p) w wr) := hO
            clear hN hV hO hz0
            go_wp2_with fail
            go_quiet (fail)
            go_wp2
            go_ret2
            rw [HN.out, HV.out]
            exact ⟨exp_fin (by first | rfl | omega | (simp; omega) | simp) (decide_eq_decide.2 (by omega)), R.drewN _, HO.out.drewN _⟩
      · have hB : Hid (tkb s (i + 1) 45 = true) := HG.out
        have HA : Hid (i + 2 = a) := by
          show _ = _
          have := HA.out
          unfold x3_Qxp at this
          rw [HG.out] at this
          exact this
        clear ha hneg
        go_enter Tryz.func240, Tryz.ntmps240
        go_wp2_with (first
          | (go_at_call 218; (with_reducible refine (take_any 101 h (by omega)).mono ?_); rintro e1 w1 ⟨rfl, k1, k2⟩; rw [h1.out]; rw [tk_yes h1.out] at k1)
          | (go_at_call 218; (with_reducible refine (take_any 45 k1 (by omega)).mono ?_); rintro e3 w3 ⟨rfl, q1, q2⟩; rw [hB.out]; rw [tk_yes hB.out] at q1))
        have R0 : Rdr _ p s a := HA.out ▸ q1
        have O0 := k2.trans q2
        have d1 := R0.c1
        go_quiet (fail)
        go_wp2_with fail
        go_loopw [5] (fun pv wr => ∃ j z0 : Nat, pv = .int .i64 z0 ∧ j ≤ 4 ∧ z0 < 10 ^ j ∧ Rdr wr p s (a + j) ∧ dN s (4 - j) (a + j) + j = dN s 4 a ∧ dV s (4 - j) (a + j) z0 = dV s 4 a 0 ∧ Only (fun k => k = p) w wr) (fun _ wr => 100 - atOf wr p)
        case atStart => exact ⟨0, 0, rfl, by omega, by decide, R0.drewN _, rfl, rfl, O0.drewN _⟩
        case round =>
          clear d1 R0 O0
          obtain ⟨j, z0, rfl, hj, hz0, R, hN, hV, hO⟩ := hrel
          have hle := R.le
          have hs64 := R.sz
          have hat := R.at
          have d1 := R.c1
          have hz4 : z0 < 10000 := Nat.lt_of_lt_of_le hz0 (Nat.le_trans (Nat.pow_le_pow_right (by decide) hj) (by decide))
          by_cases hj4 : j < 4
          · have hjI : (a : Int) + (j : Int) < (a : Int) + 4 := by omega
            obtain ⟨f, hf⟩ : ∃ f, 4 - j = f + 1 := ⟨3 - j, by omega⟩
            rw [hf] at hN hV
            by_cases hd : dgb s (a + j) = true
            · obtain ⟨hlt, hb9⟩ := dgb_lt hd
              rw [dN_yes hd] at hN
              rw [dV_yes hd] at hV
              obtain ⟨m, hm⟩ : ∃ m, m = qbyt s (a + j) - 48 := ⟨_, rfl⟩
              rw [← hm] at hV hb9
              have HM : Hid (m = qbyt s (a + j) - 48) := hm
              have HN : Hid (dN s f (a + j + 1) + 1 + j = dN s 4 a) := hN
              have HV : Hid (dV s f (a + j + 1) (z0 * 10 + m) = dV s 4 a 0) := hV
              have HZ : Hid (z0 < 10 ^ j) := hz0
              have HO : Hid (Only (fun k => k = p) w wr) := hO
              clear hm hN hV hO hz0
              go_wp2_with (go_at_call 260; (with_reducible refine (digit_yes R hd).mono ?_); rintro e5 w5 ⟨rfl, j1, j2⟩; rw [← HM.out])
              go_roundw
              case rel =>
                refine ⟨j + 1, z0 * 10 + m, congrArg (Value.int .i64) (by omega), by omega, ?_, j1, ?_, ?_, HO.out.trans j2⟩
                · have := HZ.out; rw [Nat.pow_succ]; omega
                · rw [show 4 - (j + 1) = f by omega]; have := HN.out; show dN s f (a + j + 1) + (j + 1) = _; omega
                · rw [show 4 - (j + 1) = f by omega]; exact HV.out
              case measure => rw [hat, j1.at]; omega
            · have hd0 : dgb s (a + j) = false := by simpa using hd
              rw [dN_no hd0] at hN
              rw [dV_no hd0] at hV
              have HN : Hid (dN s 4 a = j) := by show _ = _; omega
              have HV : Hid (dV s 4 a 0 = z0) := hV.symm
              have HO : Hid (Only (fun k => k = p) w wr) := hO
              clear hN hV hO hz0 hj4
              go_wp2_with (go_at_call 260; (with_reducible refine (digit_no R hd0).mono ?_); rintro e5 w5 ⟨rfl, j1, j2⟩; have g1 := j1.c1)
              go_quiet (fail)
              go_wp2
              go_ret2
              rw [HN.out, HV.out]
              exact ⟨exp_fin (by first | rfl | omega | (simp; omega) | simp) (decide_eq_decide.2 (by omega)), j1.drewN _, (HO.out.trans j2).drewN _⟩
          · have e4 : j = 4 := by omega
            subst e4
            have hjI : ¬ (a : Int) + ((4 : Nat) : Int) < (a : Int) + 4 := by omega
            have HN : Hid (dN s 4 a = 4) := by show _ = _; have : dN s (4 - 4) (a + 4) = 0 := rfl; omega
            have HV : Hid (dV s 4 a 0 = z0) := by show _ = _; rw [← hV]; rfl
            have HO : Hid (Only (fun k => k = p) w wr) := hO
            clear hN hV hO hz0
            go_wp2_with fail
            go_quiet (fail)
            go_wp2
            go_ret2
            rw [HN.out, HV.out]
            exact ⟨exp_fin (by first | rfl | omega | (simp; omega) | simp) (decide_eq_decide.2 (by omega)), R.drewN _, HO.out.drewN _⟩
    · have h1 : Hid (tkb s i 101 = false) := h1'
      have h2 : Hid (tkb s i 69 = true) := h2'
      clear h1' h2'
      cases neg
      · have hB : Hid (tkb s (i + 1) 45 = false) := HG.out
        have HA : Hid (tk s (i + 1) 43 = a) := by
          show _ = _
          have := HA.out
          unfold x3_Qxp at this
          rw [HG.out] at this
          exact this
        clear ha hneg
        go_enter Tryz.func240, Tryz.ntmps240
        go_wp2_with (first
          | (go_at_call 218; (with_reducible refine (take_any 101 h (by omega)).mono ?_); rintro e1 w1 ⟨rfl, k1, k2⟩; rw [h1.out]; rw [tk_no h1.out] at k1)
          | (go_at_call 218; (with_reducible refine (take_any 69 k1 (by omega)).mono ?_); rintro e2 w2 ⟨rfl, k3, k4⟩; rw [h2.out]; rw [tk_yes h2.out] at k3)
          | (go_at_call 218; (with_reducible refine (take_any 45 k3 (by omega)).mono ?_); rintro e3 w3 ⟨rfl, q1, q2⟩; rw [hB.out]; rw [tk_no hB.out] at q1)
          | (go_at_call 218; (with_reducible refine (take_any 43 q1 (by omega)).mono ?_); rintro e4 w4 ⟨rfl, q3, q4⟩; rw [HA.out] at q3))
        have R0 : Rdr _ p s a := q3
        have O0 := ((k2.trans k4).trans q2).trans q4
        have d1 := R0.c1
        go_quiet (fail)
        go_wp2_with fail
        go_loopw [5] (fun pv wr => ∃ j z0 : Nat, pv = .int .i64 z0 ∧ j ≤ 4 ∧ z0 < 10 ^ j ∧ Rdr wr p s (a + j) ∧ dN s (4 - j) (a + j) + j = dN s 4 a ∧ dV s (4 - j) (a + j) z0 = dV s 4 a 0 ∧ Only (fun k => k = p) w wr) (fun _ wr => 100 - atOf wr p)
        case atStart => exact ⟨0, 0, rfl, by omega, by decide, R0.drewN _, rfl, rfl, O0.drewN _⟩
        case round =>
          clear d1 R0 O0
          obtain ⟨j, z0, rfl, hj, hz0, R, hN, hV, hO⟩ := hrel
          have hle := R.le
          have hs64 := R.sz
          have hat := R.at
          have d1 := R.c1
          have hz4 : z0 < 10000 := Nat.lt_of_lt_of_le hz0 (Nat.le_trans (Nat.pow_le_pow_right (by decide) hj) (by decide))
          by_cases hj4 : j < 4
          · have hjI : (a : Int) + (j : Int) < (a : Int) + 4 := by omega
            obtain ⟨f, hf⟩ : ∃ f, 4 - j = f + 1 := ⟨3 - j, by omega⟩
            rw [hf] at hN hV
            by_cases hd : dgb s (a + j) = true
            · obtain ⟨hlt, hb9⟩ := dgb_lt hd
              rw [dN_yes hd] at hN
              rw [dV_yes hd] at hV
              obtain ⟨m, hm⟩ : ∃ m, m = qbyt s (a + j) - 48 := ⟨_, rfl⟩
              rw [← hm] at hV hb9
              have HM : Hid (m = qbyt s (a + j) - 48) := hm
              have HN : Hid (dN s f (a + j + 1) + 1 + j = dN s 4 a) := hN
              have HV : Hid (dV s f (a + j + 1) (z0 * 10 + m) = dV s 4 a 0) := hV
              have HZ : Hid (z0 < 10 ^ j) := hz0
              have HO : Hid (Only (fun k => k = p) w wr) := hO
              clear hm hN hV hO hz0
              go_wp2_with (go_at_call 260; (with_reducible refine (digit_yes R hd).mono ?_); rintro e5 w5 ⟨rfl, j1, j2⟩; rw [← HM.out])
              go_roundw
              case rel =>
                refine ⟨j + 1, z0 * 10 + m, congrArg (Value.int .i64) (by omega), by omega, ?_, j1, ?_, ?_, HO.out.trans j2⟩
                · have := HZ.out; rw [Nat.pow_succ]; omega
                · rw [show 4 - (j + 1) = f by omega]; have := HN.out; show dN s f (a + j + 1) + (j + 1) = _; omega
                · rw [show 4 - (j + 1) = f by omega]; exact HV.out
              case measure => rw [hat, j1.at]; omega
            · have hd0 : dgb s (a + j) = false := by simpa using hd
              rw [dN_no hd0] at hN
              rw [dV_no hd0] at hV
              have HN : Hid (dN s 4 a = j) := by show _ = _; omega
              have HV : Hid (dV s 4 a 0 = z0) := hV.symm
              have HO : Hid (Only (fun k => k = p) w wr) := hO
              clear hN hV hO hz0 hj4
              go_wp2_with (go_at_call 260; (with_reducible refine (digit_no R hd0).mono ?_); rintro e5 w5 ⟨rfl, j1, j2⟩; have g1 := j1.c1)
              go_quiet (fail)
              go_wp2
              go_ret2
              rw [HN.out, HV.out]
              exact ⟨exp_fin (by first | rfl | omega | (simp; omega) | simp) (decide_eq_decide.2 (by omega)), j1.drewN _, (HO.out.trans j2).drewN _⟩
          · have e4 : j = 4 := by omega
            subst e4
            have hjI : ¬ (a : Int) + ((4 : Nat) : Int) < (a : Int) + 4 := by omega
            have HN : Hid (dN s 4 a = 4) := by show _ = _; have : dN s (4 - 4) (a + 4) = 0 := rfl; omega
            have HV : Hid (dV s 4 a 0 = z0) := by show _ = _; rw [← hV]; rfl
            have HO : Hid (Only (fun k => k = p) w wr) := hO
            clear hN hV hO hz0
            go_wp2_with fail
            go_quiet (fail)
            go_wp2
            go_ret2
            rw [HN.out, HV.out]
            exact ⟨exp_fin (by first | rfl | omega | (simp; omega) | simp) (decide_eq_decide.2 (by omega)), R.drewN _, HO.out.drewN _⟩
      · have hB : Hid (tkb s (i + 1) 45 = true) := HG.out
        have HA : Hid (i + 2 = a) := by
          show _ = _
          have := HA.out
          unfold x3_Qxp at this
          rw [HG.out] at this
          exact this
        clear ha hneg
        go_enter Tryz.func240, Tryz.ntmps240
        go_wp2_with (first
          | (go_at_call 218; (with_reducible refine (take_any 101 h (by omega)).mono ?_); rintro e1 w1 ⟨rfl, k1, k2⟩; rw [h1.out]; rw [tk_no h1.out] at k1)
          | (go_at_call 218; (with_reducible refine (take_any 69 k1 (by omega)).mono ?_); rintro e2 w2 ⟨rfl, k3, k4⟩; rw [h2.out]; rw [tk_yes h2.out] at k3)
          | (go_at_call 218; (with_reducible refine (take_any 45 k3 (by omega)).mono ?_); rintro e3 w3 ⟨rfl, q1, q2⟩; rw [hB.out]; rw [tk_yes hB.out] at q1))
        have R0 : Rdr _ p s a := HA.out ▸ q1
        have O0 := (k2.trans k4).trans q2
        have d1 := R0.c1
        go_quiet (fail)
        go_wp2_with fail
        go_loopw [5] (fun pv wr => ∃ j z0 : Nat, pv = .int .i64 z0 ∧ j ≤ 4 ∧ z0 < 10 ^ j ∧ Rdr wr p s (a + j) ∧ dN s (4 - j) (a + j) + j = dN s 4 a ∧ dV s (4 - j) (a + j) z0 = dV s 4 a 0 ∧ Only (fun k => k = p) w wr) (fun _ wr => 100 - atOf wr p)
        case atStart => exact ⟨0, 0, rfl, by omega, by decide, R0.drewN _, rfl, rfl, O0.drewN _⟩
        case round =>
          clear d1 R0 O0
          obtain ⟨j, z0, rfl, hj, hz0, R, hN, hV, hO⟩ := hrel
          have hle := R.le
          have hs64 := R.sz
          have hat := R.at
          have d1 := R.c1
          have hz4 : z0 < 10000 := Nat.lt_of_lt_of_le hz0 (Nat.le_trans (Nat.pow_le_pow_right (by decide) hj) (by decide))
          by_cases hj4 : j < 4
          · have hjI : (a : Int) + (j : Int) < (a : Int) + 4 := by omega
            obtain ⟨f, hf⟩ : ∃ f, 4 - j = f + 1 := ⟨3 - j, by omega⟩
            rw [hf] at hN hV
            by_cases hd : dgb s (a + j) = true
            · obtain ⟨hlt, hb9⟩ := dgb_lt hd
              rw [dN_yes hd] at hN
              rw [dV_yes hd] at hV
              obtain ⟨m, hm⟩ : ∃ m, m = qbyt s (a + j) - 48 := ⟨_, rfl⟩
              rw [← hm] at hV hb9
              have HM : Hid (m = qbyt s (a + j) - 48) := hm
              have HN : Hid (dN s f (a + j + 1) + 1 + j = dN s 4 a) := hN
              have HV : Hid (dV s f (a + j + 1) (z0 * 10 + m) = dV s 4 a 0) := hV
              have HZ : Hid (z0 < 10 ^ j) := hz0
              have HO : Hid (Only (fun k => k = p) w wr) := hO
              clear hm hN hV hO hz0
              go_wp2_with (go_at_call 260; (with_reducible refine (digit_yes R hd).mono ?_); rintro e5 w5 ⟨rfl, j1, j2⟩; rw [← HM.out])
              go_roundw
              case rel =>
                refine ⟨j + 1, z0 * 10 + m, congrArg (Value.int .i64) (by omega), by omega, ?_, j1, ?_, ?_, HO.out.trans j2⟩
                · have := HZ.out; rw [Nat.pow_succ]; omega
                · rw [show 4 - (j + 1) = f by omega]; have := HN.out; show dN s f (a + j + 1) + (j + 1) = _; omega
                · rw [show 4 - (j + 1) = f by omega]; exact HV.out
              case measure => rw [hat, j1.at]; omega
            · have hd0 : dgb s (a + j) = false := by simpa using hd
              rw [dN_no hd0] at hN
              rw [dV_no hd0] at hV
              have HN : Hid (dN s 4 a = j) := by show _ = _; omega
              have HV : Hid (dV s 4 a 0 = z0) := hV.symm
              have HO : Hid (Only (fun k => k = p) w wr) := hO
              clear hN hV hO hz0 hj4
              go_wp2_with (go_at_call 260; (with_reducible refine (digit_no R hd0).mono ?_); rintro e5 w5 ⟨rfl, j1, j2⟩; have g1 := j1.c1)
              go_quiet (fail)
              go_wp2
              go_ret2
              rw [HN.out, HV.out]
              exact ⟨exp_fin (by first | rfl | omega | (simp; omega) | simp) (decide_eq_decide.2 (by omega)), j1.drewN _, (HO.out.trans j2).drewN _⟩
          · have e4 : j = 4 := by omega
            subst e4
            have hjI : ¬ (a : Int) + ((4 : Nat) : Int) < (a : Int) + 4 := by omega
            have HN : Hid (dN s 4 a = 4) := by show _ = _; have : dN s (4 - 4) (a + 4) = 0 := rfl; omega
            have HV : Hid (dV s 4 a 0 = z0) := by show _ = _; rw [← hV]; rfl
            have HO : Hid (Only (fun k => k = p) w wr) := hO
            clear hN hV hO hz0
            go_wp2_with fail
            go_quiet (fail)
            go_wp2
            go_ret2
            rw [HN.out, HV.out]
            exact ⟨exp_fin (by first | rfl | omega | (simp; omega) | simp) (decide_eq_decide.2 (by omega)), R.drewN _, HO.out.drewN _⟩
  · have hs0 : xS s i = false := by simpa using hs
    have e1 : xP s i = 0 := if_neg hs
    have e2 : xO s i = true := if_neg hs
    have e3 : xA s i = i := if_neg hs
    rw [e1, e2, e3]
    unfold xS at hs0
    have h1 : Hid (tkb s i 101 = false) := (Bool.or_eq_false_iff.1 hs0).1
    have h2 : Hid (tkb s i 69 = false) := (Bool.or_eq_false_iff.1 hs0).2
    clear e1 e2 e3 hs hs0
    go_enter Tryz.func240, Tryz.ntmps240
    go_wp2_with (first
      | (go_at_call 218; (with_reducible refine (take_any 101 h (by omega)).mono ?_); rintro e1 w1 ⟨rfl, k1, k2⟩; rw [h1.out]; rw [tk_no h1.out] at k1)
      | (go_at_call 218; (with_reducible refine (take_any 69 k1 (by omega)).mono ?_); rintro e2 w2 ⟨rfl, q1, q2⟩; rw [h2.out]; rw [tk_no h2.out] at q1))
    go_ret2
    exact ⟨rfl, q1, k2.trans q2⟩

end Go.Proofs.YtmpkcioeodlbcaaGreatDoor
namespace Go.Proofs.YtmpkcioeodlbcaaGreatDoor
open RowKit
def pfV (c : Nat) : Int := if c = 102 then (-15) else if c = 112 then (-12) else if c = 110 then (-9) else if c = 117 then (-6) else if c = 109 then (-3) else if c = 107 then 3 else if c = 77 then 6 else if c = 71 then 9 else if c = 84 then 12 else 0
def pfB (c : Nat) : Bool := c == 102 || c == 112 || c == 110 || c == 117 || c == 109 || c == 107 || c == 77 || c == 71 || c == 84
theorem pf_bound (c : Nat) : -15 ≤ pfV c ∧ pfV c ≤ 12 := by
  unfold pfV
  repeat' split
  all_goals omega
set_option maxRecDepth 10000 in
set_option maxHeartbeats 1000000 in
theorem Prefix_any (c : Nat) (w : World) : Calls Tryz.prog 262 #[.int .u8 c] w fun e w' => e = .returned (.tuple #[.int .i64 (pfV c), .bool (pfB c)]) ∧ w' = w := by
  by_cases h0 : c = 102
  · subst h0
    go_enter Tryz.func262, Tryz.ntmps262
    go_wp2
    go_ret2
    exact ⟨rfl, rfl⟩
  by_cases h1 : c = 112
  · subst h1
    go_enter Tryz.func262, Tryz.ntmps262
    go_wp2
    go_ret2
    exact ⟨rfl, rfl⟩
  by_cases h2 : c = 110
  · subst h2
    go_enter Tryz.func262, Tryz.ntmps262
    go_wp2
    go_ret2
    exact ⟨rfl, rfl⟩
  by_cases h3 : c = 117
  · subst h3
    go_enter Tryz.func262, Tryz.ntmps262
    go_wp2
    go_ret2
    exact ⟨rfl, rfl⟩
  by_cases h4 : c = 109
  · subst h4
    go_enter Tryz.func262, Tryz.ntmps262
    go_wp2
    go_ret2
    exact ⟨rfl, rfl⟩
  by_cases h5 : c = 107
  · subst h5
    go_enter Tryz.func262, Tryz.ntmps262
    go_wp2
    go_ret2
    exact ⟨rfl, rfl⟩
  by_cases h6 : c = 77
  · subst h6
    go_enter Tryz.func262, Tryz.ntmps262
    go_wp2
    go_ret2
    exact ⟨rfl, rfl⟩
  by_cases h7 : c = 71
  · subst h7
    go_enter Tryz.func262, Tryz.ntmps262
    go_wp2
    go_ret2
    exact ⟨rfl, rfl⟩
  by_cases h8 : c = 84
  · subst h8
    go_enter Tryz.func262, Tryz.ntmps262
    go_wp2
    go_ret2
    exact ⟨rfl, rfl⟩
  have g0 : ((c : Int) == 102) = false := by simp; omega
  have g1 : ((c : Int) == 112) = false := by simp; omega
  have g2 : ((c : Int) == 110) = false := by simp; omega
  have g3 : ((c : Int) == 117) = false := by simp; omega
  have g4 : ((c : Int) == 109) = false := by simp; omega
  have g5 : ((c : Int) == 107) = false := by simp; omega
  have g6 : ((c : Int) == 77) = false := by simp; omega
  have g7 : ((c : Int) == 71) = false := by simp; omega
  have g8 : ((c : Int) == 84) = false := by simp; omega
  have e1 : pfV c = 0 := by unfold pfV; rw [if_neg h0, if_neg h1, if_neg h2, if_neg h3, if_neg h4, if_neg h5, if_neg h6, if_neg h7, if_neg h8]
  have e2 : pfB c = false := by simp [pfB, h0, h1, h2, h3, h4, h5, h6, h7, h8]
  rw [e1, e2]
  clear e1 e2
  go_enter Tryz.func262, Tryz.ntmps262
  go_wp2
  go_ret2
  exact ⟨rfl, rfl⟩
/-- what prefix reads -/
def pxB (s : ByteArray) (i : Nat) : Bool := decide (i < s.size) && pfB (qbyt s i)
def pxV (s : ByteArray) (i : Nat) : Int := if i < s.size then pfV (qbyt s i) else 0
def pxA (s : ByteArray) (i : Nat) : Nat := if pxB s i = true then i + 1 else i
set_option maxRecDepth 10000 in
set_option maxHeartbeats 1000000 in
theorem prefix_any {w : World} {p i : Nat} {s : ByteArray} (h : Rdr w p s i) :
    Calls Tryz.prog 241 #[.pointer (some ⟨p, 0, none⟩)] w fun e w' => e = .returned (.int .i64 (pxV s i)) ∧ Rdr w' p s (pxA s i) ∧ Only (fun k => k = p) w w' := by
  have c0 := h.c0
  have c1 := h.c1
  have fz := h.fz
  have hl := h.le
  have hs := h.sz
  by_cases hi : i < s.size
  · have hne : ((i : Int) == (s.size : Int)) = false := by simp; omega
    have hg := qbyt_get hi
    have e1 : pxV s i = pfV (qbyt s i) := if_pos hi
    rw [e1]
    have HP : Hid (pxB s i = pfB (qbyt s i)) := by show _ = _; unfold pxB; rw [decide_eq_true hi, Bool.true_and]
    obtain ⟨b, hb⟩ : ∃ b, b = qbyt s i := ⟨_, rfl⟩
    rw [← hb] at hg HP ⊢
    clear e1 hb
    obtain ⟨pv, hpv⟩ : ∃ pv, pfV b = pv := ⟨_, rfl⟩
    have HV : Hid (pfV b = pv) := hpv
    rw [hpv]
    clear hpv
    cases hpb : pfB b
    · have HB : Hid (pfB b = false) := hpb
      have e2 : pxA s i = i := if_neg (by rw [HP.out, hpb]; decide)
      rw [e2]
      clear hpb e2
      go_enter Tryz.func241, Tryz.ntmps241
      go_wp2_with fail
      go_quiet (fail)
      go_wp2_with fail
      go_region_with (go_at_call 262; (with_reducible refine (Prefix_any b _).mono ?_); rintro e1 w1 ⟨rfl, rfl⟩; rw [HV.out, HB.out])
      all_goals
        go_wp2
        go_ret
        exact ⟨rfl, h.drewN (nq + 1), (Only.refl _ w).drewN (nq + 1)⟩
    · have HB : Hid (pfB b = true) := hpb
      have e2 : pxA s i = i + 1 := if_pos (by rw [HP.out, hpb])
      rw [e2]
      clear hpb e2
      go_enter Tryz.func241, Tryz.ntmps241
      go_wp2_with fail
      go_quiet (fail)
      go_wp2_with fail
      go_region_with (go_at_call 262; (with_reducible refine (Prefix_any b _).mono ?_); rintro e1 w1 ⟨rfl, rfl⟩; rw [HV.out, HB.out])
      all_goals
        go_wp2
        go_ret
        obtain ⟨R, O⟩ := h.step hi (nq + 1)
        exact ⟨rfl, R, O⟩
  · have e1 : pxV s i = 0 := if_neg hi
    have e2 : pxA s i = i := if_neg (by unfold pxB; rw [decide_eq_false hi, Bool.false_and]; decide)
    have e : i = s.size := by omega
    rw [e1, e2]
    clear e1 e2
    subst e
    go_enter Tryz.func241, Tryz.ntmps241
    go_wp2_with fail
    go_quiet (fail)
    go_wp2
    go_ret
    exact ⟨rfl, h.drewN nq, (Only.refl _ w).drewN nq⟩

end Go.Proofs.YtmpkcioeodlbcaaGreatDoor
namespace Go.Proofs.YtmpkcioeodlbcaaGreatDoor
open RowKit
def cT (s : ByteArray) (i : Nat) : Bool := tkb s (i + dN s 65 i) 46
def cI2 (s : ByteArray) (i : Nat) : Nat := tk s (i + dN s 65 i) 46
def cB (s : ByteArray) (i : Nat) : Nat := if cT s i = true then dN s 65 (cI2 s i) else 0
def cZ (s : ByteArray) (i : Nat) : Nat := if cT s i = true then dV s 65 (cI2 s i) (dV s 65 i 0) else dV s 65 i 0
def cI3 (s : ByteArray) (i : Nat) : Nat := cI2 s i + cB s i
def cSome (s : ByteArray) (i : Nat) : Bool := decide (dN s 65 i + cB s i ≠ 0)
def cOk (s : ByteArray) (i : Nat) : Bool := cSome s i && xO s (cI3 s i)
def cEnd (s : ByteArray) (i : Nat) : Nat := if cSome s i = true then (if xO s (cI3 s i) = true then pxA s (xA s (cI3 s i)) else xA s (cI3 s i)) else cI3 s i
def cP (s : ByteArray) (i : Nat) : Int := xP s (cI3 s i) + pxV s (xA s (cI3 s i)) - (cB s i : Int)
theorem xP_bound (s : ByteArray) (i : Nat) : -10000 < xP s i ∧ xP s i < 10000 := by
  have h := dV_bound (s := s) 4 (x3_Qxp s i) 0
  rw [show (0 + 1) * 10 ^ 4 = 10000 by decide] at h
  unfold xP
  repeat' split
  all_goals omega
theorem px_bound (s : ByteArray) (i : Nat) : -15 ≤ pxV s i ∧ pxV s i ≤ 12 := by
  have := pf_bound (qbyt s i)
  unfold pxV
  split <;> omega
theorem dec_fin {v v' : Value} {P Q : Int} {b c : Bool} (h0 : v = v') (h1 : P = Q) (h2 : b = c) : Ending.returned (Value.tuple #[v, .int .i64 P, .bool b]) = .returned (.tuple #[v', .int .i64 Q, .bool c]) := by rw [h0, h1, h2]
theorem nob_nil {p : Nat} : ¬ Ob (.slice none 0 0) p := fun hk => by simp [Ob, Value.ownBlock] at hk
theorem only_nil {w w' : World} {p : Nat} (h : Only (fun k => Ob (.slice none 0 0) k ∨ k = p) w w') : Only (fun k => k = p) w w' := h.mono (fun _ _ hi => hi.elim (fun q => absurd q nob_nil) id)
theorem fresh_nil {v : Value} {n : Nat} (h : ∀ k, Ob v k → Ob (.slice none 0 0) k ∨ n ≤ k) : ∀ k, Ob v k → n ≤ k := fun k hk => (h k hk).elim (fun q => absurd q nob_nil) id
set_option maxRecDepth 10000 in
set_option maxHeartbeats 2000000 in
theorem dec_any {w : World} {p i : Nat} {s : ByteArray} (h : Rdr w p s i) :
    Calls Tryz.prog 219 #[.pointer (some ⟨p, 0, none⟩)] w fun e w' => ∃ (v' : Value) (P : Int), e = .returned (.tuple #[v', .int .i64 P, .bool (cOk s i)]) ∧ (cOk s i = true → Wh w' w.heap.size v' (cZ s i) 200 ∧ P = cP s i) ∧ Rdr w' p s (cEnd s i) ∧ Only (fun k => k = p) w w' := by
  obtain ⟨n1, hn1⟩ : ∃ n, dN s 65 i = n := ⟨_, rfl⟩
  have HN1 : Hid (dN s 65 i = n1) := hn1
  have hplt := h.plt
  have hnil : Wh w w.heap.size (.slice none 0 0) 0 0 := Wh.nil _ _ _
  have hn65 : n1 ≤ 65 := by rw [← hn1]; exact dN_le _ _
  cases ht : cT s i
  · have HT : Hid (tkb s (i + dN s 65 i) 46 = false) := ht
    have HCB : Hid (cB s i = 0) := if_neg (by rw [ht]; decide)
    have EZ : Hid (cZ s i = dV s 65 i 0) := if_neg (by rw [ht]; decide)
    have E3 : Hid (cI3 s i = tk s (i + dN s 65 i) 46) := by show cI2 s i + cB s i = _; rw [HCB.out]; rfl
    clear ht hn1
    by_cases hz : n1 = 0
    · have ec : cSome s i = false := decide_eq_false (by rw [HN1.out, HCB.out]; omega)
      have eo : cOk s i = false := by unfold cOk; rw [ec]; rfl
      have ee : cEnd s i = cI3 s i := if_neg (by rw [ec]; decide)
      rw [eo, ee]
      clear eo ee ec
      have z1 : n1 = 0 := by omega
      subst z1
      go_enter Tryz.func219, Tryz.ntmps219
      go_wp2_with (first
        | (go_at_call 239; (with_reducible refine (digits_any h hnil nob_nil (by omega) (Nat.le_refl _)).mono ?_); rintro e1 w1 ⟨v1, rfl, k1, k2, k3, k4⟩; rw [HN1.out]; have O1 := only_nil k3; have F1 := fresh_nil k4; clear k3 k4)
        | (go_at_call 218; (with_reducible refine (take_any 46 k2 (by omega)).mono ?_); rintro e2 w2 ⟨rfl, q1, q2⟩; rw [HT.out]; have W2 := k1.only q2 (fun k hk hk2 => by have := F1 k hk; omega); have s2 := O1.size; have s3 := q2.size; have Q1 := q1; rw [← E3.out] at Q1))
      go_ret3
      exact ⟨_, _, rfl, fun hk => absurd hk (by decide), Q1, (O1.trans q2)⟩
    · have hneI : ((n1 : Int) == 0) = false := by simp; omega
      have ec : cSome s i = true := decide_eq_true (by rw [HN1.out, HCB.out]; omega)
      obtain ⟨xp, hxp⟩ : ∃ xp, xP s (cI3 s i) = xp := ⟨_, rfl⟩
      have HXP : Hid (xP s (cI3 s i) = xp) := hxp
      have bx := xP_bound s (cI3 s i)
      rw [hxp] at bx
      obtain ⟨bx1, bx2⟩ := bx
      clear hxp
      cases hx : xO s (cI3 s i)
      · have HX : Hid (xO s (cI3 s i) = false) := hx
        have eo : cOk s i = false := by unfold cOk; rw [ec, hx]; rfl
        have ee : cEnd s i = xA s (cI3 s i) := by unfold cEnd; rw [if_pos ec, if_neg (by rw [hx]; decide)]
        rw [eo, ee]
        clear eo ee ec hx
        go_enter Tryz.func219, Tryz.ntmps219
        go_wp2_with (first
          | (go_at_call 239; (with_reducible refine (digits_any h hnil nob_nil (by omega) (Nat.le_refl _)).mono ?_); rintro e1 w1 ⟨v1, rfl, k1, k2, k3, k4⟩; rw [HN1.out]; have O1 := only_nil k3; have F1 := fresh_nil k4; clear k3 k4)
          | (go_at_call 218; (with_reducible refine (take_any 46 k2 (by omega)).mono ?_); rintro e2 w2 ⟨rfl, q1, q2⟩; rw [HT.out]; have W2 := k1.only q2 (fun k hk hk2 => by have := F1 k hk; omega); have s2 := O1.size; have s3 := q2.size; have Q1 := q1; rw [← E3.out] at Q1)
          | (go_at_call 240; (with_reducible refine (exp_any Q1).mono ?_); rintro e4 w4 ⟨rfl, x1, x2⟩; rw [HXP.out, HX.out]))
        go_ret3
        exact ⟨_, _, rfl, fun hk => absurd hk (by decide), x1, (O1.trans q2).trans x2⟩
      · have HX : Hid (xO s (cI3 s i) = true) := hx
        have eo : cOk s i = true := by unfold cOk; rw [ec, hx]; rfl
        have ee : cEnd s i = pxA s (xA s (cI3 s i)) := by unfold cEnd; rw [if_pos ec, if_pos hx]
        rw [eo, ee]
        clear eo ee ec hx
        obtain ⟨pv, hpv⟩ : ∃ pv, pxV s (xA s (cI3 s i)) = pv := ⟨_, rfl⟩
        have HPV : Hid (pxV s (xA s (cI3 s i)) = pv) := hpv
        have bp := px_bound s (xA s (cI3 s i))
        rw [hpv] at bp
        obtain ⟨bp1, bp2⟩ := bp
        clear hpv
        go_enter Tryz.func219, Tryz.ntmps219
        go_wp2_with (first
          | (go_at_call 239; (with_reducible refine (digits_any h hnil nob_nil (by omega) (Nat.le_refl _)).mono ?_); rintro e1 w1 ⟨v1, rfl, k1, k2, k3, k4⟩; rw [HN1.out]; have O1 := only_nil k3; have F1 := fresh_nil k4; clear k3 k4)
          | (go_at_call 218; (with_reducible refine (take_any 46 k2 (by omega)).mono ?_); rintro e2 w2 ⟨rfl, q1, q2⟩; rw [HT.out]; have W2 := k1.only q2 (fun k hk hk2 => by have := F1 k hk; omega); have s2 := O1.size; have s3 := q2.size; have Q1 := q1; rw [← E3.out] at Q1)
          | (go_at_call 240; (with_reducible refine (exp_any Q1).mono ?_); rintro e4 w4 ⟨rfl, x1, x2⟩; rw [HXP.out, HX.out])
          | (go_at_call 241; (with_reducible refine (prefix_any x1).mono ?_); rintro e5 w5 ⟨rfl, y1, y2⟩; rw [HPV.out]))
        go_ret3
        refine ⟨_, _, dec_fin rfl rfl rfl, fun _ => ⟨?_, ?_⟩, y1, ((O1.trans q2).trans x2).trans y2⟩
        · rw [EZ.out]
          refine ((W2.only x2 (fun k hk hk2 => ?_)).only y2 (fun k hk hk2 => ?_)).mono (by omega)
          all_goals
            have := F1 k hk
            omega
        · unfold cP
          rw [HXP.out, HPV.out, HCB.out]
          try (first | rfl | omega | (unfold wrap64; omega))
  · have HT : Hid (tkb s (i + dN s 65 i) 46 = true) := ht
    obtain ⟨n2, hn2⟩ : ∃ n, dN s 65 (tk s (i + dN s 65 i) 46) = n := ⟨_, rfl⟩
    have HN2 : Hid (dN s 65 (tk s (i + dN s 65 i) 46) = n2) := hn2
    have hn2b : n2 ≤ 65 := by rw [← hn2]; exact dN_le _ _
    have HCB : Hid (cB s i = n2) := by show _ = _; rw [← hn2]; exact if_pos ht
    have EZ : Hid (cZ s i = dV s 65 (tk s (i + dN s 65 i) 46) (dV s 65 i 0)) := if_pos ht
    have E3 : Hid (cI3 s i = tk s (i + dN s 65 i) 46 + dN s 65 (tk s (i + dN s 65 i) 46)) := by show cI2 s i + cB s i = _; rw [HCB.out, ← hn2]; rfl
    clear ht hn1 hn2
    by_cases hz : n1 + n2 = 0
    · have ec : cSome s i = false := decide_eq_false (by rw [HN1.out, HCB.out]; omega)
      have eo : cOk s i = false := by unfold cOk; rw [ec]; rfl
      have ee : cEnd s i = cI3 s i := if_neg (by rw [ec]; decide)
      rw [eo, ee]
      clear eo ee ec
      have z1 : n1 = 0 := by omega
      have z2 : n2 = 0 := by omega
      subst z2
      subst z1
      go_enter Tryz.func219, Tryz.ntmps219
      go_wp2_with (first
        | (go_at_call 239; (with_reducible refine (digits_any h hnil nob_nil (by omega) (Nat.le_refl _)).mono ?_); rintro e1 w1 ⟨v1, rfl, k1, k2, k3, k4⟩; rw [HN1.out]; have O1 := only_nil k3; have F1 := fresh_nil k4; clear k3 k4)
        | (go_at_call 218; (with_reducible refine (take_any 46 k2 (by omega)).mono ?_); rintro e2 w2 ⟨rfl, q1, q2⟩; rw [HT.out]; have W2 := k1.only q2 (fun k hk hk2 => by have := F1 k hk; omega); have s2 := O1.size; have s3 := q2.size)
        | (go_at_call 239; (with_reducible refine (digits_any q1 W2 (fun hk => by have := F1 p hk; omega) (by omega) (by omega)).mono ?_); rintro e3 w3 ⟨v3, rfl, j1, j2, j3, j4⟩; rw [HN2.out]; have O3 : Only (fun k => k = p) w w3 := (O1.trans q2).next j3 (fun i hi => by rcases hi with hi | hi; exact .inr (F1 i hi); exact .inl hi); have F3 : ∀ k, Ob v3 k → w.heap.size ≤ k := (fun k hk => by rcases j4 k hk with hi | hi; exact F1 k hi; omega); rw [← E3.out] at j2))
      go_ret3
      exact ⟨_, _, rfl, fun hk => absurd hk (by decide), j2, O3⟩
    · have hneI : (((n1 : Int) + (n2 : Int)) == 0) = false := by simp; omega
      have ec : cSome s i = true := decide_eq_true (by rw [HN1.out, HCB.out]; omega)
      obtain ⟨xp, hxp⟩ : ∃ xp, xP s (cI3 s i) = xp := ⟨_, rfl⟩
      have HXP : Hid (xP s (cI3 s i) = xp) := hxp
      have bx := xP_bound s (cI3 s i)
      rw [hxp] at bx
      obtain ⟨bx1, bx2⟩ := bx
      clear hxp
      cases hx : xO s (cI3 s i)
      · have HX : Hid (xO s (cI3 s i) = false) := hx
        have eo : cOk s i = false := by unfold cOk; rw [ec, hx]; rfl
        have ee : cEnd s i = xA s (cI3 s i) := by unfold cEnd; rw [if_pos ec, if_neg (by rw [hx]; decide)]
        rw [eo, ee]
        clear eo ee ec hx
        go_enter Tryz.func219, Tryz.ntmps219
        go_wp2_with (first
          | (go_at_call 239; (with_reducible refine (digits_any h hnil nob_nil (by omega) (Nat.le_refl _)).mono ?_); rintro e1 w1 ⟨v1, rfl, k1, k2, k3, k4⟩; rw [HN1.out]; have O1 := only_nil k3; have F1 := fresh_nil k4; clear k3 k4)
          | (go_at_call 218; (with_reducible refine (take_any 46 k2 (by omega)).mono ?_); rintro e2 w2 ⟨rfl, q1, q2⟩; rw [HT.out]; have W2 := k1.only q2 (fun k hk hk2 => by have := F1 k hk; omega); have s2 := O1.size; have s3 := q2.size)
          | (go_at_call 239; (with_reducible refine (digits_any q1 W2 (fun hk => by have := F1 p hk; omega) (by omega) (by omega)).mono ?_); rintro e3 w3 ⟨v3, rfl, j1, j2, j3, j4⟩; rw [HN2.out]; have O3 : Only (fun k => k = p) w w3 := (O1.trans q2).next j3 (fun i hi => by rcases hi with hi | hi; exact .inr (F1 i hi); exact .inl hi); have F3 : ∀ k, Ob v3 k → w.heap.size ≤ k := (fun k hk => by rcases j4 k hk with hi | hi; exact F1 k hi; omega); rw [← E3.out] at j2)
          | (go_at_call 240; (with_reducible refine (exp_any j2).mono ?_); rintro e4 w4 ⟨rfl, x1, x2⟩; rw [HXP.out, HX.out]))
        go_ret3
        exact ⟨_, _, rfl, fun hk => absurd hk (by decide), x1, O3.trans x2⟩
      · have HX : Hid (xO s (cI3 s i) = true) := hx
        have eo : cOk s i = true := by unfold cOk; rw [ec, hx]; rfl
        have ee : cEnd s i = pxA s (xA s (cI3 s i)) := by unfold cEnd; rw [if_pos ec, if_pos hx]
        rw [eo, ee]
        clear eo ee ec hx
        obtain ⟨pv, hpv⟩ : ∃ pv, pxV s (xA s (cI3 s i)) = pv := ⟨_, rfl⟩
        have HPV : Hid (pxV s (xA s (cI3 s i)) = pv) := hpv
        have bp := px_bound s (xA s (cI3 s i))
        rw [hpv] at bp
        obtain ⟨bp1, bp2⟩ := bp
        clear hpv
        go_enter Tryz.func219, Tryz.ntmps219
        go_wp2_with (first
          | (go_at_call 239; (with_reducible refine (digits_any h hnil nob_nil (by omega) (Nat.le_refl _)).mono ?_); rintro e1 w1 ⟨v1, rfl, k1, k2, k3, k4⟩; rw [HN1.out]; have O1 := only_nil k3; have F1 := fresh_nil k4; clear k3 k4)
          | (go_at_call 218; (with_reducible refine (take_any 46 k2 (by omega)).mono ?_); rintro e2 w2 ⟨rfl, q1, q2⟩; rw [HT.out]; have W2 := k1.only q2 (fun k hk hk2 => by have := F1 k hk; omega); have s2 := O1.size; have s3 := q2.size)
          | (go_at_call 239; (with_reducible refine (digits_any q1 W2 (fun hk => by have := F1 p hk; omega) (by omega) (by omega)).mono ?_); rintro e3 w3 ⟨v3, rfl, j1, j2, j3, j4⟩; rw [HN2.out]; have O3 : Only (fun k => k = p) w w3 := (O1.trans q2).next j3 (fun i hi => by rcases hi with hi | hi; exact .inr (F1 i hi); exact .inl hi); have F3 : ∀ k, Ob v3 k → w.heap.size ≤ k := (fun k hk => by rcases j4 k hk with hi | hi; exact F1 k hi; omega); rw [← E3.out] at j2)
          | (go_at_call 240; (with_reducible refine (exp_any j2).mono ?_); rintro e4 w4 ⟨rfl, x1, x2⟩; rw [HXP.out, HX.out])
          | (go_at_call 241; (with_reducible refine (prefix_any x1).mono ?_); rintro e5 w5 ⟨rfl, y1, y2⟩; rw [HPV.out]))
        go_ret3
        refine ⟨_, _, dec_fin rfl rfl rfl, fun _ => ⟨?_, ?_⟩, y1, (O3.trans x2).trans y2⟩
        · rw [EZ.out]
          refine ((j1.only x2 (fun k hk hk2 => ?_)).only y2 (fun k hk hk2 => ?_)).mono (by omega)
          all_goals
            have := F3 k hk
            omega
        · unfold cP
          rw [HXP.out, HPV.out, HCB.out]
          try (first | rfl | omega | (unfold wrap64; omega))

end Go.Proofs.YtmpkcioeodlbcaaGreatDoor
