/-
  Several texts in one: Qu Qv Qw Gf Gu Gd.
-/
import Derived.Test.YtjoncbfaajcioaaGreatDoorBqa
import Derived.Test.YtjoncbfaajcioaaGreatDoorBqb
import Derived.Laws.BitsAllLaws
import Derived.Deep.RegionHeldLaw
import Derived.Deep.AppendLies
namespace Go.Proofs.YtjoncbfaajcioaaGreatDoor
open RowKit

def E21 : Nat := 1021
/-- r' by o' is r by o, divided by two to the power D - 1021; it is below 1, and from a half on, unless D is 0 -/
def Good (r o r' o' D : Nat) : Prop := r' < o' ∧ (o' ≤ 2 * r' ∨ D = 0) ∧ r' * o * 2 ^ D = r * o' * 2 ^ E21 ∧ 0 < r'
theorem nb_mul {r n : Nat} (h : 0 < r) : nbits (r * 2 ^ n) = nbits r + n := by
  have a := nbits_lt r
  have b := nbits_ge h
  apply nbits_eq
  · rw [Nat.pow_add, ← Nat.mul_assoc]; exact Nat.mul_le_mul_right _ b
  · rw [Nat.pow_add]; exact Nat.mul_lt_mul_of_pos_right a (Nat.two_pow_pos n)
theorem nb_near {a b : Nat} (ha : 0 < a) (hb : 0 < b) (h : nbits a = nbits b) : a < 2 * b ∧ b < 2 * a := by
  have a1 := nbits_lt a
  have a2 := nbits_ge ha
  have b1 := nbits_lt b
  have b2 := nbits_ge hb
  rw [h] at a1 a2
  omega
theorem nb_less {a b : Nat} (h : nbits a < nbits b) : a < b := by
  have a1 := nbits_lt a
  have hb : 0 < b := by
    rcases Nat.eq_zero_or_pos b with h0 | h0
    · subst h0; rw [nbits_zero] at h; omega
    · exact h0
  have b2 := nbits_ge hb
  have : 2 ^ (nbits a + 1) ≤ 2 ^ nbits b := Nat.pow_le_pow_right (by decide) h
  rw [Nat.pow_succ] at this
  omega
theorem bl_A {r o n : Nat} (hr : 0 < r) (ho : 0 < o) (hn : n = min (nbits o - nbits r) 1021) (hlt : nbits r < nbits o) :
    (r * 2 ^ n < o → Good r o (r * 2 ^ n) o (1021 - n)) ∧ (o ≤ r * 2 ^ n → Good r o (r * 2 ^ n) (o * 2 + 0) (1021 - n + 1)) := by
  have h1 := nb_mul (n := n) hr
  have hp : 0 < r * 2 ^ n := Nat.mul_pos hr (Nat.two_pow_pos n)
  have hn2 : n ≤ 1021 := by omega
  have e1 : 2 ^ n * 2 ^ (1021 - n) = 2 ^ E21 := by rw [← Nat.pow_add]; congr 1; unfold E21; omega
  rcases Nat.lt_or_ge 1021 (nbits o - nbits r) with h2 | h2
  · have h3 : r * 2 ^ n < o := nb_less (by rw [h1]; omega)
    have h4 : n = 1021 := by omega
    refine ⟨fun _ => ⟨h3, .inr (by omega), ?_, hp⟩, fun h => absurd h (by omega)⟩
    rw [← e1, Nat.mul_right_comm r (2 ^ n), Nat.mul_assoc (r * o)]
  · obtain ⟨h3, h4⟩ := nb_near hp ho (by rw [h1]; omega)
    refine ⟨fun h => ⟨h, .inl (by omega), ?_, hp⟩, fun h => ⟨by omega, .inl (by omega), ?_, hp⟩⟩
    · rw [← e1, Nat.mul_right_comm r (2 ^ n), Nat.mul_assoc (r * o)]
    · rw [← e1, Nat.pow_succ, Nat.add_zero]
      generalize 2 ^ (1021 - n) = y
      generalize 2 ^ n = x
      simp only [Nat.mul_comm, Nat.mul_left_comm, Nat.mul_assoc]
theorem bl_B {r o n : Nat} (hr : 0 < r) (ho : 0 < o) (hn : n = nbits r - nbits o) (hle : nbits o ≤ nbits r) :
    (r < o * 2 ^ n → Good r o r (o * 2 ^ n) (1021 + n)) ∧ (o * 2 ^ n ≤ r → Good r o r (o * 2 ^ n * 2 + 0) (1021 + n + 1)) := by
  have h1 := nb_mul (n := n) ho
  have hp : 0 < o * 2 ^ n := Nat.mul_pos ho (Nat.two_pow_pos n)
  obtain ⟨h3, h4⟩ := nb_near hp hr (by rw [h1]; omega)
  have e1 : 2 ^ (1021 + n) = 2 ^ n * 2 ^ E21 := by rw [← Nat.pow_add, Nat.add_comm]; rfl
  refine ⟨fun h => ⟨h, .inl (by omega), ?_, hr⟩, fun h => ⟨by omega, .inl (by omega), ?_, hr⟩⟩
  · rw [e1, ← Nat.mul_assoc, Nat.mul_assoc r]
  · rw [Nat.pow_succ, e1, Nat.add_zero]
    generalize 2 ^ E21 = y
    generalize 2 ^ n = x
    simp only [Nat.mul_comm, Nat.mul_left_comm, Nat.mul_assoc]
/-- the one is turned: all else is as it was -/
theorem Rt.put1 {w w1 : World} {p base r o L o' L' : Nat} {e : TypeId} {cur : Array Value} {vr vo vo' : Value} (h : Rt w p e cur base vr vo r o L) (ho : Only (Ob vo) w w1) (hv : Wh w1 base vo' o' L') (hf : ∀ k, Ob vo' k → Ob vo k ∨ w.heap.size ≤ k) (hL : L ≤ L') :
    Rt (w1.setCell ⟨p, 1, none⟩ vo') p e (cur.setIfInBounds 1 vo') base vr vo' r o' L' ∧ Only (fun k => Ob vo k ∨ k = p) w (w1.setCell ⟨p, 1, none⟩ vo') := by
  have hb1 : w1.heap[p]? = some (.cells cur e (0, 0)) := by rw [ho.block p h.plt h.po]; exact h.blk
  have hpr' : ¬ Ob vo' p := fun hk => by
    rcases hf p hk with h1 | h1
    · exact h.po h1
    · have := h.plt; omega
  have os : Only (fun k => k = p) w1 (w1.setCell ⟨p, 1, none⟩ vo') := (Only.refl _ _).set _ _ (.inl rfl)
  refine ⟨⟨heap_setCell_same w1 p 1 cur e vo' hb1, ?_, ?_, ((h.wr.only ho (fun k hk hk2 => h.ap k hk hk2)).only os (fun k hk hk2 => h.pr (hk2 ▸ hk))).mono hL, hv.only os (fun k hk hk2 => hpr' (hk2 ▸ hk)), fun k hk hk2 => ?_, h.pr, hpr', ?_⟩, (ho.mono (fun i _ hi => .inl hi)).next os (fun i hi => .inl (.inr hi))⟩
  · rw [Array.getElem?_setIfInBounds, if_neg (by decide)]; exact h.c0
  · have hs : 1 < cur.size := (Array.getElem?_eq_some_iff.1 h.c1).1
    simp [hs]
  · rcases hf k hk2 with h1 | h1
    · exact h.ap k hk h1
    · have := (h.wr.lt hk).1; omega
  · have := ho.size
    have := h.bs
    simp; omega

end Go.Proofs.YtjoncbfaajcioaaGreatDoor

namespace Go.Proofs.YtjoncbfaajcioaaGreatDoor
open RowKit

theorem Rt.cells {w w1 : World} {p base r o L : Nat} {e : TypeId} {cur : Array Value} {vr vo : Value} (h : Rt w p e cur base vr vo r o L) {S : Nat → Prop} (ho : Only S w w1) (hp : ¬ S p) : w1.cell? ⟨p, 0, none⟩ = some vr ∧ w1.cell? ⟨p, 1, none⟩ = some vo ∧ w1.frozen? ⟨p, 0, none⟩ = false ∧ w1.frozen? ⟨p, 1, none⟩ = false := by
  have hb1 : w1.heap[p]? = some (.cells cur e (0, 0)) := by rw [ho.block p h.plt hp]; exact h.blk
  exact ⟨by rw [cell_of_row w1 p 0 cur e (0, 0) hb1]; exact h.c0, by rw [cell_of_row w1 p 1 cur e (0, 0) hb1]; exact h.c1, frozen_of_row w1 p 0 cur e hb1, frozen_of_row w1 p 1 cur e hb1⟩
theorem Rt.mono' {w : World} {p base r o L L' : Nat} {e : TypeId} {cur : Array Value} {vr vo : Value} (h : Rt w p e cur base vr vo r o L) (hl : L ≤ L') : Rt w p e cur base vr vo r o L' := ⟨h.blk, h.c0, h.c1, h.wr.mono hl, h.wo.mono hl, h.ap, h.pr, h.po, h.bs⟩
set_option maxRecDepth 10000 in
set_option maxHeartbeats 2000000 in
theorem qbelow_any {w : World} {p base r o L : Nat} {e : TypeId} {cur : Array Value} {vr vo : Value} (h : Rt w p e cur base vr vo r o L) (hr : 0 < r) (ho : 0 < o) (hL : L ≤ 1000) :
    Calls Tryz.prog 86 #[.pointer (some ⟨p, 0, none⟩)] w fun e' w' => ∃ D : Nat, e' = .returned (.int .i64 ((D : Int) - 1021)) ∧ D ≤ 1100000 ∧ ∃ cur' vr' vo' r' o', Good r o r' o' D ∧ Rt w' p e cur' base vr' vo' r' o' (2 * L + 20) ∧ Only (fun k => Ob vr k ∨ Ob vo k ∨ k = p) w w' := by
  have c0 := h.cell0
  have c1 := h.cell1
  obtain ⟨lr, hlr⟩ : ∃ lr, lr = nbits r := ⟨_, rfl⟩
  obtain ⟨lo, hlo⟩ : ∃ lo, lo = nbits o := ⟨_, rfl⟩
  have HLR : Hid (nbits r = lr) := hlr.symm
  have HLO : Hid (nbits o = lo) := hlo.symm
  have blr : lr ≤ 64 * L := by
    obtain ⟨ws, _, k, _, hn, hl⟩ := h.wr
    rw [hlr]
    apply nbits_le
    have := qn_lt k
    rw [pow64, hn] at this
    exact Nat.lt_of_lt_of_le this (Nat.pow_le_pow_right (by decide) (by omega))
  have blo : lo ≤ 64 * L := by
    obtain ⟨ws, _, k, _, hn, hl⟩ := h.wo
    rw [hlo]
    apply nbits_le
    have := qn_lt k
    rw [pow64, hn] at this
    exact Nat.lt_of_lt_of_le this (Nat.pow_le_pow_right (by decide) (by omega))
  by_cases hlt : lr < lo
  · obtain ⟨n, hn⟩ : ∃ n, n = min (lo - lr) 1021 := ⟨_, rfl⟩
    have hmax : max ((lr : Int) - (lo : Int)) (-1021) = -(n : Int) := by omega
    have HA : Hid ((r * 2 ^ n < o → Good r o (r * 2 ^ n) o (1021 - n)) ∧ (o ≤ r * 2 ^ n → Good r o (r * 2 ^ n) (o * 2 + 0) (1021 - n + 1))) := bl_A hr ho (by rw [← hlr, ← hlo]; exact hn) (by rw [← hlr, ← hlo]; exact hlt)
    have hn1 : n ≤ 1021 := by omega
    have hn0 : 0 < n := by omega
    clear hlr hlo hn
    go_enter Tryz.func86, Tryz.ntmps86
    go_wp2_with fail
    go_region_held_law (fun W => W.cell? ⟨p, 0, none⟩ = some vr ∧ W.cell? ⟨p, 1, none⟩ = some vo)
      (first | with_reducible exact D1 | with_reducible exact D2 | go_keep)
      (first
      | (go_at_call 103; (with_reducible refine (qlen_any _ (h.wr.hp (by first | exact hp_drew _ | exact hp_drewN _ _)) hr (by omega)).mono ?_); rintro e1 w1 ⟨m1, rfl, rfl⟩; rw [HLR.out])
      | (go_at_call 103; (with_reducible refine (qlen_any _ (h.wo.hp (by first | exact hp_drew _ | exact hp_drewN _ _)) ho (by omega)).mono ?_); rintro e2 w2 ⟨m2, rfl, rfl⟩; rw [HLO.out]))
    have hif : (if IntKind.i64.wrap ((lr : Int) - (lo : Int)) < -1021 then -1021 else IntKind.i64.wrap ((lr : Int) - (lo : Int))) = -(n : Int) := by rw [IntKind.wrap_i64]; split <;> omega
    simp only [hif]
    go_wp2_with (go_at_call 104; (with_reducible refine (qtwos_any _ base _ L n _ (h.wr.hp (by first | exact hp_drew _ | exact hp_drewN _ _)) hr (by omega) (by omega) (by rw [hp_drewN]; exact h.bs)).mono ?_); rintro e5 w1 ⟨v1, rfl, k1, k2, k3⟩; obtain ⟨kc0, kc1, kf0, kf1⟩ := h.cells (k2.hp rfl rfl rfl rfl) h.pr; obtain ⟨sa, sn, sc, rfl⟩ := k1.sl)
    obtain ⟨R1, O1⟩ := h.put (k2.hp rfl rfl rfl rfl) k1 (fun k hk => .inr (k3 k hk)) (by omega)
    have R1 := R1.mono' (L' := 2 * L + 19) (by omega)
    obtain ⟨W, hW⟩ : ∃ W, W = w1.setCell ⟨p, 0, none⟩ (.slice sa sn sc) := ⟨_, rfl⟩
    rw [← hW] at R1 O1 ⊢
    have O2 : Only (fun k => Ob vr k ∨ Ob vo k ∨ k = p) w W := O1.mono (fun i _ hi => by rcases hi with hi | hi; exact .inl hi; exact .inr (.inr hi))
    have d0 := R1.cell0
    have d1 := R1.cell1
    clear hW c0 c1 kc0 kc1 kf0 kf1 O1
    obtain ⟨x, hx⟩ : ∃ x, cmI (r * 2 ^ n) (o) = x := ⟨_, rfl⟩
    have HX : Hid (cmI (r * 2 ^ n) (o) = x) := hx
    by_cases hge : o ≤ r * 2 ^ n
    · have hx0 : 0 ≤ x := by rw [← hx]; exact cmI_ge.2 hge
      have HG := HA.out.2 hge
      clear hx HA
      go_wp2_with fail
      go_region_held_law (fun V => V.cell? ⟨p, 0, none⟩ = some (Value.slice sa sn sc) ∧ V.cell? ⟨p, 1, none⟩ = some vo)
        (first | go_keep)
        (first
        | (go_at_call 105; (with_reducible refine (qcmp_any _ (R1.wr.hp (by first | exact hp_drew _ | exact hp_drewN _ _)) (R1.wo.hp (by first | exact hp_drew _ | exact hp_drewN _ _)) (by omega) (by omega)).mono ?_); rintro e3 w3 ⟨m3, rfl, rfl⟩; rw [HX.out]))
      go_wp2_with (go_at_call 101; (with_reducible refine (qtimesI 2 0 (R1.wo.hp (by first | exact hp_drew _ | exact hp_drewN _ _)) (by omega) (by omega) (by omega) (by omega) (by omega) (by omega) (by rw [hp_drewN]; exact R1.bs)).mono ?_); rintro e4 w4 ⟨v4, rfl, q1, q2, q3⟩; obtain ⟨qc0, qc1, qf0, qf1⟩ := R1.cells (q2.hp rfl rfl rfl rfl) R1.po; obtain ⟨a4, n4, c4, rfl⟩ := q1.sl)
      go_ret
      obtain ⟨R5, O5⟩ := R1.put1 (q2.hp rfl rfl rfl rfl) q1 q3 (Nat.le_succ _)
      refine ⟨1021 - n + 1, congrArg Ending.returned (congrArg (Value.int .i64) (by omega)), by omega, _, _, _, _, _, HG, R5.mono' (by omega), O2.next O5 (fun i hi => ?_)⟩
      rcases hi with hi | hi
      · exact .inl (.inr (.inl hi))
      · exact .inl (.inr (.inr hi))
    · have hx0 : ¬ 0 ≤ x := by rw [← hx]; exact fun h => hge (cmI_ge.1 h)
      have HG := HA.out.1 (by omega)
      clear hx HA
      go_wp2_with fail
      go_region_held_law (fun V => V.cell? ⟨p, 0, none⟩ = some (Value.slice sa sn sc) ∧ V.cell? ⟨p, 1, none⟩ = some vo)
        (first | go_keep)
        (first
        | (go_at_call 105; (with_reducible refine (qcmp_any _ (R1.wr.hp (by first | exact hp_drew _ | exact hp_drewN _ _)) (R1.wo.hp (by first | exact hp_drew _ | exact hp_drewN _ _)) (by omega) (by omega)).mono ?_); rintro e3 w3 ⟨m3, rfl, rfl⟩; rw [HX.out]))
      go_wp2
      go_ret
      exact ⟨1021 - n, congrArg Ending.returned (congrArg (Value.int .i64) (by omega)), by omega, _, _, _, _, _, HG, (R1.mono' (by omega)).drewN _, O2.drewN _⟩
  · obtain ⟨n, hn⟩ : ∃ n, n = lr - lo := ⟨_, rfl⟩
    have HA : Hid ((r < o * 2 ^ n → Good r o r (o * 2 ^ n) (1021 + n)) ∧ (o * 2 ^ n ≤ r → Good r o r (o * 2 ^ n * 2 + 0) (1021 + n + 1))) := bl_B hr ho (by rw [← hlr, ← hlo]; exact hn) (by rw [← hlr, ← hlo]; omega)
    have hn1 : n ≤ 64 * L := by omega
    have HNI : Hid ((lr : Int) - (lo : Int) = n) := by show _ = _; omega
    have hn0 : ¬ (n : Int) < 0 := by omega
    clear hlr hlo hn
    go_enter Tryz.func86, Tryz.ntmps86
    go_wp2_with fail
    go_region_held_law (fun W => W.cell? ⟨p, 0, none⟩ = some vr ∧ W.cell? ⟨p, 1, none⟩ = some vo)
      (first | with_reducible exact D1 | with_reducible exact D2 | go_keep)
      (first
      | (go_at_call 103; (with_reducible refine (qlen_any _ (h.wr.hp (by first | exact hp_drew _ | exact hp_drewN _ _)) hr (by omega)).mono ?_); rintro e1 w1 ⟨m1, rfl, rfl⟩; rw [HLR.out])
      | (go_at_call 103; (with_reducible refine (qlen_any _ (h.wo.hp (by first | exact hp_drew _ | exact hp_drewN _ _)) ho (by omega)).mono ?_); rintro e2 w2 ⟨m2, rfl, rfl⟩; rw [HLO.out]))
    have hif : (if IntKind.i64.wrap ((lr : Int) - (lo : Int)) < -1021 then -1021 else IntKind.i64.wrap ((lr : Int) - (lo : Int))) = (n : Int) := by have := HNI.out; rw [IntKind.wrap_i64]; split <;> omega
    simp only [hif]
    go_wp2_with (go_at_call 104; (with_reducible refine (qtwos_any _ base _ L n _ (h.wo.hp (by first | exact hp_drew _ | exact hp_drewN _ _)) ho (by omega) (by omega) (by rw [hp_drewN]; exact h.bs)).mono ?_); rintro e5 w1 ⟨v1, rfl, k1, k2, k3⟩; obtain ⟨kc0, kc1, kf0, kf1⟩ := h.cells (k2.hp rfl rfl rfl rfl) h.po; obtain ⟨sa, sn, sc, rfl⟩ := k1.sl)
    obtain ⟨R1, O1⟩ := h.put1 (k2.hp rfl rfl rfl rfl) k1 (fun k hk => .inr (k3 k hk)) (by omega)
    have R1 := R1.mono' (L' := 2 * L + 19) (by omega)
    obtain ⟨W, hW⟩ : ∃ W, W = w1.setCell ⟨p, 1, none⟩ (.slice sa sn sc) := ⟨_, rfl⟩
    rw [← hW] at R1 O1 ⊢
    have O2 : Only (fun k => Ob vr k ∨ Ob vo k ∨ k = p) w W := O1.mono (fun i _ hi => by rcases hi with hi | hi; exact .inr (.inl hi); exact .inr (.inr hi))
    have d0 := R1.cell0
    have d1 := R1.cell1
    clear hW c0 c1 kc0 kc1 kf0 kf1 O1
    obtain ⟨x, hx⟩ : ∃ x, cmI (r) (o * 2 ^ n) = x := ⟨_, rfl⟩
    have HX : Hid (cmI (r) (o * 2 ^ n) = x) := hx
    by_cases hge : o * 2 ^ n ≤ r
    · have hx0 : 0 ≤ x := by rw [← hx]; exact cmI_ge.2 hge
      have HG := HA.out.2 hge
      clear hx HA
      go_wp2_with fail
      go_region_held_law (fun V => V.cell? ⟨p, 0, none⟩ = some vr ∧ V.cell? ⟨p, 1, none⟩ = some (Value.slice sa sn sc))
        (first | go_keep)
        (first
        | (go_at_call 105; (with_reducible refine (qcmp_any _ (R1.wr.hp (by first | exact hp_drew _ | exact hp_drewN _ _)) (R1.wo.hp (by first | exact hp_drew _ | exact hp_drewN _ _)) (by omega) (by omega)).mono ?_); rintro e3 w3 ⟨m3, rfl, rfl⟩; rw [HX.out]))
      go_wp2_with (go_at_call 101; (with_reducible refine (qtimesI 2 0 (R1.wo.hp (by first | exact hp_drew _ | exact hp_drewN _ _)) (by omega) (by omega) (by omega) (by omega) (by omega) (by omega) (by rw [hp_drewN]; exact R1.bs)).mono ?_); rintro e4 w4 ⟨v4, rfl, q1, q2, q3⟩; obtain ⟨qc0, qc1, qf0, qf1⟩ := R1.cells (q2.hp rfl rfl rfl rfl) R1.po; obtain ⟨a4, n4, c4, rfl⟩ := q1.sl)
      go_ret
      obtain ⟨R5, O5⟩ := R1.put1 (q2.hp rfl rfl rfl rfl) q1 q3 (Nat.le_succ _)
      refine ⟨1021 + n + 1, congrArg Ending.returned (congrArg (Value.int .i64) (by omega)), by omega, _, _, _, _, _, HG, R5.mono' (by omega), O2.next O5 (fun i hi => ?_)⟩
      rcases hi with hi | hi
      · exact .inr (k3 i hi)
      · exact .inl (.inr (.inr hi))
    · have hx0 : ¬ 0 ≤ x := by rw [← hx]; exact fun h => hge (cmI_ge.1 h)
      have HG := HA.out.1 (by omega)
      clear hx HA
      go_wp2_with fail
      go_region_held_law (fun V => V.cell? ⟨p, 0, none⟩ = some vr ∧ V.cell? ⟨p, 1, none⟩ = some (Value.slice sa sn sc))
        (first | go_keep)
        (first
        | (go_at_call 105; (with_reducible refine (qcmp_any _ (R1.wr.hp (by first | exact hp_drew _ | exact hp_drewN _ _)) (R1.wo.hp (by first | exact hp_drew _ | exact hp_drewN _ _)) (by omega) (by omega)).mono ?_); rintro e3 w3 ⟨m3, rfl, rfl⟩; rw [HX.out]))
      go_wp2
      go_ret
      exact ⟨1021 + n, congrArg Ending.returned (congrArg (Value.int .i64) (by omega)), by omega, _, _, _, _, _, HG, (R1.mono' (by omega)).drewN _, O2.drewN _⟩

end Go.Proofs.YtjoncbfaajcioaaGreatDoor

namespace Go.Proofs.YtjoncbfaajcioaaGreatDoor
open RowKit

/-- 53 digits of a ratio below 1, rounded -/
def fr53 (r o : Nat) : Nat := r * 9007199254740992 / o + (rUp (r * 9007199254740992 % o) o (r * 9007199254740992 / o)).toNat
theorem dig_step (A o : Nat) : A * 2 / o = 2 * (A / o) + A % o * 2 / o ∧ A * 2 % o = A % o * 2 % o := by
  have e : A * 2 = A % o * 2 + 2 * (A / o) * o := by
    have := Nat.div_add_mod A o
    have h2 : 2 * (A / o) * o = 2 * (o * (A / o)) := by rw [Nat.mul_assoc, Nat.mul_comm (A / o)]
    omega
  rcases Nat.eq_zero_or_pos o with h | h
  · subst h; simp
  · constructor
    · rw [e, Nat.add_mul_div_right _ _ h, Nat.add_comm]
    · rw [e, Nat.add_mul_mod_self_right]
theorem dig_lt {r o i : Nat} (h : r < o) (hi : i ≤ 53) : r * 2 ^ i / o < 9007199254740992 := by
  have h1 : r * 2 ^ i / o < 2 ^ i := by
    rw [Nat.div_lt_iff_lt_mul (by omega), Nat.mul_comm]
    exact Nat.mul_lt_mul_of_pos_left h (Nat.two_pow_pos i)
  have h2 : 2 ^ i ≤ 2 ^ 53 := Nat.pow_le_pow_right (by decide) hi
  have h3 : (2 : Nat) ^ 53 = 9007199254740992 := by decide
  omega
theorem wh_one (w : World) (base x L : Nat) (hb : base ≤ w.heap.size) (hx : 0 < x) (hx2 : x < 18446744073709551616) (hL : 1 ≤ L) : Wh (w.alloc (.cells #[.int .u64 (x : Int)] 48)) base (.slice (some ⟨w.heap.size, 0, none⟩) 1 1) x L :=
  ⟨[x], World.ownsRow_lit w _ 1 hb (by unfold maxLen; omega) rfl, fun y hy => by simp at hy; omega, fun _ => by simp; omega, by simp [qn], hL⟩
/-- a power of ten, as it is taken -/
def clp (pw : Int) : Int := if pw < -400 then -400 else if 400 < pw then 400 else pw
theorem clp_le (pw : Int) : -400 ≤ clp pw ∧ clp pw ≤ 400 := by unfold clp; split <;> (try split) <;> omega
def pP (z : Nat) (c : Int) : Nat := z * 10 ^ c.toNat
def pQ (c : Int) : Nat := 10 ^ (-c).toNat
theorem qnear_zero (base L : Nat) (v : Value) (pw : Int) (w : World) (hv : Wh w base v 0 L) : Calls Tryz.prog 73 #[v, .int .i64 pw] w fun e w' => e = .returned (.int .u64 0) ∧ w' = w := by
  obtain ⟨ws, h1, h2, h3, h4, h5⟩ := hv
  have hl := (qn_pos h3).1 h4
  obtain ⟨ao, ca, rfl, _⟩ := own_rd h1
  rw [hl]
  go_enter Tryz.func73, Tryz.ntmps73
  go_wp2
  go_ret
  exact ⟨rfl, rfl⟩
theorem qtensI {v : Value} {base z L : Nat} (n : Nat) {N : Int} {w : World} (hv : Wh w base v z L) (hN : N = ((n : Nat) : Int)) (hL : L + n ≤ 100000) (hbase : base ≤ w.heap.size) :
    Calls Tryz.prog 85 #[v, .int .i64 N] w fun e w' => ∃ v', e = .returned v' ∧ Wh w' base v' (z * 10 ^ n) (L + n) ∧ Only (Ob v) w w' ∧ (∀ k, Ob v' k → Ob v k ∨ w.heap.size ≤ k) := by
  subst hN
  exact qtens_any v base z L n w hv hL hbase
set_option maxRecDepth 10000 in
set_option maxHeartbeats 2000000 in
theorem qnear_any (base z L : Nat) (v : Value) (pw : Int) (w : World) (hv : Wh w base v z L) (hz : 0 < z) (hL1 : 1 ≤ L) (hL : L ≤ 100) (hbase : base ≤ w.heap.size) :
    Calls Tryz.prog 73 #[v, .int .i64 pw] w fun e w' => ∃ bw D r' o' : Nat, e = .returned (.int .u64 bw) ∧ Good (pP z (clp pw)) (pQ (clp pw)) r' o' D ∧ (bw : Int) = (((D * 4503599627370496) % 18446744073709551616 + fr53 r' o') % 18446744073709551616 : Nat) ∧ Below base w w' := by
  have hlt : ∀ k, Ob v k → k < w.heap.size := fun k hk => (hv.lt hk).1
  obtain ⟨sa, sn, sc, rfl⟩ := hv.sl
  have hsn : sn ≠ 0 := by
    intro h0
    obtain ⟨ws, h1, h2, h3, h4, h5⟩ := hv
    obtain ⟨ao, ca, he, _⟩ := own_rd h1
    simp only [Value.slice.injEq] at he
    have := (qn_pos h3).2 (by omega)
    omega
  have hsI : ((sn : Int) == 0) = false := by simp; omega
  obtain ⟨c, hc⟩ : ∃ c, c = clp pw := ⟨_, rfl⟩
  have hcb := clp_le pw
  rw [← hc] at hcb ⊢
  obtain ⟨W0, hW0⟩ : ∃ W0, W0 = (w.alloc (.cells #[.int .u64 1] 48)).alloc (.cells #[.slice sa sn sc, .slice (some ⟨w.heap.size, 0, none⟩) 1 1] 142) := ⟨_, rfl⟩
  have OW : Below base w W0 := by rw [hW0]; exact ((Below.refl base w).alloc hbase _).alloc (by simp; omega) _
  have R0 : Rt W0 (w.heap.size + 1) 142 #[.slice sa sn sc, .slice (some ⟨w.heap.size, 0, none⟩) 1 1] base (.slice sa sn sc) (.slice (some ⟨w.heap.size, 0, none⟩) 1 1) z 1 L := by
    rw [hW0]
    refine ⟨?_, rfl, rfl, wh_alloc (wh_alloc hv _) _, wh_alloc (wh_one w base 1 L hbase (by omega) (by omega) hL1) _, fun k hk hk2 => ?_, fun hk => ?_, fun hk => ?_, ?_⟩
    · have := heap_alloc_new (w.alloc (.cells #[.int .u64 1] 48)) (.cells #[.slice sa sn sc, .slice (some ⟨w.heap.size, 0, none⟩) 1 1] 142)
      simpa using this
    · have := hlt k hk; simp [Ob, Value.ownBlock] at hk2; omega
    · have := hlt _ hk; omega
    · simp [Ob, Value.ownBlock] at hk
    · simp; omega
  have c0 := R0.cell0
  have c1 := R0.cell1
  rcases (by omega : pw < -400 ∨ (-400 ≤ pw ∧ pw < 0) ∨ (0 ≤ pw ∧ pw ≤ 400) ∨ 400 < pw) with h1 | h1 | h1 | h1
  · obtain ⟨n, hn⟩ : ∃ n : Nat, n = 400 := ⟨_, rfl⟩
    have hc' : Hid (c = -(n : Int)) := by show _ = _; rw [hc, hn]; unfold clp; rw [if_pos h1]; rfl
    have hn4 : n ≤ 400 := by omega
    have h1I : ¬ (400 : Int) < -400 := by decide
    go_enter Tryz.func73, Tryz.ntmps73
    go_wp2_with fail
    rw [← hW0]
    clear hW0
    go_wp2_with (first
      | (go_at_call 85; (with_reducible refine (qtensI n R0.wo (by omega) (by omega) R0.bs).mono ?_); rintro e1 w1 ⟨v1, rfl, k1, k2, k3⟩; obtain ⟨kc0, kc1, kf0, kf1⟩ := R0.cells k2 R0.po; obtain ⟨s1, s2, s3, rfl⟩ := k1.sl))
    obtain ⟨R1, O1⟩ := R0.put1 k2 k1 k3 (by omega)
    have B1 := OW.trans (O1.below base R0.bs (fun i hi => by rcases hi with hi | hi; exact (R0.wo.lt hi).2; omega))
    obtain ⟨W1, hW1⟩ : ∃ W1, W1 = w1.setCell ⟨w.heap.size + 1, 1, none⟩ (.slice s1 s2 s3) := ⟨_, rfl⟩
    rw [← hW1] at R1 B1 ⊢
    clear hW1 kc0 kc1 kf0 kf1 O1 k1 k2 k3 c0 c1 R0 OW
    go_wp2_with (go_at_call 86; (with_reducible refine (qbelow_any R1 hz (Nat.mul_pos (by omega) (Nat.pow_pos (by omega))) (by omega)).mono ?_); rintro e2 w2 ⟨D, rfl, hD, cur2, vr2, vo2, r2, o2, HG, R2, O2⟩)
    have B2 := B1.trans (O2.below base R1.bs (fun i hi => by rcases hi with hi | hi | hi; exact (R1.wr.lt hi).2; exact (R1.wo.lt hi).2; omega))
    have HG' : Hid (Good (z) (1 * 10 ^ n) r2 o2 D) := HG
    have hro : r2 < o2 := HG.1
    clear HG O2 B1 R1
    go_loopw [7, 32] (fun fv iv wq => ∃ (i f : Nat) (vr : Value) (cur : Array Value), fv = .int .u64 f ∧ iv = .int .i64 i ∧ i ≤ 53 ∧ f = r2 * 2 ^ i / o2 ∧ Rt wq (w.heap.size + 1) 142 cur base vr vo2 (r2 * 2 ^ i % o2) o2 2000 ∧ Below base w wq) (fun _ iv _ => 53 - (intOf iv).toNat)
    case atStart => exact ⟨0, 0, vr2, cur2, rfl, rfl, by omega, by rw [Nat.pow_zero, Nat.mul_one, Nat.div_eq_of_lt hro], by rw [Nat.pow_zero, Nat.mul_one, Nat.mod_eq_of_lt hro]; exact R2.mono' (by omega), B2⟩
    case round =>
      clear R2 B2
      obtain ⟨i, f, vr, cur, rfl, rfl, hi, hf, R, B⟩ := hrel
      have hfl := dig_lt hro hi
      rw [← hf] at hfl
      have HF : Hid (f = r2 * 2 ^ i / o2) := hf
      have hrl : r2 * 2 ^ i % o2 < o2 := Nat.mod_lt _ (by omega)
      have HB : Hid (Below base w wr) := B
      clear hf B
      by_cases hi3 : i < 53
      · have hiI : (i : Int) < 53 := by omega
        go_wp2_with (go_at_call 87; (with_reducible refine (qnext_any R hrl (b := 2) (by omega) (by omega) (by omega) (by omega)).mono ?_); rintro e3 w3 ⟨dd, rfl, hdd', v3, R3, O3, F3⟩; have hdd : Hid (dd = r2 * 2 ^ i % o2 * 2 / o2) := hdd'; clear hdd')
        have B3 := HB.out.trans (O3.below base R.bs (fun i hi => by rcases hi with hi | hi; exact (R.wr.lt hi).2; omega))
        obtain ⟨E1, E2⟩ := dig_step (r2 * 2 ^ i) o2
        have hd2 : dd < 2 := by rw [hdd.out]; exact next_lt hrl (Nat.div_mul_le_self _ _) (by omega)
        rw [Nat.mul_assoc, ← Nat.pow_succ] at E1 E2
        rw [← E2] at R3
        go_roundw
        case rel =>
          refine ⟨i + 1, 2 * f + dd, v3, _, ?_, by go_num, by omega, by rw [E1, HF.out, hdd.out], R3, B3⟩
          first | rfl | (refine congrArg (Value.int .u64) ?_; rw [IntKind.wrap_u64]; omega) | (refine congrArg (Value.int .u64) ?_; omega)
        case measure => simp [intOf]; omega
      · have e53 : i = 53 := by omega
        subst e53
        have hiI : ¬ ((53 : Nat) : Int) < 53 := by omega
        have ho2 : 0 < o2 := by omega
        obtain ⟨up, hup⟩ : ∃ up, up = rUp (r2 * 2 ^ 53 % o2) o2 f := ⟨_, rfl⟩
        have HU : Hid (rUp (r2 * 2 ^ 53 % o2) o2 f = up) := hup.symm
        clear hup
        cases up
        all_goals
          go_wp2_with (go_at_call 88; (with_reducible refine (qround_any R (Nat.le_of_lt hrl) ho2 (by omega) (by omega)).mono ?_); rintro e4 w4 ⟨rfl, B4⟩; rw [HU.out])
          go_ret
          have B5 := HB.out.trans (⟨B4.os, B4.tape, B4.output, B4.size, fun k hk => B4.block k (Nat.lt_of_lt_of_le hk R.bs)⟩ : Below base wr w4)
          have HF' := HF.out
          have HU' := HU.out
          rw [show (2 : Nat) ^ 53 = 9007199254740992 by decide] at HF' HU'
          refine ⟨((D * 4503599627370496) % 18446744073709551616 + fr53 r2 o2) % 18446744073709551616, D, r2, o2, congrArg Ending.returned (congrArg (Value.int .u64) ?_), ?_, rfl, B5⟩
          · unfold fr53
            rw [← HF', HU', IntKind.wrap_u64, IntKind.wrap_u64]
            simp only [Bool.toNat_false, Bool.toNat_true]
            omega
          · rw [hc'.out]
            unfold pP pQ
            have := HG'.out
            simpa using this
  · obtain ⟨n, hn⟩ : ∃ n : Nat, pw = -(n : Int) := ⟨(-pw).toNat, by omega⟩
    subst hn
    have hc' : Hid (c = -(n : Int)) := by show _ = _; rw [hc]; unfold clp; rw [if_neg (by omega), if_neg (by omega)]
    have hn4 : n ≤ 400 := by omega
    have h2 : ¬ -(n : Int) < -400 := by omega
    have h3 : ¬ 400 < -(n : Int) := by omega
    have h4 : -(n : Int) < 0 := by omega
    go_enter Tryz.func73, Tryz.ntmps73
    go_wp2_with fail
    rw [← hW0]
    clear hW0
    go_wp2_with (first
      | (go_at_call 85; (with_reducible refine (qtensI n R0.wo (by omega) (by omega) R0.bs).mono ?_); rintro e1 w1 ⟨v1, rfl, k1, k2, k3⟩; obtain ⟨kc0, kc1, kf0, kf1⟩ := R0.cells k2 R0.po; obtain ⟨s1, s2, s3, rfl⟩ := k1.sl))
    obtain ⟨R1, O1⟩ := R0.put1 k2 k1 k3 (by omega)
    have B1 := OW.trans (O1.below base R0.bs (fun i hi => by rcases hi with hi | hi; exact (R0.wo.lt hi).2; omega))
    obtain ⟨W1, hW1⟩ : ∃ W1, W1 = w1.setCell ⟨w.heap.size + 1, 1, none⟩ (.slice s1 s2 s3) := ⟨_, rfl⟩
    rw [← hW1] at R1 B1 ⊢
    clear hW1 kc0 kc1 kf0 kf1 O1 k1 k2 k3 c0 c1 R0 OW
    go_wp2_with (go_at_call 86; (with_reducible refine (qbelow_any R1 hz (Nat.mul_pos (by omega) (Nat.pow_pos (by omega))) (by omega)).mono ?_); rintro e2 w2 ⟨D, rfl, hD, cur2, vr2, vo2, r2, o2, HG, R2, O2⟩)
    have B2 := B1.trans (O2.below base R1.bs (fun i hi => by rcases hi with hi | hi | hi; exact (R1.wr.lt hi).2; exact (R1.wo.lt hi).2; omega))
    have HG' : Hid (Good (z) (1 * 10 ^ n) r2 o2 D) := HG
    have hro : r2 < o2 := HG.1
    clear HG O2 B1 R1
    go_loopw [7, 32] (fun fv iv wq => ∃ (i f : Nat) (vr : Value) (cur : Array Value), fv = .int .u64 f ∧ iv = .int .i64 i ∧ i ≤ 53 ∧ f = r2 * 2 ^ i / o2 ∧ Rt wq (w.heap.size + 1) 142 cur base vr vo2 (r2 * 2 ^ i % o2) o2 2000 ∧ Below base w wq) (fun _ iv _ => 53 - (intOf iv).toNat)
    case atStart => exact ⟨0, 0, vr2, cur2, rfl, rfl, by omega, by rw [Nat.pow_zero, Nat.mul_one, Nat.div_eq_of_lt hro], by rw [Nat.pow_zero, Nat.mul_one, Nat.mod_eq_of_lt hro]; exact R2.mono' (by omega), B2⟩
    case round =>
      clear R2 B2
      obtain ⟨i, f, vr, cur, rfl, rfl, hi, hf, R, B⟩ := hrel
      have hfl := dig_lt hro hi
      rw [← hf] at hfl
      have HF : Hid (f = r2 * 2 ^ i / o2) := hf
      have hrl : r2 * 2 ^ i % o2 < o2 := Nat.mod_lt _ (by omega)
      have HB : Hid (Below base w wr) := B
      clear hf B
      by_cases hi3 : i < 53
      · have hiI : (i : Int) < 53 := by omega
        go_wp2_with (go_at_call 87; (with_reducible refine (qnext_any R hrl (b := 2) (by omega) (by omega) (by omega) (by omega)).mono ?_); rintro e3 w3 ⟨dd, rfl, hdd', v3, R3, O3, F3⟩; have hdd : Hid (dd = r2 * 2 ^ i % o2 * 2 / o2) := hdd'; clear hdd')
        have B3 := HB.out.trans (O3.below base R.bs (fun i hi => by rcases hi with hi | hi; exact (R.wr.lt hi).2; omega))
        obtain ⟨E1, E2⟩ := dig_step (r2 * 2 ^ i) o2
        have hd2 : dd < 2 := by rw [hdd.out]; exact next_lt hrl (Nat.div_mul_le_self _ _) (by omega)
        rw [Nat.mul_assoc, ← Nat.pow_succ] at E1 E2
        rw [← E2] at R3
        go_roundw
        case rel =>
          refine ⟨i + 1, 2 * f + dd, v3, _, ?_, by go_num, by omega, by rw [E1, HF.out, hdd.out], R3, B3⟩
          first | rfl | (refine congrArg (Value.int .u64) ?_; rw [IntKind.wrap_u64]; omega) | (refine congrArg (Value.int .u64) ?_; omega)
        case measure => simp [intOf]; omega
      · have e53 : i = 53 := by omega
        subst e53
        have hiI : ¬ ((53 : Nat) : Int) < 53 := by omega
        have ho2 : 0 < o2 := by omega
        obtain ⟨up, hup⟩ : ∃ up, up = rUp (r2 * 2 ^ 53 % o2) o2 f := ⟨_, rfl⟩
        have HU : Hid (rUp (r2 * 2 ^ 53 % o2) o2 f = up) := hup.symm
        clear hup
        cases up
        all_goals
          go_wp2_with (go_at_call 88; (with_reducible refine (qround_any R (Nat.le_of_lt hrl) ho2 (by omega) (by omega)).mono ?_); rintro e4 w4 ⟨rfl, B4⟩; rw [HU.out])
          go_ret
          have B5 := HB.out.trans (⟨B4.os, B4.tape, B4.output, B4.size, fun k hk => B4.block k (Nat.lt_of_lt_of_le hk R.bs)⟩ : Below base wr w4)
          have HF' := HF.out
          have HU' := HU.out
          rw [show (2 : Nat) ^ 53 = 9007199254740992 by decide] at HF' HU'
          refine ⟨((D * 4503599627370496) % 18446744073709551616 + fr53 r2 o2) % 18446744073709551616, D, r2, o2, congrArg Ending.returned (congrArg (Value.int .u64) ?_), ?_, rfl, B5⟩
          · unfold fr53
            rw [← HF', HU', IntKind.wrap_u64, IntKind.wrap_u64]
            simp only [Bool.toNat_false, Bool.toNat_true]
            omega
          · rw [hc'.out]
            unfold pP pQ
            have := HG'.out
            simpa using this
  · obtain ⟨n, hn⟩ : ∃ n : Nat, pw = (n : Int) := ⟨pw.toNat, by omega⟩
    subst hn
    have hc' : Hid (c = (n : Int)) := by show _ = _; rw [hc]; unfold clp; rw [if_neg (by omega), if_neg (by omega)]
    have hn4 : n ≤ 400 := by omega
    have h2 : ¬ (n : Int) < -400 := by omega
    have h3 : ¬ 400 < (n : Int) := by omega
    have h4 : ¬ (n : Int) < 0 := by omega
    go_enter Tryz.func73, Tryz.ntmps73
    go_wp2_with fail
    rw [← hW0]
    clear hW0
    go_wp2_with (first
      | (go_at_call 85; (with_reducible refine (qtensI n R0.wr (by omega) (by omega) R0.bs).mono ?_); rintro e1 w1 ⟨v1, rfl, k1, k2, k3⟩; obtain ⟨kc0, kc1, kf0, kf1⟩ := R0.cells k2 R0.pr; obtain ⟨s1, s2, s3, rfl⟩ := k1.sl))
    obtain ⟨R1, O1⟩ := R0.put k2 k1 k3 (by omega)
    have B1 := OW.trans (O1.below base R0.bs (fun i hi => by rcases hi with hi | hi; exact (R0.wr.lt hi).2; omega))
    obtain ⟨W1, hW1⟩ : ∃ W1, W1 = w1.setCell ⟨w.heap.size + 1, 0, none⟩ (.slice s1 s2 s3) := ⟨_, rfl⟩
    rw [← hW1] at R1 B1 ⊢
    clear hW1 kc0 kc1 kf0 kf1 O1 k1 k2 k3 c0 c1 R0 OW
    go_wp2_with (go_at_call 86; (with_reducible refine (qbelow_any R1 (Nat.mul_pos hz (Nat.pow_pos (by omega))) (by omega) (by omega)).mono ?_); rintro e2 w2 ⟨D, rfl, hD, cur2, vr2, vo2, r2, o2, HG, R2, O2⟩)
    have B2 := B1.trans (O2.below base R1.bs (fun i hi => by rcases hi with hi | hi | hi; exact (R1.wr.lt hi).2; exact (R1.wo.lt hi).2; omega))
    have HG' : Hid (Good (z * 10 ^ n) (1) r2 o2 D) := HG
    have hro : r2 < o2 := HG.1
    clear HG O2 B1 R1
    go_loopw [7, 32] (fun fv iv wq => ∃ (i f : Nat) (vr : Value) (cur : Array Value), fv = .int .u64 f ∧ iv = .int .i64 i ∧ i ≤ 53 ∧ f = r2 * 2 ^ i / o2 ∧ Rt wq (w.heap.size + 1) 142 cur base vr vo2 (r2 * 2 ^ i % o2) o2 2000 ∧ Below base w wq) (fun _ iv _ => 53 - (intOf iv).toNat)
    case atStart => exact ⟨0, 0, vr2, cur2, rfl, rfl, by omega, by rw [Nat.pow_zero, Nat.mul_one, Nat.div_eq_of_lt hro], by rw [Nat.pow_zero, Nat.mul_one, Nat.mod_eq_of_lt hro]; exact R2.mono' (by omega), B2⟩
    case round =>
      clear R2 B2
      obtain ⟨i, f, vr, cur, rfl, rfl, hi, hf, R, B⟩ := hrel
      have hfl := dig_lt hro hi
      rw [← hf] at hfl
      have HF : Hid (f = r2 * 2 ^ i / o2) := hf
      have hrl : r2 * 2 ^ i % o2 < o2 := Nat.mod_lt _ (by omega)
      have HB : Hid (Below base w wr) := B
      clear hf B
      by_cases hi3 : i < 53
      · have hiI : (i : Int) < 53 := by omega
        go_wp2_with (go_at_call 87; (with_reducible refine (qnext_any R hrl (b := 2) (by omega) (by omega) (by omega) (by omega)).mono ?_); rintro e3 w3 ⟨dd, rfl, hdd', v3, R3, O3, F3⟩; have hdd : Hid (dd = r2 * 2 ^ i % o2 * 2 / o2) := hdd'; clear hdd')
        have B3 := HB.out.trans (O3.below base R.bs (fun i hi => by rcases hi with hi | hi; exact (R.wr.lt hi).2; omega))
        obtain ⟨E1, E2⟩ := dig_step (r2 * 2 ^ i) o2
        have hd2 : dd < 2 := by rw [hdd.out]; exact next_lt hrl (Nat.div_mul_le_self _ _) (by omega)
        rw [Nat.mul_assoc, ← Nat.pow_succ] at E1 E2
        rw [← E2] at R3
        go_roundw
        case rel =>
          refine ⟨i + 1, 2 * f + dd, v3, _, ?_, by go_num, by omega, by rw [E1, HF.out, hdd.out], R3, B3⟩
          first | rfl | (refine congrArg (Value.int .u64) ?_; rw [IntKind.wrap_u64]; omega) | (refine congrArg (Value.int .u64) ?_; omega)
        case measure => simp [intOf]; omega
      · have e53 : i = 53 := by omega
        subst e53
        have hiI : ¬ ((53 : Nat) : Int) < 53 := by omega
        have ho2 : 0 < o2 := by omega
        obtain ⟨up, hup⟩ : ∃ up, up = rUp (r2 * 2 ^ 53 % o2) o2 f := ⟨_, rfl⟩
        have HU : Hid (rUp (r2 * 2 ^ 53 % o2) o2 f = up) := hup.symm
        clear hup
        cases up
        all_goals
          go_wp2_with (go_at_call 88; (with_reducible refine (qround_any R (Nat.le_of_lt hrl) ho2 (by omega) (by omega)).mono ?_); rintro e4 w4 ⟨rfl, B4⟩; rw [HU.out])
          go_ret
          have B5 := HB.out.trans (⟨B4.os, B4.tape, B4.output, B4.size, fun k hk => B4.block k (Nat.lt_of_lt_of_le hk R.bs)⟩ : Below base wr w4)
          have HF' := HF.out
          have HU' := HU.out
          rw [show (2 : Nat) ^ 53 = 9007199254740992 by decide] at HF' HU'
          refine ⟨((D * 4503599627370496) % 18446744073709551616 + fr53 r2 o2) % 18446744073709551616, D, r2, o2, congrArg Ending.returned (congrArg (Value.int .u64) ?_), ?_, rfl, B5⟩
          · unfold fr53
            rw [← HF', HU', IntKind.wrap_u64, IntKind.wrap_u64]
            simp only [Bool.toNat_false, Bool.toNat_true]
            omega
          · rw [hc'.out]
            unfold pP pQ
            have := HG'.out
            simpa using this
  · obtain ⟨n, hn⟩ : ∃ n : Nat, n = 400 := ⟨_, rfl⟩
    have hc' : Hid (c = (n : Int)) := by show _ = _; rw [hc, hn]; unfold clp; rw [if_neg (by omega), if_pos h1]; rfl
    have hn4 : n ≤ 400 := by omega
    have h2 : ¬ pw < -400 := by omega
    go_enter Tryz.func73, Tryz.ntmps73
    go_wp2_with fail
    rw [← hW0]
    clear hW0
    go_wp2_with (first
      | (go_at_call 85; (with_reducible refine (qtensI n R0.wr (by omega) (by omega) R0.bs).mono ?_); rintro e1 w1 ⟨v1, rfl, k1, k2, k3⟩; obtain ⟨kc0, kc1, kf0, kf1⟩ := R0.cells k2 R0.pr; obtain ⟨s1, s2, s3, rfl⟩ := k1.sl))
    obtain ⟨R1, O1⟩ := R0.put k2 k1 k3 (by omega)
    have B1 := OW.trans (O1.below base R0.bs (fun i hi => by rcases hi with hi | hi; exact (R0.wr.lt hi).2; omega))
    obtain ⟨W1, hW1⟩ : ∃ W1, W1 = w1.setCell ⟨w.heap.size + 1, 0, none⟩ (.slice s1 s2 s3) := ⟨_, rfl⟩
    rw [← hW1] at R1 B1 ⊢
    clear hW1 kc0 kc1 kf0 kf1 O1 k1 k2 k3 c0 c1 R0 OW
    go_wp2_with (go_at_call 86; (with_reducible refine (qbelow_any R1 (Nat.mul_pos hz (Nat.pow_pos (by omega))) (by omega) (by omega)).mono ?_); rintro e2 w2 ⟨D, rfl, hD, cur2, vr2, vo2, r2, o2, HG, R2, O2⟩)
    have B2 := B1.trans (O2.below base R1.bs (fun i hi => by rcases hi with hi | hi | hi; exact (R1.wr.lt hi).2; exact (R1.wo.lt hi).2; omega))
    have HG' : Hid (Good (z * 10 ^ n) (1) r2 o2 D) := HG
    have hro : r2 < o2 := HG.1
    clear HG O2 B1 R1
    go_loopw [7, 32] (fun fv iv wq => ∃ (i f : Nat) (vr : Value) (cur : Array Value), fv = .int .u64 f ∧ iv = .int .i64 i ∧ i ≤ 53 ∧ f = r2 * 2 ^ i / o2 ∧ Rt wq (w.heap.size + 1) 142 cur base vr vo2 (r2 * 2 ^ i % o2) o2 2000 ∧ Below base w wq) (fun _ iv _ => 53 - (intOf iv).toNat)
    case atStart => exact ⟨0, 0, vr2, cur2, rfl, rfl, by omega, by rw [Nat.pow_zero, Nat.mul_one, Nat.div_eq_of_lt hro], by rw [Nat.pow_zero, Nat.mul_one, Nat.mod_eq_of_lt hro]; exact R2.mono' (by omega), B2⟩
    case round =>
      clear R2 B2
      obtain ⟨i, f, vr, cur, rfl, rfl, hi, hf, R, B⟩ := hrel
      have hfl := dig_lt hro hi
      rw [← hf] at hfl
      have HF : Hid (f = r2 * 2 ^ i / o2) := hf
      have hrl : r2 * 2 ^ i % o2 < o2 := Nat.mod_lt _ (by omega)
      have HB : Hid (Below base w wr) := B
      clear hf B
      by_cases hi3 : i < 53
      · have hiI : (i : Int) < 53 := by omega
        go_wp2_with (go_at_call 87; (with_reducible refine (qnext_any R hrl (b := 2) (by omega) (by omega) (by omega) (by omega)).mono ?_); rintro e3 w3 ⟨dd, rfl, hdd', v3, R3, O3, F3⟩; have hdd : Hid (dd = r2 * 2 ^ i % o2 * 2 / o2) := hdd'; clear hdd')
        have B3 := HB.out.trans (O3.below base R.bs (fun i hi => by rcases hi with hi | hi; exact (R.wr.lt hi).2; omega))
        obtain ⟨E1, E2⟩ := dig_step (r2 * 2 ^ i) o2
        have hd2 : dd < 2 := by rw [hdd.out]; exact next_lt hrl (Nat.div_mul_le_self _ _) (by omega)
        rw [Nat.mul_assoc, ← Nat.pow_succ] at E1 E2
        rw [← E2] at R3
        go_roundw
        case rel =>
          refine ⟨i + 1, 2 * f + dd, v3, _, ?_, by go_num, by omega, by rw [E1, HF.out, hdd.out], R3, B3⟩
          first | rfl | (refine congrArg (Value.int .u64) ?_; rw [IntKind.wrap_u64]; omega) | (refine congrArg (Value.int .u64) ?_; omega)
        case measure => simp [intOf]; omega
      · have e53 : i = 53 := by omega
        subst e53
        have hiI : ¬ ((53 : Nat) : Int) < 53 := by omega
        have ho2 : 0 < o2 := by omega
        obtain ⟨up, hup⟩ : ∃ up, up = rUp (r2 * 2 ^ 53 % o2) o2 f := ⟨_, rfl⟩
        have HU : Hid (rUp (r2 * 2 ^ 53 % o2) o2 f = up) := hup.symm
        clear hup
        cases up
        all_goals
          go_wp2_with (go_at_call 88; (with_reducible refine (qround_any R (Nat.le_of_lt hrl) ho2 (by omega) (by omega)).mono ?_); rintro e4 w4 ⟨rfl, B4⟩; rw [HU.out])
          go_ret
          have B5 := HB.out.trans (⟨B4.os, B4.tape, B4.output, B4.size, fun k hk => B4.block k (Nat.lt_of_lt_of_le hk R.bs)⟩ : Below base wr w4)
          have HF' := HF.out
          have HU' := HU.out
          rw [show (2 : Nat) ^ 53 = 9007199254740992 by decide] at HF' HU'
          refine ⟨((D * 4503599627370496) % 18446744073709551616 + fr53 r2 o2) % 18446744073709551616, D, r2, o2, congrArg Ending.returned (congrArg (Value.int .u64) ?_), ?_, rfl, B5⟩
          · unfold fr53
            rw [← HF', HU', IntKind.wrap_u64, IntKind.wrap_u64]
            simp only [Bool.toNat_false, Bool.toNat_true]
            omega
          · rw [hc'.out]
            unfold pP pQ
            have := HG'.out
            simpa using this

end Go.Proofs.YtjoncbfaajcioaaGreatDoor

namespace Go.Proofs.YtjoncbfaajcioaaGreatDoor
open RowKit

/-- the words of half a number -/
def halfL : List Nat → List Nat
  | [] => []
  | x :: l => (x / 2 + 2147483648 * (l.getD 0 0 % 2)) :: halfL l
theorem halfL_len (ws : List Nat) : (halfL ws).length = ws.length := by
  induction ws with
  | nil => rfl
  | cons x l ih => simp [halfL, ih]
theorem num_mod2 (l : List Nat) : num l % 2 = l.getD 0 0 % 2 := by
  cases l with
  | nil => rfl
  | cons x l => simp [num]; omega
theorem halfL_num (ws : List Nat) : num (halfL ws) = num ws / 2 := by
  induction ws with
  | nil => rfl
  | cons x l ih =>
    have h := num_mod2 l
    unfold halfL
    rw [num_cons, num_cons, ih]
    omega
theorem halfL_get (ws : List Nat) (i : Nat) (h : i < ws.length) : (halfL ws).getD i 0 = ws.getD i 0 / 2 + 2147483648 * (ws.getD (i + 1) 0 % 2) := by
  induction ws generalizing i with
  | nil => simp at h
  | cons x l ih =>
    cases i with
    | zero => simp [halfL]
    | succ i =>
      have := ih i (by simpa using h)
      simpa [halfL] using this
theorem halfL_ok {ws : List Nat} (h : okW ws) : okW (halfL ws) := by
  induction ws with
  | nil => exact h
  | cons x l ih =>
    intro y hy
    unfold halfL at hy
    rcases List.mem_cons.1 hy with rfl | hy
    · have := h x (List.mem_cons_self ..)
      omega
    · exact ih (fun z hz => h z (List.mem_cons_of_mem _ hz)) y hy

theorem take_get (l : List Nat) (i : Nat) (h : i < l.length) : l.take i ++ [l.getD i 0] = l.take (i + 1) := by
  rw [List.take_add_one, List.getD_eq_getElem?_getD, List.getElem?_eq_getElem h]; rfl
theorem half_or {x y : Nat} (hx : x < 4294967296) : bits BinOp.or IntKind.u32 ((x : Int) / 2) ((y : Int) * 2147483648 % 4294967296) = ((x / 2 + 2147483648 * (y % 2) : Nat) : Int) := by
  have e1 : ((x : Int) / 2) = ((x / 2 : Nat) : Int) := by omega
  have e2 : ((y : Int) * 2147483648 % 4294967296) = ((2147483648 * (y % 2) : Nat) : Int) := by omega
  rw [e1, e2, u32_or_nat _ _ (by omega) (by omega), Nat.or_comm, nat_join 31 _ _ (by omega) (by omega), Nat.add_comm]

end Go.Proofs.YtjoncbfaajcioaaGreatDoor

namespace Go.Proofs.YtjoncbfaajcioaaGreatDoor
open RowKit

/-- two structs of whole numbers laid: the argument, the answer -/
structure Laid2 (w : World) (na : Bool) (va : Value) (wA : World) : Prop where
  bel : Below w.heap.size w wA
  sz : wA.heap.size = w.heap.size + 1 + 1
  a0 : wA.cell? ⟨w.heap.size, 0, none⟩ = some (.bool na)
  a1 : wA.cell? ⟨w.heap.size, 1, none⟩ = some va
  r0 : wA.cell? ⟨w.heap.size + 1, 0, none⟩ = some (.bool false)
  r1 : wA.cell? ⟨w.heap.size + 1, 1, none⟩ = some (.slice none 0 0)
  f0 : wA.frozen? ⟨w.heap.size + 1, 0, none⟩ = false
  f1 : wA.frozen? ⟨w.heap.size + 1, 1, none⟩ = false
theorem Laid2.later {w wA w' : World} {na : Bool} {va : Value} (h : Laid2 w na va wA) (hb : Below wA.heap.size wA w') :
    Below w.heap.size w w' ∧ w.heap.size + 1 + 1 ≤ w'.heap.size ∧ w'.cell? ⟨w.heap.size, 0, none⟩ = some (.bool na) ∧ w'.cell? ⟨w.heap.size, 1, none⟩ = some va ∧
      w'.cell? ⟨w.heap.size + 1, 0, none⟩ = some (.bool false) ∧ w'.cell? ⟨w.heap.size + 1, 1, none⟩ = some (.slice none 0 0) ∧ w'.frozen? ⟨w.heap.size + 1, 0, none⟩ = false ∧ w'.frozen? ⟨w.heap.size + 1, 1, none⟩ = false := by
  have hs := h.sz
  refine ⟨h.bel.trans (hb.mono (by omega)), by have := hb.size; omega, ?_, ?_, ?_, ?_, ?_, ?_⟩
  · rw [hb.cell (show w.heap.size < wA.heap.size by omega)]; exact h.a0
  · rw [hb.cell (show w.heap.size < wA.heap.size by omega)]; exact h.a1
  · rw [hb.cell (show w.heap.size + 1 < wA.heap.size by omega)]; exact h.r0
  · rw [hb.cell (show w.heap.size + 1 < wA.heap.size by omega)]; exact h.r1
  · rw [hb.frozen (show w.heap.size + 1 < wA.heap.size by omega)]; exact h.f0
  · rw [hb.frozen (show w.heap.size + 1 < wA.heap.size by omega)]; exact h.f1

theorem up_or {c p s u : Nat} (hp : p = u * 2 ^ s) (hc : c < 2 ^ s) (h1 : c < 18446744073709551616) (h2 : p < 18446744073709551616) : bits BinOp.or IntKind.u64 (c : Int) (p : Int) = ((c + p : Nat) : Int) := by
  rw [u64_or_nat _ _ h1 h2, Nat.or_comm, nat_join s _ _ (by rw [hp]; exact Nat.mul_mod_left _ _) hc, Nat.add_comm]
/-- the next word of a number times a power of two -/
theorem up_step {os us : List Nat} {q s i c : Nat} (hi : i < us.length) (hol : os.length = q + i) (h : num os + 4294967296 ^ (q + i) * c = num (us.take i) * 2 ^ (32 * q + s)) :
    num (os ++ [(c + us.getD i 0 * 2 ^ s) % 4294967296]) + 4294967296 ^ (q + (i + 1)) * ((c + us.getD i 0 * 2 ^ s) / 4294967296) = num (us.take (i + 1)) * 2 ^ (32 * q + s) := by
  rw [num_snoc, hol, num_take_succ us i hi, ← Nat.add_assoc, Nat.pow_succ, Nat.add_mul, ← h]
  have hd := Nat.div_add_mod (c + us.getD i 0 * 2 ^ s) 4294967296
  generalize (c + us.getD i 0 * 2 ^ s) % 4294967296 = r at *
  generalize (c + us.getD i 0 * 2 ^ s) / 4294967296 = d at *
  have e1 : 4294967296 ^ i * us.getD i 0 * 2 ^ (32 * q + s) = 4294967296 ^ (q + i) * (us.getD i 0 * 2 ^ s) := by
    rw [Nat.pow_add 2 (32 * q) s, ← pow32 q, Nat.pow_add 4294967296 q i]
    generalize (4294967296 : Nat) ^ q = A
    generalize (4294967296 : Nat) ^ i = B
    generalize (2 : Nat) ^ s = C
    generalize us.getD i 0 = u
    rw [Nat.mul_assoc B u, Nat.mul_comm A B, Nat.mul_assoc B A, Nat.mul_left_comm u A C]
  rw [e1]
  generalize (4294967296 : Nat) ^ (q + i) = P at *
  generalize us.getD i 0 * 2 ^ s = t at *
  have e2 : P * r + P * 4294967296 * d = P * (c + t) := by
    rw [← hd, Nat.mul_add, Nat.mul_assoc, Nat.add_comm]
  rw [Nat.mul_add] at e2
  omega

end Go.Proofs.YtjoncbfaajcioaaGreatDoor

namespace Go.Proofs.YtjoncbfaajcioaaGreatDoor
open RowKit

theorem nbits_len {us : List Nat} (h : okW us) : nbits (num us) ≤ 32 * us.length := nbits_le (by rw [← pow32]; exact num_lt h)
theorem nbits_lt_of {x y : Nat} (hy : 0 < y) (h : nbits x < nbits y) : x < y := by
  have h1 := nbits_lt x
  have h2 := nbits_ge hy
  have h3 : 2 ^ (nbits x + 1) ≤ 2 ^ nbits y := Nat.pow_le_pow_right (by decide) h
  rw [Nat.pow_succ] at h3
  omega
/-- at the beginning of a division -/
theorem div_start {x y k : Nat} (hy : 0 < y) (hk : nbits x = nbits y + k) : x < y * 2 ^ (k + 1) := by
  have h1 := nbits_lt x
  have h2 := nbits_ge hy
  rw [hk, Nat.pow_add] at h1
  have h3 : 2 ^ nbits y * 2 ^ k ≤ 2 * y * 2 ^ k := Nat.mul_le_mul_right _ h2
  rw [Nat.pow_succ, Nat.mul_comm (2 ^ k) 2, ← Nat.mul_assoc, Nat.mul_comm y 2]
  omega

theorem div_end {x y O R : Nat} (h1 : R + O * (y * 2 ^ 0) = x) (h2 : R < y * 2 ^ 0) : O = x / y ∧ R = x % y := by
  rw [Nat.pow_zero, Nat.mul_one] at h1 h2
  have hy : 0 < y := by omega
  subst h1
  rw [Nat.add_mul_div_right _ _ hy, Nat.div_eq_of_lt h2, Nat.add_mul_mod_self_right, Nat.mod_eq_of_lt h2]
  omega
theorem wrap_sm {k : Int} (h0 : 0 ≤ k) (h1 : k < 9223372036854775808) : IntKind.i64.wrap k = k := by
  rw [IntKind.wrap_i64]; omega
theorem pow_two_up (y i : Nat) : y * 2 ^ (i + 1) = 2 * (y * 2 ^ i) := by rw [Nat.pow_succ, ← Nat.mul_assoc, Nat.mul_comm]
theorem div_often {x y O R i : Nat} (hy : 0 < y) (h1 : R + O * (y * 2 ^ (i + 1)) = x) (hq : x / y < 18446744073709551616) : 2 * O + 1 ≤ 18446744073709551615 ∨ 2 * O ≤ 18446744073709551615 := by
  right
  have h : O * 2 ≤ x / y := by
    rw [Nat.le_div_iff_mul_le hy]
    have : O * 2 * y ≤ O * (y * 2 ^ (i + 1)) := by
      rw [Nat.mul_assoc, Nat.pow_succ, Nat.mul_comm 2 y]
      apply Nat.mul_le_mul_left
      apply Nat.mul_le_mul_left
      have := Nat.two_pow_pos i
      omega
    omega
  omega
/-- a step that takes off -/
theorem div_take {x y O R i : Nat} (h1 : R + O * (y * 2 ^ (i + 1)) = x) (h2 : R < y * 2 ^ (i + 1)) (h3 : y * 2 ^ i ≤ R) : R - y * 2 ^ i + (2 * O + 1) * (y * 2 ^ i) = x ∧ R - y * 2 ^ i < y * 2 ^ i := by
  rw [pow_two_up] at h1 h2
  generalize y * 2 ^ i = T at *
  rw [Nat.add_mul, Nat.one_mul, Nat.mul_comm 2 O, Nat.mul_assoc]
  omega
theorem div_leave {x y O R i : Nat} (h1 : R + O * (y * 2 ^ (i + 1)) = x) (h3 : ¬ y * 2 ^ i ≤ R) : R + (2 * O) * (y * 2 ^ i) = x ∧ R < y * 2 ^ i := by
  rw [pow_two_up] at h1
  generalize y * 2 ^ i = T at *
  rw [Nat.mul_comm 2 O, Nat.mul_assoc]
  omega
theorem half_pow (y i : Nat) : y * 2 ^ (i + 1) / 2 = y * 2 ^ i := by
  rw [Nat.pow_succ, ← Nat.mul_assoc, Nat.mul_div_cancel _ (by decide)]
/-- where a number's words may lie: where another's lie, or in new memory -/
def Al (n : Nat) (ao : Option Addr) (l0 : Nat) (v : Value) : Prop := ∀ b off l c, v = .slice (some ⟨b, off, none⟩) l c → 0 < l → (∃ o2, ao = some ⟨b, o2, none⟩ ∧ 0 < l0) ∨ n ≤ b

end Go.Proofs.YtjoncbfaajcioaaGreatDoor
