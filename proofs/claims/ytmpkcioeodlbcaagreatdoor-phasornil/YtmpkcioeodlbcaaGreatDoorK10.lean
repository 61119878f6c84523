/-
  Several texts in one: Qm Qu Qv.
-/
import Derived.Test.YtmpkcioeodlbcaaGreatDoorK09
namespace Go.Proofs.YtmpkcioeodlbcaaGreatDoor
open RowKit
theorem pow64 (n : Nat) : (18446744073709551616 : Nat) ^ n = 2 ^ (64 * n) := by rw [Nat.pow_mul]
theorem nbits_q {us : List Nat} {n u : Nat} (ka : okQ us) (hn : us.length = n + 1) (hu : u = us.getD n 0) (h0 : u ≠ 0) : nbits (qn us) = 64 * n + nbits u := by
  have h1 := qn_split us n (by omega)
  rw [List.drop_of_length_le (by omega), ← hu, show qn [] = 0 from rfl, Nat.mul_zero, Nat.add_zero] at h1
  have h2 := qn_lt (okQ_take ka n)
  rw [List.length_take, Nat.min_eq_left (by omega)] at h2
  rw [h1]
  rw [pow64] at h2 ⊢
  have h3 := nbits_lt u
  have h4 := nbits_ge (m := u) (by omega)
  generalize qn (us.take n) = t at *
  apply nbits_eq
  · rw [Nat.pow_add]
    have : 2 ^ (64 * n) * 2 ^ nbits u ≤ 2 ^ (64 * n) * (2 * u) := Nat.mul_le_mul_left _ h4
    rw [Nat.mul_left_comm] at this
    omega
  · rw [Nat.pow_add]
    have : 2 ^ (64 * n) * (u + 1) ≤ 2 ^ (64 * n) * 2 ^ nbits u := Nat.mul_le_mul_left _ h3
    rw [Nat.mul_succ] at this
    omega
set_option maxHeartbeats 1000000 in
theorem qlen_any {v : Value} {base z L : Nat} (w : World) (hv : Wh w base v z L) (hz : 0 < z) (hL : L ≤ 200000) :
    Calls Tryz.prog 263 #[v] w fun e w' => ∃ n, e = .returned (.int .i64 (nbits z)) ∧ w' = w.drewN n := by
  obtain ⟨us, hoa, ka, ta, nu, hla⟩ := hv
  subst nu
  obtain ⟨ao, ca, rfl, hc, hca, hsh⟩ := own_rd hoa
  have hne : us.length ≠ 0 := fun h => by have := (qn_pos ta).2 h; omega
  obtain ⟨n, hn⟩ : ∃ n, us.length = n + 1 := ⟨us.length - 1, by omega⟩
  obtain ⟨u, hu⟩ : ∃ u, u = us.getD n 0 := ⟨_, rfl⟩
  have hu0 : u ≠ 0 := by have := ta (by omega); rw [hn, Nat.add_sub_cancel, ← hu] at this; exact this
  have hnb := nbits_q ka hn hu hu0
  have huk : u < 18446744073709551616 := by rw [hu]; exact okQ_getD ka n
  obtain ⟨g, rfl, hg, hcell⟩ := hc n (by omega)
  rw [← hu] at hcell
  have hnu : nbits u ≤ 64 := nbits_le (by omega)
  obtain ⟨nb, hnbe⟩ : ∃ nb, nb = nbits u := ⟨_, rfl⟩
  rw [← hnbe] at hnb hnu
  have HNB : Hid (nbits (qn us) = 64 * n + nb) := hnb
  have hlI : (us.length : Int) = (n : Int) + 1 := by omega
  have hn2 : n ≤ 200000 := by omega
  rw [hn]
  clear hnb hoa ta ka hc hsh hu hlI hn hne hz
  have HU : Hid (nb = nbits u) := hnbe
  clear hnbe
  have hwr : wrap64 (n : Int) = (n : Int) := by unfold wrap64; omega
  go_enter Tryz.func263, Tryz.ntmps263
  go_wp2_with (go_at_call 290; (with_reducible refine (len64_any u huk _).mono ?_); rintro e w' ⟨rfl, rfl⟩)
  go_ret
  refine ⟨0, congrArg Ending.returned (congrArg (Value.int .i64) ?_), rfl⟩
  rw [HNB.out, ← HU.out]
  have e5 : ∀ x : Int, 0 ≤ x → x ≤ 100000000 → wrap64 x = x := fun x h0 h1 => by unfold wrap64; omega
  rw [e5 ((n : Int) * 64 + (nb : Int)) (by omega) (by omega)]
  omega

end Go.Proofs.YtmpkcioeodlbcaaGreatDoor
namespace Go.Proofs.YtmpkcioeodlbcaaGreatDoor
open RowKit
def E21 : Nat := 1021
/-- r' by o' is r by o, divided by two to the power D - 1021; it is below 1, and from a half on, unless D is 0 -/
def Good (r o r' o' D : Nat) : Prop := r' < o' ∧ (o' ≤ 2 * r' ∨ D = 0) ∧ r' * o * 2 ^ D = r * o' * 2 ^ E21 ∧ 0 < r'
theorem nb_mul {r n : Nat} (h : 0 < r) : nbits (r * 2 ^ n) = nbits r + n := by
  have a := nbits_lt r
  have b := nbits_ge h
  apply nbits_eq
  · rw [Nat.pow_add, ← Nat.mul_assoc]; exact Nat.mul_le_mul_right _ b
  · rw [Nat.pow_add]; exact Nat.mul_lt_mul_of_pos_right a (Nat.two_pow_pos n)
theorem nb_near {a b : Nat} (ha : 0 < a) (hb : 0 < b) (h : nbits a = nbits b) : a < 2 * b ∧ b < 2 * a := by
  have a1 := nbits_lt a
  have a2 := nbits_ge ha
  have b1 := nbits_lt b
  have b2 := nbits_ge hb
  rw [h] at a1 a2
  omega
theorem nb_less {a b : Nat} (h : nbits a < nbits b) : a < b := by
  have a1 := nbits_lt a
  have hb : 0 < b := by
    rcases Nat.eq_zero_or_pos b with h0 | h0
    · subst h0; rw [nbits_zero] at h; omega
    · exact h0
  have b2 := nbits_ge hb
  have : 2 ^ (nbits a + 1) ≤ 2 ^ nbits b := Nat.pow_le_pow_right (by decide) h
  rw [Nat.pow_succ] at this
  omega
theorem bl_A {r o n : Nat} (hr : 0 < r) (ho : 0 < o) (hn : n = min (nbits o - nbits r) 1021) (hlt : nbits r < nbits o) :
    (r * 2 ^ n < o → Good r o (r * 2 ^ n) o (1021 - n)) ∧ (o ≤ r * 2 ^ n → Good r o (r * 2 ^ n) (o * 2 + 0) (1021 - n + 1)) := by
  have h1 := nb_mul (n := n) hr
  have hp : 0 < r * 2 ^ n := Nat.mul_pos hr (Nat.two_pow_pos n)
  have hn2 : n ≤ 1021 := by omega
  have e1 : 2 ^ n * 2 ^ (1021 - n) = 2 ^ E21 := by rw [← Nat.pow_add]; congr 1; unfold E21; omega
  rcases Nat.lt_or_ge 1021 (nbits o - nbits r) with h2 | h2
  · have h3 : r * 2 ^ n < o := nb_less (by rw [h1]; omega)
    have h4 : n = 1021 := by omega
    refine ⟨fun _ => ⟨h3, .inr (by omega), ?_, hp⟩, fun h => absurd h (by omega)⟩
    rw [← e1, Nat.mul_right_comm r (2 ^ n), Nat.mul_assoc (r * o)]
  · obtain ⟨h3, h4⟩ := nb_near hp ho (by rw [h1]; omega)
    refine ⟨fun h => ⟨h, .inl (by omega), ?_, hp⟩, fun h => ⟨by omega, .inl (by omega), ?_, hp⟩⟩
    · rw [← e1, Nat.mul_right_comm r (2 ^ n), Nat.mul_assoc (r * o)]
    · rw [← e1, Nat.pow_succ, Nat.add_zero]
      generalize 2 ^ (1021 - n) = y
      generalize 2 ^ n = x
      simp only [Nat.mul_comm, Nat.mul_left_comm, Nat.mul_assoc]
theorem bl_B {r o n : Nat} (hr : 0 < r) (ho : 0 < o) (hn : n = nbits r - nbits o) (hle : nbits o ≤ nbits r) :
    (r < o * 2 ^ n → Good r o r (o * 2 ^ n) (1021 + n)) ∧ (o * 2 ^ n ≤ r → Good r o r (o * 2 ^ n * 2 + 0) (1021 + n + 1)) := by
  have h1 := nb_mul (n := n) ho
  have hp : 0 < o * 2 ^ n := Nat.mul_pos ho (Nat.two_pow_pos n)
  obtain ⟨h3, h4⟩ := nb_near hp hr (by rw [h1]; omega)
  have e1 : 2 ^ (1021 + n) = 2 ^ n * 2 ^ E21 := by rw [← Nat.pow_add, Nat.add_comm]; rfl
  refine ⟨fun h => ⟨h, .inl (by omega), ?_, hr⟩, fun h => ⟨by omega, .inl (by omega), ?_, hr⟩⟩
  · rw [e1, ← Nat.mul_assoc, Nat.mul_assoc r]
  · rw [Nat.pow_succ, e1, Nat.add_zero]
    generalize 2 ^ E21 = y
    generalize 2 ^ n = x
    simp only [Nat.mul_comm, Nat.mul_left_comm, Nat.mul_assoc]
/-- the one is turned: all else is as it was -/
theorem Rt.put1 {w w1 : World} {p base r o L o' L' : Nat} {e : TypeId} {cur : Array Value} {vr vo vo' : Value} (h : Rt w p e cur base vr vo r o L) (ho : Only (Ob vo) w w1) (hv : Wh w1 base vo' o' L') (hf : ∀ k, Ob vo' k → Ob vo k ∨ w.heap.size ≤ k) (hL : L ≤ L') :
    Rt (w1.setCell ⟨p, 1, none⟩ vo') p e (cur.setIfInBounds 1 vo') base vr vo' r o' L' ∧ Only (fun k => Ob vo k ∨ k = p) w (w1.setCell ⟨p, 1, none⟩ vo') := by
  have hb1 : w1.heap[p]? = some (.cells cur e (0, 0)) := by rw [ho.block p h.plt h.po]; exact h.blk
  have hpr' : ¬ Ob vo' p := fun hk => by
    rcases hf p hk with h1 | h1
    · exact h.po h1
    · have := h.plt; omega
  have os : Only (fun k => k = p) w1 (w1.setCell ⟨p, 1, none⟩ vo') := (Only.refl _ _).set _ _ (.inl rfl)
  refine ⟨⟨heap_setCell_same w1 p 1 cur e vo' hb1, ?_, ?_, ((h.wr.only ho (fun k hk hk2 => h.ap k hk hk2)).only os (fun k hk hk2 => h.pr (hk2 ▸ hk))).mono hL, hv.only os (fun k hk hk2 => hpr' (hk2 ▸ hk)), fun k hk hk2 => ?_, h.pr, hpr', ?_⟩, (ho.mono (fun i _ hi => .inl hi)).next os (fun i hi => .inl (.inr hi))⟩
  · rw [Array.getElem?_setIfInBounds, if_neg (by decide)]; exact h.c0
  · have hs : 1 < cur.size := (Array.getElem?_eq_some_iff.1 h.c1).1
    simp [hs]
  · rcases hf k hk2 with h1 | h1
    · exact h.ap k hk h1
    · have := (h.wr.lt hk).1; omega
  · have := ho.size
    have := h.bs
    simp; omega

end Go.Proofs.YtmpkcioeodlbcaaGreatDoor
namespace Go.Proofs.YtmpkcioeodlbcaaGreatDoor
open RowKit
theorem Rt.cells {w w1 : World} {p base r o L : Nat} {e : TypeId} {cur : Array Value} {vr vo : Value} (h : Rt w p e cur base vr vo r o L) {S : Nat → Prop} (ho : Only S w w1) (hp : ¬ S p) : w1.cell? ⟨p, 0, none⟩ = some vr ∧ w1.cell? ⟨p, 1, none⟩ = some vo ∧ w1.frozen? ⟨p, 0, none⟩ = false ∧ w1.frozen? ⟨p, 1, none⟩ = false := by
  have hb1 : w1.heap[p]? = some (.cells cur e (0, 0)) := by rw [ho.block p h.plt hp]; exact h.blk
  exact ⟨by rw [cell_of_row w1 p 0 cur e (0, 0) hb1]; exact h.c0, by rw [cell_of_row w1 p 1 cur e (0, 0) hb1]; exact h.c1, frozen_of_row w1 p 0 cur e hb1, frozen_of_row w1 p 1 cur e hb1⟩
theorem Rt.mono' {w : World} {p base r o L L' : Nat} {e : TypeId} {cur : Array Value} {vr vo : Value} (h : Rt w p e cur base vr vo r o L) (hl : L ≤ L') : Rt w p e cur base vr vo r o L' := ⟨h.blk, h.c0, h.c1, h.wr.mono hl, h.wo.mono hl, h.ap, h.pr, h.po, h.bs⟩
set_option maxRecDepth 10000 in
set_option maxHeartbeats 2000000 in
theorem qbelow_any {w : World} {p base r o L : Nat} {e : TypeId} {cur : Array Value} {vr vo : Value} (h : Rt w p e cur base vr vo r o L) (hr : 0 < r) (ho : 0 < o) (hL : L ≤ 1000) :
    Calls Tryz.prog 243 #[.pointer (some ⟨p, 0, none⟩)] w fun e' w' => ∃ D : Nat, e' = .returned (.int .i64 ((D : Int) - 1021)) ∧ D ≤ 1100000 ∧ ∃ cur' vr' vo' r' o', Good r o r' o' D ∧ Rt w' p e cur' base vr' vo' r' o' (2 * L + 20) ∧ Only (fun k => Ob vr k ∨ Ob vo k ∨ k = p) w w' := by
  have c0 := h.cell0
  have c1 := h.cell1
  obtain ⟨lr, hlr⟩ : ∃ lr, lr = nbits r := ⟨_, rfl⟩
  obtain ⟨lo, hlo⟩ : ∃ lo, lo = nbits o := ⟨_, rfl⟩
  have HLR : Hid (nbits r = lr) := hlr.symm
  have HLO : Hid (nbits o = lo) := hlo.symm
  have blr : lr ≤ 64 * L := by
    obtain ⟨ws, _, k, _, hn, hl⟩ := h.wr
    rw [hlr]
    apply nbits_le
    have := qn_lt k
    rw [pow64, hn] at this
    exact Nat.lt_of_lt_of_le this (Nat.pow_le_pow_right (by decide) (by omega))
  have blo : lo ≤ 64 * L := by
    obtain ⟨ws, _, k, _, hn, hl⟩ := h.wo
    rw [hlo]
    apply nbits_le
    have := qn_lt k
    rw [pow64, hn] at this
    exact Nat.lt_of_lt_of_le this (Nat.pow_le_pow_right (by decide) (by omega))
  by_cases hlt : lr < lo
  · obtain ⟨n, hn⟩ : ∃ n, n = min (lo - lr) 1021 := ⟨_, rfl⟩
    have hmax : max ((lr : Int) - (lo : Int)) (-1021) = -(n : Int) := by omega
    have HA : Hid ((r * 2 ^ n < o → Good r o (r * 2 ^ n) o (1021 - n)) ∧ (o ≤ r * 2 ^ n → Good r o (r * 2 ^ n) (o * 2 + 0) (1021 - n + 1))) := bl_A hr ho (by rw [← hlr, ← hlo]; exact hn) (by rw [← hlr, ← hlo]; exact hlt)
    have hn1 : n ≤ 1021 := by omega
    have hn0 : 0 < n := by omega
    clear hlr hlo hn
    go_enter Tryz.func243, Tryz.ntmps243
    go_wp2_with fail
    go_region_held_law (fun W => W.cell? ⟨p, 0, none⟩ = some vr ∧ W.cell? ⟨p, 1, none⟩ = some vo)
      (first | with_reducible exact D1 | with_reducible exact D2 | go_keep)
      (first
      | (go_at_call 263; (with_reducible refine (qlen_any _ (h.wr.hp (by first | exact hp_drew _ | exact hp_drewN _ _)) hr (by omega)).mono ?_); rintro e1 w1 ⟨m1, rfl, rfl⟩; rw [HLR.out])
      | (go_at_call 263; (with_reducible refine (qlen_any _ (h.wo.hp (by first | exact hp_drew _ | exact hp_drewN _ _)) ho (by omega)).mono ?_); rintro e2 w2 ⟨m2, rfl, rfl⟩; rw [HLO.out]))
    have hif : (if IntKind.i64.wrap ((lr : Int) - (lo : Int)) < -1021 then -1021 else IntKind.i64.wrap ((lr : Int) - (lo : Int))) = -(n : Int) := by rw [IntKind.wrap_i64]; split <;> omega
    simp only [hif]
    go_wp2_with (go_at_call 264; (with_reducible refine (qtwos_any _ base _ L n _ (h.wr.hp (by first | exact hp_drew _ | exact hp_drewN _ _)) hr (by omega) (by omega) (by rw [hp_drewN]; exact h.bs)).mono ?_); rintro e5 w1 ⟨v1, rfl, k1, k2, k3⟩; obtain ⟨kc0, kc1, kf0, kf1⟩ := h.cells (k2.hp rfl rfl rfl rfl) h.pr; obtain ⟨sa, sn, sc, rfl⟩ := k1.sl)
    obtain ⟨R1, O1⟩ := h.put (k2.hp rfl rfl rfl rfl) k1 (fun k hk => .inr (k3 k hk)) (by omega)
    have R1 := R1.mono' (L' := 2 * L + 19) (by omega)
    obtain ⟨W, hW⟩ : ∃ W, W = w1.setCell ⟨p, 0, none⟩ (.slice sa sn sc) := ⟨_, rfl⟩
    rw [← hW] at R1 O1 ⊢
    have O2 : Only (fun k => Ob vr k ∨ Ob vo k ∨ k = p) w W := O1.mono (fun i _ hi => by rcases hi with hi | hi; exact .inl hi; exact .inr (.inr hi))
    have d0 := R1.cell0
    have d1 := R1.cell1
    clear hW c0 c1 kc0 kc1 kf0 kf1 O1
    obtain ⟨x, hx⟩ : ∃ x, cmI (r * 2 ^ n) (o) = x := ⟨_, rfl⟩
    have HX : Hid (cmI (r * 2 ^ n) (o) = x) := hx
    by_cases hge : o ≤ r * 2 ^ n
    · have hx0 : 0 ≤ x := by rw [← hx]; exact cmI_ge.2 hge
      have HG := HA.out.2 hge
      clear hx HA
      go_wp2_with fail
      go_region_held_law (fun V => V.cell? ⟨p, 0, none⟩ = some (Value.slice sa sn sc) ∧ V.cell? ⟨p, 1, none⟩ = some vo)
        (first | go_keep)
        (first
        | (go_at_call 265; (with_reducible refine (qcmp_any _ (R1.wr.hp (by first | exact hp_drew _ | exact hp_drewN _ _)) (R1.wo.hp (by first | exact hp_drew _ | exact hp_drewN _ _)) (by omega) (by omega)).mono ?_); rintro e3 w3 ⟨m3, rfl, rfl⟩; rw [HX.out]))
      go_wp2_with (go_at_call 261; (with_reducible refine (qtimesI 2 0 (R1.wo.hp (by first | exact hp_drew _ | exact hp_drewN _ _)) (by omega) (by omega) (by omega) (by omega) (by omega) (by omega) (by rw [hp_drewN]; exact R1.bs)).mono ?_); rintro e4 w4 ⟨v4, rfl, q1, q2, q3⟩; obtain ⟨qc0, qc1, qf0, qf1⟩ := R1.cells (q2.hp rfl rfl rfl rfl) R1.po; obtain ⟨a4, n4, c4, rfl⟩ := q1.sl)
      go_ret
      obtain ⟨R5, O5⟩ := R1.put1 (q2.hp rfl rfl rfl rfl) q1 q3 (Nat.le_succ _)
      refine ⟨1021 - n + 1, congrArg Ending.returned (congrArg (Value.int .i64) (by omega)), by omega, _, _, _, _, _, HG, R5.mono' (by omega), O2.next O5 (fun i hi => ?_)⟩
      rcases hi with hi | hi
      · exact .inl (.inr (.inl hi))
      · exact .inl (.inr (.inr hi))
    · have hx0 : ¬ 0 ≤ x := by rw [← hx]; exact fun h => hge (cmI_ge.1 h)
      have HG := HA.out.1 (by omega)
      clear hx HA
      go_wp2_with fail
      go_region_held_law (fun V => V.cell? ⟨p, 0, none⟩ = some (Value.slice sa sn sc) ∧ V.cell? ⟨p, 1, none⟩ = some vo)
        (first | go_keep)
        (first
        | (go_at_call 265; (with_reducible refine (qcmp_any _ (R1.wr.hp (by first | exact hp_drew _ | exact hp_drewN _ _)) (R1.wo.hp (by first | exact hp_drew _ | exact hp_drewN _ _)) (by omega) (by omega)).mono ?_); rintro e3 w3 ⟨m3, rfl, rfl⟩; rw [HX.out]))
      go_wp2
      go_ret
      exact ⟨1021 - n, congrArg Ending.returned (congrArg (Value.int .i64) (by omega)), by omega, _, _, _, _, _, HG, (R1.mono' (by omega)).drewN _, O2.drewN _⟩
  · obtain ⟨n, hn⟩ : ∃ n, n = lr - lo := ⟨_, rfl⟩
    have HA : Hid ((r < o * 2 ^ n → Good r o r (o * 2 ^ n) (1021 + n)) ∧ (o * 2 ^ n ≤ r → Good r o r (o * 2 ^ n * 2 + 0) (1021 + n + 1))) := bl_B hr ho (by rw [← hlr, ← hlo]; exact hn) (by rw [← hlr, ← hlo]; omega)
    have hn1 : n ≤ 64 * L := by omega
    have HNI : Hid ((lr : Int) - (lo : Int) = n) := by show _ = _; omega
    have hn0 : ¬ (n : Int) < 0 := by omega
    clear hlr hlo hn
    go_enter Tryz.func243, Tryz.ntmps243
    go_wp2_with fail
    go_region_held_law (fun W => W.cell? ⟨p, 0, none⟩ = some vr ∧ W.cell? ⟨p, 1, none⟩ = some vo)
      (first | with_reducible exact D1 | with_reducible exact D2 | go_keep)
      (first
      | (go_at_call 263; (with_reducible refine (qlen_any _ (h.wr.hp (by first | exact hp_drew _ | exact hp_drewN _ _)) hr (by omega)).mono ?_); rintro e1 w1 ⟨m1, rfl, rfl⟩; rw [HLR.out])
      | (go_at_call 263; (with_reducible refine (qlen_any _ (h.wo.hp (by first | exact hp_drew _ | exact hp_drewN _ _)) ho (by omega)).mono ?_); rintro e2 w2 ⟨m2, rfl, rfl⟩; rw [HLO.out]))
    have hif : (if IntKind.i64.wrap ((lr : Int) - (lo : Int)) < -1021 then -1021 else IntKind.i64.wrap ((lr : Int) - (lo : Int))) = (n : Int) := by have := HNI.out; rw [IntKind.wrap_i64]; split <;> omega
    simp only [hif]
    go_wp2_with (go_at_call 264; (with_reducible refine (qtwos_any _ base _ L n _ (h.wo.hp (by first | exact hp_drew _ | exact hp_drewN _ _)) ho (by omega) (by omega) (by rw [hp_drewN]; exact h.bs)).mono ?_); rintro e5 w1 ⟨v1, rfl, k1, k2, k3⟩; obtain ⟨kc0, kc1, kf0, kf1⟩ := h.cells (k2.hp rfl rfl rfl rfl) h.po; obtain ⟨sa, sn, sc, rfl⟩ := k1.sl)
    obtain ⟨R1, O1⟩ := h.put1 (k2.hp rfl rfl rfl rfl) k1 (fun k hk => .inr (k3 k hk)) (by omega)
    have R1 := R1.mono' (L' := 2 * L + 19) (by omega)
    obtain ⟨W, hW⟩ : ∃ W, W = w1.setCell ⟨p, 1, none⟩ (.slice sa sn sc) := ⟨_, rfl⟩
    rw [← hW] at R1 O1 ⊢
    have O2 : Only (fun k => Ob vr k ∨ Ob vo k ∨ k = p) w W := O1.mono (fun i _ hi => by rcases hi with hi | hi; exact .inr (.inl hi); exact .inr (.inr hi))
    have d0 := R1.cell0
    have d1 := R1.cell1
    clear hW c0 c1 kc0 kc1 kf0 kf1 O1
    obtain ⟨x, hx⟩ : ∃ x, cmI (r) (o * 2 ^ n) = x := ⟨_, rfl⟩
    have HX : Hid (cmI (r) (o * 2 ^ n) = x) := hx
    by_cases hge : o * 2 ^ n ≤ r
    · have hx0 : 0 ≤ x := by rw [← hx]; exact cmI_ge.2 hge
      have HG := HA.out.2 hge
      clear hx HA
      go_wp2_with fail
      go_region_held_law (fun V => V.cell? ⟨p, 0, none⟩ = some vr ∧ V.cell? ⟨p, 1, none⟩ = some (Value.slice sa sn sc))
        (first | go_keep)
        (first
        | (go_at_call 265; (with_reducible refine (qcmp_any _ (R1.wr.hp (by first | exact hp_drew _ | exact hp_drewN _ _)) (R1.wo.hp (by first | exact hp_drew _ | exact hp_drewN _ _)) (by omega) (by omega)).mono ?_); rintro e3 w3 ⟨m3, rfl, rfl⟩; rw [HX.out]))
      go_wp2_with (go_at_call 261; (with_reducible refine (qtimesI 2 0 (R1.wo.hp (by first | exact hp_drew _ | exact hp_drewN _ _)) (by omega) (by omega) (by omega) (by omega) (by omega) (by omega) (by rw [hp_drewN]; exact R1.bs)).mono ?_); rintro e4 w4 ⟨v4, rfl, q1, q2, q3⟩; obtain ⟨qc0, qc1, qf0, qf1⟩ := R1.cells (q2.hp rfl rfl rfl rfl) R1.po; obtain ⟨a4, n4, c4, rfl⟩ := q1.sl)
      go_ret
      obtain ⟨R5, O5⟩ := R1.put1 (q2.hp rfl rfl rfl rfl) q1 q3 (Nat.le_succ _)
      refine ⟨1021 + n + 1, congrArg Ending.returned (congrArg (Value.int .i64) (by omega)), by omega, _, _, _, _, _, HG, R5.mono' (by omega), O2.next O5 (fun i hi => ?_)⟩
      rcases hi with hi | hi
      · exact .inr (k3 i hi)
      · exact .inl (.inr (.inr hi))
    · have hx0 : ¬ 0 ≤ x := by rw [← hx]; exact fun h => hge (cmI_ge.1 h)
      have HG := HA.out.1 (by omega)
      clear hx HA
      go_wp2_with fail
      go_region_held_law (fun V => V.cell? ⟨p, 0, none⟩ = some vr ∧ V.cell? ⟨p, 1, none⟩ = some (Value.slice sa sn sc))
        (first | go_keep)
        (first
        | (go_at_call 265; (with_reducible refine (qcmp_any _ (R1.wr.hp (by first | exact hp_drew _ | exact hp_drewN _ _)) (R1.wo.hp (by first | exact hp_drew _ | exact hp_drewN _ _)) (by omega) (by omega)).mono ?_); rintro e3 w3 ⟨m3, rfl, rfl⟩; rw [HX.out]))
      go_wp2
      go_ret
      exact ⟨1021 + n, congrArg Ending.returned (congrArg (Value.int .i64) (by omega)), by omega, _, _, _, _, _, HG, (R1.mono' (by omega)).drewN _, O2.drewN _⟩

end Go.Proofs.YtmpkcioeodlbcaaGreatDoor
