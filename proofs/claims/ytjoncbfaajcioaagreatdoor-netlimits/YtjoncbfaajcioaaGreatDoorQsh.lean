/-
  Spans of the package quantity: what shortest hands back.
-/
import Derived.Test.YtjoncbfaajcioaaGreatDoorQsp
namespace Go.Proofs.YtjoncbfaajcioaaGreatDoor
open RowKit

/-- below and above are turned, in memory and in the struct: all else is as it was -/
theorem Sp.turn2 {w w2 : World} {p base L L' x y : Nat} {cur : Array Value} {vs : Nat → Value} {zs : Nat → Nat} {ends : Bool} {u v : Value} (h : Sp w p cur base vs zs ends L)
    (ho : Only (fun k => Ob (vs 2) k ∨ Ob (vs 3) k) w w2) (hu : Wh w2 base u x L') (hv : Wh w2 base v y L')
    (fu : ∀ k, Ob u k → Ob (vs 2) k ∨ w.heap.size ≤ k) (fv : ∀ k, Ob v k → Ob (vs 3) k ∨ w.heap.size ≤ k) (huv : ∀ k, Ob u k → ¬ Ob v k) (hL : L ≤ L') :
    Sp ((w2.setCell ⟨p, 2, none⟩ u).setCell ⟨p, 3, none⟩ v) p ((cur.setIfInBounds 2 u).setIfInBounds 3 v) base (upd (upd vs 2 u) 3 v) (upd (upd zs 2 x) 3 y) ends L' ∧ Only (fun k => Ob (vs 2) k ∨ Ob (vs 3) k ∨ k = p) w ((w2.setCell ⟨p, 2, none⟩ u).setCell ⟨p, 3, none⟩ v) := by
  have hb1 : w2.heap[p]? = some (.cells cur 165 (0, 0)) := by rw [ho.block p h.plt (fun q => q.elim (h.pp 2 (by decide)) (h.pp 3 (by decide)))]; exact h.blk
  have pu : ¬ Ob u p := fun hk => by
    rcases fu p hk with h1 | h1
    · exact h.pp 2 (by decide) h1
    · have := h.plt; omega
  have pv : ¬ Ob v p := fun hk => by
    rcases fv p hk with h1 | h1
    · exact h.pp 3 (by decide) h1
    · have := h.plt; omega
  have os : Only (fun k => k = p) w2 ((w2.setCell ⟨p, 2, none⟩ u).setCell ⟨p, 3, none⟩ v) := ((Only.refl (fun k => k = p) w2).set ⟨p, 2, none⟩ u (.inl rfl)).set ⟨p, 3, none⟩ v (.inl rfl)
  have au : ∀ j, j < 2 → ∀ k, Ob u k → ¬ Ob (vs j) k := fun j hj k hk hk2 => by
    rcases fu k hk with h1 | h1
    · exact h.ap 2 (by decide) j (by omega) (by omega) k h1 hk2
    · have := ((h.wh j (by omega)).lt hk2).1; omega
  have av : ∀ j, j < 2 → ∀ k, Ob v k → ¬ Ob (vs j) k := fun j hj k hk hk2 => by
    rcases fv k hk with h1 | h1
    · exact h.ap 3 (by decide) j (by omega) (by omega) k h1 hk2
    · have := ((h.wh j (by omega)).lt hk2).1; omega
  have e : ∀ j, j < 4 → upd (upd vs 2 u) 3 v j = if j < 2 then vs j else if j = 2 then u else v := fun j hj => by
    unfold upd
    rcases (by omega : j = 0 ∨ j = 1 ∨ j = 2 ∨ j = 3) with q | q | q | q <;> subst q <;> rfl
  have ez : ∀ j, j < 4 → upd (upd zs 2 x) 3 y j = if j < 2 then zs j else if j = 2 then x else y := fun j hj => by
    unfold upd
    rcases (by omega : j = 0 ∨ j = 1 ∨ j = 2 ∨ j = 3) with q | q | q | q <;> subst q <;> rfl
  have hs : 4 < cur.size := (Array.getElem?_eq_some_iff.1 h.e4).1
  refine ⟨⟨?_, fun j hj => ?_, ?_, fun j hj => ?_, fun j hj k hk hjk b h1 h2 => ?_, fun j hj => ?_, ?_⟩, (ho.mono (fun i _ hi => hi.elim .inl (fun q => .inr (.inl q)))).next os (fun i hi => .inl (.inr (.inr hi)))⟩
  · exact heap_setCell_same _ p 3 _ _ v (heap_setCell_same w2 p 2 cur _ u hb1)
  · rw [e j hj]
    have hc := h.c j hj
    rcases (by omega : j = 0 ∨ j = 1 ∨ j = 2 ∨ j = 3) with q | q | q | q
    · subst q; rw [Array.getElem?_setIfInBounds, if_neg (by decide), Array.getElem?_setIfInBounds, if_neg (by decide)]; exact hc
    · subst q; rw [Array.getElem?_setIfInBounds, if_neg (by decide), Array.getElem?_setIfInBounds, if_neg (by decide)]; exact hc
    · subst q; rw [Array.getElem?_setIfInBounds, if_neg (by decide), Array.getElem?_setIfInBounds, if_pos rfl, if_pos (by omega)]; rfl
    · subst q; rw [Array.getElem?_setIfInBounds, if_pos rfl, if_pos (by simp; omega)]; rfl
  · rw [Array.getElem?_setIfInBounds, if_neg (by decide), Array.getElem?_setIfInBounds, if_neg (by decide)]; exact h.e4
  · rw [e j hj, ez j hj]
    rcases (by omega : j < 2 ∨ j = 2 ∨ j = 3) with q | q | q
    · rw [if_pos q, if_pos q]
      refine (((h.wh j hj).only ho (fun k hk hk2 => ?_)).only os (fun k hk hk2 => ?_)).mono hL
      · rcases hk2 with r | r
        · exact h.ap j hj 2 (by decide) (by omega) k hk r
        · exact h.ap j hj 3 (by decide) (by omega) k hk r
      · subst hk2; exact h.pp j hj hk
    · subst q; exact hu.only os (fun k hk hk2 => by subst hk2; exact pu hk)
    · subst q; exact hv.only os (fun k hk hk2 => by subst hk2; exact pv hk)
  · rw [e j hj] at h1
    rw [e k hk] at h2
    rcases (by omega : j < 2 ∨ j = 2 ∨ j = 3) with q | q | q
    · rw [if_pos q] at h1
      rcases (by omega : k < 2 ∨ k = 2 ∨ k = 3) with r | r | r
      · rw [if_pos r] at h2; exact h.ap j hj k hk hjk b h1 h2
      · subst r; exact au j q b h2 h1
      · subst r; exact av j q b h2 h1
    · subst q
      rcases (by omega : k < 2 ∨ k = 2 ∨ k = 3) with r | r | r
      · rw [if_pos r] at h2; exact au k r b h1 h2
      · omega
      · subst r; exact huv b h1 h2
    · subst q
      rcases (by omega : k < 2 ∨ k = 2 ∨ k = 3) with r | r | r
      · rw [if_pos r] at h2; exact av k r b h1 h2
      · subst r; exact huv b h2 h1
      · omega
  · rw [e j hj]
    rcases (by omega : j < 2 ∨ j = 2 ∨ j = 3) with q | q | q
    · rw [if_pos q]; exact h.pp j hj
    · subst q; exact pu
    · subst q; exact pv
  · have := ho.size
    have := os.size
    have := h.bs
    omega
theorem Sp.below {w w' : World} {p base L : Nat} {cur : Array Value} {vs : Nat → Value} {zs : Nat → Nat} {ends : Bool} (h : Sp w p cur base vs zs ends L) (hb : Below w.heap.size w w') : Sp w' p cur base vs zs ends L :=
  ⟨by rw [hb.block p h.plt]; exact h.blk, h.c, h.e4, fun i hi => lack_wr hb (h.wh i hi), h.ap, h.pp, Nat.le_trans h.bs hb.size⟩
theorem Sp.mono' {w : World} {p base L L' : Nat} {cur : Array Value} {vs : Nat → Value} {zs : Nat → Nat} {ends : Bool} (h : Sp w p cur base vs zs ends L) (hl : L ≤ L') : Sp w p cur base vs zs ends L' := ⟨h.blk, h.c, h.e4, fun i hi => (h.wh i hi).mono hl, h.ap, h.pp, h.bs⟩
theorem below_le {m n : Nat} {w w' : World} (h : Below n w w') (hm : m ≤ n) : Below m w w' := ⟨h.os, h.tape, h.output, h.size, fun k hk => h.block k (Nat.lt_of_lt_of_le hk hm)⟩
theorem some_pair {a b D N : Nat} (h : some (a, b) = some (D, N)) : D = a ∧ N = b := by
  simp only [Option.some.injEq, Prod.mk.injEq] at h
  exact ⟨h.1.symm, h.2.symm⟩
/-- below and above, ten times each -/
theorem Sp.tens {w1 w2 w3 : World} {p base L L' x y : Nat} {cur : Array Value} {vs : Nat → Value} {zs : Nat → Nat} {ends : Bool} {u v : Value} (h : Sp w1 p cur base vs zs ends L)
    (a1 : Wh w2 base u x L') (a2 : Only (Ob (vs 2)) w1 w2) (a3 : ∀ k, Ob u k → Ob (vs 2) k ∨ w1.heap.size ≤ k) (b1 : Wh w3 base v y L') (b2 : Only (Ob (vs 3)) w2 w3) (b3 : ∀ k, Ob v k → Ob (vs 3) k ∨ w2.heap.size ≤ k) (hL : L ≤ L') :
    Sp ((w3.setCell ⟨p, 2, none⟩ u).setCell ⟨p, 3, none⟩ v) p ((cur.setIfInBounds 2 u).setIfInBounds 3 v) base (upd (upd vs 2 u) 3 v) (upd (upd zs 2 x) 3 y) ends L' ∧ Only (fun k => Ob (vs 2) k ∨ Ob (vs 3) k ∨ k = p) w1 ((w3.setCell ⟨p, 2, none⟩ u).setCell ⟨p, 3, none⟩ v) := by
  have s1 := a2.size
  have du : ∀ k, Ob u k → ¬ Ob (vs 3) k := fun k hk hk2 => by
    rcases a3 k hk with q | q
    · exact h.ap 2 (by decide) 3 (by decide) (by decide) k q hk2
    · have := ((h.wh 3 (by decide)).lt hk2).1; omega
  refine h.turn2 ((a2.mono (fun _ _ q => .inl q)).next b2 (fun i hi => .inl (.inr hi))) (a1.only b2 du) b1 a3 (fun k hk => (b3 k hk).imp id (fun q => by omega)) (fun k hk hk2 => ?_) hL
  rcases b3 k hk2 with q | q
  · exact du k hk q
  · have := (a1.lt hk).1; omega
theorem qroundI {w : World} {p base r o L d : Nat} {e : TypeId} {cur : Array Value} {vr vo : Value} {X : Int} (h : Rt w p e cur base vr vo r o L) (hX : X = ((d : Nat) : Int)) (hr : r ≤ o) (ho : 0 < o) (hL : L ≤ 200000) (hd : d < 18446744073709551616) :
    Calls Tryz.prog 88 #[.pointer (some ⟨p, 0, none⟩), .int .u64 X] w fun e' w' => e' = .returned (.bool (rUp r o d)) ∧ Below w.heap.size w w' := by
  subst hX; exact qround_any h hr ho hL hd
/-- the fewest digits: digit by digit, till what is left over, or what is wanting, belongs to the float -/
def shR (o : Nat) (ends : Bool) : Nat → Nat → Nat → Nat → Nat → Nat → Option (Nat × Nat)
  | 0, _, _, _, _, _ => none
  | f + 1, n, d, r, b, a =>
    if rUp (r * 10 % o) o (10 * d + r * 10 / o) = true then
      (if rch (o - r * 10 % o) (a * 10 + 0) ends = true then some (10 * d + r * 10 / o + 1, n) else shR o ends f (n + 1) (10 * d + r * 10 / o) (r * 10 % o) (b * 10 + 0) (a * 10 + 0))
    else
      (if rch (r * 10 % o) (b * 10 + 0) ends = true then some (10 * d + r * 10 / o, n) else shR o ends f (n + 1) (10 * d + r * 10 / o) (r * 10 % o) (b * 10 + 0) (a * 10 + 0))
theorem Sp.later {w w1 : World} {p base L : Nat} {cur : Array Value} {vs : Nat → Value} {zs : Nat → Nat} {ends : Bool} (h : Sp w p cur base vs zs ends L) {S : Nat → Prop} (ho : Only S w w1) (hp : ¬ S p) : (∀ i, i < 4 → w1.cell? ⟨p, i, none⟩ = some (vs i)) ∧ (∀ i, w1.frozen? ⟨p, i, none⟩ = false) := by
  have hb1 : w1.heap[p]? = some (.cells cur 165 (0, 0)) := by rw [ho.block p h.plt hp]; exact h.blk
  exact ⟨fun i hi => by rw [cell_of_row w1 p i cur _ (0, 0) hb1]; exact h.c i hi, fun i => frozen_of_row w1 p i cur _ hb1⟩
set_option maxRecDepth 10000 in
set_option maxHeartbeats 4000000 in
theorem short_any {w : World} {p base L D N : Nat} {cur : Array Value} {vs : Nat → Value} {zs : Nat → Nat} {ends : Bool} (h : Sp w p cur base vs zs ends L) (hr : zs 0 < zs 1) (hbp : base ≤ p) (hL : L ≤ 1000) (hs : shR (zs 1) ends 18 1 0 (zs 0) (zs 2) (zs 3) = some (D, N)) :
    Calls Tryz.prog 109 #[.pointer (some ⟨p, 0, none⟩)] w fun e w' => e = .returned (.tuple #[.int .u64 D, .int .i64 N]) ∧ Below base w w' := by
  obtain ⟨o, ho⟩ : ∃ o, zs 1 = o := ⟨_, rfl⟩
  go_enter Tryz.func109, Tryz.ntmps109
  go_wp2_with fail
  go_loopw [4, 5] (fun dv nv wr => ∃ (n d f : Nat) (vs : Nat → Value) (zs : Nat → Nat) (cur : Array Value), dv = .int .u64 d ∧ nv = .int .i64 n ∧ n + f = 19 ∧ 1 ≤ n ∧ d < 10 ^ (n - 1) ∧ zs 1 = o ∧ zs 0 < o ∧ shR o ends f n d (zs 0) (zs 2) (zs 3) = some (D, N) ∧ Sp wr p cur base vs zs ends (L + n) ∧ Below base w wr) (fun _ nv _ => 20 - (intOf nv).toNat)
  case atStart => exact ⟨1, 0, 18, vs, zs, cur, rfl, rfl, rfl, by omega, by decide, ho, by omega, by rw [← ho]; exact hs, ⟨h.blk, h.c, h.e4, fun i hi => (h.wh i hi).mono (by omega), h.ap, h.pp, h.bs⟩, Below.refl _ _⟩
  case round =>
    clear h hr hs ho
    clear vs zs cur
    obtain ⟨n, d, f, vs, zs, cur, rfl, rfl, hnf, hn1, hd, ho, hr, hs, S, B⟩ := hrel
    obtain ⟨f', hf'⟩ : ∃ f', f = f' + 1 := by
      cases f with
      | zero => exact absurd hs (by unfold shR; simp)
      | succ f' => exact ⟨f', rfl⟩
    subst hf'
    have hd18 : d < 1000000000000000000 := Nat.lt_of_lt_of_le hd (Nat.le_trans (Nat.pow_le_pow_right (by decide) (show n - 1 ≤ 18 by omega)) (by decide))
    have HS : Hid (shR o ends (f' + 1) n d (zs 0) (zs 2) (zs 3) = some (D, N)) := hs
    have HD : Hid (d < 10 ^ (n - 1)) := hd
    have HB : Hid (Below base w wr) := B
    have hR := S.rt
    have hr1 : zs 0 < zs 1 := by rw [ho]; exact hr
    clear hs hd B
    go_wp2_with (go_at_call 87; (with_reducible refine (qnext_any hR hr1 (b := 10) (by omega) (by omega) (by omega) (by omega)).mono ?_); rintro e1 w1 ⟨dd, rfl, hdd', v1, R1, O1, F1⟩; have HDD : Hid (dd = zs 0 * 10 / zs 1) := hdd'; have hd9 : dd < 10 := (by rw [hdd']; exact next_lt hr1 (Nat.div_mul_le_self _ _) (by omega)); clear hdd')
    have S1 := S.nexted R1 O1 F1
    obtain ⟨vs1, hvs1⟩ : ∃ g, g = upd vs 0 v1 := ⟨_, rfl⟩
    obtain ⟨zs1, hzs1⟩ : ∃ g, g = upd zs 0 (zs 0 * 10 % zs 1) := ⟨_, rfl⟩
    rw [← hvs1, ← hzs1] at S1
    have HZ0 : Hid (zs1 0 = zs 0 * 10 % o) := by show _ = _; rw [hzs1, upd_same, ho]
    have HZ1 : Hid (zs1 1 = o) := by show _ = _; rw [hzs1, upd_other _ _ (by decide)]; exact ho
    have HZ2 : Hid (zs1 2 = zs 2) := by show _ = _; rw [hzs1, upd_other _ _ (by decide)]
    have HZ3 : Hid (zs1 3 = zs 3) := by show _ = _; rw [hzs1, upd_other _ _ (by decide)]
    have B1 : Hid (Below base w w1) := HB.out.trans (O1.below base S.bs (fun i hi => by rcases hi with hi | hi; exact ((S.wh 0 (by decide)).lt hi).2; omega))
    clear hvs1 hzs1 R1 O1 F1 hR S HB
    have c2 := S1.cell 2 (by decide)
    have c3 := S1.cell 3 (by decide)
    have L1 := fun W (q : Only (Ob (vs1 2)) w1 W) => S1.later q (S1.pp 2 (by decide))
    have L2 := fun W (q : Only (Ob (vs1 3)) w1 W) => S1.later q (S1.pp 3 (by decide))
    go_region_with (first
      | (go_at_call 101; (with_reducible refine (qtimesI 10 0 ((S1.wh 2 (by decide)).hp (hp_drew _)) (by omega) (by omega) (by omega) (by omega) (by omega) (by omega) (by rw [hp_drew]; exact S1.bs)).mono ?_); rintro e2 w2 ⟨v2, rfl, a1, a2, a3⟩; have a2 := a2.undrew; obtain ⟨a4, a5, a6, rfl⟩ := a1.sl; have W3 := (S1.wh 3 (by decide)).only a2 (S1.ap 3 (by decide) 2 (by decide) (by decide)); have X2 := (L1 w2 a2).1 2 (by decide); have X3 := (L1 w2 a2).1 3 (by decide); have X4 := (L1 w2 a2).2 2; have X5 := (L1 w2 a2).2 3)
      | (go_at_call 101; (with_reducible refine (qtimesI 10 0 W3 (by omega) (by omega) (by omega) (by omega) (by omega) (by omega) (Nat.le_trans S1.bs a2.size)).mono ?_); rintro e3 w3 ⟨v3, rfl, b1, b2, b3⟩; obtain ⟨b4, b5, b6, rfl⟩ := b1.sl; have O23 : Only (fun k => Ob (vs1 2) k ∨ Ob (vs1 3) k) w1 w3 := (a2.mono (fun _ _ q => .inl q)).trans (b2.mono (fun _ _ q => .inr q)); have Y := S1.later O23 (fun q => q.elim (S1.pp 2 (by decide)) (S1.pp 3 (by decide))); have Y2 := Y.1 2 (by decide); have Y3 := Y.1 3 (by decide); have Y4 := Y.2 2; have Y5 := Y.2 3; clear Y)
      | (go_at_call 101; (with_reducible refine (qtimesI 10 0 ((S1.wh 3 (by decide)).hp (hp_drew _)) (by omega) (by omega) (by omega) (by omega) (by omega) (by omega) (by rw [hp_drew]; exact S1.bs)).mono ?_); rintro e2 w2 ⟨v2, rfl, a1, a2, a3⟩; have a2 := a2.undrew; obtain ⟨a4, a5, a6, rfl⟩ := a1.sl; have V3 := (S1.wh 2 (by decide)).only a2 (S1.ap 2 (by decide) 3 (by decide) (by decide)); have X2 := (L2 w2 a2).1 2 (by decide); have X3 := (L2 w2 a2).1 3 (by decide); have X4 := (L2 w2 a2).2 2; have X5 := (L2 w2 a2).2 3)
      | (go_at_call 101; (with_reducible refine (qtimesI 10 0 V3 (by omega) (by omega) (by omega) (by omega) (by omega) (by omega) (Nat.le_trans S1.bs a2.size)).mono ?_); rintro e3 w3 ⟨v3, rfl, b1, b2, b3⟩; obtain ⟨b4, b5, b6, rfl⟩ := b1.sl; have O23 : Only (fun k => Ob (vs1 2) k ∨ Ob (vs1 3) k) w1 w3 := (a2.mono (fun _ _ q => .inr q)).trans (b2.mono (fun _ _ q => .inl q)); have Y := S1.later O23 (fun q => q.elim (S1.pp 2 (by decide)) (S1.pp 3 (by decide))); have Y2 := Y.1 2 (by decide); have Y3 := Y.1 3 (by decide); have Y4 := Y.2 2; have Y5 := Y.2 3; clear Y))
    all_goals
      obtain ⟨S3, O3⟩ := S1.tens a1 a2 a3 b1 b2 b3 (by omega)
      obtain ⟨W, hW⟩ : ∃ W, W = (w3.setCell ⟨p, 2, none⟩ (.slice a4 a5 a6)).setCell ⟨p, 3, none⟩ (.slice b4 b5 b6) := ⟨_, rfl⟩
      rw [← hW] at S3 O3 ⊢
      have B3 : Hid (Below base w W) := B1.out.trans (O3.below base S1.bs (fun i hi => by rcases hi with hi | hi | hi; exact ((S1.wh 2 (by decide)).lt hi).2; exact ((S1.wh 3 (by decide)).lt hi).2; omega))
      obtain ⟨vs3, hvs3⟩ : ∃ g, g = upd (upd vs1 2 (.slice a4 a5 a6)) 3 (.slice b4 b5 b6) := ⟨_, rfl⟩
      obtain ⟨zs3, hzs3⟩ : ∃ g, g = upd (upd zs1 2 (zs1 2 * 10 + 0)) 3 (zs1 3 * 10 + 0) := ⟨_, rfl⟩
      rw [← hvs3, ← hzs3] at S3
      have K0 : Hid (zs3 0 = zs 0 * 10 % o) := by show _ = _; rw [hzs3]; exact HZ0.out
      have K1 : Hid (zs3 1 = o) := by show _ = _; rw [hzs3]; exact HZ1.out
      have K2 : Hid (zs3 2 = zs 2 * 10 + 0) := by show _ = _; rw [hzs3, ← HZ2.out]; rfl
      have K3 : Hid (zs3 3 = zs 3 * 10 + 0) := by show _ = _; rw [hzs3, ← HZ3.out]; rfl
      clear hW hvs3 hzs3 S1 O3 a1 a2 a3 b1 b2 b3 c2 c3 L1 L2 X2 X3 X4 X5 Y2 Y3 Y4 Y5 O23 W3
      have hro : zs3 0 < zs3 1 := by rw [K0.out, K1.out]; exact Nat.mod_lt _ (by omega)
      obtain ⟨dn, hdn⟩ : ∃ dn, dn = 10 * d + dd := ⟨_, rfl⟩
      have hdI : 10 * (d : Int) + (dd : Int) = (dn : Int) := by omega
      rw [hdI]
      have hs4 : (if rUp (zs3 0) (zs3 1) dn = true then (if rch (zs3 1 - zs3 0) (zs3 3) ends = true then some (dn + 1, n) else shR o ends f' (n + 1) dn (zs3 0) (zs3 2) (zs3 3)) else (if rch (zs3 0) (zs3 2) ends = true then some (dn, n) else shR o ends f' (n + 1) dn (zs3 0) (zs3 2) (zs3 3))) = some (D, N) := by
        have q := HS.out
        rw [shR] at q
        have q1 := HDD.out
        rw [ho] at q1
        rw [K0.out, K1.out, K2.out, K3.out, hdn, q1]
        exact q
      have hdnb : Hid (dn < 10 ^ n) := by
        show _ < _
        have := HD.out
        obtain ⟨m, hm⟩ : ∃ m, n = m + 1 := ⟨n - 1, by omega⟩
        subst hm
        rw [Nat.add_sub_cancel] at this
        rw [hdn, Nat.pow_succ]; omega
      have hdn18 : dn < 10000000000000000000 := by omega
      clear hdI hdn HS HD HDD HZ0 HZ1 HZ2 HZ3 hd18
      cases hup : rUp (zs3 0) (zs3 1) dn
      · have HU : Hid (rUp (zs3 0) (zs3 1) dn = false) := hup
        rw [if_neg (by rw [hup]; decide)] at hs4
        clear hup
        cases hrc : rch (zs3 0) (zs3 2) ends
        · rw [if_neg (by rw [hrc]; decide)] at hs4
          have HC : Hid (rch (zs3 0) (zs3 2) ends = false) := hrc
          have H4 : Hid (shR o ends f' (n + 1) dn (zs3 0) (zs3 2) (zs3 3) = some (D, N)) := hs4
          clear hrc hs4
          go_wp2_with (go_at_call 88; (with_reducible refine (qroundI S3.rt rfl (Nat.le_of_lt hro) (by omega) (by omega) (by omega)).mono ?_); rintro e4 w4 ⟨rfl, B4⟩; rw [HU.out]; have S4 := S3.below B4; have c0 := S4.cell 0 (by decide); have c2 := S4.cell 2 (by decide); have c4 : w4.drew.cell? ⟨p, 4, none⟩ = some (.bool ends) := S4.cell4; have hp4 := S4.plt)
          go_region_held_law (fun V => V.cell? ⟨p, 0, none⟩ = some (vs3 0) ∧ V.cell? ⟨p, 2, none⟩ = some (vs3 2))
            (first | go_keep)
            (first
            | (go_at_call 138; (with_reducible refine (reaches_any (w := w4.drew) c4 ((S4.wh 0 (by decide)).hp (hp_drew _)) ((S4.wh 2 (by decide)).hp (hp_drew _)) (by omega) (by omega)).mono ?_); rintro e6 w6 ⟨n6, rfl, rfl⟩; rw [HC.out]))
          go_wp2
          go_roundw
          case rel => exact ⟨n + 1, dn, f', vs3, zs3, _, rfl, by go_num, by omega, by omega, by rw [Nat.add_sub_cancel]; exact hdnb.out, K1.out, by rw [← K1.out]; exact hro, H4.out, Sp.mono' (Sp.hp S4 rfl) (by omega), below_drewN' (B3.out.trans (below_le B4 S3.bs)) _⟩
          case measure => simp [intOf]; omega
        · rw [if_pos hrc] at hs4
          have HC : Hid (rch (zs3 0) (zs3 2) ends = true) := hrc
          obtain ⟨rfl, rfl⟩ := some_pair hs4
          clear hrc hs4
          go_wp2_with (go_at_call 88; (with_reducible refine (qroundI S3.rt rfl (Nat.le_of_lt hro) (by omega) (by omega) (by omega)).mono ?_); rintro e4 w4 ⟨rfl, B4⟩; rw [HU.out]; have S4 := S3.below B4; have c0 := S4.cell 0 (by decide); have c2 := S4.cell 2 (by decide); have c4 : w4.drew.cell? ⟨p, 4, none⟩ = some (.bool ends) := S4.cell4; have hp4 := S4.plt)
          go_region_held_law (fun V => V.cell? ⟨p, 0, none⟩ = some (vs3 0) ∧ V.cell? ⟨p, 2, none⟩ = some (vs3 2))
            (first | go_keep)
            (first
            | (go_at_call 138; (with_reducible refine (reaches_any (w := w4.drew) c4 ((S4.wh 0 (by decide)).hp (hp_drew _)) ((S4.wh 2 (by decide)).hp (hp_drew _)) (by omega) (by omega)).mono ?_); rintro e6 w6 ⟨n6, rfl, rfl⟩; rw [HC.out]))
          go_wp2
          go_ret2
          exact ⟨rfl, below_drewN' (B3.out.trans (below_le B4 S3.bs)) _⟩
      · have HU : Hid (rUp (zs3 0) (zs3 1) dn = true) := hup
        rw [if_pos hup] at hs4
        clear hup
        cases hrc : rch (zs3 1 - zs3 0) (zs3 3) ends
        · rw [if_neg (by rw [hrc]; decide)] at hs4
          have HC : Hid (rch (zs3 1 - zs3 0) (zs3 3) ends = false) := hrc
          have H4 : Hid (shR o ends f' (n + 1) dn (zs3 0) (zs3 2) (zs3 3) = some (D, N)) := hs4
          clear hrc hs4
          go_wp2_with (go_at_call 88; (with_reducible refine (qroundI S3.rt rfl (Nat.le_of_lt hro) (by omega) (by omega) (by omega)).mono ?_); rintro e4 w4 ⟨rfl, B4⟩; rw [HU.out]; have S4 := S3.below B4; have c3 := S4.cell 3 (by decide); have c4 := S4.cell4; have hp4 := S4.plt)
          go_region_held_law (fun V => V.cell? ⟨p, 3, none⟩ = some (vs3 3))
            (first | with_reducible exact D1 | go_keep)
            (first
            | (go_at_call 107; (with_reducible refine (qlack_any (S4.rt.hp (hp_drew _)) (Nat.le_of_lt hro) (by omega) (by omega)).mono ?_); rintro e5 w5 ⟨v5, rfl, k1, k2⟩; have k2 := undrewB k2; have S5 := S4.below k2; have D1 : w5.cell? ⟨p, 3, none⟩ = some (vs3 3) := S5.cell 3 (by decide))
            | (go_at_call 138; (with_reducible refine (reaches_any S5.cell4 k1 (S5.wh 3 (by decide)) (by omega) (by omega)).mono ?_); rintro e6 w6 ⟨n6, rfl, rfl⟩; rw [HC.out]; have D1 : (w5.drewN n6).cell? ⟨p, 3, none⟩ = some (vs3 3) := D1))
          go_wp2
          go_roundw
          case rel => exact ⟨n + 1, dn, f', vs3, zs3, _, rfl, by go_num, by omega, by omega, by rw [Nat.add_sub_cancel]; exact hdnb.out, K1.out, by rw [← K1.out]; exact hro, H4.out, Sp.mono' (Sp.hp S5 rfl) (by omega), below_drewN' ((B3.out.trans (below_le B4 S3.bs)).trans (below_le k2 S4.bs)) _⟩
          case measure => simp [intOf]; omega
        · rw [if_pos hrc] at hs4
          have HC : Hid (rch (zs3 1 - zs3 0) (zs3 3) ends = true) := hrc
          obtain ⟨rfl, rfl⟩ := some_pair hs4
          clear hrc hs4
          go_wp2_with (go_at_call 88; (with_reducible refine (qroundI S3.rt rfl (Nat.le_of_lt hro) (by omega) (by omega) (by omega)).mono ?_); rintro e4 w4 ⟨rfl, B4⟩; rw [HU.out]; have S4 := S3.below B4; have c3 := S4.cell 3 (by decide); have c4 := S4.cell4; have hp4 := S4.plt)
          go_region_held_law (fun V => V.cell? ⟨p, 3, none⟩ = some (vs3 3))
            (first | with_reducible exact D1 | go_keep)
            (first
            | (go_at_call 107; (with_reducible refine (qlack_any (S4.rt.hp (hp_drew _)) (Nat.le_of_lt hro) (by omega) (by omega)).mono ?_); rintro e5 w5 ⟨v5, rfl, k1, k2⟩; have k2 := undrewB k2; have S5 := S4.below k2; have D1 : w5.cell? ⟨p, 3, none⟩ = some (vs3 3) := S5.cell 3 (by decide))
            | (go_at_call 138; (with_reducible refine (reaches_any S5.cell4 k1 (S5.wh 3 (by decide)) (by omega) (by omega)).mono ?_); rintro e6 w6 ⟨n6, rfl, rfl⟩; rw [HC.out]; have D1 : (w5.drewN n6).cell? ⟨p, 3, none⟩ = some (vs3 3) := D1))
          go_wp2
          go_ret2
          exact ⟨rfl, below_drewN' ((B3.out.trans (below_le B4 S3.bs)).trans (below_le k2 S4.bs)) _⟩

end Go.Proofs.YtjoncbfaajcioaaGreatDoor
