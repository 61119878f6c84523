/-
  The walk of PivotOrders.
-/
import Derived.Test.YtgpjlobclcbniaaYg
import Derived.Test.YtgpjlobclcbniaaYr
import Derived.Test.YtgpjlobclcbniaaXf
namespace Go.Proofs.Ytgpjlobclcbniaa.In
open Fl RowKit

theorem le_al {w : World} {k : Nat} {o : Obj} (h : k ≤ w.heap.size) : k ≤ (w.alloc o).heap.size := by rw [size_al]; omega
theorem le_dr {w : World} {k : Nat} (h : k ≤ w.heap.size) : k ≤ w.drew.heap.size := h
theorem le_dn {w : World} {k m : Nat} (h : k ≤ w.heap.size) : k ≤ (w.drewN m).heap.size := h
theorem qi_nil (w : World) (A : Option Addr) : Qi w A [] := fun _ hk => absurd hk (Nat.not_lt_zero _)
theorem nil_len : ([] : List Int).length = 0 := rfl
theorem qi_pre {w : World} {g : Nat} {zs ys : List Int} (h : Qi w (some ⟨g, 0, none⟩) (zs ++ ys)) : Qi w (some ⟨g, 0, none⟩) zs := by
  intro k hk
  obtain ⟨b, off, h1, h2, h3⟩ := h k (by rw [List.length_append]; omega)
  exact ⟨b, off, h1, h2, by rw [h3, iat_app1 hk]⟩
theorem lent_ln {ao : Option Addr} {cap n : Nat} {zs : List Int} {w : World} (h : Sl w ao cap zs) (hn : zs.length = n) (hsz : n * 8 + 96 ≤ 140737488355328) :
    Calls Try.prog 22 #[.slice ao n cap] w fun e w' => ∃ g c, e = .returned (.slice (some ⟨g, 0, none⟩) (n + 6) c) ∧ (n + 6 ≤ c ∧ c ≤ maxLen) ∧ Ir w' w.heap.size (.slice (some ⟨g, 0, none⟩) (n + 6) c) (n + 6) (zs ++ marks 7 6) ∧ Qi w' (some ⟨g, 0, none⟩) zs ∧ Below w.heap.size w w' := by
  subst hn
  refine (lent_any ao cap zs w (by omega) h).mono ?_
  rintro e w' ⟨v, rfl, ho, hb⟩
  obtain ⟨g, c, rfl, _, h5, h6⟩ := own_shape ho (by omega)
  have hI : Ir w' w.heap.size (.slice (some ⟨g, 0, none⟩) (zs.length + 6) c) (zs.length + 6) (zs ++ marks 7 6) := ⟨by rw [List.length_append, marks_len], ho⟩
  exact ⟨g, c, rfl, ⟨h5, h6⟩, hI, qi_pre hI.qi, hb⟩
theorem kept_ln {ao : Option Addr} {cap n b : Nat} {v : Value} {zs : List Int} {w : World} (h : Sl w ao cap zs) (hn : zs.length = n) (hsz : n * 8 + 96 ≤ 140737488355328) (k : Ir w b v (n + 6) (zs ++ marks 7 6)) :
    Calls Try.prog 27 #[v, .slice ao n cap] w fun e w' => e = .returned (.bool true) ∧ Below w.heap.size w w' := by
  subst hn
  exact kept_any ao cap b v zs w (by omega) h k.own
theorem over_ln {g c N b : Nat} {zs : List Int} {w : World} (k : Ir w b (.slice (some ⟨g, 0, none⟩) (N + 6) c) (N + 6) zs) (hsz : N * 8 + 96 ≤ 140737488355328) :
    Calls Try.prog 28 #[.slice (some ⟨g, 0, none⟩) (N + 6) c] w fun e w' => e = .returned (.tuple #[]) ∧ Ir w' b (.slice (some ⟨g, 0, none⟩) (N + 6) c) (N + 6) (marks 9 (N + 6)) ∧ OnlyRow g w w' := by
  obtain ⟨h1, h2⟩ := k
  rw [← h1] at h2 ⊢
  refine (over_any b g c zs w (by omega) h2).mono ?_
  rintro e w' ⟨rfl, h3, h4⟩
  exact ⟨rfl, ⟨marks_len _ _, h3⟩, h4⟩
theorem _root_.Go.Proofs.Ytgpjlobclcbniaa.Ir.only {w w' : World} {b n g q c : Nat} {zs : List Int} (h : Ir w b (.slice (some ⟨q, 0, none⟩) n c) n zs) (ho : OnlyRow g w w') (hne : q ≠ g) : Ir w' b (.slice (some ⟨q, 0, none⟩) n c) n zs :=
  ⟨h.len, own_at h.own (fun k hk => ho.block k (by
    have : q = k := by simpa [Value.ownBlock] using hk
    omega))⟩
theorem ir_nil' (b : Nat) (w : World) : Ir w b (.slice none 0 0) 0 [] := ⟨rfl, World.ownsRow_nil _ _ _ _⟩
def pk3 {α : Type} (a b c : α) (j : Nat) : α := if j = 0 then a else if j = 1 then b else c
theorem three {P : Nat → Prop} (h0 : P 0) (h1 : P 1) (h2 : P 2) : ∀ j, j < 3 → P j := by
  intro j hj
  rcases (by omega : j = 0 ∨ j = 1 ∨ j = 2) with rfl | rfl | rfl
  · exact h0
  · exact h1
  · exact h2
theorem many_of {w : World} {base m : Nat} {n : Nat → Nat} {V : Nat → Value} {L : Nat → List Int} (cs : Array Value) (t : TypeId) (hcs : ∀ j, j < m → cs[j]? = some (V j)) (hR : ∀ j, j < m → Ir w base (V j) (n j) (L j)) (hap : ∀ j k, j < k → k < m → ∀ g, (V j).ownBlock = some g → (V k).ownBlock ≠ some g) :
    Many base w.heap.size m n V L (w.alloc (.cells cs t)) := by
  refine ⟨fun j hj => by rw [al_at w cs t _ j rfl]; exact hcs j hj, fun j hj => (hR j hj).own.alloc _, fun j hj => (hR j hj).len, ?_, ?_, by rw [size_al]; omega⟩
  · intro j k hj hk hne g hg e
    rcases Nat.lt_or_gt_of_ne hne with h | h
    · exact hap j k h hk g hg e
    · exact hap k j h hj g e hg
  · intro j hj e
    have := ((hR j hj).own.lt _ e).2
    omega
theorem apart3 {w : World} {b0 n0 n1 n2 : Nat} {v0 v1 v2 : Value} {l0 l1 l2 : List Int} {t : TypeId} {LB : Nat} (hLB : w.heap.size = LB) (r0 : Ir w b0 v0 n0 l0) (r1 : Ir w b0 v1 n1 l1) (r2 : Ir w b0 v2 n2 l2) (h0 : n0 * 8 + 48 ≤ 140737488355328) (h1 : n1 * 8 + 48 ≤ 140737488355328) (h2 : n2 * 8 + 48 ≤ 140737488355328) (hb : b0 ≤ w.heap.size)
    (a01 : ∀ g, v0.ownBlock = some g → v1.ownBlock ≠ some g) (a02 : ∀ g, v0.ownBlock = some g → v2.ownBlock ≠ some g) (a12 : ∀ g, v1.ownBlock = some g → v2.ownBlock ≠ some g) :
    Calls Try.prog 30 #[.slice (some ⟨LB, 0, none⟩) 3 3] (w.alloc (.cells #[v0, v1, v2] t)) fun e w' => e = .returned (.bool true) ∧ Below b0 (w.alloc (.cells #[v0, v1, v2] t)) w' := by
  subst hLB
  have hM : Many b0 w.heap.size 3 (pk3 n0 n1 n2) (pk3 v0 v1 v2) (pk3 l0 l1 l2) (w.alloc (.cells #[v0, v1, v2] t)) := by
    refine many_of _ t (three rfl rfl rfl) (three r0 r1 r2) ?_
    intro j k hjk hk g hg e
    rcases (by omega : (j = 0 ∧ k = 1) ∨ (j = 0 ∧ k = 2) ∨ (j = 1 ∧ k = 2)) with ⟨rfl, rfl⟩ | ⟨rfl, rfl⟩ | ⟨rfl, rfl⟩
    · exact a01 g hg e
    · exact a02 g hg e
    · exact a12 g hg e
  refine kapart_any b0 w.heap.size 3 b0 _ _ _ _ (by omega) (by omega) hM (three h0 h1 h2) ?_ (by rw [size_al]; omega) (by rw [size_al]; omega)
  exact three (fun g hg => own_ge r0.own hg) (fun g hg => own_ge r1.own hg) (fun g hg => own_ge r2.own hg)
theorem sep {q p n c m d : Nat} (h : q ≠ p) : ∀ g, (Value.slice (some ⟨q, 0, none⟩) n c).ownBlock = some g → (Value.slice (some ⟨p, 0, none⟩) m d).ownBlock ≠ some g := by
  intro g h1 h2
  have e1 : q = g := by simpa [Value.ownBlock] using h1
  have e2 : p = g := by simpa [Value.ownBlock] using h2
  omega
theorem sep_nil {v : Value} : ∀ g, (Value.slice none 0 0).ownBlock = some g → v.ownBlock ≠ some g := fun g h => by simp [Value.ownBlock] at h
set_option maxRecDepth 20000 in
set_option maxHeartbeats 16000000 in
theorem orders_ok (ao : Option Addr) (cap n : Nat) (zs : List Int) (i j : Nat) (h0 : rfE zs = 0) (hi : i < n) (hj : j < n) (w : World) (hn : zs.length = n) (hz : n * 8 + 96 ≤ 140737488355328) (SL : Sl w ao cap zs) :
    Calls Try.prog 5 #[.slice ao n cap, .int .i64 i, .int .i64 j] w fun e w' => e = .returned (.bool true) ∧ Below w.heap.size w w' := by
  have h8 : n * 8 ≤ 140737488355328 := by omega
  have QO := SL.rd
  have hsl : (sw zs i j).length = n := by rw [sw_len]; exact hn
  have st : Stg 0 := ⟨trivial⟩
  go_enter Try.func5, Try.ntmps5
  go_wp2_with (first
    | ((have _ := (st : Stg 0)); go_at_call 22; (with_reducible refine (lent_ln SL hn hz).mono ?_); (rintro e w1 ⟨g, c, rfl, ⟨hc1, hc2⟩, RF, QF, hb⟩); (have hgw := RF.lt.1); (replace SL := SL.below hb); (replace QO := QO.below hb); (have BX := hb); clear hb st; (have st : Stg 1 := ⟨trivial⟩))
    | ((have _ := (st : Stg 1)); go_at_call 23; (with_reducible refine (parity_any _ _ _ zs _ hn h8 (QF.below (by repeat first | with_reducible exact below_self _ | with_reducible refine ba ?_ _ | with_reducible refine below_drewN ?_ _ | with_reducible refine Below.drew ?_))).mono ?_); (rintro e w2 ⟨rfl, hb⟩); (have Bw2 : Below w1.heap.size w1 w2 := b_of (by repeat first | with_reducible exact below_self _ | with_reducible refine ba ?_ _ | with_reducible refine below_drewN ?_ _ | with_reducible refine Below.drew ?_) hb (by repeat first | with_reducible exact Nat.le_refl _ | with_reducible assumption | with_reducible refine le_al ?_ | with_reducible refine le_dr ?_ | with_reducible refine le_dn ?_)); (replace SL := SL.below Bw2); (replace QO := QO.below Bw2); (replace RF := RF.below Bw2); (replace QF := QF.below Bw2); (replace BX := b_of BX Bw2 BX.size); clear hb Bw2; (have lg2 := RF.lt.2); (have s2 := BX.size); clear st; (have st : Stg 2 := ⟨trivial⟩))
    | ((have _ := (st : Stg 2)); go_at_call 24; (with_reducible refine (rparity_any _ _ _ zs _ hn h8 QO).mono ?_); (rintro e w3 ⟨m3, rfl, rfl⟩); clear st; (have st : Stg 3 := ⟨trivial⟩))
    | ((have _ := (st : Stg 3)); go_at_call 25; (with_reducible refine (swapped_ok _ _ _ i j zs _ hn h0 hi hj (QF.below (by repeat first | with_reducible exact below_self _ | with_reducible refine ba ?_ _ | with_reducible refine below_drewN ?_ _ | with_reducible refine Below.drew ?_))).mono ?_); (rintro e w4 ⟨ga, rfl, IA, hb⟩); (have Bw4 : Below w2.heap.size w2 w4 := b_of (by repeat first | with_reducible exact below_self _ | with_reducible refine ba ?_ _ | with_reducible refine below_drewN ?_ _ | with_reducible refine Below.drew ?_) hb (by repeat first | with_reducible exact Nat.le_refl _ | with_reducible assumption | with_reducible refine le_al ?_ | with_reducible refine le_dr ?_ | with_reducible refine le_dn ?_)); (replace SL := SL.below Bw4); (replace QO := QO.below Bw4); (replace RF := RF.below Bw4); (replace QF := QF.below Bw4); (replace BX := b_of BX Bw4 BX.size); clear hb Bw4; (have la : w2.heap.size ≤ ga ∧ ga < w4.heap.size := IA.lt); (replace IA := IA.base (b := _) (b' := w.heap.size) s2); (have s4 := BX.size); clear st; (have st : Stg 4 := ⟨trivial⟩))
    | ((have _ := (st : Stg 4)); go_at_call 25; (with_reducible refine (swapped_ok _ _ _ i j zs _ hn h0 hi hj (QF.below (by repeat first | with_reducible exact below_self _ | with_reducible refine ba ?_ _ | with_reducible refine below_drewN ?_ _ | with_reducible refine Below.drew ?_))).mono ?_); (rintro e w5 ⟨gb, rfl, IB, hb⟩); (have Bw5 : Below w4.heap.size w4 w5 := b_of (by repeat first | with_reducible exact below_self _ | with_reducible refine ba ?_ _ | with_reducible refine below_drewN ?_ _ | with_reducible refine Below.drew ?_) hb (by repeat first | with_reducible exact Nat.le_refl _ | with_reducible assumption | with_reducible refine le_al ?_ | with_reducible refine le_dr ?_ | with_reducible refine le_dn ?_)); (replace SL := SL.below Bw5); (replace QO := QO.below Bw5); (replace RF := RF.below Bw5); (replace QF := QF.below Bw5); (replace IA := IA.below Bw5); (replace BX := b_of BX Bw5 BX.size); clear hb Bw5; (have lb : w4.heap.size ≤ gb ∧ gb < w5.heap.size := IB.lt); (replace IB := IB.base (b := _) (b' := w.heap.size) s4); (have s5 := BX.size); clear st; (have st : Stg 5 := ⟨trivial⟩))
    | ((have _ := (st : Stg 5)); go_at_call 26; (with_reducible refine (rswapped_ok _ _ _ i j zs _ hn h0 hi hj (QO.below (by repeat first | with_reducible exact below_self _ | with_reducible refine ba ?_ _ | with_reducible refine below_drewN ?_ _ | with_reducible refine Below.drew ?_))).mono ?_); (rintro e w6 ⟨gc, cc, rfl, IC, hb⟩); (have Bw6 : Below w5.heap.size w5 w6 := b_of (by repeat first | with_reducible exact below_self _ | with_reducible refine ba ?_ _ | with_reducible refine below_drewN ?_ _ | with_reducible refine Below.drew ?_) hb (by repeat first | with_reducible exact Nat.le_refl _ | with_reducible assumption | with_reducible refine le_al ?_ | with_reducible refine le_dr ?_ | with_reducible refine le_dn ?_)); (replace SL := SL.below Bw6); (replace QO := QO.below Bw6); (replace RF := RF.below Bw6); (replace QF := QF.below Bw6); (replace IA := IA.below Bw6); (replace IB := IB.below Bw6); (replace BX := b_of BX Bw6 BX.size); clear hb Bw6; (have lc : w5.heap.size ≤ gc ∧ gc < w6.heap.size := IC.lt); clear st; (have st : Stg 6 := ⟨trivial⟩))
    | ((have _ := (st : Stg 6)); go_at_call 27; (with_reducible refine (kept_ln SL hn hz RF).mono ?_); (rintro e w7 ⟨rfl, hb⟩); (have Bw7 : Below w6.heap.size w6 w7 := b_of (by repeat first | with_reducible exact below_self _ | with_reducible refine ba ?_ _ | with_reducible refine below_drewN ?_ _ | with_reducible refine Below.drew ?_) hb (by repeat first | with_reducible exact Nat.le_refl _ | with_reducible assumption | with_reducible refine le_al ?_ | with_reducible refine le_dr ?_ | with_reducible refine le_dn ?_)); (replace SL := SL.below Bw7); (replace QO := QO.below Bw7); (replace RF := RF.below Bw7); (replace QF := QF.below Bw7); (replace IA := IA.below Bw7); (replace IB := IB.below Bw7); (replace IC := IC.below Bw7); (replace BX := b_of BX Bw7 BX.size); clear hb Bw7; clear st; (have st : Stg 7 := ⟨trivial⟩))
    | ((have _ := (st : Stg 7)); go_at_call 28; (with_reducible refine (over_ln RF hz).mono ?_); (rintro e w8 ⟨rfl, RM, ho⟩); (replace IA := IA.only ho (by omega));  (replace IB := IB.only ho (by omega));  (replace IC := IC.only ho (by omega)); (replace BX := only_below BX ho hgw); clear ho RF QF QO SL st; (have st : Stg 8 := ⟨trivial⟩))
    | ((have _ := (st : Stg 8)); go_at_call 13; (with_reducible refine (plives_any _).mono ?_); (rintro e w9 ⟨rfl, hb⟩); (have Bw9 : Below w8.heap.size w8 w9 := b_of (by repeat first | with_reducible exact below_self _ | with_reducible refine ba ?_ _ | with_reducible refine below_drewN ?_ _ | with_reducible refine Below.drew ?_) hb (by repeat first | with_reducible exact Nat.le_refl _ | with_reducible assumption | with_reducible refine le_al ?_ | with_reducible refine le_dr ?_ | with_reducible refine le_dn ?_)); (replace RM := RM.below Bw9); (replace IA := IA.below Bw9); (replace IB := IB.below Bw9); (replace IC := IC.below Bw9); (replace BX := b_of BX Bw9 BX.size); clear hb Bw9; clear st; (have st : Stg 9 := ⟨trivial⟩))
    | ((have _ := (st : Stg 9)); go_at_call 29; (with_reducible refine (ksameI _ _ _ _ _ (sw zs i j) _ hsl h8 IA.qi IC.qi).mono ?_); (rintro e w10 ⟨m10, rfl, rfl⟩); clear st; (have st : Stg 10 := ⟨trivial⟩))
    | ((have _ := (st : Stg 10)); go_at_call 29; (with_reducible refine (ksameI _ _ _ _ _ (sw zs i j) _ hsl h8 (IB.qi.drewN _) (IC.qi.drewN _)).mono ?_); (rintro e w10 ⟨m11, rfl, rfl⟩); clear st; (have st : Stg 11 := ⟨trivial⟩))
    | ((have _ := (st : Stg 11)); go_at_call 30; (with_reducible refine (apart3 (b0 := w.heap.size) (by simp) (IA.drewN _) (IB.drewN _) (RM.drewN _) (by omega) (by omega) (by omega) (below_drewN BX _).size (sep (by omega)) (sep (by omega)) (sep (by omega))).mono ?_); (rintro e w12 ⟨rfl, hb⟩); (have BF := Below.trans ((below_drewN BX _).alloc (below_drewN BX _).size _) hb); clear hb))
  go_ret
  exact ⟨rfl, BF⟩
set_option maxRecDepth 20000 in
set_option maxHeartbeats 16000000 in
theorem orders_err (ao : Option Addr) (cap n : Nat) (zs : List Int) (i j : Int) (h0 : ¬ swE zs i j = 0) (w : World) (hn : zs.length = n) (hz : n * 8 + 96 ≤ 140737488355328) (SL : Sl w ao cap zs) :
    Calls Try.prog 5 #[.slice ao n cap, .int .i64 i, .int .i64 j] w fun e w' => e = .returned (.bool true) ∧ Below w.heap.size w w' := by
  have h8 : n * 8 ≤ 140737488355328 := by omega
  have QO := SL.rd
  have st : Stg 0 := ⟨trivial⟩
  go_enter Try.func5, Try.ntmps5
  go_wp2_with (first
    | ((have _ := (st : Stg 0)); go_at_call 22; (with_reducible refine (lent_ln SL hn hz).mono ?_); (rintro e w1 ⟨g, c, rfl, ⟨hc1, hc2⟩, RF, QF, hb⟩); (have hgw := RF.lt.1); (replace SL := SL.below hb); (replace QO := QO.below hb); (have BX := hb); clear hb st; (have st : Stg 1 := ⟨trivial⟩))
    | ((have _ := (st : Stg 1)); go_at_call 23; (with_reducible refine (parity_any _ _ _ zs _ hn h8 (QF.below (by repeat first | with_reducible exact below_self _ | with_reducible refine ba ?_ _ | with_reducible refine below_drewN ?_ _ | with_reducible refine Below.drew ?_))).mono ?_); (rintro e w2 ⟨rfl, hb⟩); (have Bw2 : Below w1.heap.size w1 w2 := b_of (by repeat first | with_reducible exact below_self _ | with_reducible refine ba ?_ _ | with_reducible refine below_drewN ?_ _ | with_reducible refine Below.drew ?_) hb (by repeat first | with_reducible exact Nat.le_refl _ | with_reducible assumption | with_reducible refine le_al ?_ | with_reducible refine le_dr ?_ | with_reducible refine le_dn ?_)); (replace SL := SL.below Bw2); (replace QO := QO.below Bw2); (replace RF := RF.below Bw2); (replace QF := QF.below Bw2); (replace BX := b_of BX Bw2 BX.size); clear hb Bw2; (have lg2 := RF.lt.2); (have s2 := BX.size); clear st; (have st : Stg 2 := ⟨trivial⟩))
    | ((have _ := (st : Stg 2)); go_at_call 24; (with_reducible refine (rparity_any _ _ _ zs _ hn h8 QO).mono ?_); (rintro e w3 ⟨m3, rfl, rfl⟩); clear st; (have st : Stg 3 := ⟨trivial⟩))
    | ((have _ := (st : Stg 3)); go_at_call 25; (with_reducible refine (swapped_err _ _ _ i j zs _ hn h8 h0 (QF.below (by repeat first | with_reducible exact below_self _ | with_reducible refine ba ?_ _ | with_reducible refine below_drewN ?_ _ | with_reducible refine Below.drew ?_))).mono ?_); (rintro e w4 ⟨rfl, hb⟩); (have Bw4 : Below w2.heap.size w2 w4 := b_of (by repeat first | with_reducible exact below_self _ | with_reducible refine ba ?_ _ | with_reducible refine below_drewN ?_ _ | with_reducible refine Below.drew ?_) hb (by repeat first | with_reducible exact Nat.le_refl _ | with_reducible assumption | with_reducible refine le_al ?_ | with_reducible refine le_dr ?_ | with_reducible refine le_dn ?_)); (replace SL := SL.below Bw4); (replace QO := QO.below Bw4); (replace RF := RF.below Bw4); (replace QF := QF.below Bw4); (replace BX := b_of BX Bw4 BX.size); clear hb Bw4; clear st; (have st : Stg 4 := ⟨trivial⟩))
    | ((have _ := (st : Stg 4)); go_at_call 25; (with_reducible refine (swapped_err _ _ _ i j zs _ hn h8 h0 (QF.below (by repeat first | with_reducible exact below_self _ | with_reducible refine ba ?_ _ | with_reducible refine below_drewN ?_ _ | with_reducible refine Below.drew ?_))).mono ?_); (rintro e w5 ⟨rfl, hb⟩); (have Bw5 : Below w4.heap.size w4 w5 := b_of (by repeat first | with_reducible exact below_self _ | with_reducible refine ba ?_ _ | with_reducible refine below_drewN ?_ _ | with_reducible refine Below.drew ?_) hb (by repeat first | with_reducible exact Nat.le_refl _ | with_reducible assumption | with_reducible refine le_al ?_ | with_reducible refine le_dr ?_ | with_reducible refine le_dn ?_)); (replace SL := SL.below Bw5); (replace QO := QO.below Bw5); (replace RF := RF.below Bw5); (replace QF := QF.below Bw5); (replace BX := b_of BX Bw5 BX.size); clear hb Bw5; clear st; (have st : Stg 5 := ⟨trivial⟩))
    | ((have _ := (st : Stg 5)); go_at_call 26; (with_reducible refine (rswapped_err _ _ _ i j zs _ hn h8 h0 (QO.below (by repeat first | with_reducible exact below_self _ | with_reducible refine ba ?_ _ | with_reducible refine below_drewN ?_ _ | with_reducible refine Below.drew ?_))).mono ?_); (rintro e w6 ⟨rfl, hb⟩); (have Bw6 : Below w5.heap.size w5 w6 := b_of (by repeat first | with_reducible exact below_self _ | with_reducible refine ba ?_ _ | with_reducible refine below_drewN ?_ _ | with_reducible refine Below.drew ?_) hb (by repeat first | with_reducible exact Nat.le_refl _ | with_reducible assumption | with_reducible refine le_al ?_ | with_reducible refine le_dr ?_ | with_reducible refine le_dn ?_)); (replace SL := SL.below Bw6); (replace QO := QO.below Bw6); (replace RF := RF.below Bw6); (replace QF := QF.below Bw6); (replace BX := b_of BX Bw6 BX.size); clear hb Bw6; clear st; (have st : Stg 6 := ⟨trivial⟩))
    | ((have _ := (st : Stg 6)); go_at_call 27; (with_reducible refine (kept_ln SL hn hz RF).mono ?_); (rintro e w7 ⟨rfl, hb⟩); (have Bw7 : Below w6.heap.size w6 w7 := b_of (by repeat first | with_reducible exact below_self _ | with_reducible refine ba ?_ _ | with_reducible refine below_drewN ?_ _ | with_reducible refine Below.drew ?_) hb (by repeat first | with_reducible exact Nat.le_refl _ | with_reducible assumption | with_reducible refine le_al ?_ | with_reducible refine le_dr ?_ | with_reducible refine le_dn ?_)); (replace SL := SL.below Bw7); (replace QO := QO.below Bw7); (replace RF := RF.below Bw7); (replace QF := QF.below Bw7); (replace BX := b_of BX Bw7 BX.size); clear hb Bw7; clear st; (have st : Stg 7 := ⟨trivial⟩))
    | ((have _ := (st : Stg 7)); go_at_call 28; (with_reducible refine (over_ln RF hz).mono ?_); (rintro e w8 ⟨rfl, RM, ho⟩); (replace BX := only_below BX ho hgw); clear ho RF QF QO SL st; (have st : Stg 8 := ⟨trivial⟩))
    | ((have _ := (st : Stg 8)); go_at_call 13; (with_reducible refine (plives_any _).mono ?_); (rintro e w9 ⟨rfl, hb⟩); (have Bw9 : Below w8.heap.size w8 w9 := b_of (by repeat first | with_reducible exact below_self _ | with_reducible refine ba ?_ _ | with_reducible refine below_drewN ?_ _ | with_reducible refine Below.drew ?_) hb (by repeat first | with_reducible exact Nat.le_refl _ | with_reducible assumption | with_reducible refine le_al ?_ | with_reducible refine le_dr ?_ | with_reducible refine le_dn ?_)); (replace RM := RM.below Bw9); (replace BX := b_of BX Bw9 BX.size); clear hb Bw9; clear st; (have st : Stg 9 := ⟨trivial⟩))
    | ((have _ := (st : Stg 9)); go_at_call 29; (with_reducible refine (ksameI _ _ _ _ _ [] _ nil_len (by omega) (qi_nil _ _) (qi_nil _ _)).mono ?_); (rintro e w10 ⟨m10, rfl, rfl⟩); clear st; (have st : Stg 10 := ⟨trivial⟩))
    | ((have _ := (st : Stg 10)); go_at_call 29; (with_reducible refine (ksameI _ _ _ _ _ [] _ nil_len (by omega) (qi_nil _ _) (qi_nil _ _)).mono ?_); (rintro e w10 ⟨m11, rfl, rfl⟩); clear st; (have st : Stg 11 := ⟨trivial⟩))
    | ((have _ := (st : Stg 11)); go_at_call 30; (with_reducible refine (apart3 (b0 := w.heap.size) (by simp) (ir_nil' _ _) (ir_nil' _ _) (RM.drewN _) (by omega) (by omega) (by omega) (below_drewN BX _).size sep_nil sep_nil sep_nil).mono ?_); (rintro e w12 ⟨rfl, hb⟩); (have BF := Below.trans ((below_drewN BX _).alloc (below_drewN BX _).size _) hb); clear hb))
  go_ret
  exact ⟨rfl, BF⟩
theorem orders_any (ao : Option Addr) (cap n : Nat) (zs : List Int) (i j : Int) (w : World) (hn : zs.length = n) (hz : n * 8 + 96 ≤ 140737488355328) (SL : Sl w ao cap zs) :
    Calls Try.prog 5 #[.slice ao n cap, .int .i64 i, .int .i64 j] w fun e w' => e = .returned (.bool true) ∧ Below w.heap.size w w' := by
  by_cases h : swE zs i j = 0
  · obtain ⟨h1, h2, h3⟩ := swE_0 h
    obtain ⟨a, rfl⟩ : ∃ a : Nat, i = a := ⟨i.toNat, by omega⟩
    obtain ⟨b, rfl⟩ : ∃ b : Nat, j = b := ⟨j.toNat, by omega⟩
    exact orders_ok ao cap n zs a b h1 (by omega) (by omega) w hn hz SL
  · exact orders_err ao cap n zs i j h w hn hz SL

end Go.Proofs.Ytgpjlobclcbniaa.In
