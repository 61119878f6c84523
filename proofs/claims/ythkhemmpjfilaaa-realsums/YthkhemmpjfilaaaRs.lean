/-
  What SumErr, Sum and Greatest of the given package gridworkref01 hand back, and which memory they leave.
-/
import Derived.Test.YthkhemmpjfilaaaLists
import Derived.Test.YthkhemmpjfilaaaFls
namespace Go.Proofs.Ythkhemmpjfilaaa
open Fl RowKit

theorem rtwoSum2_any (a b : Nat) (w : World) (ha : a < 18446744073709551616) (hb : b < 18446744073709551616) :
    Calls Try.prog 66 #[.float .f64 a, .float .f64 b] w fun e w' => ∃ s r n, e = .returned (.tuple #[.float .f64 s, .float .f64 r]) ∧ rep (tsS (ans a) (ans b)) s ∧ rep (tsE (ans a) (ans b)) r ∧ w' = w.drewN n := by
  go_enter Try.func66, Try.ntmps66
  go_wp2
  go_ret2
  have h1 := rep_ans ha
  have h2 := rep_ans hb
  refine ⟨_, _, _, rfl, rep_add h1 h2 _, ?_, rfl⟩
  exact rep_add (rep_sub h1 (rep_sub (rep_add h1 h2 _) (rep_sub (rep_add h1 h2 _) h1 _) _) _) (rep_sub h2 (rep_sub (rep_add h1 h2 _) h1 _) _) _
theorem rsum_any (ao : Option Addr) (cap : Nat) (xs : List Nat) (w : World) (hsz : xs.length * 8 ≤ 140737488355328) (hc : Rd w ao xs) (hx : ∀ k, xs.getD k 0 < 18446744073709551616) :
    Calls Try.prog 65 #[.slice ao xs.length cap] w fun e w' => ∃ s n, e = .returned (.float .f64 s) ∧ rep (sumO xs) s ∧ w' = w.drewN n := by
  go_enter Try.func65, Try.ntmps65
  go_wp2
  go_loopw [3, 4] (fun s i wr => ∃ (k sv n : Nat), k ≤ xs.length ∧ i = .int .i64 k ∧ s = .float .f64 sv ∧ rep (sumO (xs.take k)) sv ∧ wr = w.drewN n) (fun _ i _ => xs.length - (intOf i).toNat)
  case atStart => exact ⟨0, 0, 0, Nat.zero_le _, rfl, rfl, ⟨by decide, rfl⟩, rfl⟩
  case round =>
    obtain ⟨k, sv, n, hk, rfl, rfl, hs, rfl⟩ := hrel
    have hxk := hx k
    obtain ⟨x, hxe⟩ : ∃ x, x = xs.getD k 0 := ⟨_, rfl⟩
    have HX : Hid (x = xs.getD k 0) := hxe
    rw [← hxe] at hxk
    by_cases hlt : k < xs.length
    · obtain ⟨b, off, rfl, hb, hcx⟩ := hc k hlt
      rw [← hxe] at hcx
      clear hxe hx hc
      go_wp2
      go_roundw
      case rel => exact ⟨k + 1, _, _, by omega, by go_num, rfl, by rw [sumO_succ xs k hlt, ← HX.out]; exact rep_add hs (rep_ans hxk) _, rfl⟩
      case measure => simp [intOf]; omega
    · clear hxe hx hc
      go_wp2
      go_ret
      have e : k = xs.length := by omega
      subst e
      rw [List.take_length] at hs
      exact ⟨_, _, rfl, hs, rfl⟩
/-- what the reference's SumErr keeps -/
structure RsRel (xs : List Nat) (w : World) (k sv : Nat) (es : List Nat) (v : Value) (wr : World) : Prop where
  sum : rep (sumO (xs.take k)) sv
  len : es.length = k
  err : ∀ j, j < k → rep (errO xs j) (es.getD j 0)
  own : wr.ownsRow w.heap.size 29 1 v k (es.map (Value.float .f64))
  bel : Below w.heap.size w wr
set_option maxRecDepth 10000 in
set_option maxHeartbeats 1000000 in
theorem rsumErr_any (ao : Option Addr) (cap : Nat) (xs : List Nat) (w : World) (hsz : xs.length * 8 ≤ 140737488355328)
    (hc : Rd w ao xs) (hx : ∀ k, xs.getD k 0 < 18446744073709551616) :
    Calls Try.prog 13 #[.slice ao xs.length cap] w fun e w' => ∃ s es v, e = .returned (.tuple #[.float .f64 s, v]) ∧ RsRel xs w xs.length s es v w' := by
  obtain ⟨i0, hi, hz0, hz1, hz2⟩ := info_parts Try.infoF
  go_enter Try.func13, Try.ntmps13
  go_wp2
  go_loopw [4, 5, 6] (fun s v i wr => ∃ (k sv : Nat) (es : List Nat) (v0 : Value), k ≤ xs.length ∧ i = .int .i64 k ∧ s = .float .f64 sv ∧ v0 = v ∧ RsRel xs w k sv es v0 wr) (fun _ _ i _ => xs.length - (intOf i).toNat)
  case atStart => exact ⟨0, 0, [], _, Nat.zero_le _, rfl, rfl, rfl, ⟨by decide, rfl⟩, rfl, fun j hj => absurd hj (by omega), World.ownsRow_nil _ _ _ _, Below.refl _ _⟩
  case round =>
    obtain ⟨k, sv, es, v0, hk, rfl, rfl, rfl, R⟩ := hrel
    have hsv := R.sum.1
    have hxk := hx k
    obtain ⟨x, hxe⟩ : ∃ x, x = xs.getD k 0 := ⟨_, rfl⟩
    have HX : Hid (x = xs.getD k 0) := hxe
    rw [← hxe] at hxk
    by_cases hlt : k < xs.length
    · obtain ⟨b, off, rfl, hb, hcx⟩ := hc.below R.bel k hlt
      rw [← hxe] at hcx
      have HR : Hid (RsRel xs w k sv es v0 wr) := R
      have hown := R.own
      have hS := R.bel.size
      clear R hc hxe hx
      go_wp2_with (first
        | (go_at_call 66; refine (rtwoSum2_any _ _ _ (by assumption) (by assumption)).mono ?_; rintro e w' ⟨s, r, m, rfl, hs, hr, rfl⟩)
        | (at_builtin; refine wpList_append_own _ rfl _ _ 23 rfl w.heap.size 29 i0 (.float .f64 0) 1 8 Try.underlying23 hi hz0 hz1 hz2 rfl (by decide) _ _ _ rfl ((ownsRow_drewN hown m).alloc _) ⟨wr.heap.size, 0, none⟩ 1 1 [.float .f64 r] rfl rfl ?c1 ?c2 ?c3 ?c4 ?c5 ?_))
      case c1 =>
        intro j u hj
        match j, hj with
        | 0, hj =>
          simp at hj; subst hj
          show ((wr.drewN m).alloc _).cell? ⟨wr.heap.size, 0, none⟩ = _
          rw [cell_of_row _ wr.heap.size 0 _ 29 (0, 0) (heap_alloc_new (wr.drewN m) _)]; rfl
      case c2 => intro u hu; simp at hu; subst hu; rfl
      case c3 => unfold maxLen; omega
      case c4 => omega
      case c5 => simp; omega
      · intro v' w1 hown' hgrow _
        have R := HR.out
        have R2 : Below w.heap.size w w1 := ((below_drewN R.bel m).alloc (by simpa using hS) _).grown hgrow (by simp; omega) (fun j hj => own_ge hown hj)
        have R3 : RsRel xs w (k + 1) s (es ++ [r]) v' w1 := by
          have hs' := hs
          have hr' := hr
          rw [R.sum.2, HX.out] at hs' hr'
          refine ⟨by rw [sumO_succ xs k hlt]; exact hs', by simp [R.len], ?_, by rw [List.map_append]; exact hown', R2⟩
          intro j hj
          rcases Nat.lt_or_ge j k with h | h
          · have : (es ++ [r]).getD j 0 = es.getD j 0 := by
              rw [List.getD_eq_getElem?_getD, List.getD_eq_getElem?_getD, List.getElem?_append_left (by rw [R.len]; exact h)]
            rw [this]; exact R.err j h
          · have hjk : j = k := by omega
            have : (es ++ [r]).getD j 0 = r := by
              rw [hjk, List.getD_eq_getElem?_getD, List.getElem?_append_right (by rw [R.len]; exact Nat.le_refl _), R.len]; simp
            rw [this, hjk]; exact hr'
        clear hown' hgrow hown R
        go_wp2
        go_roundw
        case rel => exact ⟨k + 1, s, es ++ [r], v', by omega, by go_num, rfl, rfl, R3⟩
        case measure => simp [intOf]; omega
    · have HR : Hid (RsRel xs w k sv es v0 wr) := R
      clear R hc hxe hx
      go_wp2
      go_ret2
      have e : k = xs.length := by omega
      subst e
      exact ⟨_, _, _, rfl, HR.out⟩

set_option maxHeartbeats 1000000 in
theorem rgreatest_any (ao : Option Addr) (cap : Nat) (xs : List Nat) (w : World) (hsz : xs.length * 8 ≤ 140737488355328) (hc : Rd w ao xs) :
    Calls Try.prog 62 #[.slice ao xs.length cap] w fun e w' => ∃ n, e = .returned (.tuple #[.int .i64 (gre xs xs.length).1, .float .f64 (gre xs xs.length).2]) ∧ w' = w.drewN n := by
  go_enter Try.func62, Try.ntmps62
  go_wp2
  go_loopw [4, 5] (fun p i wr => ∃ k n : Nat, k ≤ xs.length ∧ i = .int .i64 k ∧ p = .int .i64 (gre xs k).1 ∧ wr = w.drewN n) (fun _ i _ => xs.length - (intOf i).toNat)
  case atStart => exact ⟨0, 0, Nat.zero_le _, rfl, rfl, rfl⟩
  case round =>
    obtain ⟨k, n, hk, rfl, rfl, hw⟩ := hrel
    obtain ⟨g1, g2, g3, g4, g5⟩ := gre_inv xs k
    have hc' : Rd wr ao xs := by rw [hw]; exact hc.drewN n
    have HW : Hid (wr = w.drewN n) := hw
    have H1 := @gre_hit xs k
    have H2 := @gre_miss xs k
    obtain ⟨x, hxe⟩ : ∃ x, x = xs.getD k 0 := ⟨_, rfl⟩
    obtain ⟨p, hp⟩ : ∃ p, p = (gre xs k).1 := ⟨_, rfl⟩
    obtain ⟨g, hg⟩ : ∃ g, g = (gre xs k).2 := ⟨_, rfl⟩
    rw [← hp] at H1 H2 g2 g3 g4 g5
    rw [← hg] at H1 H2 g1 g4 g5
    clear hw
    by_cases hlt : k < xs.length
    · obtain ⟨b, off, rfl, hb, hcx⟩ := hc' k hlt
      rw [← hxe] at hcx H1 H2
      rw [← hp]
      cases hn : nan x
      · have o1 := order_num hn
        by_cases hz : p < 0
        · have E : Hid (gre xs (k + 1) = ((k : Int), x)) := H1 ⟨hn, Or.inl hz⟩
          clear H1 H2 hp hg hc hc' hxe g4 g5
          go_wp2
          go_quiet (fail)
          go_wp2
          go_roundw
          case rel => exact ⟨k + 1, n + nq, by omega, by go_num, by rw [E.out], by rw [HW.out, World.drewN_drewN]⟩
          case measure => simp [intOf]; omega
        · obtain ⟨j, rfl⟩ := Int.eq_ofNat_of_zero_le (by omega : 0 ≤ p)
          have hj : j < xs.length := by omega
          obtain ⟨b2, off2, hbo, _, hcj⟩ := hc' j hj
          cases hbo
          have hgj : xs.getD j 0 = g := by have := g4 (by omega); simpa using this.symm
          rw [hgj] at hcj
          have o2 := order_gt hn g1
          by_cases hz2 : plc g < plc x
          · have E : Hid (gre xs (k + 1) = ((k : Int), x)) := H1 ⟨hn, Or.inr hz2⟩
            clear H1 H2 hp hg hc hc' hxe g4 g5 hgj
            go_wp2
            go_quiet (fail)
            go_wp2
            go_roundw
            case rel => exact ⟨k + 1, n + nq, by omega, by go_num, by rw [E.out], by rw [HW.out, World.drewN_drewN]⟩
            case measure => simp [intOf]; omega
          · have E : Hid (gre xs (k + 1) = ((j : Int), g)) := by show gre xs (k + 1) = ((j : Int), g); rw [H2 (by rintro ⟨_, h | h⟩; exact hz h; exact hz2 h), hp, hg]
            clear H1 H2 hp hg hc hc' hxe g4 g5 hgj
            go_wp2
            go_quiet (fail)
            go_wp2
            go_roundw
            case rel => exact ⟨k + 1, n + nq, by omega, by go_num, by rw [E.out], by rw [HW.out, World.drewN_drewN]⟩
            case measure => simp [intOf]; omega
      · have o1 := order_nan hn
        have E : Hid (gre xs (k + 1) = (p, g)) := by show gre xs (k + 1) = (p, g); rw [H2 (by rintro ⟨h, _⟩; rw [hn] at h; cases h), hp, hg]
        have hne : ((none : Option Ordering) == some Ordering.eq) = false := rfl
        clear H1 H2 hp hg hc hc' hxe g4 g5
        go_wp2
        go_quiet (fail)
        go_wp2
        go_roundw
        case rel => exact ⟨k + 1, n + nq, by omega, by go_num, by rw [E.out], by rw [HW.out, World.drewN_drewN]⟩
        case measure => simp [intOf]; omega
    · have e : k = xs.length := by omega
      subst e
      rw [← hp]
      have EP : Hid ((gre xs xs.length).1 = p) := hp.symm
      have EG : Hid ((gre xs xs.length).2 = g) := hg.symm
      by_cases hz : p < 0
      · have hg0 := g5 hz
        have hpm : p = -1 := by omega
        clear H1 H2 hp hg hc hc' hxe g4 g5
        go_wp2
        go_ret2
        exact ⟨n, by rw [EP.out, EG.out, hg0, hpm]; rfl, HW.out⟩
      · obtain ⟨j, rfl⟩ := Int.eq_ofNat_of_zero_le (by omega : 0 ≤ p)
        have hj : j < xs.length := by omega
        obtain ⟨b, off, rfl, hb, hcj⟩ := hc' j hj
        have hgj : xs.getD j 0 = g := by have := g4 (by omega); simpa using this.symm
        rw [hgj] at hcj
        clear H1 H2 hp hg hc hc' hxe g4 g5 hgj
        go_wp2
        go_quiet (fail)
        go_wp2
        go_ret2
        exact ⟨n + nq, by rw [EP.out, EG.out]; rfl, by rw [HW.out, World.drewN_drewN]⟩

end Go.Proofs.Ythkhemmpjfilaaa
