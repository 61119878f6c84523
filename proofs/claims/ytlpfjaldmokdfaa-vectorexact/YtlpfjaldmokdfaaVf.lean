/-
  What Conj, Scale of gridworkref06 hand back.
-/
import Derived.Test.YtlpfjaldmokdfaaVc
namespace Go.Proofs.Ytlpfjaldmokdfaa
open Fl RowKit

set_option maxHeartbeats 1000000 in
theorem rvconj_any (ao : Option Addr) (cap : Nat) (xs : List Cw) (w : World) (hsz : xs.length * 16 ≤ 140737488355328) (hc : Rc w ao xs) (hx : okl xs) :
    Calls Try.prog 29 #[.slice ao xs.length cap] w fun e w' => ∃ zs v, e = .returned v ∧ New w.heap.size (fun j => conZ (anz (zat xs j))) xs.length zs v w' ∧ Below w.heap.size w w' := by
  obtain ⟨i0, hi, hz0, hz1, hz2⟩ := info_parts Try.infoC
  go_enter Try.func29, Try.ntmps29
  go_wp2
  go_loopw [3, 4] (fun v i wr => ∃ (k : Nat) (zs : List Cw) (v0 : Value), k ≤ xs.length ∧ i = .int .i64 k ∧ v0 = v ∧ New w.heap.size (fun j => conZ (anz (zat xs j))) k zs v0 wr ∧ Below w.heap.size w wr) (fun _ i _ => xs.length - (intOf i).toNat)
  case atStart => exact ⟨0, [], _, Nat.zero_le _, rfl, rfl, ⟨rfl, fun j hj => absurd hj (by omega), World.ownsRow_nil _ _ _ _⟩, Below.refl _ _⟩
  case round =>
    obtain ⟨k, zs, v0, hk, rfl, rfl, hN, hbel⟩ := hrel
    have hS := hbel.size
    by_cases hlt : k < xs.length
    · obtain ⟨b, off, rfl, hb, hcx⟩ := hc.below hbel k hlt
      have hox := repz_anz (hx k)
      obtain ⟨x, hxe⟩ : ∃ x, x = zat xs k := ⟨_, rfl⟩
      have HX : Hid (x = zat xs k) := hxe
      rw [← hxe] at hcx hox
      clear hxe hx hc
      unfold cx at hcx
      have HN : Hid (New w.heap.size (fun j => conZ (anz (zat xs j))) k zs v0 wr) := hN
      have hown := hN.own
      have HB : Hid (Below w.heap.size w wr) := hbel
      clear hN hbel
      have o1 := hox.1
      have o2 := hox.2
      clear hox
      go_wp2_with (first
        | (go_at_call 60; (refine (rconj_any _ o1 o2).mono ?_); rintro e w' ⟨im, rfl, him, hw'⟩; subst w'; obtain ⟨re, hre0⟩ : ∃ re, re = x.1 := ⟨_, rfl⟩; have hre := o1; rw [← hre0] at hre ⊢; clear hre0)
        | (at_builtin; refine wpList_append_own _ rfl _ _ 23 rfl w.heap.size 29 i0 (.complex .f64 0 0) 1 16 Try.underlying23 hi hz0 hz1 hz2 rfl (by decide) _ _ _ rfl (hown.alloc _) ⟨_, 0, none⟩ 1 1 [.complex .f64 re im] rfl rfl ?c1 ?c2 ?c3 ?c4 ?c5 ?_))
      case c1 =>
        intro j u hj
        match j, hj with
        | 0, hj => simp at hj; subst hj; simp [Addr.add]
      case c2 => intro u hu; simp at hu; subst hu; rfl
      case c3 => unfold maxLen; omega
      case c4 => omega
      case c5 => simp; omega
      · intro v' w1 hown1 hgrow _
        have R2 : Below w.heap.size w w1 := (HB.out.alloc (by simpa using hS) _).grown hgrow (by simp; omega) (fun j hj => own_ge hown hj)
        have R : New w.heap.size (fun j => conZ (anz (zat xs j))) (k + 1) (zs ++ [(re, im)]) v' w1 := by
          refine ⟨by rw [List.length_append, HN.out.len]; rfl, repl_push HN.out.len HN.out.rep (by rw [← HX.out]; exact ⟨hre, him⟩), push_own (r := (re, im)) hown1⟩
        clear hown1 hgrow hown
        go_wp2
        go_roundw
        case rel => exact ⟨k + 1, _, _, by omega, by go_num, rfl, R, R2⟩
        case measure => simp [intOf]; omega
    · have e : k = xs.length := by omega
      subst e
      have HN : Hid (New w.heap.size (fun j => conZ (anz (zat xs j))) xs.length zs v0 wr) := hN
      clear hx hc hN
      go_wp2
      go_ret
      exact ⟨zs, _, rfl, HN.out, hbel⟩
set_option maxHeartbeats 1000000 in
theorem rvscale_any (t : Cw) (ao : Option Addr) (cap : Nat) (xs : List Cw) (w : World) (hsz : xs.length * 16 ≤ 140737488355328) (hc : Rc w ao xs) (hx : okl xs) (ht : okz t) :
    Calls Try.prog 35 #[.complex .f64 t.1 t.2, .slice ao xs.length cap] w fun e w' => ∃ zs v, e = .returned v ∧ New w.heap.size (fun j => mulZ (anz t) (anz (zat xs j))) xs.length zs v w' ∧ Below w.heap.size w w' := by
  obtain ⟨i0, hi, hz0, hz1, hz2⟩ := info_parts Try.infoC
  have t1 := rep_ans ht.1
  have t2 := rep_ans ht.2
  clear ht
  go_enter Try.func35, Try.ntmps35
  go_wp2
  go_loopw [5, 6] (fun v i wr => ∃ (k : Nat) (zs : List Cw) (v0 : Value), k ≤ xs.length ∧ i = .int .i64 k ∧ v0 = v ∧ New w.heap.size (fun j => mulZ (anz t) (anz (zat xs j))) k zs v0 wr ∧ Below w.heap.size w wr) (fun _ i _ => xs.length - (intOf i).toNat)
  case atStart => exact ⟨0, [], _, Nat.zero_le _, rfl, rfl, ⟨rfl, fun j hj => absurd hj (by omega), World.ownsRow_nil _ _ _ _⟩, Below.refl _ _⟩
  case round =>
    obtain ⟨k, zs, v0, hk, rfl, rfl, hN, hbel⟩ := hrel
    have hS := hbel.size
    by_cases hlt : k < xs.length
    · obtain ⟨b, off, rfl, hb, hcx⟩ := hc.below hbel k hlt
      have hox := repz_anz (hx k)
      obtain ⟨x, hxe⟩ : ∃ x, x = zat xs k := ⟨_, rfl⟩
      have HX : Hid (x = zat xs k) := hxe
      rw [← hxe] at hcx hox
      clear hxe hx hc
      unfold cx at hcx
      have HN : Hid (New w.heap.size (fun j => mulZ (anz t) (anz (zat xs j))) k zs v0 wr) := hN
      have hown := hN.own
      have HB : Hid (Below w.heap.size w wr) := hbel
      clear hN hbel
      have o1 := hox.1
      have o2 := hox.2
      clear hox
      go_wp2_with (first
        | (go_at_call 59; (refine (rmul_any _ t1 t2 o1 o2).mono ?_); rintro e w' ⟨re, im, m, rfl, hre, him, rfl⟩)
        | (at_builtin; refine wpList_append_own _ rfl _ _ 23 rfl w.heap.size 29 i0 (.complex .f64 0 0) 1 16 Try.underlying23 hi hz0 hz1 hz2 rfl (by decide) _ _ _ rfl ((ownsRow_drewN hown _).alloc _) ⟨_, 0, none⟩ 1 1 [.complex .f64 re im] rfl rfl ?c1 ?c2 ?c3 ?c4 ?c5 ?_))
      case c1 =>
        intro j u hj
        match j, hj with
        | 0, hj => simp at hj; subst hj; simp [Addr.add, new_cell]
      case c2 => intro u hu; simp at hu; subst hu; rfl
      case c3 => unfold maxLen; omega
      case c4 => omega
      case c5 => simp; omega
      · intro v' w1 hown1 hgrow _
        have R2 : Below w.heap.size w w1 := ((below_drewN HB.out _).alloc (by simpa using hS) _).grown hgrow (by simp; omega) (fun j hj => own_ge hown hj)
        have R : New w.heap.size (fun j => mulZ (anz t) (anz (zat xs j))) (k + 1) (zs ++ [(re, im)]) v' w1 := by
          refine ⟨by rw [List.length_append, HN.out.len]; rfl, repl_push HN.out.len HN.out.rep (by rw [← HX.out]; exact ⟨hre, him⟩), push_own (r := (re, im)) hown1⟩
        clear hown1 hgrow hown
        go_wp2
        go_roundw
        case rel => exact ⟨k + 1, _, _, by omega, by go_num, rfl, R, R2⟩
        case measure => simp [intOf]; omega
    · have e : k = xs.length := by omega
      subst e
      have HN : Hid (New w.heap.size (fun j => mulZ (anz t) (anz (zat xs j))) xs.length zs v0 wr) := hN
      clear hx hc hN
      go_wp2
      go_ret
      exact ⟨zs, _, rfl, HN.out, hbel⟩

end Go.Proofs.Ytlpfjaldmokdfaa
