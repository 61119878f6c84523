/-
  What Axpy of gridworkref06 hands back.
-/
import Derived.Test.YtlpfjaldmokdfaaVc
namespace Go.Proofs.Ytlpfjaldmokdfaa
open Fl RowKit

set_option maxHeartbeats 2000000 in
theorem rvaxpy_ok (t : Cw) (ao bo : Option Addr) (ca cb : Nat) (xs ys : List Cw) (w : World) (hl : ys.length = xs.length) (hm : xs.length ≤ 65536) (hc : Rc w ao xs) (hd : Rc w bo ys) (hx : okl xs) (hy : okl ys) (ht : okz t) :
    Calls Try.prog 34 #[.complex .f64 t.1 t.2, .slice ao xs.length ca, .slice bo xs.length cb] w fun e w' => ∃ zs v, e = .returned (.tuple #[v, .int .i64 0]) ∧ New w.heap.size (dotF (fun X Y => addZ Y (mulZ (anz t) X)) xs ys) xs.length zs v w' ∧ Below w.heap.size w w' := by
  obtain ⟨i0, hi, hz0, hz1, hz2⟩ := info_parts Try.infoC
  have he := errV_0 hm
  have t1 := rep_ans ht.1
  have t2 := rep_ans ht.2
  clear ht
  go_enter Try.func34, Try.ntmps34
  go_wp2_with (first
    | (go_at_call 56; refine (wrong_any _ _ _ _ _ _ _ (by omega) (by omega)).mono ?_; rintro e w' ⟨rfl, hw'⟩; subst w'; rw [he]))
  go_loopw [9, 10] (fun v i wr => ∃ (k : Nat) (zs : List Cw) (v0 : Value), k ≤ xs.length ∧ i = .int .i64 k ∧ v0 = v ∧ New w.heap.size (dotF (fun X Y => addZ Y (mulZ (anz t) X)) xs ys) k zs v0 wr ∧ Below w.heap.size w wr) (fun _ i _ => xs.length - (intOf i).toNat)
  case atStart => exact ⟨0, [], _, Nat.zero_le _, rfl, rfl, ⟨rfl, fun j hj => absurd hj (by omega), World.ownsRow_nil _ _ _ _⟩, Below.refl _ _⟩
  case round =>
    obtain ⟨k, zs, v0, hk, rfl, rfl, hN, hbel⟩ := hrel
    have hS := hbel.size
    by_cases hlt : k < xs.length
    · obtain ⟨b, off, rfl, hb, hcx0⟩ := hc k hlt
      obtain ⟨b2, off2, rfl, hb2, hcy0⟩ := hd k (by omega)
      have hox := repz_anz (hx k)
      have hoy := repz_anz (hy k)
      have HX : Hid (dotF (fun X Y => addZ Y (mulZ (anz t) X)) xs ys k = (fun X Y => addZ Y (mulZ (anz t) X)) (anz (zat xs k)) (anz (zat ys k))) := rfl
      obtain ⟨x, hxe⟩ : ∃ x, x = zat xs k := ⟨_, rfl⟩
      obtain ⟨y, hye⟩ : ∃ y, y = zat ys k := ⟨_, rfl⟩
      rw [← hxe] at hcx0 hox HX
      rw [← hye] at hcy0 hoy HX
      clear hxe hye hx hy hc hd
      unfold cx at hcx0 hcy0
      have hcx := (hbel.cell (p := ⟨b, off + k, none⟩) hb).trans hcx0
      have hcy := (hbel.cell (p := ⟨b2, off2 + k, none⟩) hb2).trans hcy0
      have C1 : Hid (w.cell? ⟨b, off + k, none⟩ = some (.complex .f64 x.1 x.2)) := hcx0
      have C2 : Hid (w.cell? ⟨b2, off2 + k, none⟩ = some (.complex .f64 y.1 y.2)) := hcy0
      have HN : Hid (New w.heap.size (dotF (fun X Y => addZ Y (mulZ (anz t) X)) xs ys) k zs v0 wr) := hN
      have hown := hN.own
      have HB : Hid (Below w.heap.size w wr) := hbel
      clear hN hbel hcx0 hcy0
      have o1 := hox.1
      have o2 := hox.2
      have o3 := hoy.1
      have o4 := hoy.2
      clear hox hoy
      go_wp2
      go_region_held_law (fun W => W.cell? ⟨b, off + k, none⟩ = some (.complex .f64 x.1 x.2) ∧ W.cell? ⟨b2, off2 + k, none⟩ = some (.complex .f64 y.1 y.2)) (first | (with_reducible exact ⟨hcx, hcy⟩) | (with_reducible exact ⟨(R2.cell (p := ⟨b, off + k, none⟩) hb).trans C1.out, (R2.cell (p := ⟨b2, off2 + k, none⟩) hb2).trans C2.out⟩) | go_keep)
        (first
        | (go_at_call 59; (with_reducible refine (rmul_any _ t1 t2 o1 o2).mono ?_); rintro e w' ⟨pr, pi, m, rfl, hpr, hpi, rfl⟩)
        | (go_at_call 57; (with_reducible refine (radd_any _ o3 o4 hpr hpi).mono ?_); rintro e w' ⟨re, im, m2, rfl, hre, him, rfl⟩)
        | (refine step_append_lies _ (by rfl) _ _ 23 (by rfl) w.heap.size 29 i0 (.complex .f64 0 0) 1 16 Try.underlying23 hi hz0 hz1 hz2 (by rfl) (by decide) _ _ _ (by rfl) ((ownsRow_drewN hown _).alloc _) ⟨_, 0, none⟩ 1 1 [.complex .f64 re im] (by rfl) (by rfl) (fun j u hj => by match j, hj with | 0, hj => (simp at hj; subst hj; simp [Addr.add, new_cell])) (fun u hu => by simp at hu; subst hu; rfl) (by decide) (by unfold maxLen; omega) (by omega) (by simp; omega) (wr.heap.size + 1) (by simp) ?_; intro g cap w1 hown1 hgrow hat hlt1; have R2 : Below w.heap.size w w1 := ((below_drewN HB.out _).alloc (by simpa using hS) _).grown hgrow (by simp; omega) (fun j hj => own_ge hown hj)))
      have R : New w.heap.size (dotF (fun X Y => addZ Y (mulZ (anz t) X)) xs ys) (k + 1) (zs ++ [(re, im)]) (.slice (some ⟨g, 0, none⟩) (k + 1) cap) w1 := by
        refine ⟨by rw [List.length_append, HN.out.len]; rfl, repl_push HN.out.len HN.out.rep (by rw [HX.out]; exact ⟨hre, him⟩), push_own (r := (re, im)) hown1⟩
      clear hown1 hgrow hat hown
      go_wp2
      go_roundw
      case rel => exact ⟨k + 1, _, _, by omega, by go_num, rfl, R, R2⟩
      case measure => simp [intOf]; omega
    · have e : k = xs.length := by omega
      subst e
      have HN : Hid (New w.heap.size (dotF (fun X Y => addZ Y (mulZ (anz t) X)) xs ys) xs.length zs v0 wr) := hN
      clear hx hy hc hd hN
      go_wp2
      go_ret2
      exact ⟨zs, _, rfl, HN.out, hbel⟩
theorem rvaxpy_err (t : Cw) (ao bo : Option Addr) (na nb ca cb : Nat) (w : World) (ha : na ≤ 1000000000000000) (hb : nb ≤ 1000000000000000) (he : ¬ errV na nb = 0) :
    Calls Try.prog 34 #[.complex .f64 t.1 t.2, .slice ao na ca, .slice bo nb cb] w fun e w' => e = .returned (.tuple #[.slice none 0 0, .int .i64 (errV na nb)]) ∧ w' = w := by
  obtain ⟨E, hE⟩ : ∃ E, E = errV na nb := ⟨_, rfl⟩
  rw [← hE] at he ⊢
  go_enter Try.func34, Try.ntmps34
  go_wp2_with (first
    | (go_at_call 56; refine (wrong_any _ _ _ _ _ _ _ ha hb).mono ?_; rintro e w' ⟨rfl, hw'⟩; subst w'; rw [← hE]; clear hE))
  go_loopw [9, 10] (fun v i wr => v = .slice none 0 0 ∧ i = .int .i64 0 ∧ wr = w) (fun _ _ _ => 0)
  case atStart => exact ⟨rfl, rfl, rfl⟩
  case round =>
    obtain ⟨rfl, rfl, hw⟩ := hrel
    subst wr
    go_wp2
    go_ret2
    exact ⟨rfl, rfl⟩

end Go.Proofs.Ytlpfjaldmokdfaa
