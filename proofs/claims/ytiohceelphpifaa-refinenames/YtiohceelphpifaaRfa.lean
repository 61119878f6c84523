/-
  What TwoSum, TwoProd, SumErr and Sum of package real hand back, beside the texts of parts (stage 1's own texts, names turned where they would clash).
-/
import Derived.Test.YtiohceelphpifaaBnb
import Derived.Deep.AppendLies
import Derived.Deep.RegionHeldLaw
import Derived.Deep.RegionLaw
namespace Go.Proofs.Ytiohceelphpifaa
open Fl RowKit

@[go_sem] theorem run_fma (x y z : Nat) (w : World) : (callFunc 107 #[.float .f64 x, .float .f64 y, .float .f64 z]).run Try.prog w = .ok (.value (.float .f64 (fmaV w x y z))) (w.drewN (fN (fmaO x y z))) := by
  rw [run_callFunc_extern Try.func107 (by kernel_rfl) (by kernel_rfl) (by kernel_rfl) (e := Extern.MathFMA.fma) (by kernel_rfl), run_ffma]
  rfl
theorem ret2ff {a b c d : Nat} (h : a = b) (h2 : c = d) : Ending.returned (.tuple #[.float .f64 a, .float .f64 c]) = .returned (.tuple #[.float .f64 b, .float .f64 d]) := by rw [h, h2]

theorem twoSum_any (a b : Nat) (w : World) (ha : a < 18446744073709551616) (hb : b < 18446744073709551616) :
    Calls Try.prog 108 #[.float .f64 a, .float .f64 b] w fun e w' => ∃ s r n, e = .returned (.tuple #[.float .f64 s, .float .f64 r]) ∧ rep (tsS (ans a) (ans b)) s ∧ rep (tsE (ans a) (ans b)) r ∧ w' = w.drewN n := by
  go_enter Try.func108, Try.ntmps108
  go_wp2
  go_ret2
  have h1 := rep_ans ha
  have h2 := rep_ans hb
  refine ⟨_, _, _, rfl, rep_add h1 h2 _, ?_, rfl⟩
  exact rep_add (rep_sub h1 (rep_sub (rep_add h1 h2 _) (rep_sub (rep_add h1 h2 _) h1 _) _) _) (rep_sub h2 (rep_sub (rep_add h1 h2 _) h1 _) _) _

theorem twoProd_any (a b : Nat) (w : World) :
    Calls Try.prog 83 #[.float .f64 a, .float .f64 b] w fun e w' => ∃ p r n, e = .returned (.tuple #[.float .f64 p, .float .f64 r]) ∧ rep (mulO a b) p ∧ rep (fmaO a b (Op.negFloat .f64 p)) r ∧ w' = w.drewN n := by
  go_enter Try.func83, Try.ntmps83
  go_wp2
  go_ret2
  exact ⟨_, _, _, rfl, rep_mulV _ _ _, rep_fmaV _ _ _ _, rfl⟩


def sumO (l : List Nat) : Option Nat := l.foldl (fun o x => addA o (ans x)) (some 0)
def errO (l : List Nat) (k : Nat) : Option Nat := tsE (sumO (l.take k)) (ans (l.getD k 0))
theorem take_snoc (l : List Nat) (k : Nat) (h : k < l.length) : l.take (k + 1) = l.take k ++ [l.getD k 0] := by
  rw [List.take_succ_eq_append_getElem h]; simp [List.getD_eq_getElem?_getD, h]
theorem sumO_succ (l : List Nat) (k : Nat) (h : k < l.length) : sumO (l.take (k + 1)) = tsS (sumO (l.take k)) (ans (l.getD k 0)) := by
  rw [take_snoc l k h]; unfold sumO; rw [List.foldl_append]; rfl
theorem made_zero (n : Nat) : (madeCells (Value.float .f64 0).cells (n * 1)).toList = (List.replicate n 0).map (Value.float .f64) := by
  apply List.ext_getElem?
  intro i
  simp only [madeCells, Array.toList_map, List.getElem?_map, Array.toList_range, Nat.mul_one, List.getElem?_replicate]
  by_cases h : i < n
  · simp [h, Value.cells, Nat.mod_one]
  · simp [h]
theorem Try.infoF : (Try.prog.info? 48).map (fun i => (i.zero, i.size, i.bytes)) = some (some (.float .f64 0), 1, 8) := by kernel_rfl

/-- what SumErr's round keeps -/
def SumRel (xs : List Nat) (w : World) (k : Nat) (sv : Nat) (es : List Nat) (wr : World) : Prop :=
  rep (sumO (xs.take k)) sv ∧ es.length = xs.length ∧ (∀ j, j < k → rep (errO xs j) (es.getD j 0)) ∧
  wr.ownsRow w.heap.size 48 1 (.slice (some ⟨w.heap.size, 0, none⟩) xs.length xs.length) xs.length (es.map (Value.float .f64)) ∧ Below w.heap.size w wr
theorem sumRel_step {xs : List Nat} {w wr : World} {k sv : Nat} {es : List Nat} (h : SumRel xs w k sv es wr) (hk : k < xs.length) {s r : Nat}
    (hs : rep (tsS (ans sv) (ans (xs.getD k 0))) s) (hr : rep (tsE (ans sv) (ans (xs.getD k 0))) r) (m : Nat) :
    SumRel xs w (k + 1) s (es.set k r) ((wr.drewN m).setCell ⟨w.heap.size, k, none⟩ (.float .f64 r)) := by
  obtain ⟨h1, h2, h3, h4, h5⟩ := h
  rw [h1.2] at hs hr
  refine ⟨by rw [sumO_succ xs k hk]; exact hs, by simpa using h2, ?_, ?_, (below_drewN h5 m).setCell (Nat.le_refl _) _⟩
  · intro j hj
    by_cases e : j = k
    · subst e
      have : (es.set j r).getD j 0 = r := by rw [List.getD_eq_getElem?_getD, List.getElem?_set_self (by omega)]; rfl
      rw [this]; exact hr
    · have : (es.set k r).getD j 0 = es.getD j 0 := by simp [List.getD_eq_getElem?_getD, Ne.symm e]
      rw [this]; exact h3 j (by omega)
  · have := ((ownsRow_drewN h4 m).stored k (.float .f64 r)).1
    rw [List.map_set]; exact this
theorem sumRel_cell {xs : List Nat} {w wr : World} {k sv : Nat} {es : List Nat} (h : SumRel xs w k sv es wr) (hk : k < xs.length) :
    wr.cell? ⟨w.heap.size, k, none⟩ = some (.float .f64 (es.getD k 0)) ∧ wr.frozen? ⟨w.heap.size, k, none⟩ = false := by
  obtain ⟨h1, h2, h3, h4, h5⟩ := h
  refine ⟨?_, h4.frozenAt k⟩
  rw [h4.cellAt k (by omega)]
  rw [List.getElem?_map]
  have : k < es.length := by omega
  simp [List.getD_eq_getElem?_getD, this]
theorem sumRel_sv {xs : List Nat} {w wr : World} {k sv : Nat} {es : List Nat} (h : SumRel xs w k sv es wr) : sv < 18446744073709551616 := h.1.1

/-- what a list in memory reads as -/
def Rd (w : World) (ao : Option Addr) (xs : List Nat) : Prop :=
  ∀ k, k < xs.length → ∃ b off, ao = some ⟨b, off, none⟩ ∧ b < w.heap.size ∧ w.cell? ⟨b, off + k, none⟩ = some (.float .f64 (xs.getD k 0))
theorem Rd.below {w w' : World} {ao : Option Addr} {xs : List Nat} (h : Rd w ao xs) (hb : Below w.heap.size w w') : Rd w' ao xs := by
  intro k hk
  obtain ⟨b, off, h1, h2, h3⟩ := h k hk
  exact ⟨b, off, h1, Nat.lt_of_lt_of_le h2 hb.size, (hb.cell (by exact h2)).trans h3⟩
theorem Rd.drewN {w : World} {ao : Option Addr} {xs : List Nat} (h : Rd w ao xs) (n : Nat) : Rd (w.drewN n) ao xs := h

theorem sumErr_any (ao : Option Addr) (cap : Nat) (xs : List Nat) (w : World) (hsz : xs.length * 8 ≤ 140737488355328)
    (hc : Rd w ao xs) (hx : ∀ k, xs.getD k 0 < 18446744073709551616) :
    Calls Try.prog 84 #[.slice ao xs.length cap] w fun e w' => ∃ s es, e = .returned (.tuple #[.float .f64 s, .slice (some ⟨w.heap.size, 0, none⟩) xs.length xs.length]) ∧ SumRel xs w xs.length s es w' := by
  obtain ⟨i0, hi, hz0, hz1, hz2⟩ := info_parts Try.infoF
  go_enter Try.func84, Try.ntmps84
  go_wp2_with (at_make; refine wpList_make_full _ rfl _ _ 103 rfl w.heap.size 48 i0 (.float .f64 0) 1 Try.underlying103 hi hz0 hz1 _ _ _ _ xs.length rfl rfl rfl rfl (by rw [hz2]; omega) (by unfold maxLen; omega) (Nat.le_refl _) ?_; intro w1 hown hgrow)
  go_loopw [4, 13] (fun s i wr => ∃ (k sv : Nat) (es : List Nat), k ≤ xs.length ∧ i = .int .i64 k ∧ s = .float .f64 sv ∧ SumRel xs w k sv es wr) (fun _ i _ => xs.length - (intOf i).toNat)
  case atStart =>
    refine ⟨0, 0, List.replicate xs.length 0, Nat.zero_le _, rfl, rfl, ⟨by decide, rfl⟩, by simp, fun j hj => absurd hj (by omega), ?_, ?_⟩
    · rw [made_zero] at hown; exact hown
    · exact (Below.refl _ _).grown hgrow (Nat.le_refl _) (by simp)
  case round =>
    obtain ⟨k, sv, es, hk, rfl, rfl, R⟩ := hrel
    have hsv := sumRel_sv R
    have hxk := hx k
    obtain ⟨x, hxe⟩ : ∃ x, x = xs.getD k 0 := ⟨_, rfl⟩
    have HX : Hid (x = xs.getD k 0) := hxe
    rw [← hxe] at hxk
    by_cases hlt : k < xs.length
    · obtain ⟨b, off, rfl, hb, hcx⟩ := hc.below R.2.2.2.2 k hlt
      rw [← hxe] at hcx
      obtain ⟨hcell, hfz⟩ := sumRel_cell R hlt
      obtain ⟨y, hye⟩ : ∃ y, y = es.getD k 0 := ⟨_, rfl⟩
      rw [← hye] at hcell
      have HR : Hid (SumRel xs w k sv es wr) := R
      clear R hown hgrow hc hxe hye hx
      go_wp2_with (go_at_call 108; refine (twoSum_any _ _ _ (by assumption) (by assumption)).mono ?_; rintro e w' ⟨s, r, m, rfl, hs, hr, rfl⟩)
      go_roundw
      case rel => exact ⟨k + 1, _, _, by omega, by go_num, rfl, sumRel_step HR.out hlt (by rw [← HX.out]; assumption) (by rw [← HX.out]; assumption) _⟩
      case measure => simp [intOf]; omega
    · have HR : Hid (SumRel xs w k sv es wr) := R
      clear R hown hgrow hc hxe hx
      go_wp2
      go_ret2
      have e : k = xs.length := by omega
      subst e
      exact ⟨_, _, rfl, HR.out⟩

theorem sum_any (ao : Option Addr) (cap : Nat) (xs : List Nat) (w : World) (hsz : xs.length * 8 ≤ 140737488355328) (hc : Rd w ao xs) (hx : ∀ k, xs.getD k 0 < 18446744073709551616) :
    Calls Try.prog 85 #[.slice ao xs.length cap] w fun e w' => ∃ s n, e = .returned (.float .f64 s) ∧ rep (sumO xs) s ∧ w' = w.drewN n := by
  go_enter Try.func85, Try.ntmps85
  go_wp2
  go_loopw [3, 8] (fun s i wr => ∃ (k sv n : Nat), k ≤ xs.length ∧ i = .int .i64 k ∧ s = .float .f64 sv ∧ rep (sumO (xs.take k)) sv ∧ wr = w.drewN n) (fun _ i _ => xs.length - (intOf i).toNat)
  case atStart => exact ⟨0, 0, 0, Nat.zero_le _, rfl, rfl, ⟨by decide, rfl⟩, rfl⟩
  case round =>
    obtain ⟨k, sv, n, hk, rfl, rfl, hs, rfl⟩ := hrel
    have hxk := hx k
    obtain ⟨x, hxe⟩ : ∃ x, x = xs.getD k 0 := ⟨_, rfl⟩
    have HX : Hid (x = xs.getD k 0) := hxe
    rw [← hxe] at hxk
    by_cases hlt : k < xs.length
    · obtain ⟨b, off, rfl, hb, hcx⟩ := hc k hlt
      rw [← hxe] at hcx
      clear hxe hx hc
      go_wp2
      go_roundw
      case rel => exact ⟨k + 1, _, _, by omega, by go_num, rfl, by rw [sumO_succ xs k hlt, ← HX.out]; exact rep_add hs (rep_ans hxk) _, rfl⟩
      case measure => simp [intOf]; omega
    · clear hxe hx hc
      go_wp2
      go_ret
      have e : k = xs.length := by omega
      subst e
      rw [List.take_length] at hs
      exact ⟨_, _, rfl, hs, rfl⟩

end Go.Proofs.Ytiohceelphpifaa
