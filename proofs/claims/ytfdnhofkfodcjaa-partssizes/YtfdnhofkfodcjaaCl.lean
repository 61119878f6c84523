/-
  What gridworklaw02's clean hands back.
-/
import Derived.Test.YtfdnhofkfodcjaaPl
import Derived.Deep.QuietTactic
import Derived.BigQuiet
namespace Go.Proofs.Ytfdnhofkfodcjaa
open Fl RowKit

def okZ (z : Nat × Nat) : Bool := !nan z.1 && !nan z.2
theorem all_take_succ (zs : List (Nat × Nat)) (k : Nat) (h : k < zs.length) : (zs.take (k + 1)).all okZ = ((zs.take k).all okZ && okZ (zs.getD k (0, 0))) := by
  rw [List.take_add_one, List.all_append, List.getD_eq_getElem?_getD, List.getElem?_eq_getElem h]; simp
theorem all_take_false (zs : List (Nat × Nat)) (k : Nat) (h : (zs.take k).all okZ = false) : zs.all okZ = false := by
  rw [← List.take_append_drop k zs, List.all_append, h]; rfl
def Cd (w : World) (b : Nat) (zs : List (Nat × Nat)) : Prop := ∀ k, k < zs.length → w.cell? ⟨b, k, none⟩ = some (.complex .f64 (zs.getD k (0, 0)).1 (zs.getD k (0, 0)).2)
set_option maxHeartbeats 1000000 in
theorem clean_any (b cap : Nat) (zs : List (Nat × Nat)) (w : World) (hsz : zs.length * 16 ≤ 140737488355328) (hc : Cd w b zs) :
    Calls Try.prog 59 #[.slice (some ⟨b, 0, none⟩) zs.length cap] w fun e w' => ∃ n, e = .returned (.bool (zs.all okZ)) ∧ w' = w.drewN n := by
  go_enter Try.func59, Try.ntmps59
  go_wp2
  go_loopw [3] (fun i wr => ∃ (k n : Nat), k ≤ zs.length ∧ i = .int .i64 k ∧ wr = w.drewN n ∧ (zs.take k).all okZ = true) (fun i _ => zs.length - (intOf i).toNat)
  case atStart => exact ⟨0, 0, Nat.zero_le _, rfl, rfl, by simp⟩
  case round =>
    obtain ⟨k, n, hk, rfl, hw, hall⟩ := hrel
    have hc' : Cd wr b zs := by rw [hw]; intro j hj; exact hc j hj
    have HW : Hid (wr = w.drewN n) := hw
    have HA : Hid ((zs.take k).all okZ = true) := hall
    clear hw hall
    have hne : ((none : Option Ordering) != some Ordering.eq) = true := rfl
    by_cases hlt : k < zs.length
    · have hcx := hc' k hlt
      have hs := all_take_succ zs k hlt
      obtain ⟨x, y, hxy⟩ : ∃ x y, (x, y) = zs.getD k (0, 0) := ⟨_, _, rfl⟩
      rw [← hxy] at hcx hs
      rw [HA.out, Bool.true_and] at hs
      have HS : Hid ((zs.take (k + 1)).all okZ = okZ (x, y)) := hs
      clear hxy hc hc' hs
      cases n1 : nan x
      · have o1 := order_num n1
        cases n2 : nan y
        · have o2 := order_num n2
          have HO : Hid (okZ (x, y) = true) := by show okZ (x, y) = true; unfold okZ; rw [n1, n2]; rfl
          go_wp2
          go_quiet (fail)
          go_wp2
          go_roundw
          case rel => exact ⟨k + 1, n + nq, by omega, by go_num, by rw [HW.out, World.drewN_drewN], by rw [HS.out]; exact HO.out⟩
          case measure => simp [intOf]; omega
        · have o2 := order_nan n2
          have HO : Hid (okZ (x, y) = false) := by show okZ (x, y) = false; unfold okZ; rw [n1, n2]; rfl
          go_wp2
          go_quiet (fail)
          go_wp2
          go_ret
          exact ⟨n + nq, by rw [all_take_false zs (k + 1) (by rw [HS.out]; exact HO.out)]; rfl, by rw [HW.out, World.drewN_drewN]⟩
      · have o1 := order_nan n1
        have HO : Hid (okZ (x, y) = false) := by show okZ (x, y) = false; unfold okZ; rw [n1]; rfl
        go_wp2
        go_quiet (fail)
        go_wp2
        go_ret
        exact ⟨n + nq, by rw [all_take_false zs (k + 1) (by rw [HS.out]; exact HO.out)]; rfl, by rw [HW.out, World.drewN_drewN]⟩
    · have HZ : Hid (zs.all okZ = true) := by
        show zs.all okZ = true
        have h := HA.out
        rw [List.take_of_length_le (by omega)] at h; exact h
      clear hc hc'
      go_wp2
      go_ret
      exact ⟨n, by rw [HZ.out]; rfl, HW.out⟩

theorem cell_new (W : World) (cs : Array Value) (t : TypeId) (k : Nat) (v : Value) (h : cs[k]? = some v) : (W.alloc (.cells cs t)).cell? ⟨W.heap.size, k, none⟩ = some v := by
  rw [cell_of_row _ W.heap.size k _ t (0, 0) (heap_alloc_new W _)]; exact h
theorem clean3 (W : World) (s : Nat) (hs : s = W.heap.size) (a b c d e f : Nat) :
    Calls Try.prog 59 #[.slice (some ⟨s, 0, none⟩) 3 3] (W.alloc (.cells #[.complex .f64 a b, .complex .f64 c d, .complex .f64 e f] 39)) fun r w' =>
      ∃ n, r = .returned (.bool (okZ (a, b) && (okZ (c, d) && okZ (e, f)))) ∧ w' = (W.alloc (.cells #[.complex .f64 a b, .complex .f64 c d, .complex .f64 e f] 39)).drewN n := by
  subst hs
  refine (clean_any W.heap.size 3 [(a, b), (c, d), (e, f)] _ (by simp) ?_).mono ?_
  · intro k hk
    have hk3 : k < 3 := hk
    refine cell_new W _ _ k _ ?_
    match k, hk3 with
    | 0, _ => rfl
    | 1, _ => rfl
    | 2, _ => rfl
  · rintro r w' ⟨n, rfl, rfl⟩
    exact ⟨n, by simp, rfl⟩
theorem clean2 (W : World) (s : Nat) (hs : s = W.heap.size) (a b c d : Nat) :
    Calls Try.prog 59 #[.slice (some ⟨s, 0, none⟩) 2 2] (W.alloc (.cells #[.complex .f64 a b, .complex .f64 c d] 39)) fun r w' =>
      ∃ n, r = .returned (.bool (okZ (a, b) && okZ (c, d))) ∧ w' = (W.alloc (.cells #[.complex .f64 a b, .complex .f64 c d] 39)).drewN n := by
  subst hs
  refine (clean_any W.heap.size 2 [(a, b), (c, d)] _ (by simp) ?_).mono ?_
  · intro k hk
    have hk2 : k < 2 := hk
    refine cell_new W _ _ k _ ?_
    match k, hk2 with
    | 0, _ => rfl
    | 1, _ => rfl
  · rintro r w' ⟨n, rfl, rfl⟩
    exact ⟨n, by simp, rfl⟩

theorem clean3b (W : World) (s : Nat) (hs : s = W.heap.size) (a b c d e f : Nat) :
    Calls Try.prog 59 #[.slice (some ⟨s, 0, none⟩) 3 3] (W.alloc (.cells #[.complex .f64 a b, .complex .f64 c d, .complex .f64 e f] 39)) fun r w' =>
      ∃ (t : Bool) (n : Nat), r = .returned (.bool t) ∧ (t = true → nan e = false ∧ nan f = false) ∧ w' = (W.alloc (.cells #[.complex .f64 a b, .complex .f64 c d, .complex .f64 e f] 39)).drewN n := by
  refine (clean3 W s hs a b c d e f).mono ?_
  rintro r w' ⟨n, rfl, rfl⟩
  exact ⟨_, n, rfl, fun h => by unfold okZ at h; simp at h; exact ⟨h.2.2.1, h.2.2.2⟩, rfl⟩
theorem clean2b (W : World) (s : Nat) (hs : s = W.heap.size) (a b c d : Nat) :
    Calls Try.prog 59 #[.slice (some ⟨s, 0, none⟩) 2 2] (W.alloc (.cells #[.complex .f64 a b, .complex .f64 c d] 39)) fun r w' =>
      ∃ (t : Bool) (n : Nat), r = .returned (.bool t) ∧ (t = true → nan c = false ∧ nan d = false) ∧ w' = (W.alloc (.cells #[.complex .f64 a b, .complex .f64 c d] 39)).drewN n := by
  refine (clean2 W s hs a b c d).mono ?_
  rintro r w' ⟨n, rfl, rfl⟩
  exact ⟨_, n, rfl, fun h => by unfold okZ at h; simp at h; exact ⟨h.2.1, h.2.2⟩, rfl⟩

end Go.Proofs.Ytfdnhofkfodcjaa
