/-
  What pivot's Greatest and Growth hand back.
-/
import Derived.Test.YtgpjlobclcbniabXb
import Derived.Test.YtgpjlobclcbniabMa
namespace Go.Proofs.Ytgpjlobclcbniab
open Fl RowKit

theorem pmayBe_any (R C : Int) (A : Option Addr) (n c : Nat) (w : World) (_hn : n ≤ 1000000000000000) :
    Calls Try.prog 23 #[.agg #[.int .i64 R, .int .i64 C, .slice A n c]] w fun e w' => e = .returned (.bool (mb R C n)) ∧ w' = w.alloc (.cells #[.int .i64 R, .int .i64 C, .slice A n c] 38) := by
  cases h1 : cnt R <;> cases h2 : cnt C
  all_goals
    first | rw [mb_no1 h1] | rw [mb_no2 h2] | rw [mb_val h1 h2]
    unfold cnt at h1 h2
    go_enter Try.func23, Try.ntmps23
    go_wp2_with (go_at_call 27; refine (pcnt_any _ _).mono ?_; rintro e w' ⟨rfl, rfl⟩)
    go_ret
    exact ⟨rfl, rfl⟩
def grE (R C : Int) (xs : List Cw) : Int := if mb R C xs.length = false then 4 else if finL xs xs.length = false then 5 else 0
def grW (R C : Int) (xs : List Cw) : Nat := if grE R C xs = 0 then (hv xs).2 else 0
theorem grW_lim (R C : Int) (xs : List Cw) : grW R C xs ≤ 9218868437227405312 := by
  unfold grW
  split
  · exact hv_lim xs
  · omega
theorem mb_len {R C : Int} {n : Nat} (h : mb R C n = true) : n ≤ 4096 := by
  obtain ⟨a, b, c, d, e⟩ := of_decide_eq_true h
  have e1 : R * C ≤ 64 * 64 := Int.mul_le_mul b d c (by omega)
  omega
set_option maxHeartbeats 1000000 in
theorem greatest_any (R C : Int) (A : Option Addr) (c : Nat) (xs : List Cw) (w : World) (hn : xs.length ≤ 1000000000000000) (hc : Rc w A xs) (hx : okl xs) :
    Calls Try.prog 20 #[.agg #[.int .i64 R, .int .i64 C, .slice A xs.length c]] w fun e w' => ∃ m, e = .returned (.tuple #[.float .f64 (grW R C xs), .int .i64 (grE R C xs)]) ∧ w' = ((w.alloc (.cells #[.int .i64 R, .int .i64 C, .slice A xs.length c] 38)).alloc (.cells #[.int .i64 R, .int .i64 C, .slice A xs.length c] 38)).drewN m := by
  have hc1 := hc.below (ba (ba (below_self w) (.cells #[.int .i64 R, .int .i64 C, .slice A xs.length c] 38)) (.cells #[.int .i64 R, .int .i64 C, .slice A xs.length c] 38))
  have E4 : mb R C xs.length = false → grE R C xs = 4 := fun h => if_pos h
  have E5 : mb R C xs.length = true → finL xs xs.length = false → grE R C xs = 5 := fun h k => by unfold grE; rw [if_neg (by rw [h]; decide), if_pos k]
  have E0 : mb R C xs.length = true → finL xs xs.length = true → grE R C xs = 0 := fun h k => by unfold grE; rw [if_neg (by rw [h]; decide), if_neg (by rw [k]; decide)]
  have Wn : ¬ grE R C xs = 0 → grW R C xs = 0 := fun h => if_neg h
  have W0 : grE R C xs = 0 → grW R C xs = (hv xs).2 := fun h => if_pos h
  have M := mb_len (R := R) (C := C) (n := xs.length)
  obtain ⟨E, hE⟩ : ∃ E, E = grE R C xs := ⟨_, rfl⟩
  obtain ⟨I, hI⟩ : ∃ I, I = grW R C xs := ⟨_, rfl⟩
  rw [← hE] at E4 E5 E0 Wn W0
  rw [← hI] at Wn W0
  rw [← hE, ← hI]
  clear hE hI hc
  cases h1 : mb R C xs.length
  · have e := E4 h1
    subst e
    have e := Wn (by decide)
    subst e
    clear E4 E5 E0 Wn W0 M hc1
    go_enter Try.func20, Try.ntmps20
    go_wp2_with (first
      | (go_at_call 23; (with_reducible refine (pmayBe_any _ _ _ _ _ _ hn).mono ?_); rintro e w' ⟨rfl, rfl⟩; rw [h1]))
    go_ret2
    exact ⟨0, rfl, rfl⟩
  · have hm := M h1
    cases h3 : finL xs xs.length
    · have e := E5 h1 h3
      subst e
      have e := Wn (by decide)
      subst e
      clear E4 E5 E0 Wn W0 M
      go_enter Try.func20, Try.ntmps20
      go_wp2_with (first
        | (go_at_call 23; (with_reducible refine (pmayBe_any _ _ _ _ _ _ hn).mono ?_); rintro e w' ⟨rfl, rfl⟩; rw [h1])
        | (go_at_call 14; (with_reducible refine (pfin_len rfl hm hc1 hx).mono ?_); rintro e w' ⟨rfl, rfl⟩; rw [h3]))
      go_ret2
      exact ⟨0, rfl, rfl⟩
    · have e := E0 h1 h3
      subst e
      have e := W0 rfl
      subst e
      clear E4 E5 E0 Wn W0 M
      go_enter Try.func20, Try.ntmps20
      go_wp2_with (first
        | (go_at_call 23; (with_reducible refine (pmayBe_any _ _ _ _ _ _ hn).mono ?_); rintro e w' ⟨rfl, rfl⟩; rw [h1])
        | (go_at_call 14; (with_reducible refine (pfin_len rfl hm hc1 hx).mono ?_); rintro e w' ⟨rfl, rfl⟩; rw [h3])
        | (go_at_call 15; (with_reducible refine (pheav_len rfl hm hc1 hx h3).mono ?_); rintro e w' ⟨m, rfl, rfl⟩))
      go_ret2
      exact ⟨m, rfl, rfl⟩
theorem divV_lt (x y : Nat) (w : World) : divV w x y < 18446744073709551616 := (rep_divV x y w).1
theorem hid_of {p : Prop} (h : p) : Hid p := h
/-- how much the one outgrows the other -/
def gwE (e f : Int) (x y : Nat) : Int := if ¬ e = 0 then e else if ¬ f = 0 then f else if x = 0 then 7 else if finB ((divO y x).getD 9218868437227405312) = false then 6 else 0
def gwW (e f : Int) (x y : Nat) : Nat := if gwE e f x y = 0 then (divO y x).getD 9218868437227405312 else 0
theorem fin_div {o : Option Nat} {r : Nat} (h : rep o r) : finB r = finB (o.getD 9218868437227405312) := by
  cases o with
  | some v => rw [rep_is h rfl]; rfl
  | none =>
    have hn := ans_none h.2
    have : ¬ mg r < 9218868437227405312 := by
      unfold nan at hn
      have := of_decide_eq_true hn
      omega
    rw [show finB r = false from decide_eq_false this]
    decide
theorem fin_self {o : Option Nat} {r : Nat} (h : rep o r) (hf : finB (o.getD 9218868437227405312) = true) : r = o.getD 9218868437227405312 := by
  cases o with
  | some v => exact rep_is h rfl
  | none => exact absurd hf (by decide)
theorem fin_pair {W : World} {x : Nat} (h : x < 18446744073709551616) : Calls Try.prog 21 #[.complex .f64 x 0] W fun e w' => e = .returned (.bool (finB x)) ∧ w' = W :=
  (fin_any x 0 W h (by decide)).mono (by rintro e w' ⟨rfl, rfl⟩; exact ⟨by rw [show finB 0 = true from by decide, Bool.and_true], rfl⟩)
set_option maxHeartbeats 2000000 in
theorem growth_any (R C : Int) (A : Option Addr) (c : Nat) (xs : List Cw) (R' C' : Int) (A' : Option Addr) (c' : Nat) (ys : List Cw) (w : World) (hn : xs.length ≤ 1000000000000000) (hn' : ys.length ≤ 1000000000000000) (hc : Rc w A xs) (hx : okl xs) (hc' : Rc w A' ys) (hx' : okl ys) :
    Calls Try.prog 9 #[.agg #[.int .i64 R, .int .i64 C, .slice A xs.length c], .agg #[.int .i64 R', .int .i64 C', .slice A' ys.length c']] w fun e w' => e = .returned (.tuple #[.float .f64 (gwW (grE R C xs) (grE R' C' ys) (grW R C xs) (grW R' C' ys)), .int .i64 (gwE (grE R C xs) (grE R' C' ys) (grW R C xs) (grW R' C' ys))]) ∧ Below w.heap.size w w' := by
  obtain ⟨O, hO⟩ : ∃ O, O = Obj.cells #[.int .i64 R, .int .i64 C, .slice A xs.length c] 38 := ⟨_, rfl⟩
  obtain ⟨O', hO'⟩ : ∃ O', O' = Obj.cells #[.int .i64 R', .int .i64 C', .slice A' ys.length c'] 38 := ⟨_, rfl⟩
  have B2 : Below w.heap.size w ((w.alloc O).alloc O') := ba (ba (below_self w) O) O'
  have B4 : ∀ m, Below w.heap.size w (((((w.alloc O).alloc O').alloc O).alloc O).drewN m) := fun m => below_drewN (ba (ba B2 O) O) m
  have B6 : ∀ m k, Below w.heap.size w ((((((((w.alloc O).alloc O').alloc O).alloc O).drewN m).alloc O').alloc O').drewN k) := fun m k => below_drewN (ba (ba (B4 m) O') O') k
  have hc1 := hc.below B2
  have hc2 := fun m => hc'.below (B4 m)
  have g1 := greatest_any R C A c xs _ hn hc1 hx
  have g2 := fun m => greatest_any R' C' A' c' ys _ hn' (hc2 m) hx'
  have l1 := grW_lim R C xs
  have l2 := grW_lim R' C' ys
  subst hO hO'
  obtain ⟨e, he⟩ : ∃ e, e = grE R C xs := ⟨_, rfl⟩
  obtain ⟨f, hf⟩ : ∃ f, f = grE R' C' ys := ⟨_, rfl⟩
  obtain ⟨x, hxe⟩ : ∃ x, x = grW R C xs := ⟨_, rfl⟩
  obtain ⟨y, hye⟩ : ∃ y, y = grW R' C' ys := ⟨_, rfl⟩
  rw [← he, ← hxe] at g1
  rw [← hxe] at l1
  rw [← hye] at l2
  have g2' := fun m => g2 m
  simp only [← hf, ← hye] at g2'
  rw [← he, ← hf, ← hxe, ← hye]
  have G1 := hid_of g1
  have G2 := hid_of g2'
  have HB4 := hid_of B4
  have HB6 := hid_of B6
  clear g1 g2 g2' B2 B4 B6 hc1 hc2 hc hc' hx hx' he hf hxe hye
  by_cases e0 : e = 0
  case neg =>
    have r1 : gwE e f x y = e := if_pos e0
    have r2 : gwW e f x y = 0 := if_neg (by rw [r1]; exact e0)
    rw [r1, r2]
    go_enter Try.func9, Try.ntmps9
    go_wp2_with (first
      | (go_at_call 20; (with_reducible refine G1.out.mono ?_); rintro e w' ⟨m, rfl, rfl⟩))
    go_ret2
    exact ⟨rfl, HB4.out _⟩
  subst e0
  by_cases f0 : f = 0
  case neg =>
    have r1 : gwE 0 f x y = f := by unfold gwE; rw [if_neg (by decide), if_pos f0]
    have r2 : gwW 0 f x y = 0 := if_neg (by rw [r1]; exact f0)
    rw [r1, r2]
    go_enter Try.func9, Try.ntmps9
    go_wp2_with (first
      | (go_at_call 20; (with_reducible refine G1.out.mono ?_); rintro e w' ⟨m, rfl, rfl⟩)
      | (go_at_call 20; (with_reducible refine (G2.out _).mono ?_); rintro e w' ⟨k, rfl, rfl⟩))
    go_ret2
    exact ⟨rfl, HB6.out _ _⟩
  subst f0
  by_cases x0 : x = 0
  · subst x0
    have q0 : FloatKind.f64.format.order 0 0 = some .eq := by kernel_rfl
    have r1 : gwE 0 0 0 y = 7 := by unfold gwE; rw [if_neg (by decide), if_neg (by decide), if_pos rfl]
    have r2 : gwW 0 0 0 y = 0 := if_neg (by rw [r1]; decide)
    rw [r1, r2]
    go_enter Try.func9, Try.ntmps9
    go_wp2_with (first
      | (go_at_call 20; (with_reducible refine G1.out.mono ?_); rintro e w' ⟨m, rfl, rfl⟩)
      | (go_at_call 20; (with_reducible refine (G2.out _).mono ?_); rintro e w' ⟨k, rfl, rfl⟩))
    go_ret2
    exact ⟨rfl, HB6.out _ _⟩
  have q0 := ord_gt l1 (Nat.zero_le _) (by omega : 0 < x)
  cases hfi : finB ((divO y x).getD 9218868437227405312)
  · have r1 : gwE 0 0 x y = 6 := by unfold gwE; rw [if_neg (by decide), if_neg (by decide), if_neg x0, if_pos hfi]
    have r2 : gwW 0 0 x y = 0 := if_neg (by rw [r1]; decide)
    rw [r1, r2]
    go_enter Try.func9, Try.ntmps9
    go_wp2_with (first
      | (go_at_call 20; (with_reducible refine G1.out.mono ?_); rintro e w' ⟨m, rfl, rfl⟩)
      | (go_at_call 20; (with_reducible refine (G2.out _).mono ?_); rintro e w' ⟨k, rfl, rfl⟩)
      | (go_at_call 21; (with_reducible refine (fin_pair (divV_lt _ _ _)).mono ?_); rintro e w' ⟨rfl, rfl⟩; rw [fin_div (rep_divV _ _ _), hfi]))
    go_ret2
    exact ⟨rfl, HB6.out _ _⟩
  · have r1 : gwE 0 0 x y = 0 := by unfold gwE; rw [if_neg (by decide), if_neg (by decide), if_neg x0, if_neg (by rw [hfi]; decide)]
    have r2 : gwW 0 0 x y = (divO y x).getD 9218868437227405312 := if_pos r1
    rw [r1, r2]
    go_enter Try.func9, Try.ntmps9
    go_wp2_with (first
      | (go_at_call 20; (with_reducible refine G1.out.mono ?_); rintro e w' ⟨m, rfl, rfl⟩)
      | (go_at_call 20; (with_reducible refine (G2.out _).mono ?_); rintro e w' ⟨k, rfl, rfl⟩)
      | (go_at_call 21; (with_reducible refine (fin_pair (divV_lt _ _ _)).mono ?_); rintro e w' ⟨rfl, rfl⟩; rw [fin_div (rep_divV _ _ _), hfi]))
    go_ret2
    exact ⟨by rw [← fin_self (rep_divV y x _) hfi]; rfl, HB6.out _ _⟩

end Go.Proofs.Ytgpjlobclcbniab
