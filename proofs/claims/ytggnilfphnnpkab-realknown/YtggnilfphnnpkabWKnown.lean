/-
  The walk of RealKnown: it hands back true and only lays new memory.
-/
import Derived.Test.YtggnilfphnnpkabAwake
import Derived.Test.YtggnilfphnnpkabLists
namespace Go.Proofs.Ytggnilfphnnpkab
open Fl RowKit

theorem inf_1 (w : World) : Calls Try.prog 5 #[.int .i64 1] w fun e w' => e = .returned (.float .f64 9218868437227405312) ∧ w' = w := by
  go_enter Try.func5, Try.ntmps5
  go_wp2
  go_ret
  exact ⟨rfl, rfl⟩
theorem nan_1 (w : World) : Calls Try.prog 7 #[] w fun e w' => e = .returned (.float .f64 9221120237041090561) ∧ w' = w := by
  go_enter Try.func7, Try.ntmps7
  go_wp2
  go_ret
  exact ⟨rfl, rfl⟩
theorem copysign_1 (w : World) : Calls Try.prog 6 #[.float .f64 0, .float .f64 13830554455654793216] w fun e w' => e = .returned (.float .f64 9223372036854775808) ∧ w' = w := by
  have b1 : bits BinOp.andNot IntKind.u64 0 9223372036854775808 = 0 := by kernel_rfl
  have b2 : bits BinOp.and IntKind.u64 13830554455654793216 9223372036854775808 = 9223372036854775808 := by kernel_rfl
  have b3 : bits BinOp.or IntKind.u64 0 9223372036854775808 = 9223372036854775808 := by kernel_rfl
  go_enter Try.func6, Try.ntmps6
  go_wp2
  go_ret
  exact ⟨rfl, rfl⟩

theorem nan_known : nan 9221120237041090561 = true := by decide
def l4 : List Nat := [9221120237041090561, 4613937818241073152, 4617315517961601024, 4617315517961601024]
def l2 : List Nat := [9223372036854775808, 0]
def l1 : List Nat := [9221120237041090561]
def l0 : List Nat := [9223372036854775808]
theorem bd_of {l : List Nat} (h : l.all (fun x => decide (x < 18446744073709551616)) = true) (k : Nat) : l.getD k 0 < 18446744073709551616 := by
  rw [List.getD_eq_getElem?_getD]
  cases hk : l[k]? with
  | none => simp
  | some v => simp only [Option.getD_some]; have := List.all_eq_true.1 h v (List.mem_of_getElem? hk); simpa using this
theorem great4 (W : World) : Calls Try.prog 14 #[.slice (some ⟨W.heap.size, 0, none⟩) 4 4] (W.alloc (.cells #[.float .f64 9221120237041090561, .float .f64 4613937818241073152, .float .f64 4617315517961601024, .float .f64 4617315517961601024] 22)) fun e w' =>
    e = .returned (.tuple #[.int .i64 2, .float .f64 4617315517961601024]) ∧ Below W.heap.size W w' := by
  refine (greatest_any (some ⟨W.heap.size, 0, none⟩) 4 l4 _ (by decide) (Rd_alloc W l4)).mono ?_
  rintro e w' ⟨rfl, rfl⟩
  exact ⟨ret2i (by kernel_rfl) (by kernel_rfl), below_alloc W _⟩
theorem great2 (W : World) : Calls Try.prog 14 #[.slice (some ⟨W.heap.size, 0, none⟩) 2 2] (W.alloc (.cells #[.float .f64 9223372036854775808, .float .f64 0] 22)) fun e w' =>
    e = .returned (.tuple #[.int .i64 0, .float .f64 9223372036854775808]) ∧ Below W.heap.size W w' := by
  refine (greatest_any (some ⟨W.heap.size, 0, none⟩) 2 l2 _ (by decide) (Rd_alloc W l2)).mono ?_
  rintro e w' ⟨rfl, rfl⟩
  exact ⟨ret2i (by kernel_rfl) (by kernel_rfl), below_alloc W _⟩
theorem great1 (W : World) : Calls Try.prog 14 #[.slice (some ⟨W.heap.size, 0, none⟩) 1 1] (W.alloc (.cells #[.float .f64 9221120237041090561] 22)) fun e w' =>
    e = .returned (.tuple #[.int .i64 (-1), .float .f64 0]) ∧ Below W.heap.size W w' := by
  refine (greatest_any (some ⟨W.heap.size, 0, none⟩) 1 l1 _ (by decide) (Rd_alloc W l1)).mono ?_
  rintro e w' ⟨rfl, rfl⟩
  exact ⟨ret2i (by kernel_rfl) (by kernel_rfl), below_alloc W _⟩
theorem sum1 (W : World) : Calls Try.prog 16 #[.slice (some ⟨W.heap.size, 0, none⟩) 1 1] (W.alloc (.cells #[.float .f64 9223372036854775808] 22)) fun e w' =>
    e = .returned (.float .f64 0) ∧ Below W.heap.size W w' := by
  refine (sum_any (some ⟨W.heap.size, 0, none⟩) 1 l0 _ (by decide) (Rd_alloc W l0) (bd_of (by decide))).mono ?_
  rintro e w' ⟨s, n, rfl, hs, rfl⟩
  exact ⟨retf (rep_is hs (by kernel_rfl)), below_drewN (below_alloc W _) n⟩
theorem sum3 (W : World) : Calls Try.prog 16 #[.slice (some ⟨W.heap.size, 0, none⟩) 3 3] (W.alloc (.cells #[.float .f64 4607182418800017408, .float .f64 4368491638549381120, .float .f64 4368491638549381120] 22)) fun e w' =>
    e = .returned (.float .f64 4607182418800017408) ∧ Below W.heap.size W w' := by
  refine (sum_any (some ⟨W.heap.size, 0, none⟩) 3 three _ (by decide) (Rd_alloc W three) (bd_of (by decide))).mono ?_
  rintro e w' ⟨s, n, rfl, hs, rfl⟩
  exact ⟨retf (rep_is hs su_s), below_drewN (below_alloc W _) n⟩

theorem bt {a b c : World} (h : Below a.heap.size a b) (k : Below b.heap.size b c) : Below a.heap.size a c := h.trans (k.mono h.size)
theorem neg_1 : Op.negFloat .f64 1 = 9223372036854775809 := by decide
theorem neg_inf : Op.negFloat .f64 9218868437227405312 = 18442240474082181120 := by decide
set_option maxRecDepth 100000 in
set_option maxHeartbeats 4000000 in
theorem known_walk (w : World) : Calls Try.prog 3 #[] w fun e w' => e = .returned (.bool true) ∧ Below w.heap.size w w' := by
  have s1 : smB 0 9223372036854775808 = false := by kernel_rfl
  have s2 : smB 9221120237041090561 18444492273895866659 = true := by kernel_rfl
  have s3 : smB 4607182418800017408 4607182418800017408 = true := by kernel_rfl
  have s4 : smB 9221120237041090561 4607182418800017408 = false := by kernel_rfl
  have k1 : kdB 9223372036854775808 = 0 := by kernel_rfl
  have k2 : kdB 1 = 1 := by kernel_rfl
  have k3 : kdB 4503599627370496 = 2 := by kernel_rfl
  have k4 : kdB 18442240474082181120 = 3 := by kernel_rfl
  have k5 : kdB 9221120237041090561 = 4 := by kernel_rfl
  have k6 : kdB 9218868437227405311 = 2 := by kernel_rfl
  have p1 : plB 9221120237041090561 = 0 := by kernel_rfl
  have p2 : plB 9223372036854775808 = 0 := by kernel_rfl
  have p3 : plB 9218868437227405312 = 9218868437227405312 := by kernel_rfl
  have n1 : nan 9221120237041090561 = true := by kernel_rfl
  have n2 : nan 9223372036854775808 = false := by kernel_rfl
  have n3 : nan 9218868437227405312 = false := by kernel_rfl
  have a1 : atB 9218868437227405313 = 0 := by kernel_rfl
  have a2 : atB (-9223372036854775808) = 0 := by kernel_rfl
  have i1 : inR 9218868437227405313 = false := by kernel_rfl
  have i2 : inR (-9223372036854775808) = false := by kernel_rfl
  have x1 : nxB 0 false = 9223372036854775809 := by kernel_rfl
  have x2 : nxB 9223372036854775809 true = 0 := by kernel_rfl
  have x3 : nxB 4607182418800017408 true = 4607182418800017409 := by kernel_rfl
  have x4 : nxB 9218868437227405312 true = 9218868437227405312 := by kernel_rfl
  have x5 : nxB 9218868437227405312 false = 9218868437227405311 := by kernel_rfl
  have x6 : nxB 9223372036854775808 true = 1 := by kernel_rfl
  have x7 : nxB 9221120237041090561 true = 9221120237041090561 := by kernel_rfl
  have o1 := oeq 0 (by decide)
  have o2 := oeq 9223372036854775809 (by decide)
  have o3 := oeq 4607182418800017409 (by decide)
  have o4 := oeq 9218868437227405312 (by decide)
  have o5 := oeq 9218868437227405311 (by decide)
  have o6 := oeq 1 (by decide)
  have o7 := order_nan nan_known
  have o8 := oeq 4617315517961601024 (by decide)
  have o9 := oeq 4607182418800017408 (by decide)
  have g1 := neg_1
  have g2 := neg_inf
  go_enter Try.func3, Try.ntmps3
  go_wp2_with (first
    | (go_at_call 5; refine (inf_1 _).mono ?_; rintro e w' ⟨rfl, rfl⟩)
    | (go_at_call 7; refine (nan_1 _).mono ?_; rintro e w' ⟨rfl, rfl⟩)
    | (go_at_call 6; refine (copysign_1 _).mono ?_; rintro e w' ⟨rfl, rfl⟩)
    | (go_at_call 8; refine (same_any _ _ _).mono ?_; rintro e w' ⟨rfl, rfl⟩)
    | (go_at_call 9; refine (kind_any _ _ (by decide)).mono ?_; rintro e w' ⟨rfl, rfl⟩)
    | (go_at_call 10; refine (place_any _ _ (by decide)).mono ?_; rintro e w' ⟨rfl, rfl⟩)
    | (go_at_call 11; refine (at_any _ _).mono ?_; rintro e w' ⟨rfl, rfl⟩)
    | (go_at_call 12; refine (next_any _ _ _ (by decide)).mono ?_; rintro e w' ⟨rfl, rfl⟩)
    | (go_at_call 14; with_reducible refine (great4 _).mono ?_; rintro e w4 ⟨rfl, hb4⟩)
    | (go_at_call 14; with_reducible refine (great2 _).mono ?_; rintro e w2 ⟨rfl, hb2⟩)
    | (go_at_call 14; with_reducible refine (great1 _).mono ?_; rintro e w1 ⟨rfl, hb1⟩)
    | (go_at_call 15; refine (awake_yes _).mono ?_; rintro e w5 ⟨rfl, hb5⟩)
    | (go_at_call 16; with_reducible refine (sum1 _).mono ?_; rintro e w6 ⟨rfl, hb6⟩)
    | (go_at_call 16; with_reducible refine (sum3 _).mono ?_; rintro e w7 ⟨rfl, hb7⟩))
  go_ret
  exact ⟨rfl, bt (bt (bt (bt (bt hb4 hb2) hb1) hb5) hb6) hb7⟩

end Go.Proofs.Ytggnilfphnnpkab
