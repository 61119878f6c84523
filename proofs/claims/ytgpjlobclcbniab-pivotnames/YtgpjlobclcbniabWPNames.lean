/-
  The walk of PivotNames.
-/
import Derived.Test.YtgpjlobclcbniabYf
import Derived.Test.YtgpjlobclcbniabXf
import Derived.Test.YtgpjlobclcbniabXc
import Derived.Test.YtgpjlobclcbniabPf
namespace Go.Proofs.Ytgpjlobclcbniab
open Fl RowKit

theorem choose_cl {W : World} {A : Option Addr} {n c : Nat} (xs : List Cw) {fr : Int} (I E : Int) (hI : chI xs fr = I) (hE : chE xs fr = E) (hn : xs.length = n) (hc : n ≤ c) (h8 : n ≤ 100) (h : Rc W A xs) (hx : okl xs) :
    Calls Try.prog 5 #[.slice A n c, .int .i64 fr] W fun e w' => e = .returned (.tuple #[.int .i64 I, .int .i64 E]) ∧ Below W.heap.size W w' := by
  subst hn
  refine (choose_any A c xs fr W (by omega) hc h hx).mono ?_
  rintro e w' ⟨m, rfl, rfl⟩
  rw [hI, hE]
  exact ⟨rfl, below_drewN (below_self W) m⟩
theorem ok1 {x y : Nat} (h : decide (x < 18446744073709551616 ∧ y < 18446744073709551616) = true) : okz (x, y) := by
  have h' := of_decide_eq_true h
  exact h'
def n1 : List Cw := [(4607182418800017408, 0), (4611686018427387904, 0), (4613937818241073152, 0)]
def n2 : List Cw := [(0, 0), (9223372036854775808, 0)]
def n3 : List Cw := [(9221120237041090561, 0), (4607182418800017408, 0)]
def n5 : List Cw := [(9217376869322697968, 9217376869322697968), (9217877911412700211, 9217877911412700211)]
theorem okn1 : okl n1 := okl_cons (ok1 (by decide)) (okl_cons (ok1 (by decide)) (okl_cons (ok1 (by decide)) okl_nil))
theorem okn2 : okl n2 := okl_cons (ok1 (by decide)) (okl_cons (ok1 (by decide)) okl_nil)
theorem okn3 : okl n3 := okl_cons (ok1 (by decide)) (okl_cons (ok1 (by decide)) okl_nil)
theorem okn5 : okl n5 := okl_cons (ok1 (by decide)) (okl_cons (ok1 (by decide)) okl_nil)
theorem l1 : n1.length = 3 := rfl
theorem l2 : n2.length = 2 := rfl
theorem l3 : n3.length = 2 := rfl
theorem l5 : n5.length = 2 := rfl
theorem k1 : chI n1 3 = 0 ∧ chE n1 3 = 2 := by constructor <;> kernel_rfl
theorem k2 : chI n2 0 = 0 ∧ chE n2 0 = 7 := by constructor <;> kernel_rfl
theorem k3 : chI n3 1 = 1 ∧ chE n3 1 = 0 := by constructor <;> kernel_rfl
theorem k4 : chI n3 0 = 0 ∧ chE n3 0 = 5 := by constructor <;> kernel_rfl
theorem k5 : chI n5 0 = 0 ∧ chE n5 0 = 0 := by constructor <;> kernel_rfl
def n6 : List Cw := List.replicate 65 (0, 0)
theorem okn6 : okl n6 := by
  intro k
  unfold n6 zat
  rw [List.getD_eq_getElem?_getD, List.getElem?_replicate]
  split <;> exact ⟨by decide, by decide⟩
theorem l6 : n6.length = 65 := rfl
theorem k6 : chI n6 0 = 0 ∧ chE n6 0 = 3 := by
  have h : chE n6 0 = 3 := chE_3 (by decide)
  exact ⟨chI_n (by rw [h]; decide), h⟩
theorem rc_made {w : World} {g : Nat} (h : w.ownsRow g 27 1 (.slice (some ⟨g, 0, none⟩) 65 65) 65 ((List.replicate 65 ((0, 0) : Cw)).map cx)) : Rc w (some ⟨g, 0, none⟩) n6 := by
  obtain ⟨A, C, hv, _, _, hr⟩ := own_rc (xs := n6) rfl h
  cases hv
  exact hr
theorem copy_0 (w : World) : Calls Try.prog 6 #[.float .f64 0, .float .f64 13830554455654793216] w fun e w' => e = .returned (.float .f64 9223372036854775808) ∧ w' = w :=
  (copysign_any 0 13830554455654793216 w (by decide) (by decide)).mono (by rintro e w' ⟨rfl, rfl⟩; exact ⟨by rw [show csW 0 13830554455654793216 = 9223372036854775808 from by kernel_rfl], rfl⟩)
theorem al_qi2 (W : World) (a b : Int) (t : TypeId) (B : Nat) (hB : W.heap.size = B) : Qi (W.alloc (.cells #[.int .i64 a, .int .i64 b] t)) (some ⟨B, 0, none⟩) [a, b] := by
  intro k hk
  refine ⟨B, 0, rfl, by rw [size_al]; omega, ?_⟩
  rw [Nat.zero_add, al_at W _ t B k hB]
  match k, hk with
  | 0, _ => rfl
  | 1, _ => rfl
theorem al_qi3 (W : World) (a b c : Int) (t : TypeId) (B : Nat) (hB : W.heap.size = B) : Qi (W.alloc (.cells #[.int .i64 a, .int .i64 b, .int .i64 c] t)) (some ⟨B, 0, none⟩) [a, b, c] := by
  intro k hk
  refine ⟨B, 0, rfl, by rw [size_al]; omega, ?_⟩
  rw [Nat.zero_add, al_at W _ t B k hB]
  match k, hk with
  | 0, _ => rfl
  | 1, _ => rfl
  | 2, _ => rfl
theorem parity_cl {W : World} {A : Option Addr} {n c : Nat} (zs : List Int) (p e0 : Int) (hp : paI zs = p) (he : rfE zs = e0) (hn : zs.length = n) (h8 : n ≤ 100) (h : Qi W A zs) :
    Calls Try.prog 7 #[.slice A n c] W fun e w' => e = .returned (.tuple #[.int .i64 p, .int .i64 e0]) ∧ Below W.heap.size W w' := by
  have := parity_any A c n zs W hn (by omega) h
  rw [hp, he] at this
  exact this
theorem past {W : World} {o : Obj} {a : Addr} (h : a.block < W.heap.size) : (W.alloc o).cell? a = W.cell? a := (bal W o).cell h
theorem names_facts (w8 W0 : World) (h : ((((((w8.alloc (.cells #[.int .i64 0, .int .i64 1, .int .i64 2] 3)).alloc (.cells #[.int .i64 1, .int .i64 0, .int .i64 2] 3)).alloc (.cells #[.int .i64 1, .int .i64 2, .int .i64 0] 3)).alloc (.cells #[] 3)).alloc (.cells #[.slice (some ⟨w8.heap.size, 0, none⟩) 3 3, .slice (some ⟨w8.heap.size + 1, 0, none⟩) 3 3, .slice (some ⟨w8.heap.size + 1 + 1, 0, none⟩) 3 3, .slice (some ⟨w8.heap.size + 1 + 1 + 1, 0, none⟩) 0 0] 30)).alloc (.cells #[.int .i64 1, .int .i64 (-1), .int .i64 1, .int .i64 1] 3)) = W0) :
    (W0.cell? ⟨w8.heap.size + 1 + 1 + 1 + 1, 0, none⟩ = some (.slice (some ⟨w8.heap.size, 0, none⟩) 3 3)) ∧ (W0.cell? ⟨w8.heap.size + 1 + 1 + 1 + 1, 1, none⟩ = some (.slice (some ⟨w8.heap.size + 1, 0, none⟩) 3 3)) ∧ (W0.cell? ⟨w8.heap.size + 1 + 1 + 1 + 1, 2, none⟩ = some (.slice (some ⟨w8.heap.size + 1 + 1, 0, none⟩) 3 3)) ∧ (W0.cell? ⟨w8.heap.size + 1 + 1 + 1 + 1, 3, none⟩ = some (.slice (some ⟨w8.heap.size + 1 + 1 + 1, 0, none⟩) 0 0)) ∧ (W0.cell? ⟨w8.heap.size + 1 + 1 + 1 + 1 + 1, 0, none⟩ = some (.int .i64 1)) ∧ (W0.cell? ⟨w8.heap.size + 1 + 1 + 1 + 1 + 1, 1, none⟩ = some (.int .i64 (-1))) ∧ (W0.cell? ⟨w8.heap.size + 1 + 1 + 1 + 1 + 1, 2, none⟩ = some (.int .i64 1)) ∧ (W0.cell? ⟨w8.heap.size + 1 + 1 + 1 + 1 + 1, 3, none⟩ = some (.int .i64 1)) ∧ (Qi W0 (some ⟨w8.heap.size, 0, none⟩) [0, 1, 2]) ∧ (Qi W0 (some ⟨w8.heap.size + 1, 0, none⟩) [1, 0, 2]) ∧ (Qi W0 (some ⟨w8.heap.size + 1 + 1, 0, none⟩) [1, 2, 0]) ∧ (W0.heap.size = w8.heap.size + 1 + 1 + 1 + 1 + 1 + 1) := by
  subst h
  exact ⟨by rw [past (by simp), al_at _ _ _ _ _ (by simp)]; rfl, by rw [past (by simp), al_at _ _ _ _ _ (by simp)]; rfl, by rw [past (by simp), al_at _ _ _ _ _ (by simp)]; rfl, by rw [past (by simp), al_at _ _ _ _ _ (by simp)]; rfl, by rw [al_at _ _ _ _ _ (by simp)]; rfl, by rw [al_at _ _ _ _ _ (by simp)]; rfl, by rw [al_at _ _ _ _ _ (by simp)]; rfl, by rw [al_at _ _ _ _ _ (by simp)]; rfl, ((((((al_qi3 _ 0 1 2 _ _ (by simp)).below (bal _ _)).below (bal _ _)).below (bal _ _)).below (bal _ _)).below (bal _ _)), (((((al_qi3 _ 1 0 2 _ _ (by simp)).below (bal _ _)).below (bal _ _)).below (bal _ _)).below (bal _ _)), ((((al_qi3 _ 1 2 0 _ _ (by simp)).below (bal _ _)).below (bal _ _)).below (bal _ _)), by simp⟩
theorem qi_nil (w : World) (A : Option Addr) : Qi w A [] := fun _ hk => absurd hk (Nat.not_lt_zero _)
theorem pz0 : paI [0, 1, 2] = 1 ∧ rfE [0, 1, 2] = 0 := by constructor <;> kernel_rfl
theorem lz0 : ([0, 1, 2] : List Int).length = 3 := rfl
theorem pz1 : paI [1, 0, 2] = -1 ∧ rfE [1, 0, 2] = 0 := by constructor <;> kernel_rfl
theorem lz1 : ([1, 0, 2] : List Int).length = 3 := rfl
theorem pz2 : paI [1, 2, 0] = 1 ∧ rfE [1, 2, 0] = 0 := by constructor <;> kernel_rfl
theorem lz2 : ([1, 2, 0] : List Int).length = 3 := rfl
theorem pz3 : paI [] = 1 ∧ rfE [] = 0 := by constructor <;> kernel_rfl
theorem lz3 : ([] : List Int).length = 0 := rfl
theorem pz4 : paI [0, 0] = 0 ∧ rfE [0, 0] = 2 := by constructor <;> kernel_rfl
theorem lz4 : ([0, 0] : List Int).length = 2 := rfl
theorem pz5 : paI [1, 2] = 0 ∧ rfE [1, 2] = 2 := by constructor <;> kernel_rfl
theorem lz5 : ([1, 2] : List Int).length = 2 := rfl
theorem sz1 : rfE [1, 0, 2] = 0 := by kernel_rfl
theorem sz2 : sw [1, 0, 2] 0 1 = [0, 1, 2] := by kernel_rfl
theorem sz3 : swE [1, 0, 2] 0 3 = 2 := by kernel_rfl
theorem swap_cl {W : World} {A : Option Addr} {c : Nat} (h : Qi W A [1, 0, 2]) : Calls Try.prog 8 #[.slice A 3 c, .int .i64 0, .int .i64 1] W fun e w' => ∃ g, e = .returned (.tuple #[.slice (some ⟨g, 0, none⟩) 3 3, .int .i64 0]) ∧ Qi w' (some ⟨g, 0, none⟩) [0, 1, 2] ∧ Below W.heap.size W w' :=
  (swapped_ok A c 3 0 1 [1, 0, 2] W rfl sz1 (by decide) (by decide) h).mono (by
    rintro e w' ⟨g, rfl, hI, hb⟩
    rw [sz2] at hI
    exact ⟨g, rfl, hI.qi, hb⟩)
theorem swap_er {W : World} {A : Option Addr} {c : Nat} (h : Qi W A [1, 0, 2]) : Calls Try.prog 8 #[.slice A 3 c, .int .i64 0, .int .i64 3] W fun e w' => e = .returned (.tuple #[.slice none 0 0, .int .i64 2]) ∧ Below W.heap.size W w' := by
  have := swapped_err A c 3 0 3 [1, 0, 2] W rfl (by decide) (by rw [sz3]; decide) h
  rw [sz3] at this
  exact this
def g1 : List Cw := [(4611686018427387904, 0)]
def g2 : List Cw := [(4607182418800017408, 13840687554816376832)]
def g3 : List Cw := [(0, 0)]
theorem okg1 : okl g1 := okl_cons (ok1 (by decide)) okl_nil
theorem okg2 : okl g2 := okl_cons (ok1 (by decide)) okl_nil
theorem okg3 : okl g3 := okl_cons (ok1 (by decide)) okl_nil
theorem gz1 : gwW (grE 1 1 g1) (grE 1 1 g2) (grW 1 1 g1) (grW 1 1 g2) = 4613937818241073152 ∧ gwE (grE 1 1 g1) (grE 1 1 g2) (grW 1 1 g1) (grW 1 1 g2) = 0 := by constructor <;> kernel_rfl
theorem gz2 : gwW (grE 1 1 g3) (grE 0 0 []) (grW 1 1 g3) (grW 0 0 []) = 0 ∧ gwE (grE 1 1 g3) (grE 0 0 []) (grW 1 1 g3) (grW 0 0 []) = 7 := by constructor <;> kernel_rfl
theorem grow_1 {W : World} {A A' : Option Addr} (h : Rc W A g1) (h' : Rc W A' g2) : Calls Try.prog 9 #[.agg #[.int .i64 1, .int .i64 1, .slice A 1 1], .agg #[.int .i64 1, .int .i64 1, .slice A' 1 1]] W fun e w' => e = .returned (.tuple #[.float .f64 4613937818241073152, .int .i64 0]) ∧ Below W.heap.size W w' := by
  have := growth_any 1 1 A 1 g1 1 1 A' 1 g2 W (by decide) (by decide) h okg1 h' okg2
  rw [gz1.1, gz1.2] at this
  exact this
theorem grow_2 {W : World} {A : Option Addr} (h : Rc W A g3) : Calls Try.prog 9 #[.agg #[.int .i64 1, .int .i64 1, .slice A 1 1], .agg #[.int .i64 0, .int .i64 0, .slice none 0 0]] W fun e w' => e = .returned (.tuple #[.float .f64 0, .int .i64 7]) ∧ Below W.heap.size W w' := by
  have := growth_any 1 1 A 1 g3 0 0 none 0 [] W (by decide) (by decide) h okg3 (Rc.nil _ _) okl_nil
  rw [gz2.1, gz2.2] at this
  exact this
set_option maxRecDepth 20000 in
set_option maxHeartbeats 16000000 in
theorem pnames_any (w : World) : Calls Try.prog 3 #[] w fun e w' => e = .returned (.bool true) ∧ Below w.heap.size w w' := by
  obtain ⟨i0, hi, hz0, hz1, hz2⟩ := info_parts Try.infoC
  have BX := hid_o (below_self w)
  have st : Stg 0 := ⟨trivial⟩
  go_enter Try.func3, Try.ntmps3
  go_wp2_with (first
    | (go_at_call 4; (with_reducible refine (nan_1 _).mono ?_); rintro e w1 ⟨rfl, hw1⟩; subst w1)
    | (go_at_call 6; (with_reducible refine (copy_0 _).mono ?_); rintro e w1 ⟨rfl, hw1⟩; subst w1)
    | ((have _ := (st : Stg 0)); go_at_call 5; (with_reducible refine (choose_cl n1 0 2 k1.1 k1.2 l1 (by omega) (by omega) ?h1 okn1).mono ?_); (case h1 => exact al_rc3 _ (4607182418800017408, 0) (4611686018427387904, 0) (4613937818241073152, 0) _ _ (by simp)); rintro e w2 ⟨rfl, hb⟩; have B2 := hid_o (b_of (ba BX.out _) hb (ba BX.out _).size); clear hb BX st; (have st : Stg 1 := ⟨trivial⟩))
    | ((have _ := (st : Stg 1)); go_at_call 5; (with_reducible refine (choose_cl n2 0 7 k2.1 k2.2 l2 (by omega) (by omega) ?h1 okn2).mono ?_); (case h1 => exact al_rc2 _ (0, 0) (9223372036854775808, 0) _ _ (by simp)); rintro e w3 ⟨rfl, hb⟩; have B3 := hid_o (b_of (ba B2.out _) hb (ba B2.out _).size); clear hb B2 st; (have st : Stg 2 := ⟨trivial⟩))
    | ((have _ := (st : Stg 2)); go_at_call 5; (with_reducible refine (choose_cl n3 1 0 k3.1 k3.2 l3 (by omega) (by omega) ?h1 okn3).mono ?_); (case h1 => exact al_rc2 _ (9221120237041090561, 0) (4607182418800017408, 0) _ _ (by simp)); rintro e w4 ⟨rfl, hb⟩; have B4 := hid_o (b_of (ba B3.out _) hb (ba B3.out _).size); clear hb B3 st; (have st : Stg 3 := ⟨trivial⟩))
    | ((have _ := (st : Stg 3)); go_at_call 5; (with_reducible refine (choose_cl n3 0 5 k4.1 k4.2 l3 (by omega) (by omega) ?h1 okn3).mono ?_); (case h1 => exact al_rc2 _ (9221120237041090561, 0) (4607182418800017408, 0) _ _ (by simp)); rintro e w5 ⟨rfl, hb⟩; have B5 := hid_o (b_of (ba B4.out _) hb (ba B4.out _).size); clear hb B4 st; (have st : Stg 4 := ⟨trivial⟩))
    | ((have _ := (st : Stg 4)); go_at_call 5; (with_reducible refine (choose_cl n5 0 0 k5.1 k5.2 l5 (by omega) (by omega) ?h1 okn5).mono ?_); (case h1 => exact al_rc2 _ (9217376869322697968, 9217376869322697968) (9217877911412700211, 9217877911412700211) _ _ (by simp)); rintro e w6 ⟨rfl, hb⟩; have B6 := hid_o (b_of (ba B5.out _) hb (ba B5.out _).size); clear hb B5 st; (have st : Stg 5 := ⟨trivial⟩))
    | (at_make; (refine wpList_make_full _ rfl _ _ 28 rfl w6.heap.size 27 i0 (.complex .f64 0 0) 1 Try.underlying28 hi hz0 hz1 _ _ _ _ 65 rfl rfl rfl rfl (by rw [hz2]; decide) (by unfold maxLen; omega) (Nat.le_refl _) ?_); intro w7 hown hgrow; have B7 := hid_o (B6.out.grown hgrow B6.out.size (by intro k hk; simp at hk)); rw [made_zeroC] at hown; have HOW := hid_o hown; clear hown hgrow B6)
    | ((have _ := (st : Stg 5)); go_at_call 5; (with_reducible refine (choose_cl n6 0 3 k6.1 k6.2 l6 (by omega) (by omega) (rc_made HOW.out) okn6).mono ?_); rintro e w8 ⟨rfl, hb⟩; have B8 := hid_o (b_of B7.out hb B7.out.size); clear hb B7 HOW st; (have st : Stg 6 := ⟨trivial⟩)))
  generalize hW0 : ((((((w8.alloc (.cells #[.int .i64 0, .int .i64 1, .int .i64 2] 3)).alloc (.cells #[.int .i64 1, .int .i64 0, .int .i64 2] 3)).alloc (.cells #[.int .i64 1, .int .i64 2, .int .i64 0] 3)).alloc (.cells #[] 3)).alloc (.cells #[.slice (some ⟨w8.heap.size, 0, none⟩) 3 3, .slice (some ⟨w8.heap.size + 1, 0, none⟩) 3 3, .slice (some ⟨w8.heap.size + 1 + 1, 0, none⟩) 3 3, .slice (some ⟨w8.heap.size + 1 + 1 + 1, 0, none⟩) 0 0] 30)).alloc (.cells #[.int .i64 1, .int .i64 (-1), .int .i64 1, .int .i64 1] 3)) = W0
  obtain ⟨l0, l1, l2, l3, s0, s1, s2, s3, q0, q1, q2, hsz0⟩ := names_facts w8 W0 hW0
  have BW : Hid (Below w.heap.size w W0) := by rw [← hW0]; exact ba (ba (ba (ba (ba (ba B8.out _) _) _) _) _) _
  clear hW0 B8
  go_loopw [18] (fun i wr => ∃ k : Nat, k ≤ 4 ∧ i = .int .i64 k ∧ Below W0.heap.size W0 wr) (fun i _ => 4 - (intOf i).toNat)
  case atStart => exact ⟨0, by omega, rfl, Below.refl _ _⟩
  case round =>
    obtain ⟨k, hk, rfl, hbel⟩ := hrel
    by_cases hlt : k < 4
    · rcases (by omega : k = 0 ∨ k = 1 ∨ k = 2 ∨ k = 3) with rfl | rfl | rfl | rfl
      · have hl := (hbel.cell (p := ⟨w8.heap.size + 1 + 1 + 1 + 1, 0, none⟩) (by show w8.heap.size + 1 + 1 + 1 + 1 < W0.heap.size; omega)).trans l0
        have hs := (hbel.cell (p := ⟨w8.heap.size + 1 + 1 + 1 + 1 + 1, 0, none⟩) (by show w8.heap.size + 1 + 1 + 1 + 1 + 1 < W0.heap.size; omega)).trans s0
        have HS := hid_o hs
        have HB := hid_o hbel
        have QH := hid_o (q0.below hbel)
        have hbz : w8.heap.size + 1 + 1 + 1 + 1 + 1 < W0.heap.size := by omega
        clear hs hbel
        go_wp2_with (first
          | (go_at_call 7; (with_reducible refine (parity_cl [0, 1, 2] 1 0 pz0.1 pz0.2 lz0 (by omega) (QH.out)).mono ?_); rintro e wp ⟨rfl, hbp⟩; have hs2 := (hbp.cell (p := ⟨w8.heap.size + 1 + 1 + 1 + 1 + 1, 0, none⟩) (Nat.lt_of_lt_of_le hbz HB.out.size)).trans HS.out; have BP := hid_o (b_of HB.out hbp HB.out.size); clear hbp HB HS))
        exact ⟨⟨1, by omega, by go_num, BP.out⟩, by simp [intOf]⟩
      · have hl := (hbel.cell (p := ⟨w8.heap.size + 1 + 1 + 1 + 1, 1, none⟩) (by show w8.heap.size + 1 + 1 + 1 + 1 < W0.heap.size; omega)).trans l1
        have hs := (hbel.cell (p := ⟨w8.heap.size + 1 + 1 + 1 + 1 + 1, 1, none⟩) (by show w8.heap.size + 1 + 1 + 1 + 1 + 1 < W0.heap.size; omega)).trans s1
        have HS := hid_o hs
        have HB := hid_o hbel
        have QH := hid_o (q1.below hbel)
        have hbz : w8.heap.size + 1 + 1 + 1 + 1 + 1 < W0.heap.size := by omega
        clear hs hbel
        go_wp2_with (first
          | (go_at_call 7; (with_reducible refine (parity_cl [1, 0, 2] (-1) 0 pz1.1 pz1.2 lz1 (by omega) (QH.out)).mono ?_); rintro e wp ⟨rfl, hbp⟩; have hs2 := (hbp.cell (p := ⟨w8.heap.size + 1 + 1 + 1 + 1 + 1, 1, none⟩) (Nat.lt_of_lt_of_le hbz HB.out.size)).trans HS.out; have BP := hid_o (b_of HB.out hbp HB.out.size); clear hbp HB HS))
        exact ⟨⟨2, by omega, by go_num, BP.out⟩, by simp [intOf]⟩
      · have hl := (hbel.cell (p := ⟨w8.heap.size + 1 + 1 + 1 + 1, 2, none⟩) (by show w8.heap.size + 1 + 1 + 1 + 1 < W0.heap.size; omega)).trans l2
        have hs := (hbel.cell (p := ⟨w8.heap.size + 1 + 1 + 1 + 1 + 1, 2, none⟩) (by show w8.heap.size + 1 + 1 + 1 + 1 + 1 < W0.heap.size; omega)).trans s2
        have HS := hid_o hs
        have HB := hid_o hbel
        have QH := hid_o (q2.below hbel)
        have hbz : w8.heap.size + 1 + 1 + 1 + 1 + 1 < W0.heap.size := by omega
        clear hs hbel
        go_wp2_with (first
          | (go_at_call 7; (with_reducible refine (parity_cl [1, 2, 0] 1 0 pz2.1 pz2.2 lz2 (by omega) (QH.out)).mono ?_); rintro e wp ⟨rfl, hbp⟩; have hs2 := (hbp.cell (p := ⟨w8.heap.size + 1 + 1 + 1 + 1 + 1, 2, none⟩) (Nat.lt_of_lt_of_le hbz HB.out.size)).trans HS.out; have BP := hid_o (b_of HB.out hbp HB.out.size); clear hbp HB HS))
        exact ⟨⟨3, by omega, by go_num, BP.out⟩, by simp [intOf]⟩
      · have hl := (hbel.cell (p := ⟨w8.heap.size + 1 + 1 + 1 + 1, 3, none⟩) (by show w8.heap.size + 1 + 1 + 1 + 1 < W0.heap.size; omega)).trans l3
        have hs := (hbel.cell (p := ⟨w8.heap.size + 1 + 1 + 1 + 1 + 1, 3, none⟩) (by show w8.heap.size + 1 + 1 + 1 + 1 + 1 < W0.heap.size; omega)).trans s3
        have HS := hid_o hs
        have HB := hid_o hbel
        have hbz : w8.heap.size + 1 + 1 + 1 + 1 + 1 < W0.heap.size := by omega
        clear hs hbel
        go_wp2_with (first
          | (go_at_call 7; (with_reducible refine (parity_cl [] 1 0 pz3.1 pz3.2 lz3 (by omega) (qi_nil _ _)).mono ?_); rintro e wp ⟨rfl, hbp⟩; have hs2 := (hbp.cell (p := ⟨w8.heap.size + 1 + 1 + 1 + 1 + 1, 3, none⟩) (Nat.lt_of_lt_of_le hbz HB.out.size)).trans HS.out; have BP := hid_o (b_of HB.out hbp HB.out.size); clear hbp HB HS))
        exact ⟨⟨4, by omega, by go_num, BP.out⟩, by simp [intOf]⟩
    · have e : k = 4 := by omega
      subst e
      have BX := hid_o (b_of BW.out hbel BW.out.size)
      clear l0 l1 l2 l3 s0 s1 s2 s3 q0 q1 q2 hbel BW hsz0
      have o3 : FloatKind.f64.format.order 4613937818241073152 4613937818241073152 = some .eq := by kernel_rfl
      go_wp2_with (first
        | ((have _ := (st : Stg 6)); go_at_call 7; (with_reducible refine (parity_cl [0, 0] 0 2 pz4.1 pz4.2 lz4 (by omega) ?h1).mono ?_); (case h1 => exact al_qi2 _ 0 0 _ _ (by simp)); rintro e wa ⟨rfl, hb⟩; have Ba := hid_o (b_of (ba BX.out _) hb (ba BX.out _).size); clear hb BX st; (have st : Stg 7 := ⟨trivial⟩))
        | ((have _ := (st : Stg 7)); go_at_call 7; (with_reducible refine (parity_cl [1, 2] 0 2 pz5.1 pz5.2 lz5 (by omega) ?h1).mono ?_); (case h1 => exact al_qi2 _ 1 2 _ _ (by simp)); rintro e wb ⟨rfl, hb⟩; have Bb := hid_o (b_of (ba Ba.out _) hb (ba Ba.out _).size); clear hb Ba st; (have st : Stg 8 := ⟨trivial⟩))
        | ((have _ := (st : Stg 8)); go_at_call 8; (with_reducible refine (swap_cl ?h1).mono ?_); (case h1 => exact al_qi3 _ 1 0 2 _ _ (by simp)); rintro e wc ⟨gs, rfl, hqs, hb⟩; have Bc := hid_o (b_of (ba Bb.out _) hb (ba Bb.out _).size); have Hqs := hid_o hqs; clear hb Bb hqs st; (have st : Stg 9 := ⟨trivial⟩))
        | ((have _ := (st : Stg 9)); go_at_call 8; (with_reducible refine (swap_er ?h1).mono ?_); (case h1 => exact al_qi3 _ 1 0 2 _ _ (by simp)); rintro e wd ⟨rfl, hb⟩; have Bd := hid_o (b_of (ba Bc.out _) hb (ba Bc.out _).size); have Hqd := hid_o ((Hqs.out.below (bal _ _)).below hb); clear hb Bc Hqs st; (have st : Stg 10 := ⟨trivial⟩))
        | ((have _ := (st : Stg 10)); go_at_call 9; (with_reducible refine (grow_1 ?h1 ?h2).mono ?_); (case h1 => exact (al_rc1 _ (4611686018427387904, 0) _ _ (by simp)).below (bal _ _)); (case h2 => exact al_rc1 _ (4607182418800017408, 13840687554816376832) _ _ (by simp)); rintro e we ⟨rfl, hb⟩; have Be := hid_o (b_of (ba (ba Bd.out _) _) hb (ba (ba Bd.out _) _).size); have Hqe := hid_o (((Hqd.out.below (bal _ _)).below (bal _ _)).below hb); clear hb Bd Hqd st; (have st : Stg 11 := ⟨trivial⟩))
        | ((have _ := (st : Stg 11)); go_at_call 9; (with_reducible refine (grow_2 ?h1).mono ?_); (case h1 => exact al_rc1 _ (0, 0) _ _ (by simp)); rintro e wf ⟨rfl, hb⟩; have Bf := hid_o (b_of (ba Be.out _) hb (ba Be.out _).size); have Hqf := hid_o ((Hqe.out.below (bal _ _)).below hb); clear hb Be Hqe st; (have st : Stg 12 := ⟨trivial⟩))
        | (go_at_call 10; (with_reducible refine (ksameI _ _ _ _ _ [0, 1, 2] _ lz0 (by omega) (Hqf.out.below (bal _ _)) ?h2).mono ?_); (case h2 => exact al_qi3 _ 0 1 2 _ _ (by simp)); rintro e wg ⟨mg', rfl, rfl⟩)
        | (go_at_call 11; (with_reducible refine (plives_any _).mono ?_); rintro e wh ⟨rfl, hb⟩; have Bh := hid_o (b_of (below_drewN (ba Bf.out _) _) hb (below_drewN (ba Bf.out _) _).size); clear hb Bf))
      go_ret
      exact ⟨rfl, Bh.out⟩

end Go.Proofs.Ytgpjlobclcbniab
