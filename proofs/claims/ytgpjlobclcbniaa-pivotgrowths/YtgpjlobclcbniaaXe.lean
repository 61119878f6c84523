/-
  What gridworkref08's Choose, Greatest and Growth hand back: the same as pivot's.
-/
import Derived.Test.YtgpjlobclcbniaaXd
import Derived.Test.YtgpjlobclcbniaaXc
namespace Go.Proofs.Ytgpjlobclcbniaa
open Fl RowKit

theorem rchoose_any (ao : Option Addr) (cap : Nat) (xs : List Cw) (fr : Int) (w : World) (hsz : xs.length * 16 ≤ 140737488355328) (hc : Rc w ao xs) (hx : okl xs) :
    Calls Try.prog 12 #[.slice ao xs.length cap, .int .i64 fr] w fun e w' => ∃ m, e = .returned (.tuple #[.int .i64 (chI xs fr), .int .i64 (chE xs fr)]) ∧ w' = w.drewN m := by
  by_cases h1 : 64 < xs.length
  · have e0 := chE_3 (fr := fr) h1
    rw [chI_n (by rw [e0]; decide), e0]
    clear hc hx
    go_enter Try.func12, Try.ntmps12
    go_wp2
    go_ret2
    first | exact ⟨0, rfl, rfl⟩ | exact ⟨rfl, 0, rfl⟩
  by_cases h2 : 0 ≤ fr ∧ fr < (xs.length : Int)
  case neg =>
    have e0 := chE_2 h1 h2
    rw [chI_n (by rw [e0]; decide), e0]
    clear hc hx e0
    by_cases h3 : 0 ≤ fr
    · have h4 : ¬ fr < (xs.length : Int) := fun h => h2 ⟨h3, h⟩
      clear h2
      go_enter Try.func12, Try.ntmps12
      go_wp2
      go_ret2
      first | exact ⟨0, rfl, rfl⟩ | exact ⟨rfl, 0, rfl⟩
    · clear h2
      go_enter Try.func12, Try.ntmps12
      go_wp2
      go_ret2
      first | exact ⟨0, rfl, rfl⟩ | exact ⟨rfl, 0, rfl⟩
  obtain ⟨f, rfl⟩ : ∃ f : Nat, fr = f := ⟨fr.toNat, by omega⟩
  obtain ⟨b, off, rfl, hb, _⟩ := hc 0 (by omega)
  have hf : f < xs.length := by omega
  refine rchoose_in b off xs.length f cap (xs.drop f) w (by omega) hf hb List.length_drop ?_ (okl_drop hx f) _ _ ?_ ?_ ?_
  · intro j hj
    obtain ⟨b', off', h1, h2, h3⟩ := hc (f + j) (by omega)
    cases h1
    rw [zat_drop]; exact h3
  · intro h
    have := chE_5 h1 hf h
    exact ⟨chI_n (by rw [this]; decide), this⟩
  · intro h h'
    have := chE_7 h1 hf h h'
    exact ⟨chI_n (by rw [this]; decide), this⟩
  · intro h h'
    have := chE_0 h1 hf h h'
    exact ⟨chI_0 this, this⟩

theorem run_max_pos {P : Program} {x y : Nat} (hx : x ≤ 9218868437227405312) (hy : y ≤ 9218868437227405312) (w : World) (ts : Array TypeId) (t : TypeId) :
    (Builtin.max_ ts t #[.float .f64 x, .float .f64 y]).run P w = .ok (.float .f64 (if x < y then y else x)) w := by
  have ho := ord_le hx hy
  by_cases h : x < y
  · rw [Int.compare_eq_lt.2 (by omega)] at ho
    simp [Builtin.max_, Builtin.max2, ho, h]
  · by_cases e : x = y
    · subst e
      rw [Int.compare_eq_eq.2 rfl] at ho
      simp [Builtin.max_, Builtin.max2, ho]
    · rw [Int.compare_eq_gt.2 (by omega)] at ho
      simp [Builtin.max_, Builtin.max2, ho, h]
set_option maxRecDepth 20000 in
set_option maxHeartbeats 2000000 in
theorem rgreatest_any (R C : Int) (A : Option Addr) (c : Nat) (xs : List Cw) (w : World) (hn : xs.length ≤ 1000000000000000) (hc : Rc w A xs) (hx : okl xs) :
    Calls Try.prog 18 #[.agg #[.int .i64 R, .int .i64 C, .slice A xs.length c]] w fun e w' => ∃ m, e = .returned (.tuple #[.float .f64 (grW R C xs), .int .i64 (grE R C xs)]) ∧ w' = (w.alloc (.cells #[.int .i64 R, .int .i64 C, .slice A xs.length c] 35)).drewN m := by
  have hc1 := hc.below (ba (below_self w) (.cells #[.int .i64 R, .int .i64 C, .slice A xs.length c] 35))
  have E4 : mb R C xs.length = false → grE R C xs = 4 := fun h => if_pos h
  have E5 : mb R C xs.length = true → finL xs xs.length = false → grE R C xs = 5 := fun h k => by unfold grE; rw [if_neg (by rw [h]; decide), if_pos k]
  have E0 : mb R C xs.length = true → finL xs xs.length = true → grE R C xs = 0 := fun h k => by unfold grE; rw [if_neg (by rw [h]; decide), if_neg (by rw [k]; decide)]
  have Wn : ¬ grE R C xs = 0 → grW R C xs = 0 := fun h => if_neg h
  have W0 : grE R C xs = 0 → grW R C xs = (hv xs).2 := fun h => if_pos h
  obtain ⟨E, hE⟩ : ∃ E, E = grE R C xs := ⟨_, rfl⟩
  obtain ⟨I, hI⟩ : ∃ I, I = grW R C xs := ⟨_, rfl⟩
  rw [← hE] at E4 E5 E0 Wn W0
  rw [← hI] at Wn W0
  rw [← hE, ← hI]
  clear hE hI hc
  cases h1 : mb R C xs.length
  · have e := E4 h1
    subst e
    have e := Wn (by decide)
    subst e
    clear E4 E5 E0 Wn W0 hc1
    have hno := of_decide_eq_false h1
    clear h1
    by_cases a1 : 0 ≤ R
    case neg =>
      clear hno
      go_enter Try.func18, Try.ntmps18
      go_wp2
      go_ret2
      first | exact ⟨0, rfl, rfl⟩ | exact ⟨rfl, 0, rfl⟩
    by_cases a2 : R ≤ 64
    case neg =>
      clear hno
      go_enter Try.func18, Try.ntmps18
      go_wp2
      go_ret2
      first | exact ⟨0, rfl, rfl⟩ | exact ⟨rfl, 0, rfl⟩
    by_cases a3 : 0 ≤ C
    case neg =>
      clear hno
      go_enter Try.func18, Try.ntmps18
      go_wp2
      go_ret2
      first | exact ⟨0, rfl, rfl⟩ | exact ⟨rfl, 0, rfl⟩
    by_cases a4 : C ≤ 64
    case neg =>
      clear hno
      go_enter Try.func18, Try.ntmps18
      go_wp2
      go_ret2
      first | exact ⟨0, rfl, rfl⟩ | exact ⟨rfl, 0, rfl⟩
    have a5 : ¬ (xs.length : Int) = wrap64 (R * C) := by
      have e0 : 0 ≤ R * C := Int.mul_nonneg a1 a3
      have e1 : R * C ≤ 64 * 64 := Int.mul_le_mul a2 a4 a3 (by omega)
      rw [wrap_small e0 (by omega)]
      exact fun h => hno ⟨a1, a2, a3, a4, h⟩
    clear hno
    obtain ⟨n, hne⟩ : ∃ n, n = xs.length := ⟨_, rfl⟩
    rw [← hne] at a5 hn ⊢
    clear hne hx
    have a7 : ((n : Int) != wrap64 (R * C)) = true := by rw [bne, beq_false_of_ne a5]; rfl
    go_enter Try.func18, Try.ntmps18
    go_wp2
    go_ret2
    first | exact ⟨0, rfl, rfl⟩ | exact ⟨rfl, 0, rfl⟩
  · have hm := mb_len h1
    obtain ⟨a1, a2, a3, a4, a5⟩ := of_decide_eq_true h1
    have a6 : (xs.length : Int) = wrap64 (R * C) := by
      have e0 : 0 ≤ R * C := Int.mul_nonneg a1 a3
      have e1 : R * C ≤ 64 * 64 := Int.mul_le_mul a2 a4 a3 (by omega)
      rw [wrap_small e0 (by omega)]
      exact a5
    have E5 := E5 h1
    have E0 := E0 h1
    clear E4 a5 h1
    have H5 := hid_of E5
    have H0 := hid_of E0
    have HWn := hid_of Wn
    have HW0 := hid_of W0
    clear E5 E0 Wn W0
    go_enter Try.func18, Try.ntmps18
    go_wp2
    go_loopw [4, 5] (fun g i wr => ∃ (k m s : Nat), k ≤ xs.length ∧ i = .int .i64 k ∧ g = .float .f64 s ∧ s = (fstG (wts xs) k).2 ∧ finL xs k = true ∧ wr = (w.alloc (.cells #[.int .i64 R, .int .i64 C, .slice A xs.length c] 35)).drewN m) (fun _ i _ => xs.length - (intOf i).toNat)
    case atStart => exact ⟨0, 0, 0, Nat.zero_le _, rfl, rfl, rfl, rfl, rfl⟩
    case round =>
      obtain ⟨k, m, s, hk, rfl, rfl, hs, hf, hw⟩ := hrel
      subst wr
      by_cases hlt : k < xs.length
      · obtain ⟨q, off, rfl, hb, hcx⟩ := hc1 k hlt
        have ho := hx k
        have F1 := @finL_lt xs k
        have F2 : finL xs (k + 1) = (finL xs k && finZ (zat xs k)) := rfl
        rw [hf, Bool.true_and] at F2
        have hsl : s ≤ 9218868437227405312 := by
          rw [hs]
          exact fstG_lim (fun j => wt_le (zat xs j)) k
        have HS : Hid ((fstG (wts xs) (k + 1)).2 = if s < wt (zat xs k) then wt (zat xs k) else s) := by
          show ((if (fstG (wts xs) k).2 < wts xs k then (k, wts xs k) else fstG (wts xs) k)).2 = _
          rw [← hs]
          show ((if s < wt (zat xs k) then (k, wt (zat xs k)) else fstG (wts xs) k)).2 = _
          split
          · rfl
          · exact hs.symm
        obtain ⟨x, hxe⟩ : ∃ x, x = zat xs k := ⟨_, rfl⟩
        rw [← hxe] at hcx ho HS F1 F2
        unfold cx at hcx
        have hwl := wt_le x
        have G1 : Hid (finZ x = false → finL xs xs.length = false) := fun h => F1 h _ hlt
        have G2 : Hid (finL xs (k + 1) = finZ x) := F2
        obtain ⟨s', hs'⟩ : ∃ s', s' = if s < wt x then wt x else s := ⟨_, rfl⟩
        have hmax := @run_max_pos Try.prog s (wt x) hsl hwl
        rw [← hs'] at hmax HS
        clear hs' hxe hs hx F1 F2 hf hc1
        cases f1 : finZ x
        · have e := H5.out (G1.out f1)
          subst e
          have e := HWn.out (by decide)
          subst e
          clear hmax
          go_wp2_with (go_at_call 45; (with_reducible refine rfin_walk.mono ?_); rintro e w1 ⟨kk, rfl, rfl⟩; rw [f1])
          go_ret2
          first | exact ⟨_, rfl, rfl⟩ | exact ⟨rfl, _, rfl⟩
        · go_wp2_with (first
            | (go_at_call 45; (with_reducible refine rfin_walk.mono ?_); rintro e w1 ⟨kk, rfl, rfl⟩; rw [f1])
            | (go_at_call 47; (with_reducible refine (rsize1_wt ho f1).mono ?_); rintro e w' ⟨m1, rfl, rfl⟩))
          exact ⟨⟨k + 1, _, s', by omega, by go_num, rfl, HS.out.symm, by rw [G2.out]; exact f1, rfl⟩, by simp [intOf]; omega⟩
      · have e : k = xs.length := by omega
        subst e
        have e := H0.out hf
        subst e
        have e := HW0.out rfl
        subst e
        have HS : Hid (s = (hv xs).2) := hs
        clear hs hf hx hc1
        go_wp2
        go_ret2
        first | exact ⟨m, by rw [HS.out]; rfl, rfl⟩ | exact ⟨by rw [HS.out]; rfl, m, rfl⟩
set_option maxHeartbeats 2000000 in
theorem rgrowth_any (R C : Int) (A : Option Addr) (c : Nat) (xs : List Cw) (R' C' : Int) (A' : Option Addr) (c' : Nat) (ys : List Cw) (w : World) (hn : xs.length ≤ 1000000000000000) (hn' : ys.length ≤ 1000000000000000) (hc : Rc w A xs) (hx : okl xs) (hc' : Rc w A' ys) (hx' : okl ys) :
    Calls Try.prog 20 #[.agg #[.int .i64 R, .int .i64 C, .slice A xs.length c], .agg #[.int .i64 R', .int .i64 C', .slice A' ys.length c']] w fun e w' => e = .returned (.tuple #[.float .f64 (gwW (grE R C xs) (grE R' C' ys) (grW R C xs) (grW R' C' ys)), .int .i64 (gwE (grE R C xs) (grE R' C' ys) (grW R C xs) (grW R' C' ys))]) ∧ Below w.heap.size w w' := by
  obtain ⟨O, hO⟩ : ∃ O, O = Obj.cells #[.int .i64 R, .int .i64 C, .slice A xs.length c] 35 := ⟨_, rfl⟩
  obtain ⟨O', hO'⟩ : ∃ O', O' = Obj.cells #[.int .i64 R', .int .i64 C', .slice A' ys.length c'] 35 := ⟨_, rfl⟩
  have B2 : Below w.heap.size w ((w.alloc O).alloc O') := ba (ba (below_self w) O) O'
  have B4 : ∀ m, Below w.heap.size w ((((w.alloc O).alloc O').alloc O).drewN m) := fun m => below_drewN (ba B2 O) m
  have B6 : ∀ m k, Below w.heap.size w ((((((w.alloc O).alloc O').alloc O).drewN m).alloc O').drewN k) := fun m k => below_drewN (ba (B4 m) O') k
  have hc1 := hc.below B2
  have hc2 := fun m => hc'.below (B4 m)
  have g1 := rgreatest_any R C A c xs _ hn hc1 hx
  have g2 := fun m => rgreatest_any R' C' A' c' ys _ hn' (hc2 m) hx'
  have l1 := grW_lim R C xs
  have l2 := grW_lim R' C' ys
  subst hO hO'
  obtain ⟨e, he⟩ : ∃ e, e = grE R C xs := ⟨_, rfl⟩
  obtain ⟨f, hf⟩ : ∃ f, f = grE R' C' ys := ⟨_, rfl⟩
  obtain ⟨x, hxe⟩ : ∃ x, x = grW R C xs := ⟨_, rfl⟩
  obtain ⟨y, hye⟩ : ∃ y, y = grW R' C' ys := ⟨_, rfl⟩
  rw [← he, ← hxe] at g1
  rw [← hxe] at l1
  rw [← hye] at l2
  have g2' := fun m => g2 m
  simp only [← hf, ← hye] at g2'
  rw [← he, ← hf, ← hxe, ← hye]
  have G1 := hid_of g1
  have G2 := hid_of g2'
  have HB4 := hid_of B4
  have HB6 := hid_of B6
  clear g1 g2 g2' B2 B4 B6 hc1 hc2 hc hc' hx hx' he hf hxe hye
  by_cases e0 : e = 0
  case neg =>
    have r1 : gwE e f x y = e := if_pos e0
    have r2 : gwW e f x y = 0 := if_neg (by rw [r1]; exact e0)
    rw [r1, r2]
    go_enter Try.func20, Try.ntmps20
    go_wp2_with (first
      | (go_at_call 18; (with_reducible refine G1.out.mono ?_); rintro e w' ⟨m, rfl, rfl⟩))
    go_ret2
    exact ⟨rfl, HB4.out _⟩
  subst e0
  by_cases f0 : f = 0
  case neg =>
    have r1 : gwE 0 f x y = f := by unfold gwE; rw [if_neg (by decide), if_pos f0]
    have r2 : gwW 0 f x y = 0 := if_neg (by rw [r1]; exact f0)
    rw [r1, r2]
    go_enter Try.func20, Try.ntmps20
    go_wp2_with (first
      | (go_at_call 18; (with_reducible refine G1.out.mono ?_); rintro e w' ⟨m, rfl, rfl⟩)
      | (go_at_call 18; (with_reducible refine (G2.out _).mono ?_); rintro e w' ⟨k, rfl, rfl⟩))
    go_ret2
    exact ⟨rfl, HB6.out _ _⟩
  subst f0
  by_cases x0 : x = 0
  · subst x0
    have q0 : FloatKind.f64.format.order 0 0 = some .eq := by kernel_rfl
    have r1 : gwE 0 0 0 y = 7 := by unfold gwE; rw [if_neg (by decide), if_neg (by decide), if_pos rfl]
    have r2 : gwW 0 0 0 y = 0 := if_neg (by rw [r1]; decide)
    rw [r1, r2]
    go_enter Try.func20, Try.ntmps20
    go_wp2_with (first
      | (go_at_call 18; (with_reducible refine G1.out.mono ?_); rintro e w' ⟨m, rfl, rfl⟩)
      | (go_at_call 18; (with_reducible refine (G2.out _).mono ?_); rintro e w' ⟨k, rfl, rfl⟩))
    go_ret2
    exact ⟨rfl, HB6.out _ _⟩
  have q0 := ord_gt l1 (Nat.zero_le _) (by omega : 0 < x)
  cases hfi : finB ((divO y x).getD 9218868437227405312)
  · have r1 : gwE 0 0 x y = 6 := by unfold gwE; rw [if_neg (by decide), if_neg (by decide), if_neg x0, if_pos hfi]
    have r2 : gwW 0 0 x y = 0 := if_neg (by rw [r1]; decide)
    rw [r1, r2]
    go_enter Try.func20, Try.ntmps20
    go_wp2_with (first
      | (go_at_call 18; (with_reducible refine G1.out.mono ?_); rintro e w' ⟨m, rfl, rfl⟩)
      | (go_at_call 18; (with_reducible refine (G2.out _).mono ?_); rintro e w' ⟨k, rfl, rfl⟩)
      | (go_at_call 51; (with_reducible refine (rfinR_any _ _).mono ?_); rintro e w' ⟨kk, rfl, rfl⟩; rw [fin_div (rep_divV _ _ _), hfi]))
    go_ret2
    exact ⟨rfl, HB6.out _ _⟩
  · have r1 : gwE 0 0 x y = 0 := by unfold gwE; rw [if_neg (by decide), if_neg (by decide), if_neg x0, if_neg (by rw [hfi]; decide)]
    have r2 : gwW 0 0 x y = (divO y x).getD 9218868437227405312 := if_pos r1
    rw [r1, r2]
    go_enter Try.func20, Try.ntmps20
    go_wp2_with (first
      | (go_at_call 18; (with_reducible refine G1.out.mono ?_); rintro e w' ⟨m, rfl, rfl⟩)
      | (go_at_call 18; (with_reducible refine (G2.out _).mono ?_); rintro e w' ⟨k, rfl, rfl⟩)
      | (go_at_call 51; (with_reducible refine (rfinR_any _ _).mono ?_); rintro e w' ⟨kk, rfl, rfl⟩; rw [fin_div (rep_divV _ _ _), hfi]))
    go_ret2
    exact ⟨by rw [← fin_self (rep_divV y x _) hfi]; rfl, HB6.out _ _⟩

end Go.Proofs.Ytgpjlobclcbniaa
