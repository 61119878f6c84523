/-
  Admittances: the document's answers.
-/
import Derived.Test.YtnmibhgfcepddaaAdd
namespace Go.Proofs.Ytnmibhgfcepddaa
open Fl RowKit
set_option linter.unusedVariables false

theorem rang_any (x : Nat) (w : World) (hx : x < 18446744073709551616) :
    Calls Try.prog 41 #[.float .f64 x] w fun e w' => ∃ n, e = .returned (.int .i64 (frI x)) ∧ w' = w.drewN n := by
  cases hf : finB x
  · have hr : frI x = 5 := by unfold frI; rw [if_pos hf]
    rw [hr]
    have HF : Hid _ := hf
    clear hr hf
    go_enter Try.func41, Try.ntmps41
    go_wp2_with (first | (go_at_call 42; refine (rfinR_any x _).mono ?_; rintro e w' ⟨n, rfl, rfl⟩; rw [HF.out]))
    go_ret
    exact ⟨n, rfl, rfl⟩
  · have hn := fin_nan hf
    cases hp : posV x
    · have hr : frI x = 2 := by unfold frI; rw [hf, hp]; rfl
      rw [hr]
      have HF : Hid _ := hf
      have h1 : ¬ FloatKind.f64.format.order x 0 = some .gt := fun q => by rw [(gt_iff hn).2 q] at hp; cases hp
      clear hr hf hp hn
      go_enter Try.func41, Try.ntmps41
      go_wp2_with (first | (go_at_call 42; refine (rfinR_any x _).mono ?_; rintro e w' ⟨n, rfl, rfl⟩; rw [HF.out]))
      all_goals go_ret
      all_goals first | exact ⟨n, rfl, rfl⟩ | simp_all
    · have hr : frI x = 0 := by unfold frI; rw [hf, hp]; rfl
      rw [hr]
      have HF : Hid _ := hf
      have h1 := (gt_iff hn).1 hp
      clear hr hf hp hn
      go_enter Try.func41, Try.ntmps41
      go_wp2_with (first | (go_at_call 42; refine (rfinR_any x _).mono ?_; rintro e w' ⟨n, rfl, rfl⟩; rw [HF.out]))
      all_goals go_ret
      all_goals first | exact ⟨n, rfl, rfl⟩ | simp_all
theorem undrN {a b : World} {n : Nat} (h : Below (a.drewN n).heap.size (a.drewN n) b) : Below a.heap.size a b := by
  obtain ⟨h1, h2, h3, h4, h5⟩ := h
  exact ⟨h1, h2, h3, h4, h5⟩
theorem below_dN {m : Nat} {a b : World} (h : Below m a b) (n : Nat) : Below m a (b.drewN n) := by
  obtain ⟨h1, h2, h3, h4, h5⟩ := h
  exact ⟨h1, h2, h3, h4, h5⟩
theorem rcheck_w (x : Elm) (w : World) (h : x.ok) : Calls Try.prog 52 #[.agg #[.int .u8 (x.k : Int), .string x.n, .string x.a, .string x.b, .string x.c, .string x.d, .float .f64 x.v, .int .i64 x.ph]] w fun e w' => e = .returned (.int .i64 (chkI x)) ∧ Below w.heap.size w w' := vrcheck_any x w h
/-- P17.1 but for what is over -/
def mayI (x : Elm) (o : Nat) : Int := if ckA x o = 0 then (if x.k = 1 ∨ x.k = 8 ∨ x.k = 2 ∨ x.k = 3 then 0 else 2) else ckA x o
theorem EC.dN {w W : World} {p n : Nat} {x : Elm} (h : EC w W p x) : EC w (W.drewN n) p x := ⟨below_dN h.bel n, h.e⟩
theorem ne_beq {a b : Int} (h : (a == b) = true) : (a != b) = false := by rw [bne, h]; rfl
theorem ne_bne {a b : Int} (h : (a == b) = false) : (a != b) = true := by rw [bne, h]; rfl
set_option maxRecDepth 100000 in
set_option maxHeartbeats 2000000 in
theorem rmay_any (x : Elm) (o : Nat) (w : World) (h : x.ok) (ho : o < 18446744073709551616) :
    Calls Try.prog 35 #[elV x, .float .f64 o] w fun e w' => e = .returned (.int .i64 (mayI x o)) ∧ Below w.heap.size w w' := by
  have E0 : Hid (EC w (w.alloc (.cells (elA x) 28)) w.heap.size x) := ec_new w x
  by_cases hf : frI o = 0
  · have hr : mayI x o = if chkI x = 0 then (if x.k = 1 ∨ x.k = 8 ∨ x.k = 2 ∨ x.k = 3 then 0 else 2) else chkI x := by unfold mayI ckA; rw [if_pos hf]
    have HA : Hid (∀ W, Calls Try.prog 41 #[.float .f64 o] W fun e w' => ∃ n, e = .returned (.int .i64 0) ∧ w' = W.drewN n) := fun W => by have := rang_any o W ho; rwa [hf] at this
    rw [hr]
    clear hr hf
    by_cases hc : chkI x = 0
    · rw [if_pos hc]
      have HC : Hid (∀ W, Calls Try.prog 52 #[.agg #[.int .u8 (x.k : Int), .string x.n, .string x.a, .string x.b, .string x.c, .string x.d, .float .f64 x.v, .int .i64 x.ph]] W fun e w' => e = .returned (.int .i64 0) ∧ Below W.heap.size W w') := fun W => by have := rcheck_w x W h; rwa [hc] at this
      clear hc
      rcases kinds4b x.k with hk | hk | hk | ⟨k1, k8, k2, k3⟩
      · rw [if_pos (by omega)]
        rcases hk with hk | hk
        · have b1 : ((x.k : Int) != 1) = false := by rw [hk]; rfl
          clear hk
          unfold elV
          go_enter Try.func35, Try.ntmps35
          go_wp2_with (first
            | (go_at_call 41; (with_reducible refine (HA.out _).mono ?_); rintro e w1 ⟨n, rfl, rfl⟩; (have E1 : Hid (EC w _ w.heap.size x) := E0.out.dN (n := n)); (obtain ⟨l1, c10, c11, c12, c13, c14, c15, c16, c17⟩ := E1.out.f); clear E0)
            | (go_at_call 52; (with_reducible refine (HC.out _).mono ?_); rintro e w2 ⟨rfl, hb⟩; (have E2 : Hid _ := E1.out.below hb); (obtain ⟨l2, c20, c21, c22, c23, c24, c25, c26, c27⟩ := E2.out.f); clear hb E1 c10 c11 c12 c13 c14 c15 c16 c17))
          all_goals go_ret
          all_goals first | exact ⟨rfl, E2.out.bel⟩ | simp_all
        · have b1 : ((x.k : Int) != 1) = true := by rw [hk]; rfl
          have b2 : ((x.k : Int) != 8) = false := by rw [hk]; rfl
          clear hk
          unfold elV
          go_enter Try.func35, Try.ntmps35
          go_wp2_with (first
            | (go_at_call 41; (with_reducible refine (HA.out _).mono ?_); rintro e w1 ⟨n, rfl, rfl⟩; (have E1 : Hid (EC w _ w.heap.size x) := E0.out.dN (n := n)); (obtain ⟨l1, c10, c11, c12, c13, c14, c15, c16, c17⟩ := E1.out.f); clear E0)
            | (go_at_call 52; (with_reducible refine (HC.out _).mono ?_); rintro e w2 ⟨rfl, hb⟩; (have E2 : Hid _ := E1.out.below hb); (obtain ⟨l2, c20, c21, c22, c23, c24, c25, c26, c27⟩ := E2.out.f); clear hb E1 c10 c11 c12 c13 c14 c15 c16 c17))
          all_goals go_ret
          all_goals first | exact ⟨rfl, E2.out.bel⟩ | simp_all
      · rw [if_pos (by omega)]
        have b1 : ((x.k : Int) != 1) = true := by rw [hk]; rfl
        have b2 : ((x.k : Int) != 8) = true := by rw [hk]; rfl
        have b3 : ((x.k : Int) != 2) = false := by rw [hk]; rfl
        clear hk
        unfold elV
        go_enter Try.func35, Try.ntmps35
        go_wp2_with (first
          | (go_at_call 41; (with_reducible refine (HA.out _).mono ?_); rintro e w1 ⟨n, rfl, rfl⟩; (have E1 : Hid (EC w _ w.heap.size x) := E0.out.dN (n := n)); (obtain ⟨l1, c10, c11, c12, c13, c14, c15, c16, c17⟩ := E1.out.f); clear E0)
          | (go_at_call 52; (with_reducible refine (HC.out _).mono ?_); rintro e w2 ⟨rfl, hb⟩; (have E2 : Hid _ := E1.out.below hb); (obtain ⟨l2, c20, c21, c22, c23, c24, c25, c26, c27⟩ := E2.out.f); clear hb E1 c10 c11 c12 c13 c14 c15 c16 c17))
        all_goals go_ret
        all_goals first | exact ⟨rfl, E2.out.bel⟩ | simp_all
      · rw [if_pos (by omega)]
        have b1 : ((x.k : Int) != 1) = true := by rw [hk]; rfl
        have b2 : ((x.k : Int) != 8) = true := by rw [hk]; rfl
        have b3 : ((x.k : Int) != 2) = true := by rw [hk]; rfl
        have b4 : ((x.k : Int) != 3) = false := by rw [hk]; rfl
        clear hk
        unfold elV
        go_enter Try.func35, Try.ntmps35
        go_wp2_with (first
          | (go_at_call 41; (with_reducible refine (HA.out _).mono ?_); rintro e w1 ⟨n, rfl, rfl⟩; (have E1 : Hid (EC w _ w.heap.size x) := E0.out.dN (n := n)); (obtain ⟨l1, c10, c11, c12, c13, c14, c15, c16, c17⟩ := E1.out.f); clear E0)
          | (go_at_call 52; (with_reducible refine (HC.out _).mono ?_); rintro e w2 ⟨rfl, hb⟩; (have E2 : Hid _ := E1.out.below hb); (obtain ⟨l2, c20, c21, c22, c23, c24, c25, c26, c27⟩ := E2.out.f); clear hb E1 c10 c11 c12 c13 c14 c15 c16 c17))
        all_goals go_ret
        all_goals first | exact ⟨rfl, E2.out.bel⟩ | simp_all
      · rw [if_neg (by omega)]
        have b1 : ((x.k : Int) != 1) = true := by rw [bne_iff_ne]; omega
        have b2 : ((x.k : Int) != 8) = true := by rw [bne_iff_ne]; omega
        have b3 : ((x.k : Int) != 2) = true := by rw [bne_iff_ne]; omega
        have b4 : ((x.k : Int) != 3) = true := by rw [bne_iff_ne]; omega
        clear k1 k2 k3 k8
        unfold elV
        go_enter Try.func35, Try.ntmps35
        go_wp2_with (first
          | (go_at_call 41; (with_reducible refine (HA.out _).mono ?_); rintro e w1 ⟨n, rfl, rfl⟩; (have E1 : Hid (EC w _ w.heap.size x) := E0.out.dN (n := n)); (obtain ⟨l1, c10, c11, c12, c13, c14, c15, c16, c17⟩ := E1.out.f); clear E0)
          | (go_at_call 52; (with_reducible refine (HC.out _).mono ?_); rintro e w2 ⟨rfl, hb⟩; (have E2 : Hid _ := E1.out.below hb); (obtain ⟨l2, c20, c21, c22, c23, c24, c25, c26, c27⟩ := E2.out.f); clear hb E1 c10 c11 c12 c13 c14 c15 c16 c17))
        all_goals go_ret
        all_goals first | exact ⟨rfl, E2.out.bel⟩ | simp_all
    · rw [if_neg hc]
      have hq : (chkI x != 0) = true := by simp [hc]
      clear hc
      unfold elV
      go_enter Try.func35, Try.ntmps35
      go_wp2_with (first
        | (go_at_call 41; (with_reducible refine (HA.out _).mono ?_); rintro e w1 ⟨n, rfl, rfl⟩; (have E1 : Hid (EC w _ w.heap.size x) := E0.out.dN (n := n)); (obtain ⟨l1, c10, c11, c12, c13, c14, c15, c16, c17⟩ := E1.out.f); clear E0)
        | (go_at_call 52; (with_reducible refine (rcheck_w x _ h).mono ?_); rintro e w2 ⟨rfl, hb⟩; (have E2 : Hid _ := E1.out.below hb); clear hb E1 c10 c11 c12 c13 c14 c15 c16 c17))
      all_goals go_ret
      all_goals first | exact ⟨rfl, E2.out.bel⟩ | simp_all
  · have hr : mayI x o = frI o := by unfold mayI ckA; rw [if_neg hf, if_neg hf]
    rw [hr]
    have hq : (frI o != 0) = true := by simp [hf]
    clear hr hf
    unfold elV
    go_enter Try.func35, Try.ntmps35
    go_wp2_with (first
      | (go_at_call 41; (with_reducible refine (rang_any o _ ho).mono ?_); rintro e w1 ⟨n, rfl, rfl⟩))
    all_goals go_ret
    all_goals exact ⟨rfl, (E0.out.dN (n := n)).bel⟩
end Go.Proofs.Ytnmibhgfcepddaa
