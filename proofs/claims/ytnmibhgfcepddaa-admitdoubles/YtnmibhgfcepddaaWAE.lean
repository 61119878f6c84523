/-
  The walk of AdmitDoubles, whole.
-/
import Derived.Test.YtnmibhgfcepddaaWAD
namespace Go.Proofs.Ytnmibhgfcepddaa
open Fl RowKit
set_option linter.unusedVariables false

theorem fN_is {o : Option Nat} {s : Nat} (h : o = some s) : fN o = 0 := fN_some h
theorem toA_no {a b : Nat} (h : ¬ (toA a b).2.2 = 0) : (toA a b).1 = 0 ∧ (toA a b).2.1 = 0 := by
  unfold toA at *
  split
  · rename_i q; rw [if_pos q] at h; exact absurd rfl h
  · exact ⟨rfl, rfl⟩
theorem ofT_no {x : Elm} {o : Nat} (h : ¬ (ofT x o).2.2 = 0) : (ofT x o).1 = 0 ∧ (ofT x o).2.1 = 0 := by
  unfold ofT at *
  by_cases hc : ckA x o = 0
  · rw [if_pos hc] at h ⊢
    by_cases k1 : x.k = 1 ∨ x.k = 8
    · rw [if_pos k1] at h ⊢; exact toA_no h
    · rw [if_neg k1] at h ⊢
      by_cases k3 : x.k = 3
      · rw [if_pos k3] at h ⊢; exact toA_no h
      · rw [if_neg k3] at h ⊢
        by_cases k2 : x.k = 2
        · rw [if_pos k2] at h ⊢
          unfold ovA at *
          split
          · rename_i q; rw [if_pos q] at h; exact toA_no h
          · exact ⟨rfl, rfl⟩
        · rw [if_neg k2]; exact ⟨rfl, rfl⟩
  · rw [if_neg hc]; exact ⟨rfl, rfl⟩
theorem doubles_walk (w : World) (x : Elm) (hx : x.ok) (o : Nat) (ho : o < 18446744073709551616) :
    Calls Try.prog 6 #[inV x, .int .u64 (o : Int)] w fun e w' => e = .returned (.bool true) ∧ Below w.heap.size w w' := by
  have hb := ofT_bd (x := x) (o := o)
  obtain ⟨⟨a, b, f⟩, hu⟩ : ∃ u, ofT x o = u := ⟨_, rfl⟩
  rw [hu] at hb
  by_cases hf : f = 0
  · subst hf
    have hc : ckA x o = 0 := ofT_zero (by rw [hu])
    have hcj : cjT x o = (a, ngW b, 0) := by unfold cjT; rw [hu, if_pos rfl]
    have k1 := fun W => aof_v x o W hx ho a b 0 hu
    have k3 := fun W => acj_v x o W hx ho a (ngW b) 0 hcj
    have kc := fun W => conj_w a b W hb.1 hb.2
    have hk0 := (ck_zero hc).2
    have kk : Hid (∀ W, Calls Try.prog 26 #[.agg #[.int .u8 (x.k : Int), .string x.n, .string x.a, .string x.b, .string x.c, .string x.d, .float .f64 x.v, .int .i64 x.ph]] W fun e w' => e = .returned (.int .i64 0) ∧ Below W.heap.size W w') := fun W => by have := check_w x W hx; rwa [hk0] at this
    obtain ⟨fo, po⟩ := fr_zero (ck_zero hc).1
    have fv := (chk_zero hk0).1
    have no := (pos_ng po).1
    by_cases hk : x.k = 3 ∨ x.k = 2
    · have nv := (pos_ng ((chk_zero hk0).2 (abv_23 hk))).1
      have hm := mul_some fo fv
      have pm : pos (mW o x.v) := by
        have e1 : (ofT x o).2.2 = 0 := by rw [hu]
        have fm : finB (mW o x.v) = true := by
          rcases hk with q | q
          · rw [(of_k3 q hc).1] at e1; exact prA_err e1
          · rw [(of_k2 q hc).1] at e1; exact ovA_err e1
        have h3 := mW_ng fo fv no nv
        exact pos_of h3.2.2 (finB_iff.1 fm) h3.1
      have po1 := pos_of ho fo no
      have mv := mulV_of hm
      have mn := fN_some hm
      have c1 := lt_pos pm pos_lo
      have c2 := gt_pos pm pos_hi
      have c3 := gt_pos po1 pos_hi
      have c4 := lt_pos po1 pos_lo
      have hk3 : (x.k = 3 ∧ ((x.k : Int) != 3) = false ∧ ((x.k : Int) == 3) = true) ∨ (x.k = 2 ∧ ((x.k : Int) != 3) = true ∧ ((x.k : Int) != 2) = false ∧ ((x.k : Int) == 3) = false) := by
        rcases hk with q | q
        · left; rw [q]; exact ⟨rfl, rfl, rfl⟩
        · right; rw [q]; exact ⟨rfl, rfl, rfl, rfl⟩
      by_cases g1 : mW o x.v < 103582791429521408
      · rw [decide_eq_true g1] at c1
        rcases hk3 with ⟨-, q1, -⟩ | ⟨-, q1, q2, -⟩
        · exact dbl_e1_3 w x o a b _ q1 c1 mv mn k1 k3 kc kk
        · exact dbl_e1_2 w x o a b _ q1 q2 c1 mv mn k1 k3 kc kk
      · rw [decide_eq_false g1] at c1
        by_cases g2 : 9110782046170513408 < mW o x.v
        · rw [decide_eq_true g2] at c2
          rcases hk3 with ⟨-, q1, -⟩ | ⟨-, q1, q2, -⟩
          · exact dbl_e2_3 w x o a b _ q1 c1 c2 mv mn k1 k3 kc kk
          · exact dbl_e2_2 w x o a b _ q1 q2 c1 c2 mv mn k1 k3 kc kk
        · rw [decide_eq_false g2] at c2
          by_cases g3 : 9110782046170513408 < o
          · rw [decide_eq_true g3] at c3
            rcases hk3 with ⟨-, q1, -⟩ | ⟨-, q1, q2, -⟩
            · exact dbl_e3_3 w x o a b _ q1 c1 c2 c3 mv mn k1 k3 kc kk
            · exact dbl_e3_2 w x o a b _ q1 q2 c1 c2 c3 mv mn k1 k3 kc kk
          · rw [decide_eq_false g3] at c3
            by_cases g4 : o < 103582791429521408
            · rw [decide_eq_true g4] at c4
              rcases hk3 with ⟨-, q1, -⟩ | ⟨-, q1, q2, -⟩
              · exact dbl_e4_3 w x o a b _ q1 c1 c2 c3 c4 mv mn k1 k3 kc kk
              · exact dbl_e4_2 w x o a b _ q1 q2 c1 c2 c3 c4 mv mn k1 k3 kc kk
            · rw [decide_eq_false g4] at c4
              obtain ⟨q, q', D⟩ := dbl_of ho hx.v fo fv no nv (by unfold lo17; omega) (by unfold hi17; omega) (by unfold hi17; omega) (by unfold lo17; omega)
              have hc2 : ckA x (o + 4503599627370496) = 0 := by unfold ckA; rw [if_pos D.fr]; exact hk0
              have s1 := oeqn _ D.n1
              have s2 := oeqn _ D.n2
              rcases hk3 with ⟨q0, q1, q5⟩ | ⟨q0, q1, q2, q5⟩
              · obtain ⟨u1, u2⟩ := of_k3 q0 hc
                obtain ⟨u3, u4⟩ := of_k3 q0 hc2
                rw [hu, D.p1] at u1
                obtain ⟨rfl, rfl⟩ : a = 0 ∧ b = mW o x.v := by simpa using u1
                exact dbl_main_3 w x o (o + 4503599627370496) _ _ q q' q1 q5 c1 c2 c3 c4 mv mn (mulV_of D.m3) (fN_some D.m3) (mulV_of D.m1) (fN_some D.m1) (mulV_of D.m2) (fN_some D.m2) s1 s2 k1 k3 kc kk (fun W => aof_v x _ W hx D.o64 _ _ _ (u3.trans D.p2)) (fun W => aimp_v x _ W hx ho _ _ _ (u2.trans D.o1)) (fun W => aimp_v x _ W hx D.o64 _ _ _ (u4.trans D.o2))
              · obtain ⟨u1, u2⟩ := of_k2 q0 hc
                obtain ⟨u3, u4⟩ := of_k2 q0 hc2
                rw [hu, D.o1] at u1
                obtain ⟨rfl, rfl⟩ : a = 0 ∧ b = ngW q := by simpa using u1
                exact dbl_main_2 w x o (o + 4503599627370496) _ _ q q' q1 q2 q5 c1 c2 c3 c4 mv mn (mulV_of D.m3) (fN_some D.m3) (mulV_of D.m1) (fN_some D.m1) (mulV_of D.m2) (fN_some D.m2) s1 s2 k1 k3 kc kk (fun W => aof_v x _ W hx D.o64 _ _ _ (u3.trans D.o2)) (fun W => aimp_v x _ W hx ho _ _ _ (u2.trans D.p1)) (fun W => aimp_v x _ W hx D.o64 _ _ _ (u4.trans D.p2))
    · exact dbl_other w x o a b (by rw [bne_iff_ne]; omega) (by rw [bne_iff_ne]; omega) k1 k3 kc kk
  · have hcj : cjT x o = (0, 0, f) := by unfold cjT; rw [hu, if_neg hf]
    have ha : a = 0 ∧ b = 0 := by
      have h := ofT_no (x := x) (o := o) (by rw [hu]; exact hf)
      rw [hu] at h; exact h
    obtain ⟨rfl, rfl⟩ := ha
    exact dbl_err w x o f hf (fun W => aof_v x o W hx ho 0 0 f hu) (fun W => acj_v x o W hx ho 0 0 f hcj)
end Go.Proofs.Ytnmibhgfcepddaa
