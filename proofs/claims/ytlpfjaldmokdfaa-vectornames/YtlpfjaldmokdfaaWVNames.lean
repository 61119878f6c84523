/-
  The walk of VectorNames: it hands back true and only lays new memory.
-/
import Derived.Test.YtlpfjaldmokdfaaVw
import Derived.Test.YtlpfjaldmokdfaaLdt
namespace Go.Proofs.Ytlpfjaldmokdfaa
open Fl RowKit

def na1 : Cw := (4607182418800017408, 4611686018427387904)
def na2 : Cw := (4613937818241073152, 4616189618054758400)
def nb1 : Cw := (0, 13835058055282163712)
def nb2 : Cw := (4607182418800017408, 4607182418800017408)
def ns1 : Cw := (4607182418800017408, 0)
def ns2 : Cw := (4616189618054758400, 4617315517961601024)
def nd1 : Cw := (4607182418800017408, 4616189618054758400)
def nd2 : Cw := (4611686018427387904, 4613937818241073152)
def nl1 : Cw := (4613937818241073152, 13839561654909534208)
def nl2 : Cw := (0, 4607182418800017408)
def nl3 : Cw := (13835058055282163712, 0)
def nnan : Cw := (9221120237041090561, 0)
def nbig : Cw := (9214364837600034816, 9214364837600034816)
theorem okl_a : okl [na1, na2] := okl_cons (by unfold okz na1; decide) (okl_cons (by unfold okz na2; decide) okl_nil)
theorem okl_b : okl [nb1, nb2] := okl_cons (by unfold okz nb1; decide) (okl_cons (by unfold okz nb2; decide) okl_nil)
theorem okl_l : okl [nl1, nl2, nl3] := okl_cons (by unfold okz nl1; decide) (okl_cons (by unfold okz nl2; decide) (okl_cons (by unfold okz nl3; decide) okl_nil))
theorem okz_nan : okz nnan := by unfold okz nnan; decide
theorem okz_one : okz ns1 := by unfold okz ns1; decide
theorem okz_big : okz nbig := by unfold okz nbig; decide
theorem two_eq {f : Nat → Cn} {zs : List Cw} {p q : Cw} (h : repl f 2 zs) (h0 : f 0 = (some p.1, some p.2)) (h1 : f 1 = (some q.1, some q.2)) (n0 : nan p.1 = false ∧ nan p.2 = false) (n1 : nan q.1 = false ∧ nan q.2 = false) : ∀ k, k < 2 → eqB (zat zs k).1 (zat [p, q] k).1 = true ∧ eqB (zat zs k).2 (zat [p, q] k).2 = true := by
  have k0 := h 0 (by omega)
  have k1 := h 1 (by omega)
  rw [h0] at k0
  rw [h1] at k1
  exact two_cases ⟨eq_word k0.1 rfl n0.1, eq_word k0.2 rfl n0.2⟩ ⟨eq_word k1.1 rfl n1.1, eq_word k1.2 rfl n1.2⟩
theorem nadd_closed (W : World) (B1 B2 : Nat) (h1 : Rc W (some ⟨B1, 0, none⟩) [na1, na2]) (h2 : Rc W (some ⟨B2, 0, none⟩) [nb1, nb2]) :
    Calls Try.prog 11 #[.slice (some ⟨B1, 0, none⟩) 2 2, .slice (some ⟨B2, 0, none⟩) 2 2] W fun e w' => ∃ g zs, e = .returned (.tuple #[.slice (some ⟨g, 0, none⟩) 2 2, .int .i64 0]) ∧ (zs.length = 2 ∧ Hid (∀ k, k < 2 → eqB (zat zs k).1 (zat [ns1, ns2] k).1 = true ∧ eqB (zat zs k).2 (zat [ns1, ns2] k).2 = true) ∧ Rc w' (some ⟨g, 0, none⟩) zs) ∧ Below W.heap.size W w' :=
  (vadd_ok _ _ 2 2 [na1, na2] [nb1, nb2] W rfl (by decide) h1 h2 okl_a okl_b).mono (by rintro e w' ⟨zs, rfl, hN, hb⟩; exact ⟨_, zs, rfl, ⟨hN.len, two_eq hN.rep (by kernel_rfl) (by kernel_rfl) (by decide) (by decide), new_rc hN⟩, hb⟩)
theorem nsub_closed (W : World) (B1 B2 : Nat) (h1 : Rc W (some ⟨B1, 0, none⟩) [na1, na2]) (h2 : Rc W (some ⟨B2, 0, none⟩) [nb1, nb2]) :
    Calls Try.prog 12 #[.slice (some ⟨B1, 0, none⟩) 2 2, .slice (some ⟨B2, 0, none⟩) 2 2] W fun e w' => ∃ g zs, e = .returned (.tuple #[.slice (some ⟨g, 0, none⟩) 2 2, .int .i64 0]) ∧ (zs.length = 2 ∧ Hid (∀ k, k < 2 → eqB (zat zs k).1 (zat [nd1, nd2] k).1 = true ∧ eqB (zat zs k).2 (zat [nd1, nd2] k).2 = true) ∧ Rc w' (some ⟨g, 0, none⟩) zs) ∧ Below W.heap.size W w' :=
  (vsub_ok _ _ 2 2 [na1, na2] [nb1, nb2] W rfl (by decide) h1 h2 okl_a okl_b).mono (by rintro e w' ⟨zs, rfl, hN, hb⟩; exact ⟨_, zs, rfl, ⟨hN.len, two_eq hN.rep (by kernel_rfl) (by kernel_rfl) (by decide) (by decide), new_rc hN⟩, hb⟩)
theorem ndot_none (W : World) : Calls Try.prog 13 #[.slice none 0 0, .slice none 0 0] W fun e w' => ∃ m, e = .returned (.tuple #[.complex .f64 0 0, .int .i64 0]) ∧ w' = W.drewN m :=
  (vdot_ok none none 0 0 [] [] W rfl (by decide) (Rc.nil _ _) (Rc.nil _ _) okl_nil okl_nil).mono (by rintro e w' ⟨s, m, rfl, hs, rfl⟩; rw [show s = (0, 0) from Prod.ext (rep_is hs.1 rfl) (rep_is hs.2 rfl)]; exact ⟨m, rfl, rfl⟩)
theorem nadd_err (W : World) (B1 B2 : Nat) : Calls Try.prog 11 #[.slice (some ⟨B1, 0, none⟩) 2 2, .slice (some ⟨B2, 0, none⟩) 1 2] W fun e w' => e = .returned (.tuple #[.slice none 0 0, .int .i64 4]) ∧ w' = W :=
  vadd_err _ _ 2 1 2 2 W (by decide) (by decide) (by decide)
theorem norm_closed {W : World} {ao : Option Addr} {cap : Nat} (n c : Nat) (xs : List Cw) (hn : xs.length = n) (hs : n ≤ 1000) (hc : Rc W ao xs) (hx : okl xs) (h : nrm xs n = some c) : Calls Try.prog 22 #[.slice ao n cap] W fun e w' => ∃ m, e = .returned (.float .f64 c) ∧ w' = W.drewN m := by
  subst hn
  exact (vnorm_any ao cap xs W (by omega) hc hx).mono (by rintro e w' ⟨s, m, rfl, hr, rfl⟩; rw [rep_is hr h]; exact ⟨m, rfl, rfl⟩)
theorem norm_nan {W : World} {B : Nat} (hc : Rc W (some ⟨B, 0, none⟩) [nnan]) : Calls Try.prog 22 #[.slice (some ⟨B, 0, none⟩) 1 1] W fun e w' => ∃ s m, e = .returned (.float .f64 s) ∧ (FloatKind.f64.format.order s s = none) ∧ w' = W.drewN m :=
  (vnorm_any _ 1 [nnan] W (by decide) hc (okl_cons okz_nan okl_nil)).mono (by rintro e w' ⟨s, m, rfl, hr, rfl⟩; exact ⟨s, m, rfl, order_nan (ans_none (hr.2.trans (by kernel_rfl))), rfl⟩)
theorem max_closed {W : World} {ao : Option Addr} {cap : Nat} (n c : Nat) (xs : List Cw) (hn : xs.length = n) (hs : n ≤ 1000) (hc : Rc W ao xs) (hx : okl xs) (h : nmx xs n = c) : Calls Try.prog 24 #[.slice ao n cap] W fun e w' => ∃ m, e = .returned (.float .f64 c) ∧ w' = W.drewN m := by
  subst hn
  exact (vmax_any ao cap xs W (by omega) hc hx).mono (by rintro e w' ⟨m, rfl, rfl⟩; rw [h]; exact ⟨m, rfl, rfl⟩)
theorem norm_l {W : World} {ao : Option Addr} (hc : Rc W ao [nl1, nl2, nl3]) : Calls Try.prog 22 #[.slice ao 3 3] W fun e w' => ∃ m, e = .returned (.float .f64 4621819117588971520) ∧ w' = W.drewN m := norm_closed 3 _ _ rfl (by decide) hc okl_l (by kernel_rfl)
theorem norm_0 (W : World) : Calls Try.prog 22 #[.slice none 0 0] W fun e w' => ∃ m, e = .returned (.float .f64 0) ∧ w' = W.drewN m := norm_closed 0 _ [] rfl (by decide) (Rc.nil _ _) okl_nil (by kernel_rfl)
theorem max_l {W : World} {ao : Option Addr} (hc : Rc W ao [nl1, nl2, nl3]) : Calls Try.prog 24 #[.slice ao 3 3] W fun e w' => ∃ m, e = .returned (.float .f64 4619567317775286272) ∧ w' = W.drewN m := max_closed 3 _ _ rfl (by decide) hc okl_l (by kernel_rfl)
theorem max_n1 {W : World} {ao : Option Addr} (hc : Rc W ao [nnan, ns1]) : Calls Try.prog 24 #[.slice ao 2 2] W fun e w' => ∃ m, e = .returned (.float .f64 4607182418800017408) ∧ w' = W.drewN m := max_closed 2 _ _ rfl (by decide) hc (okl_cons okz_nan (okl_cons okz_one okl_nil)) (by kernel_rfl)
theorem max_1n {W : World} {ao : Option Addr} (hc : Rc W ao [ns1, nnan]) : Calls Try.prog 24 #[.slice ao 2 2] W fun e w' => ∃ m, e = .returned (.float .f64 4607182418800017408) ∧ w' = W.drewN m := max_closed 2 _ _ rfl (by decide) hc (okl_cons okz_one (okl_cons okz_nan okl_nil)) (by kernel_rfl)
theorem max_n {W : World} {ao : Option Addr} (hc : Rc W ao [nnan]) : Calls Try.prog 24 #[.slice ao 1 1] W fun e w' => ∃ m, e = .returned (.float .f64 0) ∧ w' = W.drewN m := max_closed 1 _ _ rfl (by decide) hc (okl_cons okz_nan okl_nil) (by kernel_rfl)
theorem max_b {W : World} {ao : Option Addr} (hc : Rc W ao [nbig]) : Calls Try.prog 24 #[.slice ao 1 1] W fun e w' => ∃ m, e = .returned (.float .f64 9218868437227405312) ∧ w' = W.drewN m := max_closed 1 _ _ rfl (by decide) hc (okl_cons okz_big okl_nil) (by kernel_rfl)
theorem ldexp_1023 (w : World) : Calls Try.prog 38 #[.float .f64 4607182418800017408, .int .i64 1023] w fun e w' => ∃ n, e = .returned (.float .f64 9214364837600034816) ∧ w' = w.drewN n :=
  ldexp_hi 1023 0 2097 9214364837600034816 w (by decide) (by decide) (by decide) (by decide) (by decide) (by kernel_rfl)
theorem len_s : [ns1, ns2].length = 2 := rfl
theorem len_d : [nd1, nd2].length = 2 := rfl

set_option maxHeartbeats 4000000 in
theorem vnames_walk (w : World) : Calls Try.prog 6 #[] w fun e w' => e = .returned (.bool true) ∧ Below w.heap.size w w' := by
  have q0 : FloatKind.f64.format.order 0 0 = some .eq := by kernel_rfl
  have q1 : FloatKind.f64.format.order 4607182418800017408 4607182418800017408 = some .eq := by kernel_rfl
  have q7 : FloatKind.f64.format.order 4619567317775286272 4619567317775286272 = some .eq := by kernel_rfl
  have q10 : FloatKind.f64.format.order 4621819117588971520 4621819117588971520 = some .eq := by kernel_rfl
  have qi : FloatKind.f64.format.order 9218868437227405312 9218868437227405312 = some .eq := by kernel_rfl
  go_enter Try.func6, Try.ntmps6
  go_wp2_with (first
    | (go_at_call 11; (with_reducible refine (nadd_closed _ _ _ ?h1 ?h2).mono ?_); (case h1 => exact (al_rc2 _ na1 na2 _ _ (by simp)).below (ba (below_self _) _)); (case h2 => exact al_rc2 _ nb1 nb2 _ _ (by simp)); rintro e w1 ⟨g1, zs1, rfl, ⟨ka1, ka2, ka3⟩, hb⟩; (have R1 : Rc w1 (some ⟨w.heap.size, 0, none⟩) [na1, na2] := ((al_rc2 w na1 na2 _ _ rfl).below (ba (below_self _) _)).below hb); (have R2 : Rc w1 (some ⟨w.heap.size + 1, 0, none⟩) [nb1, nb2] := (al_rc2 _ nb1 nb2 _ _ (by simp)).below hb); (have BB : Below w.heap.size w w1 := by (refine Below.trans ?_ (hb.mono (by first | (simp; done) | (simp; omega))); repeat first | exact below_self _ | refine below_drewN ?_ _ | refine ba ?_ _)); clear hb)
    | (go_at_call 12; (with_reducible refine (nsub_closed _ _ _ R1 R2).mono ?_); rintro e w2 ⟨g2, zs2, rfl, ⟨kb1, kb2, kb3⟩, hb⟩; (have ka4 := ka3.below hb); clear ka3 R1 R2; (have BC : Below w.heap.size w w2 := BB.trans (hb.mono BB.size)); clear hb BB)
    | (go_at_call 13; (with_reducible refine (ndot_none _).mono ?_); rintro e w' ⟨m1, rfl, rfl⟩)
    | (go_at_call 11; (with_reducible refine (nadd_err _ _ _).mono ?_); rintro e w' ⟨rfl, rfl⟩)
    | (go_at_call 37; (refine (nan_1 _).mono ?_); rintro e w' ⟨rfl, rfl⟩)
    | (go_at_call 38; (with_reducible refine (ldexp_1023 _).mono ?_); rintro e w' ⟨m2, rfl, rfl⟩)
    | (go_at_call 39; (refine (inf_1 _).mono ?_); rintro e w' ⟨rfl, rfl⟩)
    | (go_at_call 22; (with_reducible refine (norm_nan ?h1).mono ?_); (case h1 => exact al_rc1 _ nnan _ _ (by simp)); rintro e w' ⟨s, m3, rfl, hord, rfl⟩)
    | (go_at_call 22; (with_reducible refine (norm_0 _).mono ?_); rintro e w' ⟨m4, rfl, rfl⟩)
    | (go_at_call 22; (with_reducible refine (norm_l ?h1).mono ?_); (case h1 => (refine (al_rc3 ?W nl1 nl2 nl3 29 ?B ?hB).below ?hb; (case hb => (repeat first | exact below_self _ | refine below_drewN ?_ _ | refine ba ?_ _)); (case hB => simp))); rintro e w' ⟨m4, rfl, rfl⟩)
    | (go_at_call 24; (with_reducible refine (max_l ?h1).mono ?_); (case h1 => (refine (al_rc3 ?W nl1 nl2 nl3 29 ?B ?hB).below ?hb; (case hb => (repeat first | exact below_self _ | refine below_drewN ?_ _ | refine ba ?_ _)); (case hB => simp))); rintro e w' ⟨m4, rfl, rfl⟩)
    | (go_at_call 24; (with_reducible refine (max_n1 ?h1).mono ?_); (case h1 => exact al_rc2 _ nnan ns1 _ _ (by simp)); rintro e w' ⟨m4, rfl, rfl⟩)
    | (go_at_call 24; (with_reducible refine (max_1n ?h1).mono ?_); (case h1 => exact al_rc2 _ ns1 nnan _ _ (by simp)); rintro e w' ⟨m4, rfl, rfl⟩)
    | (go_at_call 24; (with_reducible refine (max_n ?h1).mono ?_); (case h1 => exact al_rc1 _ nnan _ _ (by simp)); rintro e w' ⟨m4, rfl, rfl⟩)
    | (go_at_call 24; (with_reducible refine (max_b ?h1).mono ?_); (case h1 => exact al_rc1 _ nbig _ _ (by simp)); rintro e w' ⟨m4, rfl, rfl⟩)
    | (go_at_call 36; (with_reducible refine (awake_any _).mono ?_); rintro e w5 ⟨rfl, hb⟩; (have B5 : Below w2.heap.size w2 w5 := by (refine Below.trans ?_ (hb.mono (by first | (simp; done) | (simp; omega))); repeat first | exact below_self _ | refine below_drewN ?_ _ | refine ba ?_ _)); clear hb; (have BD : Below w.heap.size w w5 := BC.trans (B5.mono BC.size)); (have ka5 := ka4.below B5); (have kb5 := kb3.below B5); clear ka4 kb3 BC B5)
    | (go_at_call 40; (with_reducible refine (kequal_len 2 _ _ _ _ zs1 [ns1, ns2] _ (by omega) ka1 len_s ?h1 ?h2 ka2.out).mono ?_); (case h1 => exact ka5.below (ba (below_self _) _)); (case h2 => exact al_rc2 _ ns1 ns2 _ _ (by simp)); rintro e w' ⟨m6, rfl, rfl⟩)
    | (go_at_call 40; (with_reducible refine (kequal_len 2 _ _ _ _ zs2 [nd1, nd2] _ (by omega) kb1 len_d ?h1 ?h2 kb2.out).mono ?_); (case h1 => exact kb5.below (by repeat first | exact below_self _ | refine below_drewN ?_ _ | refine ba ?_ _)); (case h2 => exact al_rc2 _ nd1 nd2 _ _ (by simp)); rintro e w' ⟨m7, rfl, rfl⟩))
  go_ret
  refine ⟨rfl, ?_⟩
  refine BD.trans (Below.mono (w := w5) ?_ BD.size)
  repeat first | exact below_self _ | refine below_drewN ?_ _ | refine ba ?_ _
end Go.Proofs.Ytlpfjaldmokdfaa
