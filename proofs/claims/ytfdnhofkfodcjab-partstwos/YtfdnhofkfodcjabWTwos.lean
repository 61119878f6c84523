/-
  The walk of PartsTwos: it hands back true.
-/
import Derived.Test.YtfdnhofkfodcjabTw6
import Derived.Test.YtfdnhofkfodcjabLdt
import Derived.Test.YtfdnhofkfodcjabPl
namespace Go.Proofs.Ytfdnhofkfodcjab
open Fl RowKit

@[go_sem] theorem run_negComplex (a b : Nat) (w : World) : (Op.unary UnOp.neg (.complex .f64 a b)).run Try.prog w = .ok (.complex .f64 (Op.negFloat .f64 a) (Op.negFloat .f64 b)) w := rfl
theorem ldexp_t (k : Nat) (hk : k ≤ 255) (w : World) : Calls Try.prog 5 #[.float .f64 4607182418800017408, .int .i64 ((k : Int) - 128)] w fun e w' => ∃ t n, e = .returned (.float .f64 t) ∧ isT k t ∧ w' = w.drewN n := by
  obtain ⟨h1, h2, h3⟩ := t_rung hk
  have h := ldexp_any 1 (946 + k) w (by omega) (by omega) h1 h2
  have e1 : floatOfInt .f64 ((1 : Nat) : Int) = 4607182418800017408 := by kernel_rfl
  have e2 : (((946 + k : Nat) : Int) - 1074) = (k : Int) - 128 := by omega
  rw [e1, e2] at h
  refine h.mono ?_
  rintro e w' ⟨n, rfl, rfl⟩
  exact ⟨_, n, rfl, h3, rfl⟩

set_option maxRecDepth 100000 in
set_option maxHeartbeats 8000000 in
theorem twos_walk (p q c d : Int) (k : Nat) (w : World) (p1 : -32768 ≤ p) (p2 : p < 32768) (q1 : -32768 ≤ q) (q2 : q < 32768) (c1 : -32768 ≤ c) (c2 : c < 32768) (d1 : -32768 ≤ d) (d2 : d < 32768) (hk : k ≤ 255) :
    Calls Try.prog 3 #[.int .i16 p, .int .i16 q, .int .i16 c, .int .i16 d, .int .u8 (k : Int)] w fun e w' => e = .returned (.bool true) ∧ Below w.heap.size w w' := by
  have hp : p.natAbs ≤ 32768 := by omega
  have hq : q.natAbs ≤ 32768 := by omega
  have hc : c.natAbs ≤ 32768 := by omega
  have hd : d.natAbs ≤ 32768 := by omega
  have ra : rep (ans (fw p)) (floatOfInt .f64 p) := rep_ans (fw_lt p)
  have rb : rep (ans (fw q)) (floatOfInt .f64 q) := rep_ans (fw_lt q)
  have rc : rep (ans (fw c)) (floatOfInt .f64 c) := rep_ans (fw_lt c)
  have rd : rep (ans (fw d)) (floatOfInt .f64 d) := rep_ans (fw_lt d)
  have m1 := mul_small hp hc
  have m2 := mul_small hq hd
  have m3 := mul_small hp hd
  have m4 := mul_small hq hc
  have rP : rep (ans (fw (p * c - q * d))) (floatOfInt .f64 (p * c - q * d)) := rep_ans (fw_lt _)
  have rQ : rep (ans (fw (p * d + q * c))) (floatOfInt .f64 (p * d + q * c)) := rep_ans (fw_lt _)
  have zc : (FloatKind.f64.format.order (floatOfInt .f64 c) 0 == some .eq) = decide (mg (fw c) = 0) := eqB_zero (fw c)
  have zd : (FloatKind.f64.format.order (floatOfInt .f64 d) 0 == some .eq) = decide (mg (fw d) = 0) := eqB_zero (fw d)
  by_cases h1 : mg (fw c) = 0
  · rw [decide_eq_true h1] at zc
    by_cases h2 : mg (fw d) = 0
    · rw [decide_eq_true h2] at zd
      clear h1 h2
      go_enter Try.func3, Try.ntmps3
      go_wp2_with (first
        | (go_at_call 5; refine (ldexp_t k hk _).mono ?_; rintro e w' ⟨t, n, rfl, ht, rfl⟩; have rt : rep (ans t) t := rep_ans (by have := ht.pos; unfold pos at this; omega))
        | (go_at_call 6; refine (lives_any _).mono ?_; rintro e w' ⟨n, rfl, rfl⟩)
        | (go_at_call 7; refine (add_any _ ra rb rc rd).mono ?_; rintro e w' ⟨re, im, n, rfl, h1, h2, rfl⟩; have o1 : FloatKind.f64.format.order re (floatOfInt .f64 (p + c)) = some .eq := t_add hp hc h1; have o2 : FloatKind.f64.format.order im (floatOfInt .f64 (q + d)) = some .eq := t_add hq hd h2; clear h1 h2)
        | (go_at_call 8; refine (sub_any _ ra rb rc rd).mono ?_; rintro e w' ⟨re, im, n, rfl, h1, h2, rfl⟩; have o1 : FloatKind.f64.format.order re (floatOfInt .f64 (p - c)) = some .eq := t_sub hp hc h1; have o2 : FloatKind.f64.format.order im (floatOfInt .f64 (q - d)) = some .eq := t_sub hq hd h2; clear h1 h2)
        | (go_at_call 9; (with_reducible refine (mul_any _ ra rb rc rd).mono ?_); rintro e w' ⟨re, im, n, rfl, h1, h2, rfl⟩; have o1 : FloatKind.f64.format.order re (floatOfInt .f64 (p * c - q * d)) = some .eq := (t_mul hp hq hc hd h1 h2).1; have o2 : FloatKind.f64.format.order im (floatOfInt .f64 (p * d + q * c)) = some .eq := (t_mul hp hq hc hd h1 h2).2; clear h1 h2)
        | (go_at_call 10; (with_reducible refine (scale_any _ ra rb rt).mono ?_); rintro e w' ⟨sp, sq, n, rfl, hsp, hsq, rfl⟩)
        | (go_at_call 9; (with_reducible refine (mul_any _ hsp hsq rc rd).mono ?_); rintro e w' ⟨mr, mi, n, rfl, hmr, hmi, rfl⟩)
        | (go_at_call 10; (with_reducible refine (scale_any _ rP rQ rt).mono ?_); rintro e w' ⟨vr, vi, n, rfl, hvr, hvi, rfl⟩; have o1 := t_msRe ht hp hq hc hd hmr hvr; have o2 := t_msIm ht hp hq hc hd hmi hvi)
        | (go_at_call 11; (with_reducible refine (div_any _ hsp hsq rc rd).mono ?_); rintro e w' ⟨dr, di, n, rfl, hdr, hdi, rfl⟩)
        | (go_at_call 11; (with_reducible refine (div_any _ ra rb rc rd).mono ?_); rintro e w' ⟨wr, wi, n, rfl, hwr, hwi, rfl⟩)
        | (go_at_call 10; (with_reducible refine (scale_any _ hwr hwi rt).mono ?_); rintro e w' ⟨xr, xi, n, rfl, hxr, hxi, rfl⟩; have o1 := (t_div ht hp hq hc hd hb.out hdr hxr hdi hxi).1; have o2 := (t_div ht hp hq hc hd hb.out hdr hxr hdi hxi).2)
        | (go_at_call 11; (with_reducible refine (div_any _ ra rb (rep_ans (x := 13830554455654793216) (by decide)) (rep_ans (x := 0) (by decide))).mono ?_); rintro e w' ⟨re, im, n, rfl, h1, h2, rfl⟩; have o1 : FloatKind.f64.format.order re (Op.negFloat .f64 (floatOfInt .f64 p)) = some .eq := (u_m1 hp hq h1 h2).1; have o2 : FloatKind.f64.format.order im (Op.negFloat .f64 (floatOfInt .f64 q)) = some .eq := (u_m1 hp hq h1 h2).2; clear h1 h2)
        | (go_at_call 11; (with_reducible refine (div_any _ ra rb (rep_ans (x := 0) (by decide)) (rep_ans (x := 4607182418800017408) (by decide))).mono ?_); rintro e w' ⟨re, im, n, rfl, h1, h2, rfl⟩; have o1 : FloatKind.f64.format.order re (floatOfInt .f64 q) = some .eq := (u_i hp hq h1 h2).1; have o2 : FloatKind.f64.format.order im (Op.negFloat .f64 (floatOfInt .f64 p)) = some .eq := (u_i hp hq h1 h2).2; clear h1 h2)
        | (go_at_call 11; (with_reducible refine (div_any _ ra rb (rep_ans (x := 0) (by decide)) (rep_ans (x := 13830554455654793216) (by decide))).mono ?_); rintro e w' ⟨re, im, n, rfl, h1, h2, rfl⟩; have o1 : FloatKind.f64.format.order re (Op.negFloat .f64 (floatOfInt .f64 q)) = some .eq := (u_mi hp hq h1 h2).1; have o2 : FloatKind.f64.format.order im (floatOfInt .f64 p) = some .eq := (u_mi hp hq h1 h2).2; clear h1 h2))
      go_ret
      refine ⟨rfl, ?_⟩
      repeat first
        | exact below_self _
        | refine below_drewN ?_ _
    · rw [decide_eq_false h2] at zd
      have hb : Hid (¬ (mg (fw c) = 0 ∧ mg (fw d) = 0)) := fun h => h2 h.2
      clear h1 h2
      go_enter Try.func3, Try.ntmps3
      go_wp2_with (first
        | (go_at_call 5; refine (ldexp_t k hk _).mono ?_; rintro e w' ⟨t, n, rfl, ht, rfl⟩; have rt : rep (ans t) t := rep_ans (by have := ht.pos; unfold pos at this; omega))
        | (go_at_call 6; refine (lives_any _).mono ?_; rintro e w' ⟨n, rfl, rfl⟩)
        | (go_at_call 7; refine (add_any _ ra rb rc rd).mono ?_; rintro e w' ⟨re, im, n, rfl, h1, h2, rfl⟩; have o1 : FloatKind.f64.format.order re (floatOfInt .f64 (p + c)) = some .eq := t_add hp hc h1; have o2 : FloatKind.f64.format.order im (floatOfInt .f64 (q + d)) = some .eq := t_add hq hd h2; clear h1 h2)
        | (go_at_call 8; refine (sub_any _ ra rb rc rd).mono ?_; rintro e w' ⟨re, im, n, rfl, h1, h2, rfl⟩; have o1 : FloatKind.f64.format.order re (floatOfInt .f64 (p - c)) = some .eq := t_sub hp hc h1; have o2 : FloatKind.f64.format.order im (floatOfInt .f64 (q - d)) = some .eq := t_sub hq hd h2; clear h1 h2)
        | (go_at_call 9; (with_reducible refine (mul_any _ ra rb rc rd).mono ?_); rintro e w' ⟨re, im, n, rfl, h1, h2, rfl⟩; have o1 : FloatKind.f64.format.order re (floatOfInt .f64 (p * c - q * d)) = some .eq := (t_mul hp hq hc hd h1 h2).1; have o2 : FloatKind.f64.format.order im (floatOfInt .f64 (p * d + q * c)) = some .eq := (t_mul hp hq hc hd h1 h2).2; clear h1 h2)
        | (go_at_call 10; (with_reducible refine (scale_any _ ra rb rt).mono ?_); rintro e w' ⟨sp, sq, n, rfl, hsp, hsq, rfl⟩)
        | (go_at_call 9; (with_reducible refine (mul_any _ hsp hsq rc rd).mono ?_); rintro e w' ⟨mr, mi, n, rfl, hmr, hmi, rfl⟩)
        | (go_at_call 10; (with_reducible refine (scale_any _ rP rQ rt).mono ?_); rintro e w' ⟨vr, vi, n, rfl, hvr, hvi, rfl⟩; have o1 := t_msRe ht hp hq hc hd hmr hvr; have o2 := t_msIm ht hp hq hc hd hmi hvi)
        | (go_at_call 11; (with_reducible refine (div_any _ hsp hsq rc rd).mono ?_); rintro e w' ⟨dr, di, n, rfl, hdr, hdi, rfl⟩)
        | (go_at_call 11; (with_reducible refine (div_any _ ra rb rc rd).mono ?_); rintro e w' ⟨wr, wi, n, rfl, hwr, hwi, rfl⟩)
        | (go_at_call 10; (with_reducible refine (scale_any _ hwr hwi rt).mono ?_); rintro e w' ⟨xr, xi, n, rfl, hxr, hxi, rfl⟩; have o1 := (t_div ht hp hq hc hd hb.out hdr hxr hdi hxi).1; have o2 := (t_div ht hp hq hc hd hb.out hdr hxr hdi hxi).2)
        | (go_at_call 11; (with_reducible refine (div_any _ ra rb (rep_ans (x := 13830554455654793216) (by decide)) (rep_ans (x := 0) (by decide))).mono ?_); rintro e w' ⟨re, im, n, rfl, h1, h2, rfl⟩; have o1 : FloatKind.f64.format.order re (Op.negFloat .f64 (floatOfInt .f64 p)) = some .eq := (u_m1 hp hq h1 h2).1; have o2 : FloatKind.f64.format.order im (Op.negFloat .f64 (floatOfInt .f64 q)) = some .eq := (u_m1 hp hq h1 h2).2; clear h1 h2)
        | (go_at_call 11; (with_reducible refine (div_any _ ra rb (rep_ans (x := 0) (by decide)) (rep_ans (x := 4607182418800017408) (by decide))).mono ?_); rintro e w' ⟨re, im, n, rfl, h1, h2, rfl⟩; have o1 : FloatKind.f64.format.order re (floatOfInt .f64 q) = some .eq := (u_i hp hq h1 h2).1; have o2 : FloatKind.f64.format.order im (Op.negFloat .f64 (floatOfInt .f64 p)) = some .eq := (u_i hp hq h1 h2).2; clear h1 h2)
        | (go_at_call 11; (with_reducible refine (div_any _ ra rb (rep_ans (x := 0) (by decide)) (rep_ans (x := 13830554455654793216) (by decide))).mono ?_); rintro e w' ⟨re, im, n, rfl, h1, h2, rfl⟩; have o1 : FloatKind.f64.format.order re (Op.negFloat .f64 (floatOfInt .f64 q)) = some .eq := (u_mi hp hq h1 h2).1; have o2 : FloatKind.f64.format.order im (floatOfInt .f64 p) = some .eq := (u_mi hp hq h1 h2).2; clear h1 h2))
      go_ret
      refine ⟨rfl, ?_⟩
      repeat first
        | exact below_self _
        | refine below_drewN ?_ _
  · rw [decide_eq_false h1] at zc
    have hb : Hid (¬ (mg (fw c) = 0 ∧ mg (fw d) = 0)) := fun h => h1 h.1
    clear h1 zd
    go_enter Try.func3, Try.ntmps3
    go_wp2_with (first
      | (go_at_call 5; refine (ldexp_t k hk _).mono ?_; rintro e w' ⟨t, n, rfl, ht, rfl⟩; have rt : rep (ans t) t := rep_ans (by have := ht.pos; unfold pos at this; omega))
      | (go_at_call 6; refine (lives_any _).mono ?_; rintro e w' ⟨n, rfl, rfl⟩)
      | (go_at_call 7; refine (add_any _ ra rb rc rd).mono ?_; rintro e w' ⟨re, im, n, rfl, h1, h2, rfl⟩; have o1 : FloatKind.f64.format.order re (floatOfInt .f64 (p + c)) = some .eq := t_add hp hc h1; have o2 : FloatKind.f64.format.order im (floatOfInt .f64 (q + d)) = some .eq := t_add hq hd h2; clear h1 h2)
      | (go_at_call 8; refine (sub_any _ ra rb rc rd).mono ?_; rintro e w' ⟨re, im, n, rfl, h1, h2, rfl⟩; have o1 : FloatKind.f64.format.order re (floatOfInt .f64 (p - c)) = some .eq := t_sub hp hc h1; have o2 : FloatKind.f64.format.order im (floatOfInt .f64 (q - d)) = some .eq := t_sub hq hd h2; clear h1 h2)
      | (go_at_call 9; (with_reducible refine (mul_any _ ra rb rc rd).mono ?_); rintro e w' ⟨re, im, n, rfl, h1, h2, rfl⟩; have o1 : FloatKind.f64.format.order re (floatOfInt .f64 (p * c - q * d)) = some .eq := (t_mul hp hq hc hd h1 h2).1; have o2 : FloatKind.f64.format.order im (floatOfInt .f64 (p * d + q * c)) = some .eq := (t_mul hp hq hc hd h1 h2).2; clear h1 h2)
      | (go_at_call 10; (with_reducible refine (scale_any _ ra rb rt).mono ?_); rintro e w' ⟨sp, sq, n, rfl, hsp, hsq, rfl⟩)
      | (go_at_call 9; (with_reducible refine (mul_any _ hsp hsq rc rd).mono ?_); rintro e w' ⟨mr, mi, n, rfl, hmr, hmi, rfl⟩)
      | (go_at_call 10; (with_reducible refine (scale_any _ rP rQ rt).mono ?_); rintro e w' ⟨vr, vi, n, rfl, hvr, hvi, rfl⟩; have o1 := t_msRe ht hp hq hc hd hmr hvr; have o2 := t_msIm ht hp hq hc hd hmi hvi)
      | (go_at_call 11; (with_reducible refine (div_any _ hsp hsq rc rd).mono ?_); rintro e w' ⟨dr, di, n, rfl, hdr, hdi, rfl⟩)
      | (go_at_call 11; (with_reducible refine (div_any _ ra rb rc rd).mono ?_); rintro e w' ⟨wr, wi, n, rfl, hwr, hwi, rfl⟩)
      | (go_at_call 10; (with_reducible refine (scale_any _ hwr hwi rt).mono ?_); rintro e w' ⟨xr, xi, n, rfl, hxr, hxi, rfl⟩; have o1 := (t_div ht hp hq hc hd hb.out hdr hxr hdi hxi).1; have o2 := (t_div ht hp hq hc hd hb.out hdr hxr hdi hxi).2)
      | (go_at_call 11; (with_reducible refine (div_any _ ra rb (rep_ans (x := 13830554455654793216) (by decide)) (rep_ans (x := 0) (by decide))).mono ?_); rintro e w' ⟨re, im, n, rfl, h1, h2, rfl⟩; have o1 : FloatKind.f64.format.order re (Op.negFloat .f64 (floatOfInt .f64 p)) = some .eq := (u_m1 hp hq h1 h2).1; have o2 : FloatKind.f64.format.order im (Op.negFloat .f64 (floatOfInt .f64 q)) = some .eq := (u_m1 hp hq h1 h2).2; clear h1 h2)
      | (go_at_call 11; (with_reducible refine (div_any _ ra rb (rep_ans (x := 0) (by decide)) (rep_ans (x := 4607182418800017408) (by decide))).mono ?_); rintro e w' ⟨re, im, n, rfl, h1, h2, rfl⟩; have o1 : FloatKind.f64.format.order re (floatOfInt .f64 q) = some .eq := (u_i hp hq h1 h2).1; have o2 : FloatKind.f64.format.order im (Op.negFloat .f64 (floatOfInt .f64 p)) = some .eq := (u_i hp hq h1 h2).2; clear h1 h2)
      | (go_at_call 11; (with_reducible refine (div_any _ ra rb (rep_ans (x := 0) (by decide)) (rep_ans (x := 13830554455654793216) (by decide))).mono ?_); rintro e w' ⟨re, im, n, rfl, h1, h2, rfl⟩; have o1 : FloatKind.f64.format.order re (Op.negFloat .f64 (floatOfInt .f64 q)) = some .eq := (u_mi hp hq h1 h2).1; have o2 : FloatKind.f64.format.order im (floatOfInt .f64 p) = some .eq := (u_mi hp hq h1 h2).2; clear h1 h2))
    go_ret
    refine ⟨rfl, ?_⟩
    repeat first
      | exact below_self _
      | refine below_drewN ?_ _

end Go.Proofs.Ytfdnhofkfodcjab
