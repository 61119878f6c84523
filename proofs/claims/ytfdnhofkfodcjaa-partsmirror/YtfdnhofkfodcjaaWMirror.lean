/-
  The walk of PartsMirror: it hands back true and only lays new memory.
-/
import Derived.Test.YtfdnhofkfodcjaaWReckon
import Derived.Test.YtfdnhofkfodcjaaCl
import Derived.Test.YtfdnhofkfodcjaaMr
namespace Go.Proofs.Ytfdnhofkfodcjaa
open Fl RowKit

section arms
variable {A B C D : Option Nat} {a b c d : Nat} (w : World) (ha : rep A a) (hb : rep B b) (hc : rep C c) (hd : rep D d)
include ha hb
theorem conj_back (hib : rep (negA B) d) : Calls Try.prog 40 #[.complex .f64 a d] w fun e w' => ∃ im, e = .returned (.complex .f64 a im) ∧ rep B im ∧ w' = w := by
  have h := conj_any w ha hib
  rw [negA_negA hb.bd] at h
  exact h
theorem sqrt_conj (hib : rep (negA B) d) : Calls Try.prog 53 #[.complex .f64 a d] w fun e w' => ∃ re im n, e = .returned (.complex .f64 re im) ∧ rep (sqRe A B) re ∧ rep (negA (sqIm A B)) im ∧ w' = w.drewN n := by
  have h := sqrt_any w ha hib
  rw [sqRe_conj hb.bd, sqIm_conj hb.bd] at h
  exact h
theorem neg_back {e f : Nat} (h1 : rep (negA A) e) (h2 : rep (negA B) f) : Calls Try.prog 38 #[.complex .f64 e f] w fun e w' => ∃ re im, e = .returned (.complex .f64 re im) ∧ rep A re ∧ rep B im ∧ w' = w := by
  have h := neg_any w h1 h2
  rw [negA_negA ha.bd, negA_negA hb.bd] at h
  exact h
include hc hd
theorem add_back : Calls Try.prog 28 #[.complex .f64 c d, .complex .f64 a b] w fun e w' => ∃ re im n, e = .returned (.complex .f64 re im) ∧ rep (addA A C) re ∧ rep (addA B D) im ∧ w' = w.drewN n := by
  have h := add_any w hc hd ha hb
  rw [addA_comm C A, addA_comm D B] at h
  exact h
theorem mul_back : Calls Try.prog 33 #[.complex .f64 c d, .complex .f64 a b] w fun e w' => ∃ re im n, e = .returned (.complex .f64 re im) ∧ rep (mulRe A B C D) re ∧ rep (mulIm A B C D) im ∧ w' = w.drewN n := by
  have h := mul_any w hc hd ha hb
  rw [mulRe_comm, mulIm_comm] at h
  exact h
theorem add_neg {e f : Nat} (h1 : rep (negA C) e) (h2 : rep (negA D) f) : Calls Try.prog 28 #[.complex .f64 a b, .complex .f64 e f] w fun e w' => ∃ re im n, e = .returned (.complex .f64 re im) ∧ rep (subA A C) re ∧ rep (subA B D) im ∧ w' = w.drewN n := by
  have h := add_any w ha hb h1 h2
  rw [← subA_add A hc.bd, ← subA_add B hd.bd] at h
  exact h
end arms
theorem equal_true {A B A' B' : Option Nat} {a b c d : Nat} (w : World) (h1 : rep A a) (h2 : rep B b) (h3 : rep A' c) (h4 : rep B' d) (e1 : eqz A A') (e2 : eqz B B') (n1 : nan c = false) (n2 : nan d = false) :
    Calls Try.prog 21 #[.complex .f64 a b, .complex .f64 c d] w fun e w' => e = .returned (.bool true) ∧ w' = w := by
  have h := equal_any a b c d w
  rw [e1.order' h1 h3 n1, e2.order' h2 h4 n2] at h
  exact h
theorem nan_neg {B : Option Nat} {b d : Nat} (h1 : rep B b) (h2 : rep (negA B) d) (hn : nan b = false) : nan d = false := by
  have := (same_of (rep_ng h1) h2).1
  rw [nan_ngW h1.1, hn] at this
  exact this.symm
theorem equal_one {x y re im : Nat} (w : World) (lx : x < 18446744073709551616) (ly : y < 18446744073709551616) (hf : (finB x && finB y) = true)
    (h1 : rep (mulRe (ans x) (ans y) (some 4607182418800017408) (some 0)) re) (h2 : rep (mulIm (ans x) (ans y) (some 4607182418800017408) (some 0)) im) :
    Calls Try.prog 21 #[.complex .f64 re im, .complex .f64 x y] w fun e w' => e = .returned (.bool true) ∧ w' = w := by
  have h := equal_any re im x y w
  rw [Bool.and_eq_true] at hf
  have f1 : fin x := by have := hf.1; unfold finB at this; simpa [fin] using this
  have f2 : fin y := by have := hf.2; unfold finB at this; simpa [fin] using this
  obtain ⟨k1, k2⟩ := times_one f1 f2 lx ly h1 h2
  rw [k1, k2] at h
  exact h

theorem fin_opaque {x y : Nat} (w : World) (lx : x < 18446744073709551616) (ly : y < 18446744073709551616) :
    Calls Try.prog 23 #[.complex .f64 x y] w fun e w' => ∃ t : Bool, e = .returned (.bool t) ∧ (t = true → (finB x && finB y) = true) ∧ w' = w := by
  refine (fin_any x y w lx ly).mono ?_
  rintro e w' ⟨rfl, rfl⟩
  exact ⟨_, rfl, fun h => h, rfl⟩

set_option maxRecDepth 100000 in
set_option maxHeartbeats 8000000 in
theorem mirror_walk (x1 x2 y1 y2 : Nat) (w : World) (hx1 : x1 < 18446744073709551616) (hx2 : x2 < 18446744073709551616) (hy1 : y1 < 18446744073709551616) (hy2 : y2 < 18446744073709551616) :
    Calls Try.prog 7 #[.agg #[.int .u64 (x1 : Int), .int .u64 (x2 : Int)], .agg #[.int .u64 (y1 : Int), .int .u64 (y2 : Int)]] w fun e w' => e = .returned (.bool true) ∧ Below w.heap.size w w' := by
  have ra := rep_ans hx1
  have rb := rep_ans hx2
  have rc := rep_ans hy1
  have rd := rep_ans hy2
  go_enter Try.func7, Try.ntmps7
  go_wp2_with fail
  go_region_with (go_at_call 18; refine (number_any _ _ _).mono ?_; rintro e w' ⟨rfl, rfl⟩)
  all_goals
      go_wp2_with (first
        | (go_at_call 40; with_reducible refine (conj_any _ ra rb).mono ?_; rintro e w' ⟨ic, rfl, hic, rfl⟩)
        | (go_at_call 40; with_reducible refine (conj_any _ rc rd).mono ?_; rintro e w' ⟨jc, rfl, hjc, rfl⟩)
        | (go_at_call 40; with_reducible refine (conj_back _ ra rb hic).mono ?_; rintro e w' ⟨im, rfl, h1, rfl⟩)
        | (go_at_call 40; with_reducible refine (conj_any _ hs1 hs2).mono ?_; rintro e w' ⟨im, rfl, h1, rfl⟩)
        | (go_at_call 40; with_reducible refine (conj_any _ hp1 hp2).mono ?_; rintro e w' ⟨pc, rfl, hpc, rfl⟩)
        | (go_at_call 40; with_reducible refine (conj_any _ hq1 hq2).mono ?_; rintro e w' ⟨qc, rfl, hqc, rfl⟩)
        | (go_at_call 40; with_reducible refine (conj_any _ hr1 hr2).mono ?_; rintro e w' ⟨rc', rfl, hrc, rfl⟩)
        | (go_at_call 32; refine (lives_any _).mono ?_; rintro e w' ⟨n, rfl, rfl⟩)
        | (go_at_call 27; refine (lsame_true _ (by assumption) (by assumption) (by assumption) (by assumption)).mono ?_; rintro e w' ⟨rfl, rfl⟩)
        | (go_at_call 28; with_reducible refine (add_any _ ra rb rc rd).mono ?_; rintro e w' ⟨re, im, n, rfl, h1, h2, rfl⟩)
        | (go_at_call 28; with_reducible refine (add_back _ ra rb rc rd).mono ?_; rintro e w' ⟨re, im, n, rfl, h1, h2, rfl⟩)
        | (go_at_call 28; with_reducible refine (add_neg _ ra rb rc rd hn1 hn2).mono ?_; rintro e w' ⟨re, im, n, rfl, h1, h2, rfl⟩)
        | (go_at_call 30; with_reducible refine (sub_any _ ra rb rc rd).mono ?_; rintro e w' ⟨re, im, n, rfl, h1, h2, rfl⟩)
        | (go_at_call 38; with_reducible refine (neg_any _ rc rd).mono ?_; rintro e w' ⟨nb1, nb2, rfl, hn1, hn2, rfl⟩)
        | (go_at_call 38; with_reducible refine (neg_any _ ra rb).mono ?_; rintro e w' ⟨na1, na2, rfl, hm1, hm2, rfl⟩)
        | (go_at_call 38; with_reducible refine (neg_back _ ra rb hm1 hm2).mono ?_; rintro e w' ⟨re, im, rfl, h1, h2, rfl⟩)
        | (go_at_call 53; with_reducible refine (sqrt_conj _ ra rb hic).mono ?_; rintro e w' ⟨re, im, n, rfl, h1, h2, rfl⟩)
        | (go_at_call 53; with_reducible refine (sqrt_any _ ra rb).mono ?_; rintro e w' ⟨s1, s2, n, rfl, hs1, hs2, rfl⟩)
        | (go_at_call 33; with_reducible refine (mul_any _ ra rb rc rd).mono ?_; rintro e w' ⟨p1, p2, n, rfl, hp1, hp2, rfl⟩)
        | (go_at_call 33; with_reducible refine (mul_back _ ra rb rc rd).mono ?_; rintro e w' ⟨re, im, n, rfl, h1, h2, rfl⟩)
        | (go_at_call 33; with_reducible refine (mul_any _ ra hic rc hjc).mono ?_; rintro e w' ⟨pm1, pm2, n, rfl, hpm1, hpm2, rfl⟩)
        | (go_at_call 33; with_reducible refine (mul_any _ ra rb rep_one rep_0).mono ?_; rintro e w' ⟨o1, o2, n, rfl, ho1, ho2, rfl⟩)
        | (go_at_call 35; with_reducible refine (div_any _ ra rb rc rd).mono ?_; rintro e w' ⟨q1, q2, n, rfl, hq1, hq2, rfl⟩)
        | (go_at_call 35; with_reducible refine (div_any _ ra hic rc hjc).mono ?_; rintro e w' ⟨qm1, qm2, n, rfl, hqm1, hqm2, rfl⟩)
        | (go_at_call 42; with_reducible refine (inv_any _ ra rb).mono ?_; rintro e w' ⟨r1, r2, n, rfl, hr1, hr2, rfl⟩)
        | (go_at_call 42; with_reducible refine (inv_any _ ra hic).mono ?_; rintro e w' ⟨rm1, rm2, n, rfl, hrm1, hrm2, rfl⟩)
        | (go_at_call 59; (with_reducible refine (clean3b _ _ ?_ x1 x2 y1 y2 p1 p2).mono ?_; (· simp)); rintro e w' ⟨t1, n, rfl, ht1, rfl⟩; have HT1 : Hid (t1 = true → nan p1 = false ∧ nan p2 = false) := ht1; clear ht1)
        | (go_at_call 59; (with_reducible refine (clean3b _ _ ?_ x1 x2 y1 y2 q1 q2).mono ?_; (· simp)); rintro e w' ⟨t2, n, rfl, ht2, rfl⟩; have HT2 : Hid (t2 = true → nan q1 = false ∧ nan q2 = false) := ht2; clear ht2)
        | (go_at_call 59; (with_reducible refine (clean2b _ _ ?_ x1 x2 r1 r2).mono ?_; (· simp)); rintro e w' ⟨t3, n, rfl, ht3, rfl⟩; have HT3 : Hid (t3 = true → nan r1 = false ∧ nan r2 = false) := ht3; clear ht3)
        | (go_at_call 21; with_reducible refine (equal_true _ hpm1 hpm2 hp1 hpc (mulRe_conjz rb.bd rd.bd) (mulIm_conj rb.bd rd.bd) (HT1.out (by assumption)).1 (nan_neg hp2 hpc (HT1.out (by assumption)).2)).mono ?_; rintro e w' ⟨rfl, rfl⟩)
        | (go_at_call 21; with_reducible refine (equal_true _ hqm1 hqm2 hq1 hqc (divRe_conj rb.bd rd.bd) (divIm_conj rb.bd rd.bd) (HT2.out (by assumption)).1 (nan_neg hq2 hqc (HT2.out (by assumption)).2)).mono ?_; rintro e w' ⟨rfl, rfl⟩)
        | (go_at_call 21; with_reducible refine (equal_true _ hrm1 hrm2 hr1 hrc (invRe_conj rb.bd) (invIm_conj rb.bd) (HT3.out (by assumption)).1 (nan_neg hr2 hrc (HT3.out (by assumption)).2)).mono ?_; rintro e w' ⟨rfl, rfl⟩)
        | (go_at_call 23; refine (fin_opaque _ hx1 hx2).mono ?_; rintro e w' ⟨t4, rfl, ht4, rfl⟩; have HT4 : Hid (t4 = true → (finB x1 && finB x2) = true) := ht4; clear ht4)
        | (go_at_call 21; with_reducible refine (equal_one _ hx1 hx2 (HT4.out (by assumption)) ho1 ho2).mono ?_; rintro e w' ⟨rfl, rfl⟩))
      all_goals
        go_ret
        refine ⟨rfl, ?_⟩
        repeat first
          | exact below_self _
          | refine below_drewN ?_ _
          | refine Below.drew ?_
          | refine below_alloc ?_ (by simp <;> omega) _

end Go.Proofs.Ytfdnhofkfodcjaa
