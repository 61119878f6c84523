/-
  What solve's home hands back.
-/
import Derived.Test.YtklbgibhbnijaaaSlo
import Derived.Test.YtklbgibhbnijaaaSld
namespace Go.Proofs.Ytklbgibhbnijaaa
open Fl RowKit

theorem run_maxf {P : Program} (x y : Nat) (hx : nan x = false) (hy : nan y = false) (ts : Array TypeId) (t : TypeId) (w : World) : (Builtin.max_ ts t #[.float .f64 (mg x), .float .f64 (mg y)]).run P w = .ok (.float .f64 (max (mg x) (mg y))) w := by
  have ho : FloatKind.f64.format.order (mg x) (mg y) = some (compare ((mg x : Nat) : Int) ((mg y : Nat) : Int)) := by
    rw [f64_double, order_eq, nan_mg, nan_mg, hx, hy, plc_mg, plc_mg]; rfl
  have e : Builtin.max_ ts t #[.float .f64 (mg x), .float .f64 (mg y)] = Builtin.max2 (.float .f64 (mg x)) (.float .f64 (mg y)) := by
    unfold Builtin.max_
    simp
  rw [e]
  unfold Builtin.max2
  simp only [ho]
  rcases Nat.lt_trichotomy (mg x) (mg y) with h | h | h
  · have c : compare ((mg x : Nat) : Int) ((mg y : Nat) : Int) = .lt := Int.compare_eq_lt.2 (by omega)
    rw [c, Nat.max_eq_right (by omega)]
    rfl
  · have c : compare ((mg x : Nat) : Int) ((mg y : Nat) : Int) = .eq := Int.compare_eq_eq.2 (by omega)
    rw [c, h, Nat.max_self]
    simp
  · have c : compare ((mg x : Nat) : Int) ((mg y : Nat) : Int) = .gt := Int.compare_eq_gt.2 (by omega)
    rw [c, Nat.max_eq_left (by omega)]
    rfl
set_option maxHeartbeats 1000000 in
theorem home_any {z : Cw} {w : World} (hz : okz z) (h1 : fin z.1) (h2 : fin z.2) (h0 : 0 < gz z) :
    Calls Try.prog 96 #[.complex .f64 z.1 z.2] w fun e w' => ∃ n, e = .returned (.tuple #[.complex .f64 (hmW z).1 (hmW z).2, .int .i64 (hmP z)]) ∧ w' = w.drewN n := by
  have hg : gz z < 9218868437227405312 := Nat.max_lt.2 ⟨h1, h2⟩
  have hgm : mg (gz z) = gz z := by unfold mg; omega
  have hgf : fin (gz z) := by unfold fin; rw [hgm]; exact hg
  obtain ⟨r1, r2⟩ := nX_rng h0 hg
  have hmx := @run_maxf Try.prog z.1 z.2 (fin_not_nan h1) (fin_not_nan h2)
  have hge : max (mg z.1) (mg z.2) = gz z := rfl
  rw [hge] at hmx
  have FR := hid_o (fun W => frexp_any (gz z) W (by omega) hgf (by rw [hgm]; exact h0))
  rw [hgm] at FR
  have hn := neg_hmP z
  have L1 := hid_o (fun W => ldexp_gen z.1 (-(hmP z)) W hz.1 h1 (by rw [hn]; omega) (by rw [hn]; omega) (fun hm => by rw [hn]; have := nX_mono (m := mg z.1) (m' := gz z) (by omega) (Nat.le_max_left _ _); omega))
  have L2 := hid_o (fun W => ldexp_gen z.2 (-(hmP z)) W hz.2 h2 (by rw [hn]; omega) (by rw [hn]; omega) (fun hm => by rw [hn]; have := nX_mono (m := mg z.2) (m' := gz z) (by omega) (Nat.le_max_right _ _); omega))
  have hP : nX (gz z) - 1022 - 1 = hmP z := by unfold hmP; omega
  have hPr : -1074 ≤ hmP z ∧ hmP z ≤ 1023 := by unfold hmP; omega
  unfold hmW
  simp only
  obtain ⟨G, hG⟩ : ∃ G, G = gz z := ⟨_, rfl⟩
  rw [← hG] at hmx FR hP r1 r2
  obtain ⟨X, hX⟩ : ∃ X, X = nX G := ⟨_, rfl⟩
  rw [← hX] at FR hP r1 r2
  obtain ⟨p, hp⟩ : ∃ p, p = hmP z := ⟨_, rfl⟩
  rw [← hp] at L1 L2 hP hPr ⊢
  have hXp : X = p + 1023 := by omega
  subst hXp
  have a1 := hz.1
  have a2 := hz.2
  obtain ⟨A, hA⟩ : ∃ A, A = ldx z.1 (-p) := ⟨_, rfl⟩
  obtain ⟨B, hB⟩ : ∃ B, B = ldx z.2 (-p) := ⟨_, rfl⟩
  rw [← hA] at L1 ⊢
  rw [← hB] at L2 ⊢
  have FR2 : Hid (∀ (W : World), Calls Try.prog 125 #[.float .f64 G] W fun e w' => ∃ fr n, e = .returned (.tuple #[.float .f64 fr, .int .i64 (p + 1)]) ∧ w' = W.drewN n) := fun W => by
    have := FR.out W
    rw [show p + 1023 - 1022 = p + 1 by omega] at this
    exact this
  clear hA hB hG hX hp hn hgf hgm hg h0 hP FR hge r1 r2
  go_enter Try.func96, Try.ntmps96
  go_wp2_with (first
    | (go_at_call 51; first | ((with_reducible refine (mabs_any z.1 _ a1).mono ?_); rintro e w' ⟨rfl, rfl⟩) | ((with_reducible refine (mabs_any z.2 _ a2).mono ?_); rintro e w' ⟨rfl, rfl⟩))
    | (go_at_call 125; (with_reducible refine (FR2.out _).mono ?_); rintro e w' ⟨fr, n1, rfl, rfl⟩)
    | (go_at_call 26; first | ((with_reducible refine (L1.out _).mono ?_); rintro e w' ⟨n2, rfl, rfl⟩) | ((with_reducible refine (L2.out _).mono ?_); rintro e w' ⟨n3, rfl, rfl⟩)))
  go_ret2
  exact ⟨_, rfl, rfl⟩

end Go.Proofs.Ytklbgibhbnijaaa
