/-
  The walk of PartsSizes: it hands back true and only lays new memory.
-/
import Derived.Test.YtfdnhofkfodcjaaSz
import Derived.Test.YtfdnhofkfodcjaaWAlone
import Derived.Test.YtfdnhofkfodcjaaCl
namespace Go.Proofs.Ytfdnhofkfodcjaa
open Fl RowKit

theorem abs_to {A B U V : Option Nat} {u v : Nat} (w : World) (hu : rep U u) (hv : rep V v) (e : absA U V = absA A B) :
    Calls Try.prog 51 #[.complex .f64 u v] w fun e w' => ∃ r n, e = .returned (.float .f64 r) ∧ rep (absA A B) r ∧ w' = w.drewN n := by
  have h := abs_any w hu hv
  rw [e] at h
  exact h
theorem size1_to {A B U V : Option Nat} {u v : Nat} (w : World) (hu : rep U u) (hv : rep V v) (e : addA (sizA U) (sizA V) = addA (sizA A) (sizA B)) :
    Calls Try.prog 47 #[.complex .f64 u v] w fun e w' => ∃ r n, e = .returned (.float .f64 r) ∧ rep (addA (sizA A) (sizA B)) r ∧ w' = w.drewN n := by
  have h := size1_any w hu hv
  rw [e] at h
  exact h
theorem three {A B : Option Nat} {a b na1 na2 ic : Nat} (ha : rep A a) (hb : rep B b) (h1 : rep (negA A) na1) (h2 : rep (negA B) na2) (h3 : rep (negA B) ic) (k : Nat) (hk : k < 3) :
    ∃ U V, rep U ([(na1, na2), (a, ic), (b, a)].getD k (0, 0)).1 ∧ rep V ([(na1, na2), (a, ic), (b, a)].getD k (0, 0)).2 ∧ absA U V = absA A B ∧ addA (sizA U) (sizA V) = addA (sizA A) (sizA B) := by
  match k, hk with
  | 0, _ => exact ⟨_, _, h1, h2, by rw [absA_conj' ha.bd (bd_negA hb.bd), absA_conj hb.bd], by rw [sizA_ng ha.bd, sizA_ng hb.bd]⟩
  | 1, _ => exact ⟨_, _, ha, h3, absA_conj hb.bd, by rw [sizA_ng hb.bd]⟩
  | 2, _ => exact ⟨_, _, hb, ha, absA_swap ha.bd hb.bd, addA_comm _ _⟩
set_option maxRecDepth 100000 in
set_option maxHeartbeats 8000000 in
theorem sizes_walk (x1 x2 : Nat) (w : World) (hx1 : x1 < 18446744073709551616) (hx2 : x2 < 18446744073709551616) :
    Calls Try.prog 8 #[.agg #[.int .u64 (x1 : Int), .int .u64 (x2 : Int)]] w fun e w' => e = .returned (.bool true) ∧ Below w.heap.size w w' := by
  have ra := rep_ans hx1
  have rb := rep_ans hx2
  cases hf : (finB x1 && finB x2)
  · go_enter Try.func8, Try.ntmps8
    go_wp2_with (first
      | (go_at_call 18; refine (number_any _ _ _).mono ?_; rintro e w' ⟨rfl, rfl⟩)
      | (go_at_call 38; refine (neg_any _ ra rb).mono ?_; rintro e w' ⟨na1, na2, rfl, hn1, hn2, rfl⟩)
      | (go_at_call 40; refine (conj_any _ ra rb).mono ?_; rintro e w' ⟨ic, rfl, hic, rfl⟩))
    have hthree := three ra rb hn1 hn2 hic
    go_loopw [5] (fun i wr => ∃ k : Nat, k ≤ 3 ∧ i = .int .i64 k ∧ Cd wr (w.heap.size + 1 + 1) [(na1, na2), (x1, ic), (x2, x1)] ∧ Below w.heap.size w wr ∧ w.heap.size + 1 + 1 < wr.heap.size) (fun i _ => 3 - (intOf i).toNat)
    case atStart =>
      refine ⟨0, by omega, rfl, ?_, ?_, by simp⟩
      · intro k hk
        have hk3 : k < 3 := hk
        have hc := cell_new ((w.alloc (.cells #[.int .u64 (x1 : Int), .int .u64 (x2 : Int)] 38)).alloc (.cells #[.int .u64 (x1 : Int), .int .u64 (x2 : Int)] 38)) #[.complex .f64 na1 na2, .complex .f64 x1 ic, .complex .f64 x2 x1] 39 k (.complex .f64 ([(na1, na2), (x1, ic), (x2, x1)].getD k (0, 0)).1 ([(na1, na2), (x1, ic), (x2, x1)].getD k (0, 0)).2) (by
          match k, hk3 with
          | 0, _ => rfl
          | 1, _ => rfl
          | 2, _ => rfl)
        simpa using hc
      · exact (below_alloc (below_alloc (below_alloc (below_self _) (by simp) _) (by simp) _) (by simp <;> omega) _).drew
    case round =>
      obtain ⟨k, hk, rfl, hcd, hbel, hsz⟩ := hrel
      have HB : Hid (Below w.heap.size w wr) := hbel
      have HC : Hid (Cd wr (w.heap.size + 1 + 1) [(na1, na2), (x1, ic), (x2, x1)]) := hcd
      have HS : Hid (w.heap.size + 1 + 1 < wr.heap.size) := hsz
      by_cases hlt : k < 3
      · have hcx := hcd k hlt
        obtain ⟨U, V, hu, hv, ea, es⟩ := hthree k hlt
        obtain ⟨u, v, huv⟩ : ∃ u v, (u, v) = [(na1, na2), (x1, ic), (x2, x1)].getD k (0, 0) := ⟨_, _, rfl⟩
        rw [← huv] at hcx hu hv
        have HE : Hid (absA U V = absA (ans x1) (ans x2)) := ea
        have HF : Hid (addA (sizA U) (sizA V) = addA (sizA (ans x1)) (sizA (ans x2))) := es
        clear huv hcd hbel hsz ea es hthree
        go_wp2_with (first
          | (go_at_call 51; with_reducible refine (abs_any _ ra rb).mono ?_; rintro e w' ⟨r, n, rfl, h1, rfl⟩)
          | (go_at_call 51; with_reducible refine (abs_to _ hu hv HE.out).mono ?_; rintro e w' ⟨r, n, rfl, h1, rfl⟩)
          | (go_at_call 47; with_reducible refine (size1_any _ ra rb).mono ?_; rintro e w' ⟨r, n, rfl, h1, rfl⟩)
          | (go_at_call 47; with_reducible refine (size1_to _ hu hv HF.out).mono ?_; rintro e w' ⟨r, n, rfl, h1, rfl⟩)
          | (go_at_call 46; refine (rsameR_true _ (by assumption) (by assumption)).mono ?_; rintro e w' ⟨rfl, rfl⟩))
        go_roundw
        case rel => exact ⟨k + 1, by omega, by go_num, fun j hj => HC.out j hj, below_drewN HB.out _, by simpa using HS.out⟩
        case measure => simp [intOf]; omega
      · clear hcd hbel hsz hthree
        go_wp2_with (first
          | (go_at_call 53; refine (sqrt_any _ ra rb).mono ?_; rintro e w' ⟨s1, s2, n, rfl, hs1, hs2, rfl⟩; have hnb := not_below hs1 (sqRe_pos ra.bd))
          | (go_at_call 32; refine (lives_any _).mono ?_; rintro e w' ⟨n, rfl, rfl⟩)
          | (go_at_call 60; refine (absf_any _ _ (by assumption)).mono ?_; rintro e w' ⟨rfl, rfl⟩)
          | (go_at_call 23; refine (fin_any _ _ _ hx1 hx2).mono ?_; rw [hf]; rintro e w' ⟨rfl, rfl⟩))
        go_ret
        refine ⟨rfl, ?_⟩
        repeat first
          | exact HB.out
          | refine below_drewN ?_ _
  · have f1 : fin x1 := by rw [Bool.and_eq_true] at hf; have := hf.1; unfold finB at this; simpa [fin] using this
    have f2 : fin x2 := by rw [Bool.and_eq_true] at hf; have := hf.2; unfold finB at this; simpa [fin] using this
    obtain ⟨A, Z, hA, hZ, a1, a2, az, la, lz⟩ := abs_bounds f1 f2
    have HA : Hid (absA (ans x1) (ans x2) = some A) := hA
    have HZ : Hid (addA (sizA (ans x1)) (sizA (ans x2)) = some Z) := hZ
    have hmx := fun W => (mx_fin f1 f2 W).1
    have hmn := (mx_fin f1 f2 w).2
    have lg : max (mg x1) (mg x2) ≤ 9218868437227405312 := by unfold fin at f1 f2; omega
    have og := order_ge la lg (by omega)
    have oz := order_le la lz az
    generalize max (mg x1) (mg x2) = G at *
    clear hA hZ a1 a2 az la lz lg f1 f2
    rcases og with og | og
    all_goals
      rcases oz with oz | oz
      all_goals
        go_enter Try.func8, Try.ntmps8
        go_wp2_with (first
          | (go_at_call 18; refine (number_any _ _ _).mono ?_; rintro e w' ⟨rfl, rfl⟩)
          | (go_at_call 38; refine (neg_any _ ra rb).mono ?_; rintro e w' ⟨na1, na2, rfl, hn1, hn2, rfl⟩)
          | (go_at_call 40; refine (conj_any _ ra rb).mono ?_; rintro e w' ⟨ic, rfl, hic, rfl⟩))
        have hthree := three ra rb hn1 hn2 hic
        go_loopw [5] (fun i wr => ∃ k : Nat, k ≤ 3 ∧ i = .int .i64 k ∧ Cd wr (w.heap.size + 1 + 1) [(na1, na2), (x1, ic), (x2, x1)] ∧ Below w.heap.size w wr ∧ w.heap.size + 1 + 1 < wr.heap.size) (fun i _ => 3 - (intOf i).toNat)
        case atStart =>
          refine ⟨0, by omega, rfl, ?_, ?_, by simp⟩
          · intro k hk
            have hk3 : k < 3 := hk
            have hc := cell_new ((w.alloc (.cells #[.int .u64 (x1 : Int), .int .u64 (x2 : Int)] 38)).alloc (.cells #[.int .u64 (x1 : Int), .int .u64 (x2 : Int)] 38)) #[.complex .f64 na1 na2, .complex .f64 x1 ic, .complex .f64 x2 x1] 39 k (.complex .f64 ([(na1, na2), (x1, ic), (x2, x1)].getD k (0, 0)).1 ([(na1, na2), (x1, ic), (x2, x1)].getD k (0, 0)).2) (by
              match k, hk3 with
              | 0, _ => rfl
              | 1, _ => rfl
              | 2, _ => rfl)
            simpa using hc
          · exact (below_alloc (below_alloc (below_alloc (below_self _) (by simp) _) (by simp) _) (by simp <;> omega) _).drew
        case round =>
          obtain ⟨k, hk, rfl, hcd, hbel, hsz⟩ := hrel
          have HB : Hid (Below w.heap.size w wr) := hbel
          have HC : Hid (Cd wr (w.heap.size + 1 + 1) [(na1, na2), (x1, ic), (x2, x1)]) := hcd
          have HS : Hid (w.heap.size + 1 + 1 < wr.heap.size) := hsz
          by_cases hlt : k < 3
          · have hcx := hcd k hlt
            obtain ⟨U, V, hu, hv, ea, es⟩ := hthree k hlt
            obtain ⟨u, v, huv⟩ : ∃ u v, (u, v) = [(na1, na2), (x1, ic), (x2, x1)].getD k (0, 0) := ⟨_, _, rfl⟩
            rw [← huv] at hcx hu hv
            have HE : Hid (absA U V = absA (ans x1) (ans x2)) := ea
            have HF : Hid (addA (sizA U) (sizA V) = addA (sizA (ans x1)) (sizA (ans x2))) := es
            clear huv hcd hbel hsz ea es hthree
            go_wp2_with (first
              | (go_at_call 51; with_reducible refine (abs_any _ ra rb).mono ?_; rintro e w' ⟨r, n, rfl, h1, rfl⟩)
              | (go_at_call 51; with_reducible refine (abs_to _ hu hv HE.out).mono ?_; rintro e w' ⟨r, n, rfl, h1, rfl⟩)
              | (go_at_call 47; with_reducible refine (size1_any _ ra rb).mono ?_; rintro e w' ⟨r, n, rfl, h1, rfl⟩)
              | (go_at_call 47; with_reducible refine (size1_to _ hu hv HF.out).mono ?_; rintro e w' ⟨r, n, rfl, h1, rfl⟩)
              | (go_at_call 46; refine (rsameR_true _ (by assumption) (by assumption)).mono ?_; rintro e w' ⟨rfl, rfl⟩))
            go_roundw
            case rel => exact ⟨k + 1, by omega, by go_num, fun j hj => HC.out j hj, below_drewN HB.out _, by simpa using HS.out⟩
            case measure => simp [intOf]; omega
          · clear hcd hbel hsz hthree
            go_wp2_with (first
              | (go_at_call 53; refine (sqrt_any _ ra rb).mono ?_; rintro e w' ⟨s1, s2, n, rfl, hs1, hs2, rfl⟩; have hnb := not_below hs1 (sqRe_pos ra.bd))
              | (go_at_call 32; refine (lives_any _).mono ?_; rintro e w' ⟨n, rfl, rfl⟩)
              | (go_at_call 60; refine (absf_any _ _ (by assumption)).mono ?_; rintro e w' ⟨rfl, rfl⟩)
              | (go_at_call 23; refine (fin_any _ _ _ hx1 hx2).mono ?_; rw [hf]; rintro e w' ⟨rfl, rfl⟩)
              | (go_at_call 51; refine (abs_any _ ra rb).mono ?_; rintro e w' ⟨r, n, rfl, h1, rfl⟩; obtain rfl := rep_is h1 HA.out; clear h1)
              | (go_at_call 47; refine (size1_any _ ra rb).mono ?_; rintro e w' ⟨r, n, rfl, h1, rfl⟩; obtain rfl := rep_is h1 HZ.out; clear h1))
            go_ret
            refine ⟨rfl, ?_⟩
            repeat first
              | exact HB.out
              | refine below_drewN ?_ _

end Go.Proofs.Ytfdnhofkfodcjaa
