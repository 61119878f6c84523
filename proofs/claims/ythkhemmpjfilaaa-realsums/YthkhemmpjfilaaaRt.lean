/-
  What the law's sums hands back: the errors, in new memory, and true.
-/
import Derived.Test.YthkhemmpjfilaaaRs
namespace Go.Proofs.Ythkhemmpjfilaaa
open Fl RowKit

theorem rep_smB {o : Option Nat} {x y : Nat} (hx : rep o x) (hy : rep o y) : smB x y = true := by
  obtain ⟨_, hx⟩ := hx
  obtain ⟨_, hy⟩ := hy
  cases o with
  | none => unfold smB; rw [ans_none hx, ans_none hy]; rfl
  | some r =>
    obtain ⟨h1, rfl⟩ := ans_some hx
    obtain ⟨h2, rfl⟩ := ans_some hy
    unfold smB; rw [h1]; simp
theorem smB_id (x : Nat) : smB x x = true := by unfold smB; cases nan x <;> simp
/-- the errors of a list, in a row of their own -/
structure Errs (xs : List Nat) (base : Nat) (v : Value) (es : List Nat) (w : World) : Prop where
  len : es.length = xs.length
  err : ∀ j, j < xs.length → rep (errO xs j) (es.getD j 0)
  own : w.ownsRow base 29 1 v xs.length (es.map (Value.float .f64))
theorem sameReals_len (ao bo : Option Addr) (ca cb n : Nat) (es fs : List Nat) (w : World) (hsz : n * 8 ≤ 140737488355328) (h1 : es.length = n) (h2 : fs.length = n) (hc : Rd w ao es) (hd : Rd w bo fs)
    (hs : ∀ k, k < n → smB (es.getD k 0) (fs.getD k 0) = true) :
    Calls Try.prog 16 #[.slice ao n ca, .slice bo n cb] w fun e w' => ∃ m, e = .returned (.bool true) ∧ w' = w.drewN m := by
  subst h1
  exact sameReals_yes ao bo ca cb es fs w hsz h2 hc hd hs
theorem rsame_rep {o : Option Nat} {a b : Nat} (w : World) (ha : rep o a) (hb : rep o b) : Calls Try.prog 63 #[.float .f64 a, .float .f64 b] w fun e w' => e = .returned (.bool true) ∧ w' = w := by
  have h := rsame_any a b w
  rw [rep_smB ha hb] at h
  exact h
theorem rsame_id (a : Nat) (w : World) : Calls Try.prog 63 #[.float .f64 a, .float .f64 a] w fun e w' => e = .returned (.bool true) ∧ w' = w := by
  have h := rsame_any a a w
  rw [smB_id] at h
  exact h
theorem own_at {w w' : World} {base e size n : Nat} {v : Value} {xs : List Value} (h : w.ownsRow base e size v n xs) (hk : ∀ g, v.ownBlock = some g → w'.heap[g]? = w.heap[g]?) : w'.ownsRow base e size v n xs := by
  refine ⟨h.1, ?_⟩
  rcases h.2 with h1 | ⟨g, cap, cur, hv, hb, hg, rest⟩
  · exact .inl h1
  · exact .inr ⟨g, cap, cur, hv, hb, by rw [hk g (by subst hv; rfl)]; exact hg, rest⟩
theorem own_rd' {w : World} {base g cap : Nat} {xs es : List Nat} (hn : es.length = xs.length) (h : w.ownsRow base 29 1 (.slice (some ⟨g, 0, none⟩) xs.length cap) xs.length (es.map (Value.float .f64))) : Rd w (some ⟨g, 0, none⟩) es := by
  rw [← hn] at h
  obtain ⟨ao, c, hv, _, _, hr⟩ := own_rd rfl h
  cases hv
  exact hr
set_option maxHeartbeats 2000000 in
theorem sums_any (ao bo : Option Addr) (ca cb : Nat) (xs : List Nat) (w : World) (hsz : xs.length * 8 ≤ 140737488355328) (hc : Rd w ao xs) (hd : Rd w bo xs) (hx : ∀ k, xs.getD k 0 < 18446744073709551616) :
    Calls Try.prog 11 #[.slice ao xs.length ca, .slice bo xs.length cb] w fun e w' =>
      ∃ es, e = .returned (.tuple #[.slice (some ⟨w.heap.size, 0, none⟩) xs.length xs.length, .bool true]) ∧ Errs xs w.heap.size (.slice (some ⟨w.heap.size, 0, none⟩) xs.length xs.length) es w' ∧ Below w.heap.size w w' := by
  go_enter Try.func11, Try.ntmps11
  go_wp2_with (first
    | (go_at_call 60; refine (sumErr_any ao ca xs _ hsz hc hx).mono ?_; rintro e w1 ⟨s, es, rfl, R1⟩; have B1 := R1.2.2.2.2; have S1 := R1.1; have O1 := R1.2.2.2.1; have L1 := R1.2.1; have E1 : Hid (∀ j, j < xs.length → rep (errO xs j) (es.getD j 0)) := R1.2.2.1; clear R1)
    | (go_at_call 13; refine (rsumErr_any bo cb xs _ hsz (hd.below B1) hx).mono ?_; rintro e w2 ⟨t, fs, v2, rfl, R2⟩; have B2 := R2.bel; have S2 := R2.sum; have L2 := R2.len; have E2 : Hid (∀ j, j < xs.length → rep (errO xs j) (fs.getD j 0)) := R2.err; obtain ⟨b2, c2, hv2, _, _, hr2⟩ := own_rd (by rw [R2.len]) R2.own; rw [L2] at hv2; subst hv2; clear R2)
    | (go_at_call 61; refine (greatest_any ao ca xs _ hsz ((hc.below B1).below B2)).mono ?_; rintro e w3 ⟨rfl, rfl⟩)
    | (go_at_call 62; refine (rgreatest_any bo cb xs _ hsz ((hd.below B1).below B2)).mono ?_; rintro e w4 ⟨n3, rfl, rfl⟩)
    | (go_at_call 63; with_reducible refine (rsame_id _ _).mono ?_; rintro e w5 ⟨rfl, rfl⟩)
    | (go_at_call 63; with_reducible refine (rsame_rep _ S1 S2).mono ?_; rintro e w5 ⟨rfl, rfl⟩)
    | (go_at_call 63; with_reducible refine (rsame_rep _ S3 S4).mono ?_; rintro e w5 ⟨rfl, rfl⟩)
    | (go_at_call 16; refine (sameReals_len _ b2 _ c2 xs.length es fs _ hsz L1 L2 (((own_rd' L1 O1).below B2).drewN n3) (hr2.drewN n3) (fun j hj => rep_smB (E1.out j hj) (E2.out j hj))).mono ?_; rintro e w5 ⟨n5, rfl, rfl⟩)
    | (go_at_call 64; refine (sum_any ao ca xs _ hsz (((hc.below B1).below B2).drewN _) hx).mono ?_; rintro e w5 ⟨u, n6, rfl, S3, rfl⟩)
    | (go_at_call 65; refine (rsum_any bo cb xs _ hsz (((hd.below B1).below B2).drewN _) hx).mono ?_; rintro e w5 ⟨v, n7, rfl, S4, rfl⟩))
  go_ret2
  refine ⟨es, rfl, ⟨L1, E1.out, ?_⟩, ?_⟩
  · refine own_at (w := w1) O1 ?_
    intro g hg
    simp [Value.ownBlock] at hg
    subst hg
    have hlt := (O1.lt w.heap.size (by simp [Value.ownBlock])).2
    exact B2.block _ hlt
  · exact below_drewN (B1.trans (B2.mono B1.size)) _

/-- a mark -/
def mkO (k i : Int) : Option Nat := subO (floatOfInt .f64 (-1000 * k - i)) 4620130267728707584
def mk (k i : Int) : Nat := (mkO k i).getD 0
theorem int_not_nan (n : Int) : nan (floatOfInt .f64 n) = false := nearest_not_nan _ _ _
theorem sub_some {x y : Nat} (hx : nan x = false) (hy : fin y) : ∃ r, subO x y = some r := by
  unfold subO Ieee.Format.sub
  rw [read_fin y hy]
  rcases kinds x with h | h | h
  · rw [read_fin x h]; exact ⟨_, rfl⟩
  · rw [read_inf x h]; exact ⟨_, rfl⟩
  · rw [h] at hx; cases hx
theorem mk_some (k i : Int) : mkO k i = some (mk k i) := by
  obtain ⟨r, h⟩ := sub_some (int_not_nan (-1000 * k - i)) (y := 4620130267728707584) (by unfold Fl.fin; decide)
  have : mkO k i = some r := h
  unfold mk; rw [this]; rfl
theorem mk_lt (k i : Int) : mk k i < 18446744073709551616 := (sub_bd (mk_some k i)).1
theorem mark_any (k i : Int) (w : World) (hk : 0 ≤ k) (hk2 : k ≤ 20) (hi : 0 ≤ i) (hi2 : i ≤ 1000000000000000) :
    Calls Try.prog 59 #[.int .i64 k, .int .i64 i] w fun e w' => e = .returned (.float .f64 (mk k i)) ∧ w' = w := by
  have hv : ∀ W, subV W (floatOfInt .f64 (-1000 * k - i)) 4620130267728707584 = mk k i := fun W => subV_of (mk_some k i) W
  have hn : subO (floatOfInt .f64 (-1000 * k - i)) 4620130267728707584 = some (mk k i) := mk_some k i
  have hz : fN (subO (floatOfInt .f64 (-1000 * k - i)) 4620130267728707584) = 0 := by rw [hn]; rfl
  clear hn
  go_enter Try.func59, Try.ntmps59
  go_wp2
  go_ret
  exact ⟨rfl, rfl⟩

end Go.Proofs.Ythkhemmpjfilaaa
