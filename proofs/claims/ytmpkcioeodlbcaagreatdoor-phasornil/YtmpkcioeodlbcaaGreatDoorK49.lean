/-
  Several texts in one: Lmd Slg.
-/
import Derived.Test.YtmpkcioeodlbcaaGreatDoorK48
import Derived.Test.YtmpkcioeodlbcaaGreatDoorK46
import Derived.Test.YtmpkcioeodlbcaaGreatDoorK34
import Derived.Test.YtmpkcioeodlbcaaGreatDoorK45
import Derived.Test.YtmpkcioeodlbcaaGreatDoorK32
import Derived.Deep.AppendLies
import Derived.Deep.RegionHeldLaw
import Derived.Test.YtmpkcioeodlbcaaGreatDoorK47
namespace Go.Proofs.YtmpkcioeodlbcaaGreatDoor
open Fl RowKit
theorem div_lt' {k n : Nat} (h : k < n * n) : k / n < n ∧ k % n < n := by
  have hn : 0 < n := by
    rcases Nat.eq_zero_or_pos n with h0 | h0
    · subst h0; omega
    · exact h0
  exact ⟨Nat.div_lt_of_lt_mul h, Nat.mod_lt _ hn⟩
end Go.Proofs.YtmpkcioeodlbcaaGreatDoor
namespace Go.Proofs.YtmpkcioeodlbcaaGreatDoor
open Fl RowKit
theorem flL_ok {n : Nat} {M : Nat → Nat → Cw} (h : okM n M) : ∀ k, k < n * n → okz (flw n (lE M) k) := by
  intro k hk
  obtain ⟨h1, h2⟩ := div_lt' hk
  unfold flw lE lF
  split
  · exact h _ _ h1 h2
  · split <;> exact ⟨by decide, by decide⟩
theorem flU_ok {n : Nat} {M : Nat → Nat → Cw} (h : okM n M) : ∀ k, k < n * n → okz (flw n (uE M) k) := by
  intro k hk
  obtain ⟨h1, h2⟩ := div_lt' hk
  unfold flw uE uF
  split
  · exact ⟨by decide, by decide⟩
  · exact h _ _ h1 h2
/-- the numbers of L and of U -/
def mzL (M : Nat → Nat → Cw) (i j : Nat) : Cn := anz (lE M i j)
def mzU (M : Nat → Nat → Cw) (i j : Nat) : Cn := anz (uE M i j)
theorem mz_l {n : Nat} {M : Nat → Nat → Cw} {i j : Nat} (hj : j < n) : mz n (flw n (lE M)) i j = mzL M i j := by unfold mz mzL; rw [flw_at hj]
theorem mz_u {n : Nat} {M : Nat → Nat → Cw} {i j : Nat} (hj : j < n) : mz n (flw n (uE M)) i j = mzU M i j := by unfold mz mzU; rw [flw_at hj]
theorem fwS_congr {n : Nat} {m m' : Nat → Nat → Cn} (L : Cn → Cn → Cn) (f : Nat → Cn) (h : ∀ i j, i < n → j < n → m i j = m' i j) : ∀ k, k ≤ n → fwS m L f k = fwS m' L f k := by
  intro k
  induction k with
  | zero => intro _; rfl
  | succ k ih =>
    intro hk
    show stF m L k (fwS m L f k) = stF m' L k (fwS m' L f k)
    rw [ih (by omega)]
    unfold stF
    rw [redS_congr (E' := m' k) (fun j hj => h k j (by omega) (by omega)) (fun _ _ => rfl), h k k (by omega) (by omega)]
theorem bwS_congr {n : Nat} {m m' : Nat → Nat → Cn} (L : Cn → Cn → Cn) (f : Nat → Cn) (h : ∀ i j, i < n → j < n → m i j = m' i j) : ∀ t, t ≤ n → bwS n m L f t = bwS n m' L f t := by
  intro t
  induction t with
  | zero => intro _; rfl
  | succ t ih =>
    intro ht
    show stB n m L (n - 1 - t) (bwS n m L f t) = stB n m' L (n - 1 - t) (bwS n m' L f t)
    rw [ih (by omega)]
    unfold stB
    rw [redS_congr (E' := fun k => m' (n - 1 - t) (n - 1 - t + 1 + k)) (fun j hj => h _ _ (by omega) (by omega)) (fun _ _ => rfl), h _ _ (by omega) (by omega)]
/-- what Solve tells -/
def solX (n : Nat) (M : Nat → Nat → Cw) (o : Nat → Nat) (xs : List Cw) : Nat → Cn := slS n (mzL M) (mzU M) (fun i => anz (zat xs (o i)))
def solK (n : Nat) (M : Nat → Nat → Cw) (o : Nat → Nat) (xs : List Cw) : Bool := okS n (mzL M) (mzU M) (fun i => anz (zat xs (o i)))
theorem sol_eq (n : Nat) (M : Nat → Nat → Cw) (c : Nat → Cn) : slS n (mz n (flw n (lE M))) (mz n (flw n (uE M))) c = slS n (mzL M) (mzU M) c ∧ okS n (mz n (flw n (lE M))) (mz n (flw n (uE M))) c = okS n (mzL M) (mzU M) c := by
  have e1 : frw n (mz n (flw n (lE M))) c = frw n (mzL M) c := fwS_congr _ _ (fun i j _ hj => mz_l hj) n (Nat.le_refl _)
  have e2 : slS n (mz n (flw n (lE M))) (mz n (flw n (uE M))) c = slS n (mzL M) (mzU M) c := by
    unfold slS bck
    rw [e1]
    exact bwS_congr _ _ (fun i j _ hj => mz_u hj) n (Nat.le_refl _)
  refine ⟨e2, ?_⟩
  unfold okS
  rw [e1, e2]
theorem Got.base {w0 w w' : World} {n : Nat} {ok : Bool} {x : Nat → Cn} {v : Value} {E : Int} (h : Got w w' n ok x v E) (hb : w0.heap.size ≤ w.heap.size) : Got w0 w' n ok x v E := by
  rcases h with ⟨h1, h2, g, y, h3, h4, h5⟩ | h
  · exact .inl ⟨h1, h2, g, y, h3, h4, h5.len, own_base h5.own hb⟩
  · exact .inr h
section solve
variable {w : World} {v : Value} {n : Nat} {M : Nat → Nat → Cw} {o : Nat → Nat} {s : Int} (h : Lhd w v n M o s) {ao : Option Addr} {l cap : Nat} {xs : List Cw} (hl : xs.length = l) (hsz : l ≤ 1000000000000000) (hn : n ≤ 64) (hc : Rc w ao xs) (hx : okl xs)
include h hl hsz hn hc hx
set_option maxHeartbeats 1000000 in
theorem solve_ok (hE : rfS n s l xs = 0) (hM : okM n M) (ho : ∀ i, i < n → o i < n) : Calls Tryz.prog 103 #[v, .slice ao l cap] w fun e w' => ∃ u E, e = .returned (.tuple #[u, .int .i64 E]) ∧ Got w w' n (solK n M o xs) (solX n M o xs) u E ∧ Below w.heap.size w w' := by
  have HR := hid_o (refused_any' h ao l cap xs hl hsz hn hc hx)
  have hln : l = n := by
    unfold rfS at hE
    by_cases h0 : s = 0
    · rw [if_pos h0] at hE; exact absurd hE (by decide)
    · rw [if_neg h0] at hE
      by_cases h1 : l = n
      · exact h1
      · rw [if_pos h1] at hE; exact absurd hE (by decide)
  subst hln
  rw [hE] at HR
  have HH := hid_o h
  have HC : Hid (Rc w ao (ro l (zat xs))) := by rw [← ro_of hl]; exact hc
  have HX : Hid (∀ k, k < l → okz (zat xs k)) := fun k _ => hx k
  have HM := hid_o hM
  have HO := hid_o ho
  have HS := hid_o (sol_eq l M (fun i => anz (zat xs (o i))))
  clear h hl hc hx hE hM ho
  go_enter Tryz.func103, Tryz.ntmps103
  go_wp2_with (first
    | (go_at_call 140; (with_reducible refine HR.out.mono ?_); rintro e w1 ⟨rfl, hb⟩; have HB := hid_o hb; clear hb)
    | (go_at_call 142; (with_reducible refine (lh_order (HH.out.below HB.out) hn).mono ?_); rintro e w2 ⟨g2, rfl, h2, hb⟩; have HB2 := hid_o (HB.out.trans (hb.mono HB.out.size)); have HQ := hid_o h2.qi; clear hb h2)
    | (go_at_call 143; (with_reducible refine (lh_l (HH.out.below HB2.out) hn).mono ?_); rintro e w3 ⟨g3, rfl, h3, hb⟩; have HQ3 := hid_o (HQ.out.below hb); have HB3 := hid_o (HB2.out.trans (hb.mono HB2.out.size)); have HL := hid_o h3.rc; clear hb h3 HQ)
    | (go_at_call 144; (with_reducible refine (lh_u (HH.out.below HB3.out) hn).mono ?_); rintro e w4 ⟨g4, rfl, h4, hb⟩; have HQ4 := hid_o (HQ3.out.below hb); have HL4 := hid_o (HL.out.below hb); have HB4 := hid_o (HB3.out.trans (hb.mono HB3.out.size)); have HU := hid_o h4.rc; clear hb h4 HQ3 HL)
    | (go_at_call 141; (with_reducible refine (unknowns_any hn HO.out HQ4.out HL4.out (flL_ok HM.out) HU.out (flU_ok HM.out) (HC.out.below HB4.out) HX.out).mono ?_); rintro e w5 ⟨u, E, rfl, hG, hb⟩; have HG := hid_o hG; have HB5 := hid_o (HB4.out.trans (hb.mono HB4.out.size)); clear hb hG))
  go_ret2
  refine ⟨u, E, rfl, ?_, HB5.out⟩
  have hg := HG.out.base HB4.out.size
  rw [HS.out.1, HS.out.2] at hg
  exact hg
end solve
end Go.Proofs.YtmpkcioeodlbcaaGreatDoor
